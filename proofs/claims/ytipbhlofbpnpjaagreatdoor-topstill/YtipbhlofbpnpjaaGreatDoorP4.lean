/-
  Texts laid together: AsAid, Edge, TopFloodM, TurnM, TurnP, GraphM.
-/
import Derived.Test.YtipbhlofbpnpjaaGreatDoorP3
import Derived.Test.YtipbhlofbpnpjaaGreatDoorP1
import Derived.Test.YtipbhlofbpnpjaaGreatDoorP2
import Derived.Deep.LoopGhost
import Derived.Deep.Light
import Derived.Deep.RegionWith
namespace Go.Proofs.YtipbhlofbpnpjaaGreatDoor
section
open Go.RowKit
theorem rto_v {b:Nat}{W H V c r:Int}{bl:Nat->Bool}{d:Nat}(hr:c+(stepY d*W+stepX d)=r)(w:World)(g:RefAt w b W H V bl)(hd:d<8)(c1:-1000<=c)(c2:c<=1000) :
  Calls Tryz.prog 35 #[.pointer (some ⟨b,0,none⟩),.int .i64 c,.int .i64 d] w fun e w'=>e=.returned (.int .i64 r)/\w'=w:=by
 have:=rto_any c d w g hd c1 c2
 rw [show c+stepX d+stepY d*W=r from by omega] at this
 exact this
theorem to_v {b:Nat}{W H V c r:Int}{bl:Nat->Bool}{d:Nat}(hr:c+(stepY d*W+stepX d)=r)(w:World)(g:GridAt w b W H V bl)(s:StepsAt w)(hd:d<8)(c1:-1000<=c)(c2:c<=1000) :
  Calls Tryz.prog 144 #[.pointer (some ⟨b,0,none⟩),.int .i64 c,.int .i64 d] w fun e w'=>e=.returned (.int .i64 r)/\∃ m,w'=w.drewN m:=hr ▸ to_any c d w g s hd c1 c2
end
section
open Go.RowKit
def Edge (W H:Int) (bl:Nat->Bool) (a:Int) (k:Nat) (b:Int):Prop:=k<8/\inB W H a=true/\mayB W H bl (a % W) (a / W) k=true/\b=a+(stepY k*W+stepX k)
theorem Edge.in' {W H a b:Int}{bl:Nat->Bool}{k:Nat}(w1:1<=W)(e:Edge W H bl a k b):inB W H b=true:=by
 rw [e.2.2.2];exact (back_facts w1 e.1 e.2.2.1).1
theorem st_opp (k:Nat):stS (opp k)=stS k/\stD (opp k)=stD k:=by
 have:opp k % 2=k % 2:=by unfold opp;omega
 unfold stS stD
 rw [this]
 exact ⟨rfl,rfl⟩
theorem Edge.back {W H:Int}{bl:Nat->Bool}(w1:1<=W)(a:Int)(k:Nat)(b:Int)(e:Edge W H bl a k b):∃ k',Edge W H bl b k' a/\stS k'=stS k/\stD k'=stD k:=by
 obtain ⟨h1,h2,h3,h4⟩:=e
 obtain ⟨f1,j,hj,hj2⟩:=back_facts w1 h1 h3
 have hm:=mvs_at hj
 rw [hj2,<- h4] at hm
 refine ⟨opp k,⟨opp_lt k,by rw [h4];exact f1,hm.2,?_⟩,st_opp k⟩
 rw [h4];exact (back_home h1).symm
theorem Edge.one {W H a b c:Int}{bl:Nat->Bool}{k j:Nat}(e:Edge W H bl a k b)(f:Edge W H bl a j c)(h:j=k):c=b:=by
 rw [e.2.2.2,f.2.2.2,h]
set_option maxHeartbeats 400000 in
theorem check_out {b:Nat}{W H V:Int}{bl:Nat->Bool}(c:Int)(w:World)(g:GridAt w b W H V bl)(hr:inB W H c=false) :
  Calls Tryz.prog 106 #[.pointer (some ⟨b,0,none⟩),.int .i64 c] w fun e w'=>e=.returned (.iface 39 (.int .i64 1))/\∃ m,w'=w.drewN m:=by
 go_enter Tryz.func106,Tryz.ntmps106
 go_wp2_with (go_at_call 82;refine (free_out c _ g hr).mono ?_;rintro e w' ⟨rfl,m,rfl⟩)
 go_ret
 exact ⟨rfl,_,rfl⟩
set_option maxHeartbeats 400000 in
theorem check_bl {b:Nat}{W H V:Int}{bl:Nat->Bool}(c:Nat)(w:World)(g:GridAt w b W H V bl)(hr:inB W H c=true)(hb:bl c=true) :
  Calls Tryz.prog 106 #[.pointer (some ⟨b,0,none⟩),.int .i64 c] w fun e w'=>e=.returned (.iface 39 (.int .i64 4))/\∃ m,w'=w.drewN m:=by
 have hf:=fun w g=>free_in (b:=b) (W:=W) (H:=H) (V:=V) (bl:=bl) c w g hr
 rw [hb] at hf
 go_enter Tryz.func106,Tryz.ntmps106
 go_wp2_with (go_at_call 82;refine (hf _ g).mono ?_;rintro e w' ⟨rfl,m,rfl⟩)
 go_ret
 exact ⟨rfl,_,rfl⟩
set_option maxHeartbeats 400000 in
theorem check_ok {b:Nat}{W H V:Int}{bl:Nat->Bool}(c:Nat)(w:World)(g:GridAt w b W H V bl)(hr:inB W H c=true)(hb:bl c=false) :
  Calls Tryz.prog 106 #[.pointer (some ⟨b,0,none⟩),.int .i64 c] w fun e w'=>e=.returned .nilIface/\∃ m,w'=w.drewN m:=by
 have hf:=fun w g=>free_in (b:=b) (W:=W) (H:=H) (V:=V) (bl:=bl) c w g hr
 rw [hb] at hf
 go_enter Tryz.func106,Tryz.ntmps106
 go_wp2_with (go_at_call 82;refine (hf _ g).mono ?_;rintro e w' ⟨rfl,m,rfl⟩)
 go_ret
 exact ⟨rfl,_,rfl⟩
end
section
open Go.RowKit
theorem oct_low {W H:Int}{bl:Nat->Bool}{o a s d:Int}(w1:1<=W)(h:Wk (Edge W H bl) o a s d) :
  val (dst (dst (o % W) (a % W)) (dst (o / W) (a / W))) (les (dst (o % W) (a % W)) (dst (o / W) (a / W)))<=val s d:=by
 refine h.ind (R:=fun a s d=>val (dst (dst (o % W) (a % W)) (dst (o / W) (a / W))) (les (dst (o % W) (a % W)) (dst (o / W) (a / W)))<=val s d) ?_ (fun a s d k b _ ih e=>?_)
 ·unfold dst les val
  simp
 ·obtain ⟨h1,h2,h3,h4⟩:=e
  obtain ⟨_,o2,_,_⟩:=may_parts h3
  obtain ⟨a1,a2,a3,a4⟩:=open_in o2
  have e:a+(stepY k*W+stepX k)=(a / W+stepY k)*W+(a % W+stepX k):=by
   have:=cell_eq W a
   rw [Int.add_mul]
   omega
  obtain ⟨p1,p2,p3⟩:=place_to (H:=H) w1 a1 a2 a3 a4
  rw [h4,e,p2,p3]
  clear e p1 p2 p3 a1 a2 a3 a4 o2 h3 h4 h2
  rw [val_add]
  generalize o % W=ox at *
  generalize o / W=oy at *
  generalize a % W=ax at *
  generalize a / W=ay at *
  have hks:k=0\/k=1\/k=2\/k=3\/k=4\/k=5\/k=6\/k=7:=by omega
  have hst:stepX k=0/\stepY k=-1/\stS k=1/\stD k=0\/stepX k=0/\stepY k=1/\stS k=1/\stD k=0\/stepX k=1/\stepY k=0/\stS k=1/\stD k=0\/stepX k=-1/\stepY k=0/\stS k=1/\stD k=0\/(stepX k=1\/stepX k=-1)/\(stepY k=1\/stepY k=-1)/\stS k=0/\stD k=1:=by
   rcases hks with rfl|rfl|rfl|rfl|rfl|rfl|rfl|rfl <;> decide
  refine Int.le_trans ?_ (Int.add_le_add_right ih _)
  clear ih hks h1
  unfold val dst les
  split <;> split <;> split <;> split <;> split <;> split <;> (try split) <;> (try split) <;> omega
theorem Best.sym {W H:Int}{bl:Nat->Bool}{o c:Int}{F G:Int->Option (Int × Int)}(w1:1<=W)(hF:Best (Edge W H bl) o F)(hG:Best (Edge W H bl) c G){s d:Int}(h:F c=some (s,d)):G o=some (s,d):=by
 obtain ⟨s',d',h1,h2⟩:=hG.least ((hF.sound h).back (Edge.back w1))
 obtain ⟨s2,d2,h3,h4⟩:=hF.least ((hG.sound h1).back (Edge.back w1))
 rw [h] at h3
 cases h3
 obtain ⟨a1,a2,a3⟩:=hF.small h
 obtain ⟨b1,b2,b3⟩:=hG.small h1
 have c1:=val_small a1 a2 a3
 have c2:=val_small b1 b2 b3
 obtain ⟨e1,e2⟩:=val_inj s' d' s d (by omega) (by omega) (by omega)
 rw [h1,e1,e2]
theorem wk_free {W H:Int}{bl:Nat->Bool}{o a s d:Int}(ho:bl o.toNat=false)(h:Wk (Edge W H bl) o a s d):bl a.toNat=false:=by
 refine h.ind (R:=fun a _ _=>bl a.toNat=false) ho (fun a s d k b _ _ e=>?_)
 obtain ⟨h1,h2,h3,h4⟩:=e
 obtain ⟨_,o2,_,_⟩:=may_parts h3
 have e:a+(stepY k*W+stepX k)=(a / W+stepY k)*W+(a % W+stepX k):=by
  have:=cell_eq W a
  rw [Int.add_mul]
  omega
 rw [h4,e]
 unfold openB at o2
 rw [Bool.and_eq_true] at o2
 simpa using o2.2
theorem wrap_small {x:Int}(h0:0<=x)(h:x<=1000):IntKind.i64.wrap x=x:=by unfold IntKind.wrap;simp [IntKind.bits,IntKind.signed];omega
end
section
open Go.RowKit
def Corn (W H:Int) (bl:Nat->Bool) (x y:Int):Prop :=
 openB W H bl x y=true/\∃ k,k<8/\k % 2=1/\openB W H bl (x+stepX k) (y+stepY k)=false/\openB W H bl (x+stepX k) y=true/\openB W H bl x (y+stepY k)=true
theorem sx0:stepX 0=0:=rfl
theorem sx1:stepX 1=1:=rfl
theorem sx2:stepX 2=1:=rfl
theorem sx3:stepX 3=1:=rfl
theorem sx4:stepX 4=0:=rfl
theorem sx5:stepX 5=-1:=rfl
theorem sx6:stepX 6=-1:=rfl
theorem sx7:stepX 7=-1:=rfl
theorem sy0:stepY 0=-1:=rfl
theorem sy1:stepY 1=-1:=rfl
theorem sy2:stepY 2=0:=rfl
theorem sy3:stepY 3=1:=rfl
theorem sy4:stepY 4=1:=rfl
theorem sy5:stepY 5=1:=rfl
theorem sy6:stepY 6=0:=rfl
theorem sy7:stepY 7=-1:=rfl
theorem k8 {d:Nat}(h:d<8):d=0\/d=1\/d=2\/d=3\/d=4\/d=5\/d=6\/d=7:=by omega
theorem turn3 {W H x y:Int}{bl:Nat->Bool}{d e:Nat}(hd:d<8)(he:e=(d+3) % 8\/e=(d+5) % 8)(h1:mayB W H bl x y d=true)(h2:mayB W H bl (x+stepX d) (y+stepY d) e=true) :
  ∃ k,k<8/\k % 2=0/\mayB W H bl x y k=true/\stepX k=stepX d+stepX e/\stepY k=stepY d+stepY e:=by
 unfold mayB at *
 generalize openB W H bl=O at *
 rcases he with rfl|rfl
 ·refine ⟨if d % 2=0 then (d+2) % 8 else (d+1) % 8,?_⟩
  rcases k8 hd with rfl|rfl|rfl|rfl|rfl|rfl|rfl|rfl <;> simp [sx0,sx1,sx2,sx3,sx4,sx5,sx6,sx7,sy0,sy1,sy2,sy3,sy4,sy5,sy6,sy7,Int.add_assoc] at h1 h2 ⊢ <;> simp_all
 ·refine ⟨if d % 2=0 then (d+6) % 8 else (d+7) % 8,?_⟩
  rcases k8 hd with rfl|rfl|rfl|rfl|rfl|rfl|rfl|rfl <;> simp [sx0,sx1,sx2,sx3,sx4,sx5,sx6,sx7,sy0,sy1,sy2,sy3,sy4,sy5,sy6,sy7,Int.add_assoc] at h1 h2 ⊢ <;> simp_all
theorem turn2s {W H x y:Int}{bl:Nat->Bool}{d e:Nat}(hd:d<8)(hp:d % 2=0)(he:e=(d+2) % 8\/e=(d+6) % 8)(h1:mayB W H bl x y d=true)(h2:mayB W H bl (x+stepX d) (y+stepY d) e=true) :
  Corn W H bl (x+stepX d) (y+stepY d)\/∃ k,k<8/\k % 2=1/\mayB W H bl x y k=true/\stepX k=stepX d+stepX e/\stepY k=stepY d+stepY e:=by
 unfold mayB Corn at *
 generalize openB W H bl=O at *
 have hk:d=0\/d=2\/d=4\/d=6:=by omega
 rcases he with rfl|rfl
 ·cases ho:O (x+stepX d+stepX ((d+3) % 8)) (y+stepY d+stepY ((d+3) % 8)) with
  |false =>
   left
   refine ⟨?_,(d+3) % 8,?_⟩ <;> rcases hk with rfl|rfl|rfl|rfl <;> simp [sx0,sx1,sx2,sx3,sx4,sx5,sx6,sx7,sy0,sy1,sy2,sy3,sy4,sy5,sy6,sy7,Int.add_assoc] at h1 h2 ho ⊢ <;> simp_all
  |true =>
   right
   refine ⟨(d+1) % 8,?_⟩
   rcases hk with rfl|rfl|rfl|rfl <;> simp [sx0,sx1,sx2,sx3,sx4,sx5,sx6,sx7,sy0,sy1,sy2,sy3,sy4,sy5,sy6,sy7,Int.add_assoc] at h1 h2 ho ⊢ <;> simp_all
 ·cases ho:O (x+stepX d+stepX ((d+5) % 8)) (y+stepY d+stepY ((d+5) % 8)) with
  |false =>
   left
   refine ⟨?_,(d+5) % 8,?_⟩ <;> rcases hk with rfl|rfl|rfl|rfl <;> simp [sx0,sx1,sx2,sx3,sx4,sx5,sx6,sx7,sy0,sy1,sy2,sy3,sy4,sy5,sy6,sy7,Int.add_assoc] at h1 h2 ho ⊢ <;> simp_all
  |true =>
   right
   refine ⟨(d+7) % 8,?_⟩
   rcases hk with rfl|rfl|rfl|rfl <;> simp [sx0,sx1,sx2,sx3,sx4,sx5,sx6,sx7,sy0,sy1,sy2,sy3,sy4,sy5,sy6,sy7,Int.add_assoc] at h1 h2 ho ⊢ <;> simp_all
theorem turn2d {W H x y:Int}{bl:Nat->Bool}{d e:Nat}(hd:d<8)(hp:d % 2=1)(he:e=(d+2) % 8\/e=(d+6) % 8)(h1:mayB W H bl x y d=true)(h2:mayB W H bl (x+stepX d) (y+stepY d) e=true) :
  ∃ k,k<8/\k % 2=0/\mayB W H bl x y k=true/\mayB W H bl (x+stepX k) (y+stepY k) k=true/\stepX k+stepX k=stepX d+stepX e/\stepY k+stepY k=stepY d+stepY e:=by
 unfold mayB at *
 generalize openB W H bl=O at *
 have hk:d=1\/d=3\/d=5\/d=7:=by omega
 rcases he with rfl|rfl
 ·refine ⟨(d+1) % 8,?_⟩
  rcases hk with rfl|rfl|rfl|rfl <;> simp [sx0,sx1,sx2,sx3,sx4,sx5,sx6,sx7,sy0,sy1,sy2,sy3,sy4,sy5,sy6,sy7,Int.add_assoc] at h1 h2 ⊢ <;> simp_all
 ·refine ⟨(d+7) % 8,?_⟩
  rcases hk with rfl|rfl|rfl|rfl <;> simp [sx0,sx1,sx2,sx3,sx4,sx5,sx6,sx7,sy0,sy1,sy2,sy3,sy4,sy5,sy6,sy7,Int.add_assoc] at h1 h2 ⊢ <;> simp_all
theorem turn1 {W H x y:Int}{bl:Nat->Bool}{d e:Nat}(hd:d<8)(he:e=(d+1) % 8\/e=(d+7) % 8)(h1:mayB W H bl x y d=true)(h2:mayB W H bl (x+stepX d) (y+stepY d) e=true) :
  Corn W H bl (x+stepX d) (y+stepY d)\/(mayB W H bl x y e=true/\mayB W H bl (x+stepX e) (y+stepY e) d=true):=by
 unfold mayB Corn at *
 generalize openB W H bl=O at *
 rcases he with rfl|rfl
 ·cases ho:O (x+stepX d+stepX (if d % 2=0 then (d+3) % 8 else (d+2) % 8)) (y+stepY d+stepY (if d % 2=0 then (d+3) % 8 else (d+2) % 8)) with
  |false =>
   left
   refine ⟨?_,if d % 2=0 then (d+3) % 8 else (d+2) % 8,?_⟩ <;> rcases k8 hd with rfl|rfl|rfl|rfl|rfl|rfl|rfl|rfl <;> simp [sx0,sx1,sx2,sx3,sx4,sx5,sx6,sx7,sy0,sy1,sy2,sy3,sy4,sy5,sy6,sy7,Int.add_assoc] at h1 h2 ho ⊢ <;> simp_all
  |true =>
   right
   rcases k8 hd with rfl|rfl|rfl|rfl|rfl|rfl|rfl|rfl <;> simp [sx0,sx1,sx2,sx3,sx4,sx5,sx6,sx7,sy0,sy1,sy2,sy3,sy4,sy5,sy6,sy7,Int.add_assoc] at h1 h2 ho ⊢ <;> simp_all
 ·cases ho:O (x+stepX d+stepX (if d % 2=0 then (d+5) % 8 else (d+6) % 8)) (y+stepY d+stepY (if d % 2=0 then (d+5) % 8 else (d+6) % 8)) with
  |false =>
   left
   refine ⟨?_,if d % 2=0 then (d+5) % 8 else (d+6) % 8,?_⟩ <;> rcases k8 hd with rfl|rfl|rfl|rfl|rfl|rfl|rfl|rfl <;> simp [sx0,sx1,sx2,sx3,sx4,sx5,sx6,sx7,sy0,sy1,sy2,sy3,sy4,sy5,sy6,sy7,Int.add_assoc] at h1 h2 ho ⊢ <;> simp_all
  |true =>
   right
   rcases k8 hd with rfl|rfl|rfl|rfl|rfl|rfl|rfl|rfl <;> simp [sx0,sx1,sx2,sx3,sx4,sx5,sx6,sx7,sy0,sy1,sy2,sy3,sy4,sy5,sy6,sy7,Int.add_assoc] at h1 h2 ho ⊢ <;> simp_all
end
section
def Pth (W H:Int) (bl:Nat->Bool):Int->List Nat->Int->Prop
 |p,[],q=>p=q
 |p,k::ds,q=>∃ r,Edge W H bl p k r/\Pth W H bl r ds q
def cst:List Nat->Int
 |[]=>0
 |k::ds=>val (stS k) (stD k)+cst ds
theorem cst_nonneg:∀ ds,0<=cst ds
 |[]=>Int.le_refl _
 |k::ds=>by have:=cst_nonneg ds;have:=(val_st k).1;show 0<=val (stS k) (stD k)+cst ds;omega
theorem Pth.snoc {W H:Int}{bl:Nat->Bool}{k:Nat}{r:Int}:∀ {ds:List Nat}{p q:Int},Pth W H bl p ds q->Edge W H bl q k r->Pth W H bl p (ds++[k]) r
 |[],_,_,h,e=>⟨r,h ▸ e,rfl⟩
 |_::_,_,_,⟨y,e1,h⟩,e=>⟨y,e1,h.snoc e⟩
theorem cst_snoc (k:Nat):∀ ds:List Nat,cst (ds++[k])=cst ds+val (stS k) (stD k)
 |[]=>by show val (stS k) (stD k)+0=0+val (stS k) (stD k);omega
 |j::ds=>by show val (stS j) (stD j)+cst (ds++[k])=val (stS j) (stD j)+cst ds+val (stS k) (stD k);rw [cst_snoc k ds];omega
theorem Wk.path {W H:Int}{bl:Nat->Bool}{a b s d:Int}(h:Wk (Edge W H bl) a b s d):∃ ds,Pth W H bl a ds b/\cst ds=val s d:=by
 refine h.ind (R:=fun b s d=>∃ ds,Pth W H bl a ds b/\cst ds=val s d) ⟨[],rfl,by decide⟩ (fun p s d k q _ ih e=>?_)
 obtain ⟨ds,h1,h2⟩:=ih
 exact ⟨ds++[k],h1.snoc e,by rw [cst_snoc,h2,val_add]⟩
variable {W H : Int} {bl : Nat → Bool} {a b : Int} {F G : Int → Option (Int × Int)}
theorem Best.fwd (BA:Best (Edge W H bl) a F):∀ {ds:List Nat}{p q s d:Int},Pth W H bl p ds q->F p=some (s,d)->∃ s' d',F q=some (s',d')/\val s' d'<=val s d+cst ds
 |[],p,q,s,d,h,hp=>⟨s,d,by rw [<- (show p=q from h)];exact hp,by show _<=val s d+0;omega⟩
 |k::ds,p,q,s,d,⟨r,e,h⟩,hp=>by
  obtain ⟨s1,d1,h1,h2⟩:=BA.edge hp e
  obtain ⟨s2,d2,h3,h4⟩:=BA.fwd h h1
  exact ⟨s2,d2,h3,by show _<=val s d+(val (stS k) (stD k)+cst ds);omega⟩
theorem Best.bwd (w1:1<=W)(BB:Best (Edge W H bl) b G):∀ {ds:List Nat}{p q t u:Int},Pth W H bl p ds q->G q=some (t,u)->∃ t' u',G p=some (t',u')/\val t' u'<=val t u+cst ds
 |[],p,q,t,u,h,hq=>⟨t,u,by rw [(show p=q from h)];exact hq,by show _<=val t u+0;omega⟩
 |k::ds,p,q,t,u,⟨r,e,h⟩,hq=>by
  obtain ⟨t1,u1,h1,h2⟩:=BB.bwd w1 h hq
  obtain ⟨k',e',g1,g2⟩:=Edge.back w1 _ _ _ e
  obtain ⟨t2,u2,h3,h4⟩:=BB.edge h1 e'
  rw [g1,g2] at h4
  exact ⟨t2,u2,h3,by show _<=val t u+(val (stS k) (stD k)+cst ds);omega⟩
theorem Wk.join {E:Int->Nat->Int->Prop}{a p q s d t u:Int}(h:Wk E a p s d)(k:Wk E p q t u):Wk E a q (s+t) (d+u):=by
 refine k.ind (R:=fun q t u=>Wk E a q (s+t) (d+u)) (by simpa using h) (fun x t u k y _ ih e=>?_)
 have:=ih.step e
 rw [Int.add_assoc,Int.add_assoc] at this
 exact this
theorem sum_ge (w1:1<=W)(BA:Best (Edge W H bl) a F)(BB:Best (Edge W H bl) b G){s0 d0:Int}(h0:F b=some (s0,d0)){p s d t u:Int}(hp:F p=some (s,d))(hq:G p=some (t,u)):val s0 d0<=val s d+val t u:=by
 obtain ⟨s',d',h1,h2⟩:=BA.least ((BA.sound hp).join ((BB.sound hq).back (Edge.back w1)))
 rw [h0] at h1
 cases h1
 rw [val_add] at h2
 exact h2
def Tgt (W H:Int) (bl:Nat->Bool) (F G:Int->Option (Int × Int)) (D:Int) (p:Int) (ds:List Nat) (q:Int):Prop :=
 Pth W H bl p ds q/\∃ s d t u,F p=some (s,d)/\G q=some (t,u)/\val s d+cst ds+val t u=D
def OnW (F G:Int->Option (Int × Int)) (D:Int) (p:Int):Prop:=∃ s d t u,F p=some (s,d)/\G p=some (t,u)/\val s d+val t u=D/\0<val s d/\0<val t u
theorem Tgt.tail (w1:1<=W)(BA:Best (Edge W H bl) a F)(BB:Best (Edge W H bl) b G){s0 d0:Int}(h0:F b=some (s0,d0)){p q:Int}{k:Nat}{ds:List Nat}(h:Tgt W H bl F G (val s0 d0) p (k::ds) q) :
  ∃ r,Edge W H bl p k r/\Tgt W H bl F G (val s0 d0) r ds q/\(0<cst ds->OnW F G (val s0 d0) r):=by
 obtain ⟨⟨r,e,hp⟩,s,d,t,u,h1,h2,h3⟩:=h
 obtain ⟨s1,d1,f1,f2⟩:=BA.edge h1 e
 obtain ⟨t1,u1,g1,g2⟩:=BB.bwd w1 hp h2
 have:=sum_ge w1 BA BB h0 f1 g1
 have h3':val s d+(val (stS k) (stD k)+cst ds)+val t u=val s0 d0:=h3
 have hk:=(val_st k).1
 have z1:0<=val s d:=by obtain ⟨n1,n2,_⟩:=BA.small h1;unfold val;omega
 have z2:0<=val t u:=by obtain ⟨n1,n2,_⟩:=BB.small h2;unfold val;omega
 exact ⟨r,e,⟨hp,s1,d1,t,u,f1,h2,by omega⟩,fun hpos=>⟨s1,d1,t1,u1,f1,g1,by omega,by omega,by omega⟩⟩
theorem Tgt.least (w1:1<=W)(BA:Best (Edge W H bl) a F)(BB:Best (Edge W H bl) b G){s0 d0:Int}(h0:F b=some (s0,d0)){p q:Int}{ds ds':List Nat}(h:Tgt W H bl F G (val s0 d0) p ds q)(h':Pth W H bl p ds' q):cst ds<=cst ds':=by
 obtain ⟨_,s,d,t,u,h1,h2,h3⟩:=h
 obtain ⟨s1,d1,f1,f2⟩:=BA.fwd h' h1
 have:=sum_ge w1 BA BB h0 f1 h2
 omega
theorem val_even {k:Nat}(h:k % 2=0):val (stS k) (stD k)=38613965:=by unfold val stS stD;rw [h];decide
theorem val_odd {k:Nat}(h:k % 2=1):val (stS k) (stD k)=54608393:=by unfold val stS stD;rw [h];decide
theorem Edge.place (w1:1<=W){p r:Int}{k:Nat}(e:Edge W H bl p k r):r % W=p % W+stepX k/\r / W=p / W+stepY k:=by
 obtain ⟨_,_,h3,h4⟩:=e
 obtain ⟨_,o2,_,_⟩:=may_parts h3
 obtain ⟨a1,a2,a3,a4⟩:=open_in o2
 have e:p+(stepY k*W+stepX k)=(p / W+stepY k)*W+(p % W+stepX k):=by
  have:=cell_eq W p
  rw [Int.add_mul]
  omega
 obtain ⟨p1,p2,p3⟩:=place_to (H:=H) w1 a1 a2 a3 a4
 rw [h4,e,p2,p3]
 exact ⟨rfl,rfl⟩
theorem Tgt.two (w1:1<=W)(BA:Best (Edge W H bl) a F)(BB:Best (Edge W H bl) b G){s0 d0:Int}(h0:F b=some (s0,d0))(hC:∀ p,OnW F G (val s0 d0) p->¬ Corn W H bl (p % W) (p / W))
  {p q:Int}{d e:Nat}{ds:List Nat}(h:Tgt W H bl F G (val s0 d0) p (d::e::ds) q):e=d\/((e=(d+1) % 8\/e=(d+7) % 8)/\Tgt W H bl F G (val s0 d0) p (e::d::ds) q):=by
 obtain ⟨r,e1,hr,onr⟩:=h.tail w1 BA BB h0
 obtain ⟨z,e2,hz,_⟩:=hr.tail w1 BA BB h0
 have hnc:=hC r (onr (by have:=(val_st e).1;have:=cst_nonneg ds;show 0<val (stS e) (stD e)+cst ds;omega))
 obtain ⟨x1,y1⟩:=e1.place w1
 have hd:=e1.1
 have he:=e2.1
 have m1:=e1.2.2.1
 have m2:=e2.2.2.1
 have ip:=e1.2.1
 have zr:=e1.2.2.2
 have zz:=e2.2.2.2
 rw [x1,y1] at hnc m2
 have vd:=val_st d
 have ve:=val_st e
 have hcs:cst (d::e::ds)=val (stS d) (stD d)+(val (stS e) (stD e)+cst ds):=rfl
 have oneStep:∀ k,k<8->mayB W H bl (p % W) (p / W) k=true->stepX k=stepX d+stepX e->stepY k=stepY d+stepY e->Edge W H bl p k z:=fun k hk hm hx hy=>⟨hk,ip,hm,by rw [zz,zr,hx,hy,Int.add_mul];omega⟩
 have hcase:e=d\/(e=(d+1) % 8\/e=(d+7) % 8)\/(e=(d+2) % 8\/e=(d+6) % 8)\/(e=(d+3) % 8\/e=(d+5) % 8)\/e=(d+4) % 8:=by omega
 rcases hcase with h1|h1|h1|h1|h1
 ·exact Or.inl h1
 ·right
  refine ⟨h1,?_⟩
  rcases turn1 hd h1 m1 m2 with hc|⟨n1,n2⟩
  ·exact absurd hc hnc
  ·have e3:Edge W H bl p e (p+(stepY e*W+stepX e)):=⟨he,ip,n1,rfl⟩
   have e4:Edge W H bl (p+(stepY e*W+stepX e)) d z:=by
    obtain ⟨x3,y3⟩:=e3.place w1
    exact ⟨hd,e3.in' w1,by rw [x3,y3];exact n2,by rw [zz,zr];omega⟩
   obtain ⟨_,s,d',t,u,f1,f2,f3⟩:=h
   refine ⟨⟨_,e3,z,e4,hz.1⟩,s,d',t,u,f1,f2,?_⟩
   rw [hcs] at f3
   show val s d'+(val (stS e) (stD e)+(val (stS d) (stD d)+cst ds))+val t u=_
   omega
 ·exfalso
  by_cases hp:d % 2=0
  ·rcases turn2s hd hp h1 m1 m2 with hc|⟨k,k1,k2,k3,k4,k5⟩
   ·exact hnc hc
   ·have:=h.least w1 BA BB h0 (ds':=k::ds) ⟨z,oneStep k k1 k3 k4 k5,hz.1⟩
    have c1:=val_odd k2
    have c2:=val_even hp
    have c3:val (stS e) (stD e)=38613965:=val_even (by omega)
    have:cst (k::ds)=val (stS k) (stD k)+cst ds:=rfl
    omega
  ·have hp1:d % 2=1:=by omega
   obtain ⟨k,k1,k2,k3,k4,k5,k6⟩:=turn2d hd hp1 h1 m1 m2
   have e3:Edge W H bl p k (p+(stepY k*W+stepX k)):=⟨k1,ip,k3,rfl⟩
   have e4:Edge W H bl (p+(stepY k*W+stepX k)) k z:=by
    obtain ⟨x3,y3⟩:=e3.place w1
    refine ⟨k1,e3.in' w1,by rw [x3,y3];exact k4,?_⟩
    have hW:stepY k*W+stepY k*W=stepY d*W+stepY e*W:=by rw [<- Int.add_mul,<- Int.add_mul,k6]
    rw [zz,zr];omega
   have:=h.least w1 BA BB h0 (ds':=k::k::ds) ⟨_,e3,z,e4,hz.1⟩
   have c1:=val_even k2
   have c2:=val_odd hp1
   have c3:val (stS e) (stD e)=54608393:=val_odd (by omega)
   have:cst (k::k::ds)=val (stS k) (stD k)+(val (stS k) (stD k)+cst ds):=rfl
   omega
 ·exfalso
  obtain ⟨k,k1,k2,k3,k4,k5⟩:=turn3 hd h1 m1 m2
  have:=h.least w1 BA BB h0 (ds':=k::ds) ⟨z,oneStep k k1 k3 k4 k5,hz.1⟩
  have c1:=val_even k2
  have:cst (k::ds)=val (stS k) (stD k)+cst ds:=rfl
  have c2:38613965<=val (stS d) (stD d):=by
   by_cases hp:d % 2=0
   ·rw [val_even hp];decide
   ·rw [val_odd (by omega)];decide
  omega
 ·exfalso
  have ho:e=opp d:=by unfold opp;exact h1
  obtain ⟨g1,g2⟩:=opp_step d hd
  have hzp:z=p:=by rw [zz,zr,ho,g1,g2,Int.neg_mul];omega
  have:=h.least w1 BA BB h0 (ds':=ds) (by rw [<- hzp];exact hz.1)
  omega
theorem split_run (f:Nat):∀ l:List Nat,(∀ x ∈ l,x=f)\/∃ j g rest,l=List.replicate j f++g::rest/\g≠f
 |[]=>Or.inl (fun _ h=>by cases h)
 |x::l=>by
  by_cases e:x=f
  ·rcases split_run f l with h|⟨j,g,rest,h1,h2⟩
   ·exact Or.inl (fun y hy=>(List.mem_cons.1 hy).elim (fun q=>by rw [q];exact e) (fun hy=>h y hy))
   ·exact Or.inr ⟨j+1,g,rest,by rw [h1,e];rfl,h2⟩
  ·exact Or.inr ⟨0,x,l,rfl,e⟩
theorem Tgt.slide (w1:1<=W)(BA:Best (Edge W H bl) a F)(BB:Best (Edge W H bl) b G){s0 d0:Int}(h0:F b=some (s0,d0))(hC:∀ p,OnW F G (val s0 d0) p->¬ Corn W H bl (p % W) (p / W)){c m:Nat}(hcm:c≠m) :
  ∀ (j:Nat) {p q:Int}{rest:List Nat},Tgt W H bl F G (val s0 d0) p (c::(List.replicate j m++rest)) q->∃ p',Tgt W H bl F G (val s0 d0) p' (c::rest) q
 |0,p,_,_,h=>⟨p,h⟩
 |j+1,p,q,rest,h=>by
  have h':Tgt W H bl F G (val s0 d0) p (c::m::(List.replicate j m++rest)) q:=h
  rcases h'.two w1 BA BB h0 hC with e|⟨_,h2⟩
  ·exact absurd e.symm hcm
  ·obtain ⟨r,_,hr,_⟩:=h2.tail w1 BA BB h0
   exact Tgt.slide w1 BA BB h0 hC hcm j hr
theorem Tgt.within (w1:1<=W)(BA:Best (Edge W H bl) a F)(BB:Best (Edge W H bl) b G){s0 d0:Int}(h0:F b=some (s0,d0))(hC:∀ p,OnW F G (val s0 d0) p->¬ Corn W H bl (p % W) (p / W)) :
  ∀ {ds:List Nat}{p q:Int},Tgt W H bl F G (val s0 d0) p ds q->∃ k,k<8/\∀ d ∈ ds,d=k\/d=(k+1) % 8
 |[],_,_,_=>⟨0,by decide,fun _ h=>by cases h⟩
 |[d],p,q,h=>by
  obtain ⟨r,e,_⟩:=h.tail w1 BA BB h0
  exact ⟨d,e.1,fun x hx=>Or.inl (by simpa using hx)⟩
 |d::f::ds,p,q,h=>by
  obtain ⟨r,e,hr,_⟩:=h.tail w1 BA BB h0
  obtain ⟨k,k1,k2⟩:=Tgt.within w1 BA BB h0 hC hr
  have hd:=e.1
  have hf:=k2 f (by simp)
  by_cases hdk:d=k\/d=(k+1) % 8
  ·exact ⟨k,k1,fun x hx=>(List.mem_cons.1 hx).elim (fun q=>by rw [q];exact hdk) (fun hx=>k2 x hx)⟩
  ·have adj:f=d\/(f=(d+1) % 8\/f=(d+7) % 8):=by
    rcases h.two w1 BA BB h0 hC with h1|⟨h1,_⟩
    ·exact Or.inl h1
    ·exact Or.inr h1
   have hfd:f≠d:=fun q=>hdk (q ▸ hf)
   rcases split_run f (f::ds) with hall|⟨j,g,rest,hl,hg⟩
   ·rcases adj with h1|h1|h1
    ·exact absurd h1 hfd
    ·exact ⟨d,hd,fun x hx=>(List.mem_cons.1 hx).elim (fun q=>by rw [q];exact Or.inl rfl) (fun hx=>Or.inr ((hall x hx).trans h1))⟩
    ·refine ⟨f,by omega,fun x hx=>?_⟩
     rcases List.mem_cons.1 hx with rfl|hx
     ·exact Or.inr (by omega)
     ·exact Or.inl (hall x hx)
   ·rw [hl] at h
    obtain ⟨p',h2⟩:=Tgt.slide w1 BA BB h0 hC (fun q=>hfd q.symm) j h
    have hgk:=k2 g (by rw [hl];simp)
    have adj2:g=d\/(g=(d+1) % 8\/g=(d+7) % 8):=by
     rcases h2.two w1 BA BB h0 hC with h1|⟨h1,_⟩
     ·exact Or.inl h1
     ·exact Or.inr h1
    exfalso
    omega
theorem Pth.count (w1:1<=W){k:Nat}:∀ {ds:List Nat}{p q:Int},Pth W H bl p ds q->(∀ d ∈ ds,d=k\/d=(k+1) % 8) ->
  ∃ m n:Nat,q % W=p % W+m*stepX k+n*stepX ((k+1) % 8)/\q / W=p / W+m*stepY k+n*stepY ((k+1) % 8)/\cst ds=m*val (stS k) (stD k)+n*val (stS ((k+1) % 8)) (stD ((k+1) % 8))
 |[],p,q,h,_=>⟨0,0,by rw [<- (show p=q from h)];simp,by rw [<- (show p=q from h)];simp,by show (0:Int)=_;simp⟩
 |d::ds,p,q,⟨r,e,h⟩,hd=>by
  obtain ⟨m,n,h1,h2,h3⟩:=Pth.count w1 h (fun x hx=>hd x (List.mem_cons_of_mem _ hx))
  obtain ⟨x1,y1⟩:=e.place w1
  have hc:cst (d::ds)=val (stS d) (stD d)+cst ds:=rfl
  rcases hd d (by simp) with rfl|rfl
  ·refine ⟨m+1,n,?_,?_,?_⟩
   ·rw [h1,x1,Int.natCast_add,Int.add_mul];omega
   ·rw [h2,y1,Int.natCast_add,Int.add_mul];omega
   ·rw [hc,h3,Int.natCast_add,Int.add_mul];omega
  ·refine ⟨m,n+1,?_,?_,?_⟩
   ·rw [h1,x1,Int.natCast_add,Int.add_mul];omega
   ·rw [h2,y1,Int.natCast_add,Int.add_mul];omega
   ·rw [hc,h3,Int.natCast_add,Int.add_mul];omega
theorem Pth.octile (w1:1<=W){k:Nat}(hk:k<8){ds:List Nat}{p q:Int}(h:Pth W H bl p ds q)(hd:∀ d ∈ ds,d=k\/d=(k+1) % 8) :
  cst ds=val (dst (dst (p % W) (q % W)) (dst (p / W) (q / W))) (les (dst (p % W) (q % W)) (dst (p / W) (q / W))):=by
 obtain ⟨m,n,h1,h2,h3⟩:=h.count w1 hd
 rw [h3,h1,h2]
 generalize p % W=x
 generalize p / W=y
 have v0:∀ j:Nat,j % 2=0->val (stS j) (stD j)=38613965:=fun j hj=>val_even hj
 have v1:∀ j:Nat,j % 2=1->val (stS j) (stD j)=54608393:=fun j hj=>val_odd hj
 rcases k8 hk with rfl|rfl|rfl|rfl|rfl|rfl|rfl|rfl <;> simp [sx0,sx1,sx2,sx3,sx4,sx5,sx6,sx7,sy0,sy1,sy2,sy3,sy4,sy5,sy6,sy7,v0,v1] <;> unfold val dst les <;> (repeat' split) <;> omega
theorem corner_on (w1:1<=W)(BA:Best (Edge W H bl) a F)(BB:Best (Edge W H bl) b G){s0 d0:Int}(h0:F b=some (s0,d0))
  (hn:val s0 d0≠val (dst (dst (a % W) (b % W)) (dst (a / W) (b / W))) (les (dst (a % W) (b % W)) (dst (a / W) (b / W)))) :
  ∃ p s d t u,F p=some (s,d)/\G p=some (t,u)/\s+t=s0/\d+u=d0/\0<val s d/\0<val t u/\Corn W H bl (p % W) (p / W):=by
 apply Classical.byContradiction
 intro hno
 have hC:∀ p,OnW F G (val s0 d0) p->¬ Corn W H bl (p % W) (p / W):=by
  rintro p ⟨s,d,t,u,h1,h2,h3,h4,h5⟩ hc
  obtain ⟨a1,a2,a3⟩:=BA.small h1
  obtain ⟨b1,b2,b3⟩:=BB.small h2
  obtain ⟨c1,c2,c3⟩:=BA.small h0
  have sa:=val_small a1 a2 a3
  have sb:=val_small b1 b2 b3
  have sc:=val_small c1 c2 c3
  rw [<- val_add] at h3
  obtain ⟨q1,q2⟩:=val_inj (s+t) (d+u) s0 d0 (by omega) (by omega) h3
  exact hno ⟨p,s,d,t,u,h1,h2,q1,q2,h4,h5,hc⟩
 obtain ⟨ds,hp,hc⟩:=(BA.sound h0).path
 have hT:Tgt W H bl F G (val s0 d0) a ds b:=⟨hp,0,0,0,0,BA.home,BB.home,by rw [hc];have:val 0 0=0:=(by decide);omega⟩
 obtain ⟨k,k1,k2⟩:=hT.within w1 BA BB h0 hC
 exact hn (by rw [<- hc];exact hp.octile w1 k1 k2)
end
section
def octS (W a b:Int):Int:=dst (dst (a % W) (b % W)) (dst (a / W) (b / W))
def octD (W a b:Int):Int:=les (dst (a % W) (b % W)) (dst (a / W) (b / W))
def NearF (W:Int) (Fl:Int->Int->Option (Int × Int)) (a b:Int):Prop:=Fl a b=some (octS W a b,octD W a b)
def CornC (W H:Int) (bl:Nat->Bool) (c:Int):Prop:=Corn W H bl (c % W) (c / W)
def DirF (W H:Int) (bl:Nat->Bool) (Fl:Int->Int->Option (Int × Int)) (a b:Int):Prop :=
 NearF W Fl a b/\∀ k s d t u,CornC W H bl k->k≠a->k≠b->Fl a k=some (s,d)->Fl b k=some (t,u)->¬ (s+t=octS W a b/\d+u=octD W a b)
def Chn (P:Int->Int->Prop):Int->List Int->Int->Prop
 |a,[],b=>a=b
 |a,c::l,b=>P a c/\Chn P c l b
def sumS (W:Int):Int->List Int->Int
 |_,[]=>0
 |a,c::l=>octS W a c+sumS W c l
def sumD (W:Int):Int->List Int->Int
 |_,[]=>0
 |a,c::l=>octD W a c+sumD W c l
theorem Chn.app {P:Int->Int->Prop}{W:Int}:∀ {l1 l2:List Int}{a c b:Int},Chn P a l1 c->Chn P c l2 b->Chn P a (l1++l2) b/\sumS W a (l1++l2)=sumS W a l1+sumS W c l2/\sumD W a (l1++l2)=sumD W a l1+sumD W c l2
 |[],l2,a,c,b,h,k=>by
  have e:a=c:=h
  subst e
  exact ⟨k,(Int.zero_add _).symm,(Int.zero_add _).symm⟩
 |x::l1,l2,a,c,b,⟨h1,h2⟩,k=>by
  obtain ⟨g1,g2,g3⟩:=Chn.app (W:=W) h2 k
  refine ⟨⟨h1,g1⟩,?_,?_⟩
  ·show octS W a x+sumS W x (l1++l2)=octS W a x+sumS W x l1+sumS W c l2;omega
  ·show octD W a x+sumD W x (l1++l2)=octD W a x+sumD W x l1+sumD W c l2;omega
variable {W H : Int} {bl : Nat → Bool} {Fl : Int → Int → Option (Int × Int)}
theorem val_zero {E:Int->Nat->Int->Prop}{o a s d:Int}(h:Wk E o a s d)(hv:val s d<=0):a=o:=by
 rcases h.inv with ⟨h1,_⟩|⟨a',s',d',k,h1,_,h2,h3⟩
 ·exact h1
 ·obtain ⟨n1,n2⟩:=h1.nonneg
  have:=(val_st k).1
  rw [h2,h3,val_add] at hv
  have:0<=val s' d':=by unfold val;omega
  omega
end
end Go.Proofs.YtipbhlofbpnpjaaGreatDoor
