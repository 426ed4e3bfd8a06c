/-
  Texts laid together: TopFloodM, TurnM, TurnP, GraphM, WayM, ReachM.
-/
import Derived.Test.YtmaefimaeelkbaaGreatDoorP3
import Derived.Deep.LoopGhost
import Derived.Deep.Light
import Derived.Deep.RegionWith
namespace Go.Proofs.YtmaefimaeelkbaaGreatDoor
section
open Go.RowKit
theorem oct_low {W H:Int}{bl:Nat->Bool}{o a s d:Int}(w1:1<=W)(h:Wk (Edge W H bl) o a s d) :
  val (dst (dst (o % W) (a % W)) (dst (o / W) (a / W))) (les (dst (o % W) (a % W)) (dst (o / W) (a / W)))<=val s d:=by
 refine h.ind (R:=fun a s d=>val (dst (dst (o % W) (a % W)) (dst (o / W) (a / W))) (les (dst (o % W) (a % W)) (dst (o / W) (a / W)))<=val s d) ?_ (fun a s d k b _ ih e=>?_)
 ·unfold dst les val
  simp
 ·obtain ⟨h1,h2,h3,h4⟩:=e
  obtain ⟨_,o2,_,_⟩:=may_parts h3
  obtain ⟨a1,a2,a3,a4⟩:=open_in o2
  have e:a+(stepY k*W+stepX k)=(a / W+stepY k)*W+(a % W+stepX k):=by
   have:=cell_eq W a
   rw [Int.add_mul]
   omega
  obtain ⟨p1,p2,p3⟩:=place_to (H:=H) w1 a1 a2 a3 a4
  rw [h4,e,p2,p3]
  clear e p1 p2 p3 a1 a2 a3 a4 o2 h3 h4 h2
  rw [val_add]
  generalize o % W=ox at *
  generalize o / W=oy at *
  generalize a % W=ax at *
  generalize a / W=ay at *
  have hks:k=0\/k=1\/k=2\/k=3\/k=4\/k=5\/k=6\/k=7:=by omega
  have hst:stepX k=0/\stepY k=-1/\stS k=1/\stD k=0\/stepX k=0/\stepY k=1/\stS k=1/\stD k=0\/stepX k=1/\stepY k=0/\stS k=1/\stD k=0\/stepX k=-1/\stepY k=0/\stS k=1/\stD k=0\/(stepX k=1\/stepX k=-1)/\(stepY k=1\/stepY k=-1)/\stS k=0/\stD k=1:=by
   rcases hks with rfl|rfl|rfl|rfl|rfl|rfl|rfl|rfl <;> decide
  refine Int.le_trans ?_ (Int.add_le_add_right ih _)
  clear ih hks h1
  unfold val dst les
  split <;> split <;> split <;> split <;> split <;> split <;> (try split) <;> (try split) <;> omega
theorem Best.sym {W H:Int}{bl:Nat->Bool}{o c:Int}{F G:Int->Option (Int × Int)}(w1:1<=W)(hF:Best (Edge W H bl) o F)(hG:Best (Edge W H bl) c G){s d:Int}(h:F c=some (s,d)):G o=some (s,d):=by
 obtain ⟨s',d',h1,h2⟩:=hG.least ((hF.sound h).back (Edge.back w1))
 obtain ⟨s2,d2,h3,h4⟩:=hF.least ((hG.sound h1).back (Edge.back w1))
 rw [h] at h3
 cases h3
 obtain ⟨a1,a2,a3⟩:=hF.small h
 obtain ⟨b1,b2,b3⟩:=hG.small h1
 have c1:=val_small a1 a2 a3
 have c2:=val_small b1 b2 b3
 obtain ⟨e1,e2⟩:=val_inj s' d' s d (by omega) (by omega) (by omega)
 rw [h1,e1,e2]
theorem wrap_small {x:Int}(h0:0<=x)(h:x<=1000):IntKind.i64.wrap x=x:=by unfold IntKind.wrap;simp [IntKind.bits,IntKind.signed];omega
end
section
open Go.RowKit
def Corn (W H:Int) (bl:Nat->Bool) (x y:Int):Prop :=
 openB W H bl x y=true/\∃ k,k<8/\k % 2=1/\openB W H bl (x+stepX k) (y+stepY k)=false/\openB W H bl (x+stepX k) y=true/\openB W H bl x (y+stepY k)=true
theorem sx0:stepX 0=0:=rfl
theorem sx1:stepX 1=1:=rfl
theorem sx2:stepX 2=1:=rfl
theorem sx3:stepX 3=1:=rfl
theorem sx4:stepX 4=0:=rfl
theorem sx5:stepX 5=-1:=rfl
theorem sx6:stepX 6=-1:=rfl
theorem sx7:stepX 7=-1:=rfl
theorem sy0:stepY 0=-1:=rfl
theorem sy1:stepY 1=-1:=rfl
theorem sy2:stepY 2=0:=rfl
theorem sy3:stepY 3=1:=rfl
theorem sy4:stepY 4=1:=rfl
theorem sy5:stepY 5=1:=rfl
theorem sy6:stepY 6=0:=rfl
theorem sy7:stepY 7=-1:=rfl
theorem k8 {d:Nat}(h:d<8):d=0\/d=1\/d=2\/d=3\/d=4\/d=5\/d=6\/d=7:=by omega
theorem turn3 {W H x y:Int}{bl:Nat->Bool}{d e:Nat}(hd:d<8)(he:e=(d+3) % 8\/e=(d+5) % 8)(h1:mayB W H bl x y d=true)(h2:mayB W H bl (x+stepX d) (y+stepY d) e=true) :
  ∃ k,k<8/\k % 2=0/\mayB W H bl x y k=true/\stepX k=stepX d+stepX e/\stepY k=stepY d+stepY e:=by
 unfold mayB at *
 generalize openB W H bl=O at *
 rcases he with rfl|rfl
 ·refine ⟨if d % 2=0 then (d+2) % 8 else (d+1) % 8,?_⟩
  rcases k8 hd with rfl|rfl|rfl|rfl|rfl|rfl|rfl|rfl <;> simp [sx0,sx1,sx2,sx3,sx4,sx5,sx6,sx7,sy0,sy1,sy2,sy3,sy4,sy5,sy6,sy7,Int.add_assoc] at h1 h2 ⊢ <;> simp_all
 ·refine ⟨if d % 2=0 then (d+6) % 8 else (d+7) % 8,?_⟩
  rcases k8 hd with rfl|rfl|rfl|rfl|rfl|rfl|rfl|rfl <;> simp [sx0,sx1,sx2,sx3,sx4,sx5,sx6,sx7,sy0,sy1,sy2,sy3,sy4,sy5,sy6,sy7,Int.add_assoc] at h1 h2 ⊢ <;> simp_all
theorem turn2s {W H x y:Int}{bl:Nat->Bool}{d e:Nat}(hd:d<8)(hp:d % 2=0)(he:e=(d+2) % 8\/e=(d+6) % 8)(h1:mayB W H bl x y d=true)(h2:mayB W H bl (x+stepX d) (y+stepY d) e=true) :
  Corn W H bl (x+stepX d) (y+stepY d)\/∃ k,k<8/\k % 2=1/\mayB W H bl x y k=true/\stepX k=stepX d+stepX e/\stepY k=stepY d+stepY e:=by
 unfold mayB Corn at *
 generalize openB W H bl=O at *
 have hk:d=0\/d=2\/d=4\/d=6:=by omega
 rcases he with rfl|rfl
 ·cases ho:O (x+stepX d+stepX ((d+3) % 8)) (y+stepY d+stepY ((d+3) % 8)) with
  |false =>
   left
   refine ⟨?_,(d+3) % 8,?_⟩ <;> rcases hk with rfl|rfl|rfl|rfl <;> simp [sx0,sx1,sx2,sx3,sx4,sx5,sx6,sx7,sy0,sy1,sy2,sy3,sy4,sy5,sy6,sy7,Int.add_assoc] at h1 h2 ho ⊢ <;> simp_all
  |true =>
   right
   refine ⟨(d+1) % 8,?_⟩
   rcases hk with rfl|rfl|rfl|rfl <;> simp [sx0,sx1,sx2,sx3,sx4,sx5,sx6,sx7,sy0,sy1,sy2,sy3,sy4,sy5,sy6,sy7,Int.add_assoc] at h1 h2 ho ⊢ <;> simp_all
 ·cases ho:O (x+stepX d+stepX ((d+5) % 8)) (y+stepY d+stepY ((d+5) % 8)) with
  |false =>
   left
   refine ⟨?_,(d+5) % 8,?_⟩ <;> rcases hk with rfl|rfl|rfl|rfl <;> simp [sx0,sx1,sx2,sx3,sx4,sx5,sx6,sx7,sy0,sy1,sy2,sy3,sy4,sy5,sy6,sy7,Int.add_assoc] at h1 h2 ho ⊢ <;> simp_all
  |true =>
   right
   refine ⟨(d+7) % 8,?_⟩
   rcases hk with rfl|rfl|rfl|rfl <;> simp [sx0,sx1,sx2,sx3,sx4,sx5,sx6,sx7,sy0,sy1,sy2,sy3,sy4,sy5,sy6,sy7,Int.add_assoc] at h1 h2 ho ⊢ <;> simp_all
theorem turn2d {W H x y:Int}{bl:Nat->Bool}{d e:Nat}(hd:d<8)(hp:d % 2=1)(he:e=(d+2) % 8\/e=(d+6) % 8)(h1:mayB W H bl x y d=true)(h2:mayB W H bl (x+stepX d) (y+stepY d) e=true) :
  ∃ k,k<8/\k % 2=0/\mayB W H bl x y k=true/\mayB W H bl (x+stepX k) (y+stepY k) k=true/\stepX k+stepX k=stepX d+stepX e/\stepY k+stepY k=stepY d+stepY e:=by
 unfold mayB at *
 generalize openB W H bl=O at *
 have hk:d=1\/d=3\/d=5\/d=7:=by omega
 rcases he with rfl|rfl
 ·refine ⟨(d+1) % 8,?_⟩
  rcases hk with rfl|rfl|rfl|rfl <;> simp [sx0,sx1,sx2,sx3,sx4,sx5,sx6,sx7,sy0,sy1,sy2,sy3,sy4,sy5,sy6,sy7,Int.add_assoc] at h1 h2 ⊢ <;> simp_all
 ·refine ⟨(d+7) % 8,?_⟩
  rcases hk with rfl|rfl|rfl|rfl <;> simp [sx0,sx1,sx2,sx3,sx4,sx5,sx6,sx7,sy0,sy1,sy2,sy3,sy4,sy5,sy6,sy7,Int.add_assoc] at h1 h2 ⊢ <;> simp_all
theorem turn1 {W H x y:Int}{bl:Nat->Bool}{d e:Nat}(hd:d<8)(he:e=(d+1) % 8\/e=(d+7) % 8)(h1:mayB W H bl x y d=true)(h2:mayB W H bl (x+stepX d) (y+stepY d) e=true) :
  Corn W H bl (x+stepX d) (y+stepY d)\/(mayB W H bl x y e=true/\mayB W H bl (x+stepX e) (y+stepY e) d=true):=by
 unfold mayB Corn at *
 generalize openB W H bl=O at *
 rcases he with rfl|rfl
 ·cases ho:O (x+stepX d+stepX (if d % 2=0 then (d+3) % 8 else (d+2) % 8)) (y+stepY d+stepY (if d % 2=0 then (d+3) % 8 else (d+2) % 8)) with
  |false =>
   left
   refine ⟨?_,if d % 2=0 then (d+3) % 8 else (d+2) % 8,?_⟩ <;> rcases k8 hd with rfl|rfl|rfl|rfl|rfl|rfl|rfl|rfl <;> simp [sx0,sx1,sx2,sx3,sx4,sx5,sx6,sx7,sy0,sy1,sy2,sy3,sy4,sy5,sy6,sy7,Int.add_assoc] at h1 h2 ho ⊢ <;> simp_all
  |true =>
   right
   rcases k8 hd with rfl|rfl|rfl|rfl|rfl|rfl|rfl|rfl <;> simp [sx0,sx1,sx2,sx3,sx4,sx5,sx6,sx7,sy0,sy1,sy2,sy3,sy4,sy5,sy6,sy7,Int.add_assoc] at h1 h2 ho ⊢ <;> simp_all
 ·cases ho:O (x+stepX d+stepX (if d % 2=0 then (d+5) % 8 else (d+6) % 8)) (y+stepY d+stepY (if d % 2=0 then (d+5) % 8 else (d+6) % 8)) with
  |false =>
   left
   refine ⟨?_,if d % 2=0 then (d+5) % 8 else (d+6) % 8,?_⟩ <;> rcases k8 hd with rfl|rfl|rfl|rfl|rfl|rfl|rfl|rfl <;> simp [sx0,sx1,sx2,sx3,sx4,sx5,sx6,sx7,sy0,sy1,sy2,sy3,sy4,sy5,sy6,sy7,Int.add_assoc] at h1 h2 ho ⊢ <;> simp_all
  |true =>
   right
   rcases k8 hd with rfl|rfl|rfl|rfl|rfl|rfl|rfl|rfl <;> simp [sx0,sx1,sx2,sx3,sx4,sx5,sx6,sx7,sy0,sy1,sy2,sy3,sy4,sy5,sy6,sy7,Int.add_assoc] at h1 h2 ho ⊢ <;> simp_all
end
section
def Pth (W H:Int) (bl:Nat->Bool):Int->List Nat->Int->Prop
 |p,[],q=>p=q
 |p,k::ds,q=>∃ r,Edge W H bl p k r/\Pth W H bl r ds q
def cst:List Nat->Int
 |[]=>0
 |k::ds=>val (stS k) (stD k)+cst ds
theorem cst_nonneg:∀ ds,0<=cst ds
 |[]=>Int.le_refl _
 |k::ds=>by have:=cst_nonneg ds;have:=(val_st k).1;show 0<=val (stS k) (stD k)+cst ds;omega
theorem Pth.snoc {W H:Int}{bl:Nat->Bool}{k:Nat}{r:Int}:∀ {ds:List Nat}{p q:Int},Pth W H bl p ds q->Edge W H bl q k r->Pth W H bl p (ds++[k]) r
 |[],_,_,h,e=>⟨r,h ▸ e,rfl⟩
 |_::_,_,_,⟨y,e1,h⟩,e=>⟨y,e1,h.snoc e⟩
theorem cst_snoc (k:Nat):∀ ds:List Nat,cst (ds++[k])=cst ds+val (stS k) (stD k)
 |[]=>by show val (stS k) (stD k)+0=0+val (stS k) (stD k);omega
 |j::ds=>by show val (stS j) (stD j)+cst (ds++[k])=val (stS j) (stD j)+cst ds+val (stS k) (stD k);rw [cst_snoc k ds];omega
theorem Wk.path {W H:Int}{bl:Nat->Bool}{a b s d:Int}(h:Wk (Edge W H bl) a b s d):∃ ds,Pth W H bl a ds b/\cst ds=val s d:=by
 refine h.ind (R:=fun b s d=>∃ ds,Pth W H bl a ds b/\cst ds=val s d) ⟨[],rfl,by decide⟩ (fun p s d k q _ ih e=>?_)
 obtain ⟨ds,h1,h2⟩:=ih
 exact ⟨ds++[k],h1.snoc e,by rw [cst_snoc,h2,val_add]⟩
variable {W H : Int} {bl : Nat → Bool} {a b : Int} {F G : Int → Option (Int × Int)}
theorem Best.fwd (BA:Best (Edge W H bl) a F):∀ {ds:List Nat}{p q s d:Int},Pth W H bl p ds q->F p=some (s,d)->∃ s' d',F q=some (s',d')/\val s' d'<=val s d+cst ds
 |[],p,q,s,d,h,hp=>⟨s,d,by rw [<- (show p=q from h)];exact hp,by show _<=val s d+0;omega⟩
 |k::ds,p,q,s,d,⟨r,e,h⟩,hp=>by
  obtain ⟨s1,d1,h1,h2⟩:=BA.edge hp e
  obtain ⟨s2,d2,h3,h4⟩:=BA.fwd h h1
  exact ⟨s2,d2,h3,by show _<=val s d+(val (stS k) (stD k)+cst ds);omega⟩
theorem Best.bwd (w1:1<=W)(BB:Best (Edge W H bl) b G):∀ {ds:List Nat}{p q t u:Int},Pth W H bl p ds q->G q=some (t,u)->∃ t' u',G p=some (t',u')/\val t' u'<=val t u+cst ds
 |[],p,q,t,u,h,hq=>⟨t,u,by rw [(show p=q from h)];exact hq,by show _<=val t u+0;omega⟩
 |k::ds,p,q,t,u,⟨r,e,h⟩,hq=>by
  obtain ⟨t1,u1,h1,h2⟩:=BB.bwd w1 h hq
  obtain ⟨k',e',g1,g2⟩:=Edge.back w1 _ _ _ e
  obtain ⟨t2,u2,h3,h4⟩:=BB.edge h1 e'
  rw [g1,g2] at h4
  exact ⟨t2,u2,h3,by show _<=val t u+(val (stS k) (stD k)+cst ds);omega⟩
theorem Wk.join {E:Int->Nat->Int->Prop}{a p q s d t u:Int}(h:Wk E a p s d)(k:Wk E p q t u):Wk E a q (s+t) (d+u):=by
 refine k.ind (R:=fun q t u=>Wk E a q (s+t) (d+u)) (by simpa using h) (fun x t u k y _ ih e=>?_)
 have:=ih.step e
 rw [Int.add_assoc,Int.add_assoc] at this
 exact this
theorem sum_ge (w1:1<=W)(BA:Best (Edge W H bl) a F)(BB:Best (Edge W H bl) b G){s0 d0:Int}(h0:F b=some (s0,d0)){p s d t u:Int}(hp:F p=some (s,d))(hq:G p=some (t,u)):val s0 d0<=val s d+val t u:=by
 obtain ⟨s',d',h1,h2⟩:=BA.least ((BA.sound hp).join ((BB.sound hq).back (Edge.back w1)))
 rw [h0] at h1
 cases h1
 rw [val_add] at h2
 exact h2
def Tgt (W H:Int) (bl:Nat->Bool) (F G:Int->Option (Int × Int)) (D:Int) (p:Int) (ds:List Nat) (q:Int):Prop :=
 Pth W H bl p ds q/\∃ s d t u,F p=some (s,d)/\G q=some (t,u)/\val s d+cst ds+val t u=D
def OnW (F G:Int->Option (Int × Int)) (D:Int) (p:Int):Prop:=∃ s d t u,F p=some (s,d)/\G p=some (t,u)/\val s d+val t u=D/\0<val s d/\0<val t u
theorem Tgt.tail (w1:1<=W)(BA:Best (Edge W H bl) a F)(BB:Best (Edge W H bl) b G){s0 d0:Int}(h0:F b=some (s0,d0)){p q:Int}{k:Nat}{ds:List Nat}(h:Tgt W H bl F G (val s0 d0) p (k::ds) q) :
  ∃ r,Edge W H bl p k r/\Tgt W H bl F G (val s0 d0) r ds q/\(0<cst ds->OnW F G (val s0 d0) r):=by
 obtain ⟨⟨r,e,hp⟩,s,d,t,u,h1,h2,h3⟩:=h
 obtain ⟨s1,d1,f1,f2⟩:=BA.edge h1 e
 obtain ⟨t1,u1,g1,g2⟩:=BB.bwd w1 hp h2
 have:=sum_ge w1 BA BB h0 f1 g1
 have h3':val s d+(val (stS k) (stD k)+cst ds)+val t u=val s0 d0:=h3
 have hk:=(val_st k).1
 have z1:0<=val s d:=by obtain ⟨n1,n2,_⟩:=BA.small h1;unfold val;omega
 have z2:0<=val t u:=by obtain ⟨n1,n2,_⟩:=BB.small h2;unfold val;omega
 exact ⟨r,e,⟨hp,s1,d1,t,u,f1,h2,by omega⟩,fun hpos=>⟨s1,d1,t1,u1,f1,g1,by omega,by omega,by omega⟩⟩
theorem Tgt.least (w1:1<=W)(BA:Best (Edge W H bl) a F)(BB:Best (Edge W H bl) b G){s0 d0:Int}(h0:F b=some (s0,d0)){p q:Int}{ds ds':List Nat}(h:Tgt W H bl F G (val s0 d0) p ds q)(h':Pth W H bl p ds' q):cst ds<=cst ds':=by
 obtain ⟨_,s,d,t,u,h1,h2,h3⟩:=h
 obtain ⟨s1,d1,f1,f2⟩:=BA.fwd h' h1
 have:=sum_ge w1 BA BB h0 f1 h2
 omega
theorem val_even {k:Nat}(h:k % 2=0):val (stS k) (stD k)=38613965:=by unfold val stS stD;rw [h];decide
theorem val_odd {k:Nat}(h:k % 2=1):val (stS k) (stD k)=54608393:=by unfold val stS stD;rw [h];decide
theorem Edge.place (w1:1<=W){p r:Int}{k:Nat}(e:Edge W H bl p k r):r % W=p % W+stepX k/\r / W=p / W+stepY k:=by
 obtain ⟨_,_,h3,h4⟩:=e
 obtain ⟨_,o2,_,_⟩:=may_parts h3
 obtain ⟨a1,a2,a3,a4⟩:=open_in o2
 have e:p+(stepY k*W+stepX k)=(p / W+stepY k)*W+(p % W+stepX k):=by
  have:=cell_eq W p
  rw [Int.add_mul]
  omega
 obtain ⟨p1,p2,p3⟩:=place_to (H:=H) w1 a1 a2 a3 a4
 rw [h4,e,p2,p3]
 exact ⟨rfl,rfl⟩
theorem Tgt.two (w1:1<=W)(BA:Best (Edge W H bl) a F)(BB:Best (Edge W H bl) b G){s0 d0:Int}(h0:F b=some (s0,d0))(hC:∀ p,OnW F G (val s0 d0) p->¬ Corn W H bl (p % W) (p / W))
  {p q:Int}{d e:Nat}{ds:List Nat}(h:Tgt W H bl F G (val s0 d0) p (d::e::ds) q):e=d\/((e=(d+1) % 8\/e=(d+7) % 8)/\Tgt W H bl F G (val s0 d0) p (e::d::ds) q):=by
 obtain ⟨r,e1,hr,onr⟩:=h.tail w1 BA BB h0
 obtain ⟨z,e2,hz,_⟩:=hr.tail w1 BA BB h0
 have hnc:=hC r (onr (by have:=(val_st e).1;have:=cst_nonneg ds;show 0<val (stS e) (stD e)+cst ds;omega))
 obtain ⟨x1,y1⟩:=e1.place w1
 have hd:=e1.1
 have he:=e2.1
 have m1:=e1.2.2.1
 have m2:=e2.2.2.1
 have ip:=e1.2.1
 have zr:=e1.2.2.2
 have zz:=e2.2.2.2
 rw [x1,y1] at hnc m2
 have vd:=val_st d
 have ve:=val_st e
 have hcs:cst (d::e::ds)=val (stS d) (stD d)+(val (stS e) (stD e)+cst ds):=rfl
 have oneStep:∀ k,k<8->mayB W H bl (p % W) (p / W) k=true->stepX k=stepX d+stepX e->stepY k=stepY d+stepY e->Edge W H bl p k z:=fun k hk hm hx hy=>⟨hk,ip,hm,by rw [zz,zr,hx,hy,Int.add_mul];omega⟩
 have hcase:e=d\/(e=(d+1) % 8\/e=(d+7) % 8)\/(e=(d+2) % 8\/e=(d+6) % 8)\/(e=(d+3) % 8\/e=(d+5) % 8)\/e=(d+4) % 8:=by omega
 rcases hcase with h1|h1|h1|h1|h1
 ·exact Or.inl h1
 ·right
  refine ⟨h1,?_⟩
  rcases turn1 hd h1 m1 m2 with hc|⟨n1,n2⟩
  ·exact absurd hc hnc
  ·have e3:Edge W H bl p e (p+(stepY e*W+stepX e)):=⟨he,ip,n1,rfl⟩
   have e4:Edge W H bl (p+(stepY e*W+stepX e)) d z:=by
    obtain ⟨x3,y3⟩:=e3.place w1
    exact ⟨hd,e3.in' w1,by rw [x3,y3];exact n2,by rw [zz,zr];omega⟩
   obtain ⟨_,s,d',t,u,f1,f2,f3⟩:=h
   refine ⟨⟨_,e3,z,e4,hz.1⟩,s,d',t,u,f1,f2,?_⟩
   rw [hcs] at f3
   show val s d'+(val (stS e) (stD e)+(val (stS d) (stD d)+cst ds))+val t u=_
   omega
 ·exfalso
  by_cases hp:d % 2=0
  ·rcases turn2s hd hp h1 m1 m2 with hc|⟨k,k1,k2,k3,k4,k5⟩
   ·exact hnc hc
   ·have:=h.least w1 BA BB h0 (ds':=k::ds) ⟨z,oneStep k k1 k3 k4 k5,hz.1⟩
    have c1:=val_odd k2
    have c2:=val_even hp
    have c3:val (stS e) (stD e)=38613965:=val_even (by omega)
    have:cst (k::ds)=val (stS k) (stD k)+cst ds:=rfl
    omega
  ·have hp1:d % 2=1:=by omega
   obtain ⟨k,k1,k2,k3,k4,k5,k6⟩:=turn2d hd hp1 h1 m1 m2
   have e3:Edge W H bl p k (p+(stepY k*W+stepX k)):=⟨k1,ip,k3,rfl⟩
   have e4:Edge W H bl (p+(stepY k*W+stepX k)) k z:=by
    obtain ⟨x3,y3⟩:=e3.place w1
    refine ⟨k1,e3.in' w1,by rw [x3,y3];exact k4,?_⟩
    have hW:stepY k*W+stepY k*W=stepY d*W+stepY e*W:=by rw [<- Int.add_mul,<- Int.add_mul,k6]
    rw [zz,zr];omega
   have:=h.least w1 BA BB h0 (ds':=k::k::ds) ⟨_,e3,z,e4,hz.1⟩
   have c1:=val_even k2
   have c2:=val_odd hp1
   have c3:val (stS e) (stD e)=54608393:=val_odd (by omega)
   have:cst (k::k::ds)=val (stS k) (stD k)+(val (stS k) (stD k)+cst ds):=rfl
   omega
 ·exfalso
  obtain ⟨k,k1,k2,k3,k4,k5⟩:=turn3 hd h1 m1 m2
  have:=h.least w1 BA BB h0 (ds':=k::ds) ⟨z,oneStep k k1 k3 k4 k5,hz.1⟩
  have c1:=val_even k2
  have:cst (k::ds)=val (stS k) (stD k)+cst ds:=rfl
  have c2:38613965<=val (stS d) (stD d):=by
   by_cases hp:d % 2=0
   ·rw [val_even hp];decide
   ·rw [val_odd (by omega)];decide
  omega
 ·exfalso
  have ho:e=opp d:=by unfold opp;exact h1
  obtain ⟨g1,g2⟩:=opp_step d hd
  have hzp:z=p:=by rw [zz,zr,ho,g1,g2,Int.neg_mul];omega
  have:=h.least w1 BA BB h0 (ds':=ds) (by rw [<- hzp];exact hz.1)
  omega
theorem split_run (f:Nat):∀ l:List Nat,(∀ x ∈ l,x=f)\/∃ j g rest,l=List.replicate j f++g::rest/\g≠f
 |[]=>Or.inl (fun _ h=>by cases h)
 |x::l=>by
  by_cases e:x=f
  ·rcases split_run f l with h|⟨j,g,rest,h1,h2⟩
   ·exact Or.inl (fun y hy=>(List.mem_cons.1 hy).elim (fun q=>by rw [q];exact e) (fun hy=>h y hy))
   ·exact Or.inr ⟨j+1,g,rest,by rw [h1,e];rfl,h2⟩
  ·exact Or.inr ⟨0,x,l,rfl,e⟩
theorem Tgt.slide (w1:1<=W)(BA:Best (Edge W H bl) a F)(BB:Best (Edge W H bl) b G){s0 d0:Int}(h0:F b=some (s0,d0))(hC:∀ p,OnW F G (val s0 d0) p->¬ Corn W H bl (p % W) (p / W)){c m:Nat}(hcm:c≠m) :
  ∀ (j:Nat) {p q:Int}{rest:List Nat},Tgt W H bl F G (val s0 d0) p (c::(List.replicate j m++rest)) q->∃ p',Tgt W H bl F G (val s0 d0) p' (c::rest) q
 |0,p,_,_,h=>⟨p,h⟩
 |j+1,p,q,rest,h=>by
  have h':Tgt W H bl F G (val s0 d0) p (c::m::(List.replicate j m++rest)) q:=h
  rcases h'.two w1 BA BB h0 hC with e|⟨_,h2⟩
  ·exact absurd e.symm hcm
  ·obtain ⟨r,_,hr,_⟩:=h2.tail w1 BA BB h0
   exact Tgt.slide w1 BA BB h0 hC hcm j hr
theorem Tgt.within (w1:1<=W)(BA:Best (Edge W H bl) a F)(BB:Best (Edge W H bl) b G){s0 d0:Int}(h0:F b=some (s0,d0))(hC:∀ p,OnW F G (val s0 d0) p->¬ Corn W H bl (p % W) (p / W)) :
  ∀ {ds:List Nat}{p q:Int},Tgt W H bl F G (val s0 d0) p ds q->∃ k,k<8/\∀ d ∈ ds,d=k\/d=(k+1) % 8
 |[],_,_,_=>⟨0,by decide,fun _ h=>by cases h⟩
 |[d],p,q,h=>by
  obtain ⟨r,e,_⟩:=h.tail w1 BA BB h0
  exact ⟨d,e.1,fun x hx=>Or.inl (by simpa using hx)⟩
 |d::f::ds,p,q,h=>by
  obtain ⟨r,e,hr,_⟩:=h.tail w1 BA BB h0
  obtain ⟨k,k1,k2⟩:=Tgt.within w1 BA BB h0 hC hr
  have hd:=e.1
  have hf:=k2 f (by simp)
  by_cases hdk:d=k\/d=(k+1) % 8
  ·exact ⟨k,k1,fun x hx=>(List.mem_cons.1 hx).elim (fun q=>by rw [q];exact hdk) (fun hx=>k2 x hx)⟩
  ·have adj:f=d\/(f=(d+1) % 8\/f=(d+7) % 8):=by
    rcases h.two w1 BA BB h0 hC with h1|⟨h1,_⟩
    ·exact Or.inl h1
    ·exact Or.inr h1
   have hfd:f≠d:=fun q=>hdk (q ▸ hf)
   rcases split_run f (f::ds) with hall|⟨j,g,rest,hl,hg⟩
   ·rcases adj with h1|h1|h1
    ·exact absurd h1 hfd
    ·exact ⟨d,hd,fun x hx=>(List.mem_cons.1 hx).elim (fun q=>by rw [q];exact Or.inl rfl) (fun hx=>Or.inr ((hall x hx).trans h1))⟩
    ·refine ⟨f,by omega,fun x hx=>?_⟩
     rcases List.mem_cons.1 hx with rfl|hx
     ·exact Or.inr (by omega)
     ·exact Or.inl (hall x hx)
   ·rw [hl] at h
    obtain ⟨p',h2⟩:=Tgt.slide w1 BA BB h0 hC (fun q=>hfd q.symm) j h
    have hgk:=k2 g (by rw [hl];simp)
    have adj2:g=d\/(g=(d+1) % 8\/g=(d+7) % 8):=by
     rcases h2.two w1 BA BB h0 hC with h1|⟨h1,_⟩
     ·exact Or.inl h1
     ·exact Or.inr h1
    exfalso
    omega
theorem Pth.count (w1:1<=W){k:Nat}:∀ {ds:List Nat}{p q:Int},Pth W H bl p ds q->(∀ d ∈ ds,d=k\/d=(k+1) % 8) ->
  ∃ m n:Nat,q % W=p % W+m*stepX k+n*stepX ((k+1) % 8)/\q / W=p / W+m*stepY k+n*stepY ((k+1) % 8)/\cst ds=m*val (stS k) (stD k)+n*val (stS ((k+1) % 8)) (stD ((k+1) % 8))
 |[],p,q,h,_=>⟨0,0,by rw [<- (show p=q from h)];simp,by rw [<- (show p=q from h)];simp,by show (0:Int)=_;simp⟩
 |d::ds,p,q,⟨r,e,h⟩,hd=>by
  obtain ⟨m,n,h1,h2,h3⟩:=Pth.count w1 h (fun x hx=>hd x (List.mem_cons_of_mem _ hx))
  obtain ⟨x1,y1⟩:=e.place w1
  have hc:cst (d::ds)=val (stS d) (stD d)+cst ds:=rfl
  rcases hd d (by simp) with rfl|rfl
  ·refine ⟨m+1,n,?_,?_,?_⟩
   ·rw [h1,x1,Int.natCast_add,Int.add_mul];omega
   ·rw [h2,y1,Int.natCast_add,Int.add_mul];omega
   ·rw [hc,h3,Int.natCast_add,Int.add_mul];omega
  ·refine ⟨m,n+1,?_,?_,?_⟩
   ·rw [h1,x1,Int.natCast_add,Int.add_mul];omega
   ·rw [h2,y1,Int.natCast_add,Int.add_mul];omega
   ·rw [hc,h3,Int.natCast_add,Int.add_mul];omega
theorem Pth.octile (w1:1<=W){k:Nat}(hk:k<8){ds:List Nat}{p q:Int}(h:Pth W H bl p ds q)(hd:∀ d ∈ ds,d=k\/d=(k+1) % 8) :
  cst ds=val (dst (dst (p % W) (q % W)) (dst (p / W) (q / W))) (les (dst (p % W) (q % W)) (dst (p / W) (q / W))):=by
 obtain ⟨m,n,h1,h2,h3⟩:=h.count w1 hd
 rw [h3,h1,h2]
 generalize p % W=x
 generalize p / W=y
 have v0:∀ j:Nat,j % 2=0->val (stS j) (stD j)=38613965:=fun j hj=>val_even hj
 have v1:∀ j:Nat,j % 2=1->val (stS j) (stD j)=54608393:=fun j hj=>val_odd hj
 rcases k8 hk with rfl|rfl|rfl|rfl|rfl|rfl|rfl|rfl <;> simp [sx0,sx1,sx2,sx3,sx4,sx5,sx6,sx7,sy0,sy1,sy2,sy3,sy4,sy5,sy6,sy7,v0,v1] <;> unfold val dst les <;> (repeat' split) <;> omega
theorem corner_on (w1:1<=W)(BA:Best (Edge W H bl) a F)(BB:Best (Edge W H bl) b G){s0 d0:Int}(h0:F b=some (s0,d0))
  (hn:val s0 d0≠val (dst (dst (a % W) (b % W)) (dst (a / W) (b / W))) (les (dst (a % W) (b % W)) (dst (a / W) (b / W)))) :
  ∃ p s d t u,F p=some (s,d)/\G p=some (t,u)/\s+t=s0/\d+u=d0/\0<val s d/\0<val t u/\Corn W H bl (p % W) (p / W):=by
 apply Classical.byContradiction
 intro hno
 have hC:∀ p,OnW F G (val s0 d0) p->¬ Corn W H bl (p % W) (p / W):=by
  rintro p ⟨s,d,t,u,h1,h2,h3,h4,h5⟩ hc
  obtain ⟨a1,a2,a3⟩:=BA.small h1
  obtain ⟨b1,b2,b3⟩:=BB.small h2
  obtain ⟨c1,c2,c3⟩:=BA.small h0
  have sa:=val_small a1 a2 a3
  have sb:=val_small b1 b2 b3
  have sc:=val_small c1 c2 c3
  rw [<- val_add] at h3
  obtain ⟨q1,q2⟩:=val_inj (s+t) (d+u) s0 d0 (by omega) (by omega) h3
  exact hno ⟨p,s,d,t,u,h1,h2,q1,q2,h4,h5,hc⟩
 obtain ⟨ds,hp,hc⟩:=(BA.sound h0).path
 have hT:Tgt W H bl F G (val s0 d0) a ds b:=⟨hp,0,0,0,0,BA.home,BB.home,by rw [hc];have:val 0 0=0:=(by decide);omega⟩
 obtain ⟨k,k1,k2⟩:=hT.within w1 BA BB h0 hC
 exact hn (by rw [<- hc];exact hp.octile w1 k1 k2)
end
section
def octS (W a b:Int):Int:=dst (dst (a % W) (b % W)) (dst (a / W) (b / W))
def octD (W a b:Int):Int:=les (dst (a % W) (b % W)) (dst (a / W) (b / W))
def NearF (W:Int) (Fl:Int->Int->Option (Int × Int)) (a b:Int):Prop:=Fl a b=some (octS W a b,octD W a b)
def CornC (W H:Int) (bl:Nat->Bool) (c:Int):Prop:=Corn W H bl (c % W) (c / W)
def DirF (W H:Int) (bl:Nat->Bool) (Fl:Int->Int->Option (Int × Int)) (a b:Int):Prop :=
 NearF W Fl a b/\∀ k s d t u,CornC W H bl k->k≠a->k≠b->Fl a k=some (s,d)->Fl b k=some (t,u)->¬ (s+t=octS W a b/\d+u=octD W a b)
def Chn (P:Int->Int->Prop):Int->List Int->Int->Prop
 |a,[],b=>a=b
 |a,c::l,b=>P a c/\Chn P c l b
def sumS (W:Int):Int->List Int->Int
 |_,[]=>0
 |a,c::l=>octS W a c+sumS W c l
def sumD (W:Int):Int->List Int->Int
 |_,[]=>0
 |a,c::l=>octD W a c+sumD W c l
theorem Chn.app {P:Int->Int->Prop}{W:Int}:∀ {l1 l2:List Int}{a c b:Int},Chn P a l1 c->Chn P c l2 b->Chn P a (l1++l2) b/\sumS W a (l1++l2)=sumS W a l1+sumS W c l2/\sumD W a (l1++l2)=sumD W a l1+sumD W c l2
 |[],l2,a,c,b,h,k=>by
  have e:a=c:=h
  subst e
  exact ⟨k,(Int.zero_add _).symm,(Int.zero_add _).symm⟩
 |x::l1,l2,a,c,b,⟨h1,h2⟩,k=>by
  obtain ⟨g1,g2,g3⟩:=Chn.app (W:=W) h2 k
  refine ⟨⟨h1,g1⟩,?_,?_⟩
  ·show octS W a x+sumS W x (l1++l2)=octS W a x+sumS W x l1+sumS W c l2;omega
  ·show octD W a x+sumD W x (l1++l2)=octD W a x+sumD W x l1+sumD W c l2;omega
variable {W H : Int} {bl : Nat → Bool} {Fl : Int → Int → Option (Int × Int)}
theorem val_zero {E:Int->Nat->Int->Prop}{o a s d:Int}(h:Wk E o a s d)(hv:val s d<=0):a=o:=by
 rcases h.inv with ⟨h1,_⟩|⟨a',s',d',k,h1,_,h2,h3⟩
 ·exact h1
 ·obtain ⟨n1,n2⟩:=h1.nonneg
  have:=(val_st k).1
  rw [h2,h3,val_add] at hv
  have:0<=val s' d':=by unfold val;omega
  omega
end
section
def Good (x y u v:Int) (k:Nat):Prop :=
 dst (dst (x+stepX k) u) (dst (y+stepY k) v)+stS k=dst (dst x u) (dst y v)/\les (dst (x+stepX k) u) (dst (y+stepY k) v)+stD k=les (dst x u) (dst y v)
end
section
variable {W H : Int} {bl : Nat → Bool}
def octV (W a b:Int):Int:=val (octS W a b) (octD W a b)
theorem dst_comm (a b:Int):dst a b=dst b a:=by unfold dst;split <;> split <;> omega
theorem octS_comm (W a b:Int):octS W a b=octS W b a:=by unfold octS;rw [dst_comm (a % W),dst_comm (a / W)]
theorem octD_comm (W a b:Int):octD W a b=octD W b a:=by unfold octD;rw [dst_comm (a % W),dst_comm (a / W)]
theorem octV_comm (W a b:Int):octV W a b=octV W b a:=by unfold octV;rw [octS_comm,octD_comm]
theorem dst_self (a:Int):dst a a=0:=by unfold dst;split <;> omega
theorem octS_self (W a:Int):octS W a a=0:=by unfold octS;rw [dst_self,dst_self];rfl
theorem octD_self (W a:Int):octD W a a=0:=by unfold octD;rw [dst_self,dst_self];rfl
theorem dst_nonneg (a b:Int):0<=dst a b:=by unfold dst;split <;> omega
theorem octS_nonneg (W a b:Int):0<=octS W a b:=dst_nonneg _ _
theorem octD_nonneg (W a b:Int):0<=octD W a b:=by
 unfold octD les
 have:=dst_nonneg (a % W) (b % W)
 have:=dst_nonneg (a / W) (b / W)
 split <;> omega
theorem val_nonneg {s d:Int}(h:0<=s)(k:0<=d):0<=val s d:=by unfold val;omega
theorem oct_lin (X Y:Int):38613965*X+15994428*Y<=val (dst X Y) (les X Y)/\38613965*Y+15994428*X<=val (dst X Y) (les X Y)/\(val (dst X Y) (les X Y)=38613965*X+15994428*Y\/val (dst X Y) (les X Y)=38613965*Y+15994428*X):=by
 unfold val dst les
 split <;> omega
theorem dst_tri (a b c:Int):dst a c<=dst a b+dst b c:=by unfold dst;split <;> split <;> split <;> omega
theorem oct_tri (W a b c:Int):octV W a c<=octV W a b+octV W b c:=by
 unfold octV octS octD
 have h1:=dst_tri (a % W) (b % W) (c % W)
 have h2:=dst_tri (a / W) (b / W) (c / W)
 generalize dst (a % W) (c % W)=X at *
 generalize dst (a / W) (c / W)=Y at *
 generalize dst (a % W) (b % W)=X1 at *
 generalize dst (a / W) (b / W)=Y1 at *
 generalize dst (b % W) (c % W)=X2 at *
 generalize dst (b / W) (c / W)=Y2 at *
 obtain ⟨a1,a2,a3⟩:=oct_lin X Y
 obtain ⟨b1,b2,b3⟩:=oct_lin X1 Y1
 obtain ⟨c1,c2,c3⟩:=oct_lin X2 Y2
 clear b3 c3
 rcases a3 with a3|a3 <;> omega
theorem oct_low' {o a s d:Int}(w1:1<=W)(h:Wk (Edge W H bl) o a s d):octV W o a<=val s d:=oct_low w1 h
theorem wk_edge {p r:Int}{k:Nat}(e:Edge W H bl p k r):Wk (Edge W H bl) p r (stS k) (stD k):=by
 have:=(Wk.nil (E:=Edge W H bl) (o:=p)).step e
 rwa [Int.zero_add,Int.zero_add] at this
theorem good_iff (w1:1<=W){p r t:Int}{k:Nat}(e:Edge W H bl p k r):Good (p % W) (p / W) (t % W) (t / W) k↔octS W r t+stS k=octS W p t/\octD W r t+stD k=octD W p t:=by
 obtain ⟨h1,h2⟩:=e.place w1
 unfold Good octS octD
 rw [h1,h2]
def Tw (W H:Int) (bl:Nat->Bool) (a t p:Int):Prop :=
 ∀ R:Int->Prop,R a->(∀ p k r,R p->Edge W H bl p k r->Good (p % W) (p / W) (t % W) (t / W) k->R r)->R p
theorem Tw.nil {a t:Int}:Tw W H bl a t a:=fun _ h _=>h
theorem Tw.step {a t p r:Int}{k:Nat}(h:Tw W H bl a t p)(e:Edge W H bl p k r)(g:Good (p % W) (p / W) (t % W) (t / W) k):Tw W H bl a t r:=fun R h0 hs=>hs _ _ _ (h R h0 hs) e g
theorem Tw.walk (w1:1<=W){a t p:Int}(h:Tw W H bl a t p):∃ s d,Wk (Edge W H bl) a p s d/\s+octS W p t=octS W a t/\d+octD W p t=octD W a t:=by
 refine h (fun p=>∃ s d,Wk (Edge W H bl) a p s d/\s+octS W p t=octS W a t/\d+octD W p t=octD W a t) ⟨0,0,Wk.nil,Int.zero_add _,Int.zero_add _⟩ ?_
 rintro p k r ⟨s,d,hw,h1,h2⟩ e g
 obtain ⟨g1,g2⟩:=(good_iff w1 e).1 g
 exact ⟨_,_,hw.step e,by omega,by omega⟩
theorem octD_le {W a b:Int}:octD W a b*54608393<=octV W a b:=by
 have:=octS_nonneg W a b
 have:=octD_nonneg W a b
 unfold octV val
 omega
theorem Tw.of_walk (w1:1<=W){a t p s d:Int}(hb:octD W a t<=1000)(hs:octS W a t<=1000)(h:Wk (Edge W H bl) a p s d)(hv:val s d+octV W p t<=octV W a t):Tw W H bl a t p:=by
 refine h.ind (R:=fun p s d=>val s d+octV W p t<=octV W a t->Tw W H bl a t p) (fun _=>Tw.nil) ?_ hv
 intro p s d k r hw ih e hv
 have e1:=oct_low' w1 (wk_edge e)
 have e2:=oct_tri W p r t
 have e3:=oct_tri W a p t
 have e4:=oct_low' w1 hw
 rw [val_add] at hv
 have hp:val s d+octV W p t<=octV W a t:=by omega
 have heq:octV W r t+val (stS k) (stD k)=octV W p t:=by omega
 have hle:octV W p t<=octV W a t:=by
  obtain ⟨n1,n2⟩:=hw.nonneg
  have:=val_nonneg n1 n2
  omega
 have m1:=octD_le (W:=W) (a:=p) (b:=t)
 have m2:=octD_le (W:=W) (a:=r) (b:=t)
 have m3:=octD_nonneg W p t
 have m4:=octD_nonneg W r t
 have m5:octV W a t<=93222358000:=by unfold octV val;omega
 have m6:=val_nonneg (octS_nonneg W r t) m4
 have m7:=(val_st k).1
 have c3:=st_bd k
 have q:val (octS W r t+stS k) (octD W r t+stD k)=val (octS W p t) (octD W p t):=by rw [val_add];exact heq
 obtain ⟨q1,q2⟩:=val_inj _ _ _ _ (by omega) (by omega) q
 exact (ih hp).step e ((good_iff w1 e).2 ⟨q1,q2⟩)
def On (W H:Int) (bl:Nat->Bool) (a b k:Int):Prop:=Tw W H bl a b k/\Tw W H bl b a k
theorem oct_small {a b:Int}(w1:1<=W)(w2:W<=16)(h1:1<=H)(h2:H<=16)(ha:inB W H a=true)(hb:inB W H b=true):octS W a b<=16/\octD W a b<=16:=by
 have ha:0<=a/\a<W*H:=of_decide_eq_true ha
 have hb:0<=b/\b<W*H:=of_decide_eq_true hb
 have p1:=Int.emod_nonneg a (show W≠0 by omega)
 have p2:=Int.emod_lt_of_pos a (show 0<W by omega)
 have p3:=Int.emod_nonneg b (show W≠0 by omega)
 have p4:=Int.emod_lt_of_pos b (show 0<W by omega)
 have q1:0<=a / W:=Int.ediv_nonneg ha.1 (by omega)
 have q2:0<=b / W:=Int.ediv_nonneg hb.1 (by omega)
 have q3:a / W<H:=Int.ediv_lt_of_lt_mul (by omega) (by rw [Int.mul_comm];exact ha.2)
 have q4:b / W<H:=Int.ediv_lt_of_lt_mul (by omega) (by rw [Int.mul_comm];exact hb.2)
 unfold octS octD
 generalize a % W=ax at *
 generalize a / W=ay at *
 generalize b % W=bx at *
 generalize b / W=by' at *
 have r1:dst ax bx<=16/\0<=dst ax bx:=by unfold dst;split <;> omega
 have r2:dst ay by'<=16/\0<=dst ay by':=by unfold dst;split <;> omega
 generalize dst ax bx=X at *
 generalize dst ay by'=Y at *
 unfold dst les
 constructor <;> split <;> omega
theorem pair_eq {s d t u:Int}(h1:0<=d)(h2:0<=s)(h3:0<=u)(h4:u<=1000)(h:val s d=val t u)(ht:t<=1000):s=t/\d=u:=by
 have h5:val t u<=93222358000:=by unfold val;omega
 have h6:54608393*d<=val s d:=by unfold val;omega
 have h7:d<=2000:=by
  rw [h] at h6
  clear h
  generalize val t u=x at *
  omega
 exact val_inj s d t u (by omega) (by omega) h
theorem On.walks (w1:1<=W){a b k:Int}(hS:octS W a b<=1000)(hD:octD W a b<=1000)(h:On W H bl a b k) :
  Wk (Edge W H bl) a k (octS W a k) (octD W a k)/\Wk (Edge W H bl) b k (octS W b k) (octD W b k)/\octS W a k+octS W b k=octS W a b/\octD W a k+octD W b k=octD W a b:=by
 obtain ⟨s,d,hw,e1,e2⟩:=h.1.walk w1
 obtain ⟨t,u,hx,f1,f2⟩:=h.2.walk w1
 have a1:=oct_low' w1 hw
 have a2:=oct_low' w1 hx
 have a3:=oct_tri W a k b
 have e3:val s d+octV W k b=octV W a b:=by unfold octV;rw [<- val_add,e1,e2]
 have f3:val t u+octV W k a=octV W b a:=by unfold octV;rw [<- val_add,f1,f2]
 rw [octV_comm W b a] at f3
 rw [octV_comm W k b] at e3
 rw [octV_comm W k a] at f3
 rw [octV_comm W k b] at a3
 have v1:val s d=octV W a k:=by omega
 have v2:val t u=octV W b k:=by omega
 obtain ⟨n1,n2⟩:=hw.nonneg
 obtain ⟨n3,n4⟩:=hx.nonneg
 have o1:=octS_nonneg W k b
 have o2:=octD_nonneg W k b
 have o3:=octS_nonneg W k a
 have o4:=octD_nonneg W k a
 rw [octS_comm W b a] at f1
 rw [octD_comm W b a] at f2
 have p1:=pair_eq (octD_nonneg W a k) (octS_nonneg W a k) n2 (by omega) v1.symm (by omega)
 have p2:=pair_eq (octD_nonneg W b k) (octS_nonneg W b k) n4 (by omega) v2.symm (by omega)
 rw [octS_comm W k b] at e1
 rw [octD_comm W k b] at e2
 rw [p1.1,p1.2]
 refine ⟨hw,by rw [p2.1,p2.2];exact hx,by omega,by omega⟩
theorem On.of_walks (w1:1<=W){a b k s d t u:Int}(hS:octS W a b<=1000)(hD:octD W a b<=1000)(hw:Wk (Edge W H bl) a k s d)(hx:Wk (Edge W H bl) b k t u)(h1:s+t=octS W a b)(h2:d+u=octD W a b):On W H bl a b k:=by
 have a1:=oct_low' w1 hw
 have a2:=oct_low' w1 hx
 have a3:=oct_tri W a k b
 have e3:val s d+val t u=octV W a b:=by unfold octV;rw [<- val_add,h1,h2]
 refine ⟨Tw.of_walk w1 hD hS hw ?_,Tw.of_walk w1 (by rw [octD_comm];exact hD) (by rw [octS_comm];exact hS) hx ?_⟩
 ·rw [octV_comm W k b];omega
 ·rw [octV_comm W b a,octV_comm W k a]
  rw [octV_comm W k b] at a3
  omega
section
variable {F G : Int → Option (Int × Int)} {a b : Int}
theorem best_oct (w1:1<=W)(BA:Best (Edge W H bl) a F){k:Int}(h:Wk (Edge W H bl) a k (octS W a k) (octD W a k)):F k=some (octS W a k,octD W a k):=by
 obtain ⟨s,d,h1,h2⟩:=BA.least h
 have h3:=oct_low' w1 (BA.sound h1)
 obtain ⟨b1,b2,b3⟩:=BA.small h1
 have c2:=val_small b1 b2 b3
 have v:val (octS W a k) (octD W a k)=val s d:=by unfold octV at h3;omega
 obtain ⟨e1,e2⟩:=pair_eq (octD_nonneg W a k) (octS_nonneg W a k) b2 (by omega) v (by omega)
 rw [h1,e1,e2]
theorem on_iff (w1:1<=W)(hS:octS W a b<=1000)(hD:octD W a b<=1000)(BA:Best (Edge W H bl) a F)(BB:Best (Edge W H bl) b G)(k:Int) :
  On W H bl a b k↔∃ s d t u,F k=some (s,d)/\G k=some (t,u)/\s+t=octS W a b/\d+u=octD W a b:=by
 constructor
 ·intro h
  obtain ⟨h1,h2,h3,h4⟩:=h.walks w1 hS hD
  exact ⟨_,_,_,_,best_oct w1 BA h1,best_oct w1 BB h2,h3,h4⟩
 ·rintro ⟨s,d,t,u,h1,h2,h3,h4⟩
  exact On.of_walks w1 hS hD (BA.sound h1) (BB.sound h2) h3 h4
end
section
variable {a b : Int}
theorem On.ends (w1:1<=W){k:Int}(hS:octS W a b<=1000)(hD:octD W a b<=1000)(h:On W H bl a b k):On W H bl a b a/\On W H bl a b b/\Wk (Edge W H bl) a b (octS W a b) (octD W a b):=by
 obtain ⟨h1,h2,h3,h4⟩:=h.walks w1 hS hD
 have hj:=Wk.join h1 (h2.back (Edge.back w1))
 rw [h3,h4] at hj
 exact ⟨On.of_walks w1 hS hD Wk.nil (hj.back (Edge.back w1)) (Int.zero_add _) (Int.zero_add _),On.of_walks w1 hS hD hj Wk.nil (Int.add_zero _) (Int.add_zero _),hj⟩
theorem On.of_near (w1:1<=W)(hS:octS W a b<=1000)(hD:octD W a b<=1000)(h:Wk (Edge W H bl) a b (octS W a b) (octD W a b)):On W H bl a b b :=
 On.of_walks w1 hS hD h Wk.nil (Int.add_zero _) (Int.add_zero _)
theorem On.next (w1:1<=W){k:Int}(hS:octS W a b<=1000)(hD:octD W a b<=1000)(h:On W H bl a b k)(hne:k≠b):∃ j r,Edge W H bl k j r/\Good (k % W) (k / W) (b % W) (b / W) j/\On W H bl a b r:=by
 obtain ⟨h1,h2,h3,h4⟩:=h.walks w1 hS hD
 rcases h2.inv with ⟨e,_⟩|⟨r,t',u',j,hr,er,e1,e2⟩
 ·exact absurd e hne
 ·obtain ⟨j',er',f1,f2⟩:=Edge.back w1 _ _ _ er
  have hon:=On.of_walks w1 hS hD (h1.step er') hr (by omega) (by omega)
  obtain ⟨g1,g2,g3,g4⟩:=hon.walks w1 hS hD
  refine ⟨j',r,er',(good_iff w1 er').2 ?_,hon⟩
  have q:=oct_low' w1 hr
  have q2:=oct_low' w1 (h1.step er')
  have q3:val (octS W a k+stS j') (octD W a k+stD j')+val t' u'=octV W a r+octV W b r:=by
   unfold octV
   rw [<- val_add,<- val_add]
   congr 1 <;> omega
  have q4:val (octS W b r) (octD W b r)=val t' u':=by unfold octV at q q2 q3;omega
  obtain ⟨n1,n2⟩:=hr.nonneg
  have:=octS_nonneg W a k
  have:=octD_nonneg W a k
  have:=st_bd j
  obtain ⟨z1,z2⟩:=pair_eq (octD_nonneg W b r) (octS_nonneg W b r) n2 (by omega) q4 (by omega)
  rw [octS_comm W r b,octD_comm W r b,octS_comm W k b,octD_comm W k b]
  omega
end
def Cand (W H:Int) (bl:Nat->Bool) (a b p:Int) (k:Nat) (r:Int):Prop:=Edge W H bl p k r/\Good (p % W) (p / W) (b % W) (b / W) k/\On W H bl a b r
def Chosen (W H:Int) (bl:Nat->Bool) (a b p:Int) (k:Nat) (r:Int):Prop:=Cand W H bl a b p k r/\(k % 2=0->∀ j q,j % 2=1->¬ Cand W H bl a b p j q)
def WSt (W H:Int) (bl:Nat->Bool) (a b p r:Int):Prop:=∃ k,Chosen W H bl a b p k r
theorem Chn.snoc {P:Int->Int->Prop}:∀ {l:List Int}{a c r:Int},Chn P a l c->P c r->Chn P a (l++[r]) r
 |[],a,c,r,h,k=>by
  have e:a=c:=h
  subst e
  exact ⟨k,rfl⟩
 |x::l,a,c,r,⟨h1,h2⟩,k=>⟨h1,Chn.snoc h2 k⟩
end
end Go.Proofs.YtmaefimaeelkbaaGreatDoor
