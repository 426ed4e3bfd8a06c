/-
  Texts laid together: AsAid, Edge, TopFloodM, TurnM.
-/
import Derived.Test.YtipbhlofbpnpjaaGreatDoorQ4
import Derived.Test.YtipbhlofbpnpjaaGreatDoorQ1
import Derived.Test.YtipbhlofbpnpjaaGreatDoorQ2
import Derived.Deep.LoopGhost
import Derived.Deep.Light
import Derived.Deep.RegionWith
namespace Go.Proofs.YtipbhlofbpnpjaaGreatDoor
section
open Go.RowKit
theorem rto_v {b:Nat}{W H V c r:Int}{bl:Nat->Bool}{d:Nat}(hr:c+(stepY d*W+stepX d)=r) (w:World) (g:RefAt w b W H V bl) (hd:d < 8) (c1:-1000<=c) (c2:c<=1000) :
  Calls Tryz.prog 35 #[.pointer (some ⟨b,0,none⟩),.int .i64 c,.int .i64 d] w fun e w'=>e=.returned (.int .i64 r)/\w'=w:=by
 have:=rto_any c d w g hd c1 c2
 rw [show c+stepX d+stepY d*W=r from by omega] at this
 exact this
theorem to_v {b:Nat}{W H V c r:Int}{bl:Nat->Bool}{d:Nat}(hr:c+(stepY d*W+stepX d)=r) (w:World) (g:GridAt w b W H V bl) (s:StepsAt w) (hd:d < 8) (c1:-1000<=c) (c2:c<=1000) :
  Calls Tryz.prog 144 #[.pointer (some ⟨b,0,none⟩),.int .i64 c,.int .i64 d] w fun e w'=>e=.returned (.int .i64 r)/\∃ m,w'=w.drewN m:=hr ▸ to_any c d w g s hd c1 c2
end
section
open Go.RowKit
def Edge (W H:Int) (bl:Nat->Bool) (a:Int) (k:Nat) (b:Int):Prop:=k < 8/\inB W H a=true/\mayB W H bl (a % W) (a / W) k=true/\b=a+(stepY k*W+stepX k)
theorem Edge.in' {W H a b:Int}{bl:Nat->Bool}{k:Nat}(w1:1<=W) (e:Edge W H bl a k b):inB W H b=true:=by
 rw [e.2.2.2];exact (back_facts w1 e.1 e.2.2.1).1
theorem st_opp (k:Nat):stS (opp k)=stS k/\stD (opp k)=stD k:=by
 have:opp k % 2=k % 2:=by unfold opp;omega
 unfold stS stD
 rw [this]
 exact ⟨rfl,rfl⟩
theorem Edge.back {W H:Int}{bl:Nat->Bool}(w1:1<=W) (a:Int) (k:Nat) (b:Int) (e:Edge W H bl a k b):∃ k',Edge W H bl b k' a/\stS k'=stS k/\stD k'=stD k:=by
 obtain ⟨h1,h2,h3,h4⟩:=e
 obtain ⟨f1,j,hj,hj2⟩:=back_facts w1 h1 h3
 have hm:=mvs_at hj
 rw [hj2,<- h4] at hm
 refine ⟨opp k,⟨opp_lt k,by rw [h4];exact f1,hm.2,?_⟩,st_opp k⟩
 rw [h4];exact (back_home h1).symm
theorem Edge.one {W H a b c:Int}{bl:Nat->Bool}{k j:Nat}(e:Edge W H bl a k b) (f:Edge W H bl a j c) (h:j=k):c=b:=by
 rw [e.2.2.2,f.2.2.2,h]
set_option maxHeartbeats 400000 in
theorem check_out {b:Nat}{W H V:Int}{bl:Nat->Bool}(c:Int) (w:World) (g:GridAt w b W H V bl) (hr:inB W H c=false) :
  Calls Tryz.prog 106 #[.pointer (some ⟨b,0,none⟩),.int .i64 c] w fun e w'=>e=.returned (.iface 39 (.int .i64 1))/\∃ m,w'=w.drewN m:=by
 go_enter Tryz.func106,Tryz.ntmps106
 go_wp2_with (go_at_call 82;refine (free_out c _ g hr).mono ?_;rintro e w' ⟨rfl,m,rfl⟩)
 go_ret
 exact ⟨rfl,_,rfl⟩
set_option maxHeartbeats 400000 in
theorem check_bl {b:Nat}{W H V:Int}{bl:Nat->Bool}(c:Nat) (w:World) (g:GridAt w b W H V bl) (hr:inB W H c=true) (hb:bl c=true) :
  Calls Tryz.prog 106 #[.pointer (some ⟨b,0,none⟩),.int .i64 c] w fun e w'=>e=.returned (.iface 39 (.int .i64 4))/\∃ m,w'=w.drewN m:=by
 have hf:=fun w g=>free_in (b:=b) (W:=W) (H:=H) (V:=V) (bl:=bl) c w g hr
 rw [hb] at hf
 go_enter Tryz.func106,Tryz.ntmps106
 go_wp2_with (go_at_call 82;refine (hf _ g).mono ?_;rintro e w' ⟨rfl,m,rfl⟩)
 go_ret
 exact ⟨rfl,_,rfl⟩
set_option maxHeartbeats 400000 in
theorem check_ok {b:Nat}{W H V:Int}{bl:Nat->Bool}(c:Nat) (w:World) (g:GridAt w b W H V bl) (hr:inB W H c=true) (hb:bl c=false) :
  Calls Tryz.prog 106 #[.pointer (some ⟨b,0,none⟩),.int .i64 c] w fun e w'=>e=.returned .nilIface/\∃ m,w'=w.drewN m:=by
 have hf:=fun w g=>free_in (b:=b) (W:=W) (H:=H) (V:=V) (bl:=bl) c w g hr
 rw [hb] at hf
 go_enter Tryz.func106,Tryz.ntmps106
 go_wp2_with (go_at_call 82;refine (hf _ g).mono ?_;rintro e w' ⟨rfl,m,rfl⟩)
 go_ret
 exact ⟨rfl,_,rfl⟩
end
section
open Go.RowKit
theorem oct_low {W H:Int}{bl:Nat->Bool}{o a s d:Int}(w1:1<=W) (h:Wk (Edge W H bl) o a s d) :
  val (dst (dst (o % W) (a % W)) (dst (o / W) (a / W))) (les (dst (o % W) (a % W)) (dst (o / W) (a / W)))<=val s d:=by
 refine h.ind (R:=fun a s d=>val (dst (dst (o % W) (a % W)) (dst (o / W) (a / W))) (les (dst (o % W) (a % W)) (dst (o / W) (a / W)))<=val s d) ?_ (fun a s d k b _ ih e=>?_)
 ·unfold dst les val
  simp
 ·obtain ⟨h1,h2,h3,h4⟩:=e
  obtain ⟨_,o2,_,_⟩:=may_parts h3
  obtain ⟨a1,a2,a3,a4⟩:=open_in o2
  have e:a+(stepY k*W+stepX k)=(a / W+stepY k)*W+(a % W+stepX k):=by
   have:=cell_eq W a
   rw [Int.add_mul]
   omega
  obtain ⟨p1,p2,p3⟩:=place_to (H:=H) w1 a1 a2 a3 a4
  rw [h4,e,p2,p3]
  clear e p1 p2 p3 a1 a2 a3 a4 o2 h3 h4 h2
  rw [val_add]
  generalize o % W=ox at *
  generalize o / W=oy at *
  generalize a % W=ax at *
  generalize a / W=ay at *
  have hks:k=0\/k=1\/k=2\/k=3\/k=4\/k=5\/k=6\/k=7:=by omega
  have hst:stepX k=0/\stepY k=-1/\stS k=1/\stD k=0\/stepX k=0/\stepY k=1/\stS k=1/\stD k=0\/stepX k=1/\stepY k=0/\stS k=1/\stD k=0\/stepX k=-1/\stepY k=0/\stS k=1/\stD k=0\/(stepX k=1\/stepX k=-1)/\(stepY k=1\/stepY k=-1)/\stS k=0/\stD k=1:=by
   rcases hks with rfl | rfl | rfl | rfl | rfl | rfl | rfl | rfl <;> decide
  refine Int.le_trans ?_ (Int.add_le_add_right ih _)
  clear ih hks h1
  unfold val dst les
  split <;> split <;> split <;> split <;> split <;> split <;> (try split) <;> (try split) <;> omega
theorem Best.sym {W H:Int}{bl:Nat->Bool}{o c:Int}{F G:Int->Option (Int × Int)}(w1:1<=W) (hF:Best (Edge W H bl) o F) (hG:Best (Edge W H bl) c G) {s d:Int}(h:F c=some (s,d)):G o=some (s,d):=by
 obtain ⟨s',d',h1,h2⟩:=hG.least ((hF.sound h).back (Edge.back w1))
 obtain ⟨s2,d2,h3,h4⟩:=hF.least ((hG.sound h1).back (Edge.back w1))
 rw [h] at h3
 cases h3
 obtain ⟨a1,a2,a3⟩:=hF.small h
 obtain ⟨b1,b2,b3⟩:=hG.small h1
 have c1:=val_small a1 a2 a3
 have c2:=val_small b1 b2 b3
 obtain ⟨e1,e2⟩:=val_inj s' d' s d (by omega) (by omega) (by omega)
 rw [h1,e1,e2]
theorem wk_free {W H:Int}{bl:Nat->Bool}{o a s d:Int}(ho:bl o.toNat=false) (h:Wk (Edge W H bl) o a s d):bl a.toNat=false:=by
 refine h.ind (R:=fun a _ _=>bl a.toNat=false) ho (fun a s d k b _ _ e=>?_)
 obtain ⟨h1,h2,h3,h4⟩:=e
 obtain ⟨_,o2,_,_⟩:=may_parts h3
 have e:a+(stepY k*W+stepX k)=(a / W+stepY k)*W+(a % W+stepX k):=by
  have:=cell_eq W a
  rw [Int.add_mul]
  omega
 rw [h4,e]
 unfold openB at o2
 rw [Bool.and_eq_true] at o2
 simpa using o2.2
theorem wrap_small {x:Int}(h0:0<=x) (h:x<=1000):IntKind.i64.wrap x=x:=by unfold IntKind.wrap;simp [IntKind.bits,IntKind.signed];omega
end
section
open Go.RowKit
def Corn (W H:Int) (bl:Nat->Bool) (x y:Int):Prop :=
 openB W H bl x y=true/\∃ k,k < 8/\k % 2=1/\openB W H bl (x+stepX k) (y+stepY k)=false/\openB W H bl (x+stepX k) y=true/\openB W H bl x (y+stepY k)=true
theorem sx0:stepX 0=0:=rfl
theorem sx1:stepX 1=1:=rfl
theorem sx2:stepX 2=1:=rfl
theorem sx3:stepX 3=1:=rfl
theorem sx4:stepX 4=0:=rfl
theorem sx5:stepX 5=-1:=rfl
theorem sx6:stepX 6=-1:=rfl
theorem sx7:stepX 7=-1:=rfl
theorem sy0:stepY 0=-1:=rfl
theorem sy1:stepY 1=-1:=rfl
theorem sy2:stepY 2=0:=rfl
theorem sy3:stepY 3=1:=rfl
theorem sy4:stepY 4=1:=rfl
theorem sy5:stepY 5=1:=rfl
theorem sy6:stepY 6=0:=rfl
theorem sy7:stepY 7=-1:=rfl
theorem k8 {d:Nat}(h:d < 8):d=0\/d=1\/d=2\/d=3\/d=4\/d=5\/d=6\/d=7:=by omega
theorem turn3 {W H x y:Int}{bl:Nat->Bool}{d e:Nat}(hd:d < 8) (he:e=(d+3) % 8\/e=(d+5) % 8) (h1:mayB W H bl x y d=true) (h2:mayB W H bl (x+stepX d) (y+stepY d) e=true) :
  ∃ k,k < 8/\k % 2=0/\mayB W H bl x y k=true/\stepX k=stepX d+stepX e/\stepY k=stepY d+stepY e:=by
 unfold mayB at *
 generalize openB W H bl=O at *
 rcases he with rfl | rfl
 ·refine ⟨if d % 2=0 then (d+2) % 8 else (d+1) % 8,?_⟩
  rcases k8 hd with rfl | rfl | rfl | rfl | rfl | rfl | rfl | rfl <;> simp [sx0,sx1,sx2,sx3,sx4,sx5,sx6,sx7,sy0,sy1,sy2,sy3,sy4,sy5,sy6,sy7,Int.add_assoc] at h1 h2 ⊢ <;> simp_all
 ·refine ⟨if d % 2=0 then (d+6) % 8 else (d+7) % 8,?_⟩
  rcases k8 hd with rfl | rfl | rfl | rfl | rfl | rfl | rfl | rfl <;> simp [sx0,sx1,sx2,sx3,sx4,sx5,sx6,sx7,sy0,sy1,sy2,sy3,sy4,sy5,sy6,sy7,Int.add_assoc] at h1 h2 ⊢ <;> simp_all
theorem turn2s {W H x y:Int}{bl:Nat->Bool}{d e:Nat}(hd:d < 8) (hp:d % 2=0) (he:e=(d+2) % 8\/e=(d+6) % 8) (h1:mayB W H bl x y d=true) (h2:mayB W H bl (x+stepX d) (y+stepY d) e=true) :
  Corn W H bl (x+stepX d) (y+stepY d)\/∃ k,k < 8/\k % 2=1/\mayB W H bl x y k=true/\stepX k=stepX d+stepX e/\stepY k=stepY d+stepY e:=by
 unfold mayB Corn at *
 generalize openB W H bl=O at *
 have hk:d=0\/d=2\/d=4\/d=6:=by omega
 rcases he with rfl | rfl
 ·cases ho:O (x+stepX d+stepX ((d+3) % 8)) (y+stepY d+stepY ((d+3) % 8)) with
  | false =>
    left
    refine ⟨?_,(d+3) % 8,?_⟩ <;> rcases hk with rfl | rfl | rfl | rfl <;> simp [sx0,sx1,sx2,sx3,sx4,sx5,sx6,sx7,sy0,sy1,sy2,sy3,sy4,sy5,sy6,sy7,Int.add_assoc] at h1 h2 ho ⊢ <;> simp_all
  | true =>
    right
    refine ⟨(d+1) % 8,?_⟩
    rcases hk with rfl | rfl | rfl | rfl <;> simp [sx0,sx1,sx2,sx3,sx4,sx5,sx6,sx7,sy0,sy1,sy2,sy3,sy4,sy5,sy6,sy7,Int.add_assoc] at h1 h2 ho ⊢ <;> simp_all
 ·cases ho:O (x+stepX d+stepX ((d+5) % 8)) (y+stepY d+stepY ((d+5) % 8)) with
  | false =>
    left
    refine ⟨?_,(d+5) % 8,?_⟩ <;> rcases hk with rfl | rfl | rfl | rfl <;> simp [sx0,sx1,sx2,sx3,sx4,sx5,sx6,sx7,sy0,sy1,sy2,sy3,sy4,sy5,sy6,sy7,Int.add_assoc] at h1 h2 ho ⊢ <;> simp_all
  | true =>
    right
    refine ⟨(d+7) % 8,?_⟩
    rcases hk with rfl | rfl | rfl | rfl <;> simp [sx0,sx1,sx2,sx3,sx4,sx5,sx6,sx7,sy0,sy1,sy2,sy3,sy4,sy5,sy6,sy7,Int.add_assoc] at h1 h2 ho ⊢ <;> simp_all
theorem turn2d {W H x y:Int}{bl:Nat->Bool}{d e:Nat}(hd:d < 8) (hp:d % 2=1) (he:e=(d+2) % 8\/e=(d+6) % 8) (h1:mayB W H bl x y d=true) (h2:mayB W H bl (x+stepX d) (y+stepY d) e=true) :
  ∃ k,k < 8/\k % 2=0/\mayB W H bl x y k=true/\mayB W H bl (x+stepX k) (y+stepY k) k=true/\stepX k+stepX k=stepX d+stepX e/\stepY k+stepY k=stepY d+stepY e:=by
 unfold mayB at *
 generalize openB W H bl=O at *
 have hk:d=1\/d=3\/d=5\/d=7:=by omega
 rcases he with rfl | rfl
 ·refine ⟨(d+1) % 8,?_⟩
  rcases hk with rfl | rfl | rfl | rfl <;> simp [sx0,sx1,sx2,sx3,sx4,sx5,sx6,sx7,sy0,sy1,sy2,sy3,sy4,sy5,sy6,sy7,Int.add_assoc] at h1 h2 ⊢ <;> simp_all
 ·refine ⟨(d+7) % 8,?_⟩
  rcases hk with rfl | rfl | rfl | rfl <;> simp [sx0,sx1,sx2,sx3,sx4,sx5,sx6,sx7,sy0,sy1,sy2,sy3,sy4,sy5,sy6,sy7,Int.add_assoc] at h1 h2 ⊢ <;> simp_all
theorem turn1 {W H x y:Int}{bl:Nat->Bool}{d e:Nat}(hd:d < 8) (he:e=(d+1) % 8\/e=(d+7) % 8) (h1:mayB W H bl x y d=true) (h2:mayB W H bl (x+stepX d) (y+stepY d) e=true) :
  Corn W H bl (x+stepX d) (y+stepY d)\/(mayB W H bl x y e=true/\mayB W H bl (x+stepX e) (y+stepY e) d=true):=by
 unfold mayB Corn at *
 generalize openB W H bl=O at *
 rcases he with rfl | rfl
 ·cases ho:O (x+stepX d+stepX (if d % 2=0 then (d+3) % 8 else (d+2) % 8)) (y+stepY d+stepY (if d % 2=0 then (d+3) % 8 else (d+2) % 8)) with
  | false =>
    left
    refine ⟨?_,if d % 2=0 then (d+3) % 8 else (d+2) % 8,?_⟩ <;> rcases k8 hd with rfl | rfl | rfl | rfl | rfl | rfl | rfl | rfl <;> simp [sx0,sx1,sx2,sx3,sx4,sx5,sx6,sx7,sy0,sy1,sy2,sy3,sy4,sy5,sy6,sy7,Int.add_assoc] at h1 h2 ho ⊢ <;> simp_all
  | true =>
    right
    rcases k8 hd with rfl | rfl | rfl | rfl | rfl | rfl | rfl | rfl <;> simp [sx0,sx1,sx2,sx3,sx4,sx5,sx6,sx7,sy0,sy1,sy2,sy3,sy4,sy5,sy6,sy7,Int.add_assoc] at h1 h2 ho ⊢ <;> simp_all
 ·cases ho:O (x+stepX d+stepX (if d % 2=0 then (d+5) % 8 else (d+6) % 8)) (y+stepY d+stepY (if d % 2=0 then (d+5) % 8 else (d+6) % 8)) with
  | false =>
    left
    refine ⟨?_,if d % 2=0 then (d+5) % 8 else (d+6) % 8,?_⟩ <;> rcases k8 hd with rfl | rfl | rfl | rfl | rfl | rfl | rfl | rfl <;> simp [sx0,sx1,sx2,sx3,sx4,sx5,sx6,sx7,sy0,sy1,sy2,sy3,sy4,sy5,sy6,sy7,Int.add_assoc] at h1 h2 ho ⊢ <;> simp_all
  | true =>
    right
    rcases k8 hd with rfl | rfl | rfl | rfl | rfl | rfl | rfl | rfl <;> simp [sx0,sx1,sx2,sx3,sx4,sx5,sx6,sx7,sy0,sy1,sy2,sy3,sy4,sy5,sy6,sy7,Int.add_assoc] at h1 h2 ho ⊢ <;> simp_all
end
end Go.Proofs.YtipbhlofbpnpjaaGreatDoor
