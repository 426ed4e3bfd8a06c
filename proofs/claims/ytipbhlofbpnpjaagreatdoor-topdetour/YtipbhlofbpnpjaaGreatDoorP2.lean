/-
  Texts laid together: Cost, Oct, Small, Grid, Moves, New.
-/
import Derived.Test.YtipbhlofbpnpjaaGreatDoorP1
import Derived.Test.YtipbhlofbpnpjaaGreatDoorRows
namespace Go.Proofs.YtipbhlofbpnpjaaGreatDoor
section
open Go.RowKit
def okC (s d:Int):Prop:=0<=s/\s<=8388608/\0<=d/\d<=8388608
set_option maxHeartbeats 400000 in
theorem add_any (s d t u:Int)(w:World)(h:okC s d)(k:okC t u) :
  Calls Tryz.prog 30 #[.agg #[.int .i64 s,.int .i64 d],.agg #[.int .i64 t,.int .i64 u]] w fun e w'=>e=.returned (.agg #[.int .i64 (s+t),.int .i64 (d+u)])/\Below w.heap.size w w':=by
 obtain ⟨h1,h2,h3,h4⟩:=h
 obtain ⟨k1,k2,k3,k4⟩:=k
 go_enter Tryz.func30,Tryz.ntmps30
 go_wp2
 exact bodyPost_ret (v:=.agg #[.int .i64 (s+t),.int .i64 (d+u)]) (by simp [results,Tryz.results30,go_sem]) rfl ⟨rfl,((((Below.refl _ _).alloc (Nat.le_refl _) _).alloc (by simp) _).alloc (by simp;omega) _)⟩
theorem cmpC_val' (s d t u:Int)(h:okC s d)(k:okC t u):cmpC s d t u=cmpI (val s d) (val t u):=by
 obtain ⟨h1,h2,h3,h4⟩:=h
 obtain ⟨k1,k2,k3,k4⟩:=k
 exact cmpC_val s d t u (by omega) (by omega)
def inC (s d:Int):Prop:=0<=s/\s<=1048576/\0<=d/\d<=1048576
def ltB (s d t u:Int):Bool:=decide (cmpC s d t u<0)
end
section
open Go.RowKit
def dst (a b:Int):Int:=if a<b then b - a else a - b
def les (a b:Int):Int:=if a<b then a else b
def nearB (a:Int):Prop:=-1048576<=a/\a<=1048576
theorem dst_bd (a b:Int)(h:nearB a)(k:nearB b):0<=dst a b/\dst a b<=2097152:=by
 unfold nearB at h k;unfold dst;split <;> omega
set_option maxHeartbeats 400000 in
theorem dst_any (a b:Int)(w:World)(h:nearB a)(k:nearB b) :
  Calls Tryz.prog 109 #[.int .i64 a,.int .i64 b] w fun e w'=>e=.returned (.int .i64 (dst a b))/\w'=w:=by
 obtain ⟨h1,h2⟩:=h
 obtain ⟨h3,h4⟩:=k
 by_cases h:a<b
 ·have e:dst a b=b - a:=by unfold dst;rw [if_pos h]
  rw [e];clear e
  go_enter Tryz.func109,Tryz.ntmps109
  go_wp2
  go_ret
  exact ⟨rfl,rfl⟩
 ·have e:dst a b=a - b:=by unfold dst;rw [if_neg h]
  rw [e];clear e
  by_cases g:b<a
  ·clear h
   go_enter Tryz.func109,Tryz.ntmps109
   go_wp2
   go_ret
   exact ⟨rfl,rfl⟩
  ·have:a=b:=by omega
   subst this
   rw [Int.sub_self]
   go_enter Tryz.func109,Tryz.ntmps109
   go_wp2
   go_ret
   exact ⟨rfl,rfl⟩
theorem dst_v {a b r:Int}(hr:dst a b=r)(w:World)(h:nearB a)(k:nearB b) :
  Calls Tryz.prog 109 #[.int .i64 a,.int .i64 b] w fun e w'=>e=.returned (.int .i64 r)/\w'=w:=hr ▸ dst_any a b w h k
set_option maxHeartbeats 400000 in
theorem oct_any (x y t u:Int)(w:World)(hx:nearB x)(hy:nearB y)(ht:nearB t)(hu:nearB u) :
  Calls Tryz.prog 78 #[.int .i64 x,.int .i64 y,.int .i64 t,.int .i64 u] w fun e w'=>e=.returned (.agg #[.int .i64 (dst (dst x t) (dst y u)),.int .i64 (les (dst x t) (dst y u))])/\Below w.heap.size w w':=by
 have b1:=dst_bd x t hx ht
 have b2:=dst_bd y u hy hu
 by_cases h:dst x t<dst y u
 ·have e1:dst (dst x t) (dst y u)=dst y u - dst x t:=by unfold dst at *;rw [if_pos h]
  have e2:les (dst x t) (dst y u)=dst x t:=by unfold les;rw [if_pos h]
  rw [e1,e2];clear e1 e2
  generalize hA:dst x t=A at *
  generalize hB:dst y u=B at *
  go_enter Tryz.func78,Tryz.ntmps78
  go_wp2_with (go_at_call 109;refine (dst_any _ _ _ ?_ ?_).mono ?_;assumption;assumption;rintro e w' ⟨rfl,rfl⟩)
  exact bodyPost_ret (v:=.agg #[.int .i64 (B - A),.int .i64 A]) (by simp [results,Tryz.results78,go_sem]) rfl ⟨rfl,(Below.refl _ _).alloc (Nat.le_refl _) _⟩
 ·have e1:dst (dst x t) (dst y u)=dst x t - dst y u:=by unfold dst at *;rw [if_neg h]
  have e2:les (dst x t) (dst y u)=dst y u:=by unfold les;rw [if_neg h]
  rw [e1,e2];clear e1 e2
  generalize hA:dst x t=A at *
  generalize hB:dst y u=B at *
  by_cases g:B<A
  ·clear h
   go_enter Tryz.func78,Tryz.ntmps78
   go_wp2_with (go_at_call 109;refine (dst_v (by assumption) _ (by assumption) (by assumption)).mono ?_;rintro e w' ⟨rfl,rfl⟩)
   exact bodyPost_ret (v:=.agg #[.int .i64 (A - B),.int .i64 B]) (by simp [results,Tryz.results78,go_sem]) rfl ⟨rfl,(Below.refl _ _).alloc (Nat.le_refl _) _⟩
  ·have:A=B:=by omega
   subst this
   rw [Int.sub_self]
   go_enter Tryz.func78,Tryz.ntmps78
   go_wp2_with (go_at_call 109;refine (dst_v (by assumption) _ (by assumption) (by assumption)).mono ?_;rintro e w' ⟨rfl,rfl⟩)
   exact bodyPost_ret (v:=.agg #[.int .i64 0,.int .i64 A]) (by simp [results,Tryz.results78,go_sem]) rfl ⟨rfl,(Below.refl _ _).alloc (Nat.le_refl _) _⟩
end
section
open Go.RowKit
set_option maxHeartbeats 400000 in
theorem sameNumbers_zero (A B:Option Addr)(ca cb:Nat)(w:World) :
  Calls Tryz.prog 60 #[.slice A 0 ca,.slice B 0 cb] w fun e w'=>e=.returned (.bool true)/\∃ m,w'=w.drewN m:=by
 go_enter Tryz.func60,Tryz.ntmps60
 go_wp2
 go_loop [5] (fun i=>i=.int .i64 0) (fun _=>0)
 case atStart=>rfl
 case round =>
  subst hrel
  go_wp2
  go_ret
  exact ⟨rfl,0,rfl⟩
set_option maxHeartbeats 400000 in
theorem sameNumbers_pos (b o b2 o2 n ca cb:Nat)(xs:Nat->Int)(w:World)(hn:n<=1000000)
  (hA:∀ i,i<n->w.cell? ⟨b,o+i,none⟩=some (.int .i64 (xs i))) (hB:∀ i,i<n->w.cell? ⟨b2,o2+i,none⟩=some (.int .i64 (xs i))) :
  Calls Tryz.prog 60 #[.slice (some ⟨b,o,none⟩) n ca,.slice (some ⟨b2,o2,none⟩) n cb] w fun e w'=>e=.returned (.bool true)/\∃ m,w'=w.drewN m:=by
 go_enter Tryz.func60,Tryz.ntmps60
 go_wp2
 go_loopw [5] (fun i w'=>∃ k m:Nat,k<=n/\i=.int .i64 k/\w'=w.drewN m) (fun i _=>n - (intOf i).toNat)
 case atStart=>exact ⟨0,0,by omega,rfl,rfl⟩
 case round =>
  obtain ⟨k,m,hk,rfl,rfl⟩:=hrel
  by_cases hlt:k<n
  ·have h1:=hA k hlt
   have h2:=hB k hlt
   have hi:(0:Int)<=(k:Int):=by omega
   have hj:(k:Int)<(n:Int):=by omega
   clear hA hB
   go_wp2
   go_quiet (fail)
   go_wp2
   go_roundw
   case rel=>exact ⟨k+1,_,by omega,by go_num,rfl⟩
   case measure=>simp [intOf];omega
  ·have:k=n:=by omega
   subst this
   go_wp2
   go_ret
   exact ⟨rfl,m,rfl⟩
end
section
open Go.RowKit
structure GridAt (w:World) (b:Nat) (W H V:Int) (bl:Nat->Bool):Prop where
 w1:1<=W
 w2:W<=16
 h1:1<=H
 h2:H<=16
 c0:w.cell? ⟨b,0,none⟩=some (.int .i64 W)
 c1:w.cell? ⟨b,1,none⟩=some (.int .i64 H)
 c2:w.cell? ⟨b,2,none⟩=some (.int .i64 V)
 cs:∀ i,i<256->w.cell? ⟨b,3+i,none⟩=some (.bool (bl i))
theorem wh_bd {W H:Int}(w1:1<=W)(w2:W<=16)(h1:1<=H)(h2:H<=16):1<=W*H/\W*H<=256:=by
 have a:=Int.mul_le_mul w1 h1 (by omega) (by omega)
 have b:=Int.mul_le_mul w2 h2 (by omega) (by omega)
 omega
set_option maxHeartbeats 400000 in
theorem cells_any {b:Nat}{W H V:Int}{bl:Nat->Bool}(w:World)(g:GridAt w b W H V bl) :
  Calls Tryz.prog 53 #[.pointer (some ⟨b,0,none⟩)] w fun e w'=>e=.returned (.int .i64 (W*H))/\∃ m,w'=w.drewN m:=by
 obtain ⟨w1,w2,h1,h2,c0,c1,c2,cs⟩:=g
 obtain ⟨k1,k2⟩:=wh_bd w1 w2 h1 h2
 go_enter Tryz.func53,Tryz.ntmps53
 go_wp2
 go_quiet (fail)
 go_wp2
 go_ret
 exact ⟨rfl,_,rfl⟩
def inB (W H c:Int):Bool:=decide (0<=c/\c<W*H)
set_option maxHeartbeats 400000 in
theorem hasCell_any {b:Nat}{W H V:Int}{bl:Nat->Bool}(c:Int)(w:World)(g:GridAt w b W H V bl) :
  Calls Tryz.prog 105 #[.pointer (some ⟨b,0,none⟩),.int .i64 c] w fun e w'=>e=.returned (.bool (inB W H c))/\∃ m,w'=w.drewN m:=by
 by_cases h:0<=c
 ·by_cases k:c<W*H
  ·rw [show inB W H c=true from decide_eq_true ⟨h,k⟩]
   go_enter Tryz.func105,Tryz.ntmps105
   go_wp2_with (go_at_call 53;refine (cells_any _ g).mono ?_;rintro e w' ⟨rfl,m,rfl⟩)
   go_ret
   exact ⟨rfl,_,rfl⟩
  ·rw [show inB W H c=false from decide_eq_false fun q=>k q.2]
   have hd:decide (c<W*H)=false:=decide_eq_false k
   go_enter Tryz.func105,Tryz.ntmps105
   go_wp2_with (go_at_call 53;refine (cells_any _ g).mono ?_;rintro e w' ⟨rfl,m,rfl⟩)
   go_ret
   exact ⟨rfl,_,rfl⟩
 ·rw [show inB W H c=false from decide_eq_false fun q=>h q.1]
  go_enter Tryz.func105,Tryz.ntmps105
  go_wp2
  go_ret
  exact ⟨rfl,0,rfl⟩
def atB (W H x y:Int):Bool:=decide (0<=x/\x<W/\0<=y/\y<H)
set_option maxHeartbeats 1000000 in
theorem hasPlace_any {b:Nat}{W H V:Int}{bl:Nat->Bool}(x y:Int)(w:World)(g:GridAt w b W H V bl) :
  Calls Tryz.prog 135 #[.pointer (some ⟨b,0,none⟩),.int .i64 x,.int .i64 y] w fun e w'=>e=.returned (.bool (atB W H x y))/\w'=w:=by
 obtain ⟨w1,w2,h1,h2,c0,c1,c2,cs⟩:=g
 have hc:(0<=x/\x<W/\0<=y/\y<H)\/(¬ 0<=x)\/(0<=x/\¬ x<W)\/(0<=x/\x<W/\¬ 0<=y)\/(0<=x/\x<W/\0<=y/\¬ y<H):=by omega
 rcases hc with h|h|h|h|h
 ·rw [show atB W H x y=true from decide_eq_true h]
  obtain ⟨q1,q2,q3,q4⟩:=h
  go_enter Tryz.func135,Tryz.ntmps135
  go_wp2
  go_ret
  exact ⟨rfl,rfl⟩
 all_goals
  rw [show atB W H x y=false from decide_eq_false (by omega)]
  go_enter Tryz.func135,Tryz.ntmps135
  go_wp2
  go_ret
  exact ⟨rfl,rfl⟩
theorem yw_bd {W y:Int}(w1:1<=W)(w2:W<=16)(y1:-100<=y)(y2:y<=100):-1600<=y*W/\y*W<=1600:=by
 rcases Int.le_total 0 y with h|h
 ·have a:=Int.mul_nonneg h (show 0<=W by omega)
  have b:=Int.mul_le_mul y2 w2 (by omega) (by omega)
  omega
 ·have a:=Int.mul_nonneg (show 0<=-y by omega) (show 0<=W by omega)
  have b:=Int.mul_le_mul (show -y<=100 by omega) w2 (by omega) (by omega)
  rw [Int.neg_mul] at a b
  omega
set_option maxHeartbeats 400000 in
theorem number_any {b:Nat}{W H V:Int}{bl:Nat->Bool}(x y:Int)(w:World)(g:GridAt w b W H V bl)(x1:-100<=x)(x2:x<=100)(y1:-100<=y)(y2:y<=100) :
  Calls Tryz.prog 136 #[.pointer (some ⟨b,0,none⟩),.int .i64 x,.int .i64 y] w fun e w'=>e=.returned (.int .i64 (y*W+x))/\w'=w:=by
 obtain ⟨w1,w2,h1,h2,c0,c1,c2,cs⟩:=g
 obtain ⟨k1,k2⟩:=yw_bd w1 w2 y1 y2
 go_enter Tryz.func136,Tryz.ntmps136
 go_wp2
 go_ret
 exact ⟨rfl,rfl⟩
def openB (W H:Int) (bl:Nat->Bool) (x y:Int):Bool:=atB W H x y&&!bl (y*W+x).toNat
theorem idx_bd {W H x y:Int}(w1:1<=W)(w2:W<=16)(h1:1<=H)(h2:H<=16)(x1:0<=x)(x2:x<W)(y1:0<=y)(y2:y<H):0<=y*W+x/\y*W+x<W*H/\y*W+x<256:=by
 have k:=wh_bd w1 w2 h1 h2
 have a:=Int.mul_nonneg y1 (show 0<=W by omega)
 have b:y*W+W<=H*W:=by
  have:=Int.mul_le_mul_of_nonneg_right (show y+1<=H by omega) (show 0<=W by omega)
  rw [Int.add_mul,Int.one_mul] at this
  exact this
 rw [Int.mul_comm H W] at b
 omega
set_option maxHeartbeats 400000 in
theorem open_any {b:Nat}{W H V:Int}{bl:Nat->Bool}(x y:Int)(w:World)(g:GridAt w b W H V bl) :
  Calls Tryz.prog 97 #[.pointer (some ⟨b,0,none⟩),.int .i64 x,.int .i64 y] w fun e w'=>e=.returned (.bool (openB W H bl x y))/\∃ m,w'=w.drewN m:=by
 by_cases h:0<=x/\x<W/\0<=y/\y<H
 ·have ha:atB W H x y=true:=decide_eq_true h
  have e:openB W H bl x y=!bl (y*W+x).toNat:=by unfold openB;rw [ha];rfl
  rw [e];clear e
  obtain ⟨x1,x2,y1,y2⟩:=h
  obtain ⟨i1,i2,i3⟩:=idx_bd g.w1 g.w2 g.h1 g.h2 x1 x2 y1 y2
  have gw1:=g.w1
  have gw2:=g.w2
  have gh2:=g.h2
  have hp:∀ w:World,GridAt w b W H V bl->Calls Tryz.prog 135 #[.pointer (some ⟨b,0,none⟩),.int .i64 x,.int .i64 y] w fun e w'=>e=.returned (.bool true)/\w'=w:=fun w g=>ha ▸ hasPlace_any x y w g
  have hc:=g.cs (y*W+x).toNat (by omega)
  obtain ⟨n,hn⟩:∃ n:Nat,y*W+x=n:=⟨(y*W+x).toNat,by omega⟩
  have gd:∀ m,GridAt (w.drewN m) b W H V bl:=fun m=>⟨g.w1,g.w2,g.h1,g.h2,g.c0,g.c1,g.c2,g.cs⟩
  have hnum:∀ w:World,GridAt w b W H V bl->Calls Tryz.prog 136 #[.pointer (some ⟨b,0,none⟩),.int .i64 x,.int .i64 y] w fun e w'=>e=.returned (.int .i64 n)/\w'=w:=fun w g=>hn ▸ number_any x y w g (by omega) (by omega) (by omega) (by omega)
  rw [hn] at hc i1 i3 ⊢
  simp only [Int.toNat_natCast] at hc ⊢
  have j3:(n:Int)<256:=i3
  clear hn i2 ha
  go_enter Tryz.func97,Tryz.ntmps97
  go_wp2
  go_quiet (first|(go_at_call 135;exact Calls.quiet_of_same (hp _ (gd _)))|(go_at_call 136;exact Calls.quiet_of_same (hnum _ (gd _))))
  go_wp2
  go_ret
  exact ⟨rfl,_,rfl⟩
 ·have ha:atB W H x y=false:=decide_eq_false h
  have e:openB W H bl x y=false:=by unfold openB;rw [ha];rfl
  rw [e];clear e
  have hp:∀ w:World,GridAt w b W H V bl->Calls Tryz.prog 135 #[.pointer (some ⟨b,0,none⟩),.int .i64 x,.int .i64 y] w fun e w'=>e=.returned (.bool false)/\w'=w:=fun w g=>ha ▸ hasPlace_any x y w g
  have gd:∀ m,GridAt (w.drewN m) b W H V bl:=fun m=>⟨g.w1,g.w2,g.h1,g.h2,g.c0,g.c1,g.c2,g.cs⟩
  clear ha h
  go_enter Tryz.func97,Tryz.ntmps97
  go_wp2
  go_quiet ((go_at_call 135;exact Calls.quiet_of_same (hp _ (gd _))))
  go_wp2
  go_ret
  exact ⟨rfl,_,rfl⟩
def stepX (d:Nat):Int:=[0,1,1,1,0,-1,-1,-1].getD d 0
def stepY (d:Nat):Int:=[-1,-1,0,1,1,1,0,-1].getD d 0
def StepsAt (w:World):Prop:=∀ i,i<8->w.cell? ⟨1,2*i,none⟩=some (.int .i64 (stepX i))/\w.cell? ⟨1,2*i+1,none⟩=some (.int .i64 (stepY i))
set_option maxHeartbeats 1000000 in
theorem step_any (d:Nat)(w:World)(h:StepsAt w)(hd:d<8) :
  Calls Tryz.prog 158 #[.int .i64 d] w fun e w'=>e=.returned (.tuple #[.int .i64 (stepX d),.int .i64 (stepY d)])/\∃ m,w'=w.drewN m:=by
 obtain ⟨a,b⟩:=h d hd
 have b0:bits BinOp.and IntKind.i64 0 7=0:=by decide
 have b1:bits BinOp.and IntKind.i64 1 7=1:=by decide
 have b2:bits BinOp.and IntKind.i64 2 7=2:=by decide
 have b3:bits BinOp.and IntKind.i64 3 7=3:=by decide
 have b4:bits BinOp.and IntKind.i64 4 7=4:=by decide
 have b5:bits BinOp.and IntKind.i64 5 7=5:=by decide
 have b6:bits BinOp.and IntKind.i64 6 7=6:=by decide
 have b7:bits BinOp.and IntKind.i64 7 7=7:=by decide
 have hks:d=0\/d=1\/d=2\/d=3\/d=4\/d=5\/d=6\/d=7:=by omega
 clear h
 rcases hks with rfl|rfl|rfl|rfl|rfl|rfl|rfl|rfl
 all_goals
  simp [stepX,stepY] at a b
  go_enter Tryz.func158,Tryz.ntmps158
  go_wp2
  go_quiet (fail)
  go_wp2
  go_ret2
  exact ⟨rfl,_,rfl⟩
end
section
open Go.RowKit
theorem GridAt.drewN {w:World}{b:Nat}{W H V:Int}{bl:Nat->Bool}(g:GridAt w b W H V bl)(m:Nat):GridAt (w.drewN m) b W H V bl:=⟨g.w1,g.w2,g.h1,g.h2,g.c0,g.c1,g.c2,g.cs⟩
theorem StepsAt.drewN {w:World}(h:StepsAt w)(m:Nat):StepsAt (w.drewN m):=h
def mayB (W H:Int) (bl:Nat->Bool) (x y:Int) (d:Nat):Bool:=openB W H bl x y&&openB W H bl (x+stepX d) (y+stepY d)&&openB W H bl (x+stepX d) y&&openB W H bl x (y+stepY d)
theorem step_bd (d:Nat):-1<=stepX d/\stepX d<=1/\-1<=stepY d/\stepY d<=1:=by
 by_cases h:d<8
 ·have hks:d=0\/d=1\/d=2\/d=3\/d=4\/d=5\/d=6\/d=7:=by omega
  rcases hks with rfl|rfl|rfl|rfl|rfl|rfl|rfl|rfl <;> decide
 ·have e1:stepX d=0:=by unfold stepX;rw [List.getD_eq_getElem?_getD,List.getElem?_eq_none (by simp;omega)];rfl
  have e2:stepY d=0:=by unfold stepY;rw [List.getD_eq_getElem?_getD,List.getElem?_eq_none (by simp;omega)];rfl
  omega
theorem open_v {b:Nat}{W H V:Int}{bl:Nat->Bool}{x y:Int}{r:Bool}(hr:openB W H bl x y=r)(w:World)(g:GridAt w b W H V bl) :
  Calls Tryz.prog 97 #[.pointer (some ⟨b,0,none⟩),.int .i64 x,.int .i64 y] w fun e w'=>e=.returned (.bool r)/\∃ m,w'=w.drewN m:=hr ▸ open_any x y w g
set_option maxHeartbeats 1000000 in
theorem may_any {b:Nat}{W H V:Int}{bl:Nat->Bool}(x y:Int)(d:Nat)(w:World)(g:GridAt w b W H V bl)(s:StepsAt w)(hd:d<8)(x1:-100<=x)(x2:x<=100)(y1:-100<=y)(y2:y<=100) :
  Calls Tryz.prog 142 #[.pointer (some ⟨b,0,none⟩),.int .i64 x,.int .i64 y,.int .i64 d] w fun e w'=>e=.returned (.bool (mayB W H bl x y d))/\∃ m,w'=w.drewN m:=by
 obtain ⟨s1,s2,s3,s4⟩:=step_bd d
 have hs:=fun w h=>step_any d w h hd
 have hm:mayB W H bl x y d=(openB W H bl x y&&openB W H bl (x+stepX d) (y+stepY d)&&openB W H bl (x+stepX d) y&&openB W H bl x (y+stepY d)):=rfl
 generalize stepX d=dx at *
 generalize stepY d=dy at *
 cases hA:openB W H bl x y with
 |false =>
  rw [hm,hA]
  simp only [Bool.false_and]
  clear hm
  go_enter Tryz.func142,Tryz.ntmps142
  go_wp2_with (first|(go_at_call 158;refine (hs _ s).mono ?_;rintro e w' ⟨rfl,m,rfl⟩)|(go_at_call 97;refine (open_v (by assumption) _ (g.drewN _)).mono ?_;rintro e w' ⟨rfl,m,rfl⟩))
  go_ret
  exact ⟨rfl,_,rfl⟩
 |true =>
  cases hB:openB W H bl (x+dx) (y+dy) with
  |false =>
   rw [hm,hA,hB]
   simp only [Bool.true_and,Bool.false_and]
   clear hm
   go_enter Tryz.func142,Tryz.ntmps142
   go_wp2_with (first|(go_at_call 158;refine (hs _ s).mono ?_;rintro e w' ⟨rfl,m,rfl⟩)|(go_at_call 97;refine (open_v (by assumption) _ (g.drewN _)).mono ?_;rintro e w' ⟨rfl,m,rfl⟩))
   go_ret
   exact ⟨rfl,_,rfl⟩
  |true =>
   cases hC:openB W H bl (x+dx) y with
   |false =>
    rw [hm,hA,hB,hC]
    simp only [Bool.true_and,Bool.false_and]
    clear hm
    go_enter Tryz.func142,Tryz.ntmps142
    go_wp2_with (first|(go_at_call 158;refine (hs _ s).mono ?_;rintro e w' ⟨rfl,m,rfl⟩)|(go_at_call 97;refine (open_v (by assumption) _ (g.drewN _)).mono ?_;rintro e w' ⟨rfl,m,rfl⟩))
    go_ret
    exact ⟨rfl,_,rfl⟩
   |true =>
    cases hD:openB W H bl x (y+dy) with
    |false =>
     rw [hm,hA,hB,hC,hD]
     simp only [Bool.true_and]
     clear hm
     go_enter Tryz.func142,Tryz.ntmps142
     go_wp2_with (first|(go_at_call 158;refine (hs _ s).mono ?_;rintro e w' ⟨rfl,m,rfl⟩)|(go_at_call 97;refine (open_v (by assumption) _ (g.drewN _)).mono ?_;rintro e w' ⟨rfl,m,rfl⟩))
     go_ret
     exact ⟨rfl,_,rfl⟩
    |true =>
     rw [hm,hA,hB,hC,hD]
     simp only [Bool.true_and]
     clear hm
     go_enter Tryz.func142,Tryz.ntmps142
     go_wp2_with (first|(go_at_call 158;refine (hs _ s).mono ?_;rintro e w' ⟨rfl,m,rfl⟩)|(go_at_call 97;refine (open_v (by assumption) _ (g.drewN _)).mono ?_;rintro e w' ⟨rfl,m,rfl⟩))
     go_ret
     exact ⟨rfl,_,rfl⟩
theorem hasCell_v {b:Nat}{W H V c:Int}{bl:Nat->Bool}{r:Bool}(hr:inB W H c=r)(w:World)(g:GridAt w b W H V bl) :
  Calls Tryz.prog 105 #[.pointer (some ⟨b,0,none⟩),.int .i64 c] w fun e w'=>e=.returned (.bool r)/\∃ m,w'=w.drewN m:=hr ▸ hasCell_any c w g
set_option maxHeartbeats 1000000 in
theorem place_in {b:Nat}{W H V:Int}{bl:Nat->Bool}(c:Int)(w:World)(g:GridAt w b W H V bl)(hr:inB W H c=true) :
  Calls Tryz.prog 76 #[.pointer (some ⟨b,0,none⟩),.int .i64 c] w fun e w'=>e=.returned (.tuple #[.int .i64 (c % W),.int .i64 (c / W),.nilIface])/\∃ m,w'=w.drewN m:=by
 have hc:0<=c/\c<W*H:=of_decide_eq_true hr
 obtain ⟨k1,k2⟩:=wh_bd g.w1 g.w2 g.h1 g.h2
 have w1:=g.w1
 have w2:=g.w2
 have c0:=g.c0
 obtain ⟨q1,q2⟩:=hc
 go_enter Tryz.func76,Tryz.ntmps76
 go_wp2_with (go_at_call 105;refine (hasCell_v hr _ g).mono ?_;rintro e w' ⟨rfl,m,rfl⟩)
 go_quiet (fail)
 go_wp2
 go_ret3
 exact ⟨rfl,_,World.drewN_drewN _ _ _⟩
set_option maxHeartbeats 400000 in
theorem place_out {b:Nat}{W H V:Int}{bl:Nat->Bool}(c:Int)(w:World)(g:GridAt w b W H V bl)(hr:inB W H c=false) :
  Calls Tryz.prog 76 #[.pointer (some ⟨b,0,none⟩),.int .i64 c] w fun e w'=>e=.returned (.tuple #[.int .i64 0,.int .i64 0,.iface 39 (.int .i64 1)])/\∃ m,w'=w.drewN m:=by
 go_enter Tryz.func76,Tryz.ntmps76
 go_wp2_with (go_at_call 105;refine (hasCell_v hr _ g).mono ?_;rintro e w' ⟨rfl,m,rfl⟩)
 go_ret3
 exact ⟨rfl,_,rfl⟩
set_option maxHeartbeats 400000 in
theorem to_any {b:Nat}{W H V:Int}{bl:Nat->Bool}(c:Int)(d:Nat)(w:World)(g:GridAt w b W H V bl)(s:StepsAt w)(hd:d<8)(c1:-1000<=c)(c2:c<=1000) :
  Calls Tryz.prog 144 #[.pointer (some ⟨b,0,none⟩),.int .i64 c,.int .i64 d] w fun e w'=>e=.returned (.int .i64 (c+(stepY d*W+stepX d)))/\∃ m,w'=w.drewN m:=by
 obtain ⟨s1,s2,s3,s4⟩:=step_bd d
 obtain ⟨k1,k2⟩:=yw_bd g.w1 g.w2 (show -100<=stepY d by omega) (by omega)
 have hs:=fun w h=>step_any d w h hd
 have hn:=fun w g=>number_any (b:=b) (W:=W) (H:=H) (V:=V) (bl:=bl) (stepX d) (stepY d) w g (by omega) (by omega) (by omega) (by omega)
 generalize stepX d=dx at *
 generalize stepY d=dy at *
 go_enter Tryz.func144,Tryz.ntmps144
 go_wp2_with (first|(go_at_call 158;refine (hs _ s).mono ?_;rintro e w' ⟨rfl,m,rfl⟩)|(go_at_call 136;refine (hn _ (g.drewN _)).mono ?_;rintro e w' ⟨rfl,rfl⟩))
 go_ret
 exact ⟨rfl,_,rfl⟩
def mvs (W H:Int) (bl:Nat->Bool) (x y:Int) (k:Nat):List Nat:=(List.range k).filter (mayB W H bl x y)
theorem mvs_succ (W H:Int)(bl:Nat->Bool)(x y:Int)(k:Nat):mvs W H bl x y (k+1)=mvs W H bl x y k++(if mayB W H bl x y k then [k] else []):=by
 unfold mvs
 rw [List.range_succ,List.filter_append]
 cases h:mayB W H bl x y k <;> simp [h]
theorem mvs_len (W H:Int)(bl:Nat->Bool)(x y:Int)(k:Nat):(mvs W H bl x y k).length<=k:=by
 unfold mvs
 have:=List.length_filter_le (mayB W H bl x y) (List.range k)
 simpa using this
abbrev vals (l:List Nat):List Value:=l.map fun d:Nat=>Value.int .i64 (d:Int)
theorem may_v {b:Nat}{W H V x y:Int}{bl:Nat->Bool}{d:Nat}{r:Bool}(hr:mayB W H bl x y d=r)(w:World)(g:GridAt w b W H V bl)(s:StepsAt w)(hd:d<8)(x1:-100<=x)(x2:x<=100)(y1:-100<=y)(y2:y<=100) :
  Calls Tryz.prog 142 #[.pointer (some ⟨b,0,none⟩),.int .i64 x,.int .i64 y,.int .i64 d] w fun e w'=>e=.returned (.bool r)/\∃ m,w'=w.drewN m:=hr ▸ may_any x y d w g s hd x1 x2 y1 y2
theorem GridAt.below {w w':World}{b:Nat}{W H V:Int}{bl:Nat->Bool}{B:Nat}(g:GridAt w b W H V bl)(hb:Below B w w')(h:b<B):GridAt w' b W H V bl :=
 ⟨g.w1,g.w2,g.h1,g.h2,(hb.cell (p:=⟨b,0,none⟩) h).trans g.c0,(hb.cell (p:=⟨b,1,none⟩) h).trans g.c1,(hb.cell (p:=⟨b,2,none⟩) h).trans g.c2,fun i hi=>(hb.cell (p:=⟨b,3+i,none⟩) h).trans (g.cs i hi)⟩
theorem StepsAt.below {w w':World}(s:StepsAt w)(hb:Below w.heap.size w w')(_h:0<w.heap.size):StepsAt w' :=
 fun i hi=>⟨(hb.cell (p:=⟨1,2*i,none⟩) (World.block_lt_of_cell? w _ (s i hi).1)).trans (s i hi).1,(hb.cell (p:=⟨1,2*i+1,none⟩) (World.block_lt_of_cell? w _ (s i hi).2)).trans (s i hi).2⟩
theorem Tryz.info3:(Tryz.prog.info? 3).map (fun i=>(i.zero,i.size,i.bytes))=some (some (.int .i64 0),1,8):=by kernel_rfl
end
section
open Go.RowKit
def sideB (n:Int):Bool:=decide (1<=n/\n<=16)
theorem isSide_any (n:Int)(w:World) :
  Calls Tryz.prog 104 #[.int .i64 n] w fun e w'=>e=.returned (.bool (sideB n))/\w'=w:=by
 by_cases h:1<=n
 ·by_cases k:n<=16
  ·rw [show sideB n=true from decide_eq_true ⟨h,k⟩]
   go_enter Tryz.func104,Tryz.ntmps104
   go_wp2
   go_ret
   exact ⟨rfl,rfl⟩
  ·rw [show sideB n=false from decide_eq_false fun q=>k q.2]
   go_enter Tryz.func104,Tryz.ntmps104
   go_wp2
   go_ret
   exact ⟨rfl,rfl⟩
 ·rw [show sideB n=false from decide_eq_false fun q=>h q.1]
  go_enter Tryz.func104,Tryz.ntmps104
  go_wp2
  go_ret
  exact ⟨rfl,rfl⟩
theorem isSide_v {n:Int}{r:Bool}(hr:sideB n=r)(w:World) :
  Calls Tryz.prog 104 #[.int .i64 n] w fun e w'=>e=.returned (.bool r)/\w'=w:=hr ▸ isSide_any n w
set_option maxHeartbeats 400000 in
theorem new_bad (W H:Int)(w:World)(h:sideB W=false\/(sideB W=true/\sideB H=false)) :
  Calls Tryz.prog 68 #[.int .i64 W,.int .i64 H] w fun e w'=>e=.returned (.tuple #[.pointer none,.iface 39 (.int .i64 1)])/\w'=w:=by
 rcases h with h|⟨h,k⟩
 all_goals
  go_enter Tryz.func68,Tryz.ntmps68
  go_wp2_with (go_at_call 104;refine (isSide_v (by assumption) _).mono ?_;rintro e w' ⟨rfl,rfl⟩)
  go_ret2
  exact ⟨rfl,rfl⟩
def gridC (W H:Int):Array Value:=#[.int .i64 W,.int .i64 H,.int .i64 0]++Array.replicate 256 (.bool false)
def refC (W H:Int):Array Value:=#[.int .i64 W,.int .i64 H]++(Array.replicate 256 (.bool false)++#[.int .i64 0])
theorem built65 (W H:Int):Tryz.prog.built 168 [(0,.int .i64 W),(1,.int .i64 H)]=some (gridC W H):=by kernel_rfl
theorem built67 (W H:Int):Tryz.prog.built 65 [(0,.int .i64 W),(1,.int .i64 H)]=some (refC W H):=by kernel_rfl
theorem wpList_build65 {ops:Array Oper}{rest:List Oper}{o:Oper}{a:Act}{w:World}{Q:Exit->Act->World->Prop}(hgd:o.guard=none)(x y:Operand)(ho:o.op=.build 168 #[(0,x),(1,y)])(W H:Int)
  (hx:a.eval x=.int .i64 W) (hy:a.eval y=.int .i64 H) (h:wpList Tryz.prog ops Q rest (a.put o.dst (.agg (gridC W H))) w):wpList Tryz.prog ops Q (o::rest) a w :=
 wpList_plain hgd fun _ hK=>wp_build 168 _ ho (by simp [hx,hy,built65]) (by simp [hx,hy,built65];exact hK _ _ h)
theorem wpList_build67 {ops:Array Oper}{rest:List Oper}{o:Oper}{a:Act}{w:World}{Q:Exit->Act->World->Prop}(hgd:o.guard=none)(x y:Operand)(ho:o.op=.build 65 #[(0,x),(1,y)])(W H:Int)
  (hx:a.eval x=.int .i64 W) (hy:a.eval y=.int .i64 H) (h:wpList Tryz.prog ops Q rest (a.put o.dst (.agg (refC W H))) w):wpList Tryz.prog ops Q (o::rest) a w :=
 wpList_plain hgd fun _ hK=>wp_build 65 _ ho (by simp [hx,hy,built67]) (by simp [hx,hy,built67];exact hK _ _ h)
set_option maxHeartbeats 400000 in
theorem new_ok (W H:Int)(w:World)(h:sideB W=true)(k:sideB H=true) :
  Calls Tryz.prog 68 #[.int .i64 W,.int .i64 H] w fun e w'=>e=.returned (.tuple #[.pointer (some ⟨w.heap.size,0,none⟩),.nilIface])/\w'=w.alloc (.cells (gridC W H) 168):=by
 go_enter Tryz.func68,Tryz.ntmps68
 go_wp2_with (first|(go_at_call 104;refine (isSide_v (by assumption) _).mono ?_;rintro e w' ⟨rfl,rfl⟩)|refine wpList_build65 rfl _ _ rfl W H rfl rfl ?_)
 go_ret2
 exact ⟨rfl,rfl⟩
set_option maxHeartbeats 400000 in
theorem rnew_ok (W H:Int)(w:World)(w1:1<=W)(w2:W<=16)(h1:1<=H)(h2:H<=16) :
  Calls Tryz.prog 69 #[.int .i64 W,.int .i64 H] w fun e w'=>e=.returned (.tuple #[.pointer (some ⟨w.heap.size,0,none⟩),.int .i64 0])/\w'=w.alloc (.cells (refC W H) 65):=by
 go_enter Tryz.func69,Tryz.ntmps69
 go_wp2_with (refine wpList_build67 rfl _ _ rfl W H rfl rfl ?_)
 go_ret2
 exact ⟨rfl,rfl⟩
set_option maxHeartbeats 400000 in
theorem rnew_bad (W H:Int)(w:World)(h:sideB W=false\/(sideB W=true/\sideB H=false)) :
  Calls Tryz.prog 69 #[.int .i64 W,.int .i64 H] w fun e w'=>e=.returned (.tuple #[.pointer none,.int .i64 1])/\w'=w:=by
 have hc:(W<1)\/(¬ W<1/\16<W)\/(¬ W<1/\¬ 16<W/\H<1)\/(¬ W<1/\¬ 16<W/\¬ H<1/\16<H):=by
  unfold sideB at h
  simp only [decide_eq_false_iff_not,decide_eq_true_eq] at h
  omega
 clear h
 rcases hc with h|⟨h1,h2⟩|⟨h1,h2,h3⟩|⟨h1,h2,h3,h4⟩
 all_goals
  go_enter Tryz.func69,Tryz.ntmps69
  go_wp2
  go_ret2
  exact ⟨rfl,rfl⟩
theorem gridC_at (W H:Int)(i:Nat)(hi:i<256):(gridC W H)[3+i]? = some (.bool false):=by
 unfold gridC
 rw [Array.getElem?_append_right (by simp)]
 simp [hi]
theorem gridAt_new (W H:Int)(w:World)(h:sideB W=true)(k:sideB H=true):GridAt (w.alloc (.cells (gridC W H) 168)) w.heap.size W H 0 (fun _=>false):=by
 have a:1<=W/\W<=16:=of_decide_eq_true h
 have b:1<=H/\H<=16:=of_decide_eq_true k
 refine ⟨a.1,a.2,b.1,b.2,?_,?_,?_,fun i hi=>?_⟩
 ·rw [World.cell?_alloc_new];unfold gridC;rw [Array.getElem?_append_left (by simp)];rfl
 ·rw [World.cell?_alloc_new];unfold gridC;rw [Array.getElem?_append_left (by simp)];rfl
 ·rw [World.cell?_alloc_new];unfold gridC;rw [Array.getElem?_append_left (by simp)];rfl
 ·rw [World.cell?_alloc_new];exact gridC_at W H i hi
structure RefAt (w:World) (b:Nat) (W H V:Int) (bl:Nat->Bool):Prop where
 w1:1<=W
 w2:W<=16
 h1:1<=H
 h2:H<=16
 c0:w.cell? ⟨b,0,none⟩=some (.int .i64 W)
 c1:w.cell? ⟨b,1,none⟩=some (.int .i64 H)
 c2:w.cell? ⟨b,258,none⟩=some (.int .i64 V)
 cs:∀ i,i<256->w.cell? ⟨b,2+i,none⟩=some (.bool (bl i))
theorem refAt_new (W H:Int)(w:World)(h:sideB W=true)(k:sideB H=true):RefAt (w.alloc (.cells (refC W H) 65)) w.heap.size W H 0 (fun _=>false):=by
 have a:1<=W/\W<=16:=of_decide_eq_true h
 have b:1<=H/\H<=16:=of_decide_eq_true k
 refine ⟨a.1,a.2,b.1,b.2,?_,?_,?_,fun i hi=>?_⟩
 ·rw [World.cell?_alloc_new];unfold refC;rw [Array.getElem?_append_left (by simp)];rfl
 ·rw [World.cell?_alloc_new];unfold refC;rw [Array.getElem?_append_left (by simp)];rfl
 ·rw [World.cell?_alloc_new];unfold refC;rw [Array.getElem?_append_right (by simp),Array.getElem?_append_right (by simp)];simp
 ·rw [World.cell?_alloc_new];unfold refC;rw [Array.getElem?_append_right (by simp),Array.getElem?_append_left (by simp;omega)];simp [hi]
structure Touch (b:Nat) (w w':World):Prop where
 os:w'.os=w.os
 tape:w'.tape=w.tape
 output:w'.output=w.output
 size:w'.heap.size=w.heap.size
 other:∀ k,k≠b->w'.heap[k]? = w.heap[k]?
theorem Touch.refl (b:Nat)(w:World):Touch b w w:=⟨rfl,rfl,rfl,rfl,fun _ _=>rfl⟩
theorem Touch.drewN {b:Nat}{w w':World}(h:Touch b w w')(m:Nat):Touch b w (w'.drewN m):=⟨h.os,h.tape,h.output,h.size,h.other⟩
theorem Touch.setCell {b:Nat}{w w':World}(h:Touch b w w')(o:Nat)(v:Value):Touch b w (w'.setCell ⟨b,o,none⟩ v) :=
 ⟨h.os,h.tape,h.output,by rw [<- h.size];simp [World.setCell],fun k hk=>(Below.heap_setCell _ _ _ k hk).trans (h.other k hk)⟩
theorem Touch.below {b B:Nat}{a w w':World}(h:Touch b w w')(hb:Below B a w)(hB:B<=b):Below B a w' :=
 hb.trans ⟨h.os,h.tape,h.output,by rw [h.size];exact Nat.le_refl _,fun k hk=>h.other k (by omega)⟩
theorem Touch.cell {b:Nat}{w w':World}(h:Touch b w w'){p:Addr}(hp:p.block≠b):w'.cell? p=w.cell? p:=World.cell?_of_block (h.other _ hp)
theorem Touch.frozen {b:Nat}{w w':World}(h:Touch b w w'){p:Addr}(hp:p.block≠b):w'.frozen? p=w.frozen? p:=World.frozen?_of_block (h.other _ hp)
theorem GridAt.touch {w w':World}{b b':Nat}{W H V:Int}{bl:Nat->Bool}(g:GridAt w b W H V bl)(h:Touch b' w w')(hne:b≠b'):GridAt w' b W H V bl :=
 ⟨g.w1,g.w2,g.h1,g.h2,(h.cell (p:=⟨b,0,none⟩) hne).trans g.c0,(h.cell (p:=⟨b,1,none⟩) hne).trans g.c1,(h.cell (p:=⟨b,2,none⟩) hne).trans g.c2,fun i hi=>(h.cell (p:=⟨b,3+i,none⟩) hne).trans (g.cs i hi)⟩
theorem RefAt.touch {w w':World}{b b':Nat}{W H V:Int}{bl:Nat->Bool}(g:RefAt w b W H V bl)(h:Touch b' w w')(hne:b≠b'):RefAt w' b W H V bl :=
 ⟨g.w1,g.w2,g.h1,g.h2,(h.cell (p:=⟨b,0,none⟩) hne).trans g.c0,(h.cell (p:=⟨b,1,none⟩) hne).trans g.c1,(h.cell (p:=⟨b,258,none⟩) hne).trans g.c2,fun i hi=>(h.cell (p:=⟨b,2+i,none⟩) hne).trans (g.cs i hi)⟩
theorem RefAt.drewN {w:World}{b:Nat}{W H V:Int}{bl:Nat->Bool}(g:RefAt w b W H V bl)(m:Nat):RefAt (w.drewN m) b W H V bl:=⟨g.w1,g.w2,g.h1,g.h2,g.c0,g.c1,g.c2,g.cs⟩
theorem RefAt.below {w w':World}{b:Nat}{W H V:Int}{bl:Nat->Bool}{B:Nat}(g:RefAt w b W H V bl)(hb:Below B w w')(h:b<B):RefAt w' b W H V bl :=
 ⟨g.w1,g.w2,g.h1,g.h2,(hb.cell (p:=⟨b,0,none⟩) h).trans g.c0,(hb.cell (p:=⟨b,1,none⟩) h).trans g.c1,(hb.cell (p:=⟨b,258,none⟩) h).trans g.c2,fun i hi=>(hb.cell (p:=⟨b,2+i,none⟩) h).trans (g.cs i hi)⟩
def upd (bl:Nat->Bool) (c:Nat) (v:Bool):Nat->Bool:=fun i=>if i=c then v else bl i
end
end Go.Proofs.YtipbhlofbpnpjaaGreatDoor
