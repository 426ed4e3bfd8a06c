/-
  Texts laid together: Cost, Oct, Small, Grid.
-/
import Derived.Test.YtipbhlofbpnpjaaGreatDoorQ1
import Derived.Test.YtipbhlofbpnpjaaGreatDoorRows
namespace Go.Proofs.YtipbhlofbpnpjaaGreatDoor
section
open Go.RowKit
def okC (s d:Int):Prop:=0<=s/\s<=8388608/\0<=d/\d<=8388608
set_option maxHeartbeats 400000 in
theorem add_any (s d t u:Int) (w:World) (h:okC s d) (k:okC t u) :
  Calls Tryz.prog 30 #[.agg #[.int .i64 s,.int .i64 d],.agg #[.int .i64 t,.int .i64 u]] w fun e w'=>e=.returned (.agg #[.int .i64 (s+t),.int .i64 (d+u)])/\Below w.heap.size w w':=by
 obtain ⟨h1,h2,h3,h4⟩:=h
 obtain ⟨k1,k2,k3,k4⟩:=k
 go_enter Tryz.func30,Tryz.ntmps30
 go_wp2
 exact bodyPost_ret (v:=.agg #[.int .i64 (s+t),.int .i64 (d+u)]) (by simp [results,Tryz.results30,go_sem]) rfl ⟨rfl,((((Below.refl _ _).alloc (Nat.le_refl _) _).alloc (by simp) _).alloc (by simp;omega) _)⟩
theorem cmpC_val' (s d t u:Int) (h:okC s d) (k:okC t u):cmpC s d t u=cmpI (val s d) (val t u):=by
 obtain ⟨h1,h2,h3,h4⟩:=h
 obtain ⟨k1,k2,k3,k4⟩:=k
 exact cmpC_val s d t u (by omega) (by omega)
def inC (s d:Int):Prop:=0<=s/\s<=1048576/\0<=d/\d<=1048576
def ltB (s d t u:Int):Bool:=decide (cmpC s d t u < 0)
end
section
open Go.RowKit
def dst (a b:Int):Int:=if a < b then b - a else a - b
def les (a b:Int):Int:=if a < b then a else b
def nearB (a:Int):Prop:=-1048576<=a/\a<=1048576
theorem dst_bd (a b:Int) (h:nearB a) (k:nearB b):0<=dst a b/\dst a b<=2097152:=by
 unfold nearB at h k;unfold dst;split <;> omega
set_option maxHeartbeats 400000 in
theorem dst_any (a b:Int) (w:World) (h:nearB a) (k:nearB b) :
  Calls Tryz.prog 109 #[.int .i64 a,.int .i64 b] w fun e w'=>e=.returned (.int .i64 (dst a b))/\w'=w:=by
 obtain ⟨h1,h2⟩:=h
 obtain ⟨h3,h4⟩:=k
 by_cases h:a < b
 ·have e:dst a b=b - a:=by unfold dst;rw [if_pos h]
  rw [e];clear e
  go_enter Tryz.func109,Tryz.ntmps109
  go_wp2
  go_ret
  exact ⟨rfl,rfl⟩
 ·have e:dst a b=a - b:=by unfold dst;rw [if_neg h]
  rw [e];clear e
  by_cases g:b < a
  ·clear h
   go_enter Tryz.func109,Tryz.ntmps109
   go_wp2
   go_ret
   exact ⟨rfl,rfl⟩
  ·have:a=b:=by omega
   subst this
   rw [Int.sub_self]
   go_enter Tryz.func109,Tryz.ntmps109
   go_wp2
   go_ret
   exact ⟨rfl,rfl⟩
theorem dst_v {a b r:Int}(hr:dst a b=r) (w:World) (h:nearB a) (k:nearB b) :
  Calls Tryz.prog 109 #[.int .i64 a,.int .i64 b] w fun e w'=>e=.returned (.int .i64 r)/\w'=w:=hr ▸ dst_any a b w h k
set_option maxHeartbeats 400000 in
theorem oct_any (x y t u:Int) (w:World) (hx:nearB x) (hy:nearB y) (ht:nearB t) (hu:nearB u) :
  Calls Tryz.prog 78 #[.int .i64 x,.int .i64 y,.int .i64 t,.int .i64 u] w fun e w'=>e=.returned (.agg #[.int .i64 (dst (dst x t) (dst y u)),.int .i64 (les (dst x t) (dst y u))])/\Below w.heap.size w w':=by
 have b1:=dst_bd x t hx ht
 have b2:=dst_bd y u hy hu
 by_cases h:dst x t < dst y u
 ·have e1:dst (dst x t) (dst y u)=dst y u - dst x t:=by unfold dst at *;rw [if_pos h]
  have e2:les (dst x t) (dst y u)=dst x t:=by unfold les;rw [if_pos h]
  rw [e1,e2];clear e1 e2
  generalize hA:dst x t=A at *
  generalize hB:dst y u=B at *
  go_enter Tryz.func78,Tryz.ntmps78
  go_wp2_with (go_at_call 109;refine (dst_any _ _ _ ?_ ?_).mono ?_;assumption;assumption;rintro e w' ⟨rfl,rfl⟩)
  exact bodyPost_ret (v:=.agg #[.int .i64 (B - A),.int .i64 A]) (by simp [results,Tryz.results78,go_sem]) rfl ⟨rfl,(Below.refl _ _).alloc (Nat.le_refl _) _⟩
 ·have e1:dst (dst x t) (dst y u)=dst x t - dst y u:=by unfold dst at *;rw [if_neg h]
  have e2:les (dst x t) (dst y u)=dst y u:=by unfold les;rw [if_neg h]
  rw [e1,e2];clear e1 e2
  generalize hA:dst x t=A at *
  generalize hB:dst y u=B at *
  by_cases g:B < A
  ·clear h
   go_enter Tryz.func78,Tryz.ntmps78
   go_wp2_with (go_at_call 109;refine (dst_v (by assumption) _ (by assumption) (by assumption)).mono ?_;rintro e w' ⟨rfl,rfl⟩)
   exact bodyPost_ret (v:=.agg #[.int .i64 (A - B),.int .i64 B]) (by simp [results,Tryz.results78,go_sem]) rfl ⟨rfl,(Below.refl _ _).alloc (Nat.le_refl _) _⟩
  ·have:A=B:=by omega
   subst this
   rw [Int.sub_self]
   go_enter Tryz.func78,Tryz.ntmps78
   go_wp2_with (go_at_call 109;refine (dst_v (by assumption) _ (by assumption) (by assumption)).mono ?_;rintro e w' ⟨rfl,rfl⟩)
   exact bodyPost_ret (v:=.agg #[.int .i64 0,.int .i64 A]) (by simp [results,Tryz.results78,go_sem]) rfl ⟨rfl,(Below.refl _ _).alloc (Nat.le_refl _) _⟩
end
section
open Go.RowKit
end
section
open Go.RowKit
structure GridAt (w:World) (b:Nat) (W H V:Int) (bl:Nat->Bool):Prop where
 w1:1<=W
 w2:W<=16
 h1:1<=H
 h2:H<=16
 c0:w.cell? ⟨b,0,none⟩=some (.int .i64 W)
 c1:w.cell? ⟨b,1,none⟩=some (.int .i64 H)
 c2:w.cell? ⟨b,2,none⟩=some (.int .i64 V)
 cs:∀ i,i < 256->w.cell? ⟨b,3+i,none⟩=some (.bool (bl i))
theorem wh_bd {W H:Int}(w1:1<=W) (w2:W<=16) (h1:1<=H) (h2:H<=16):1<=W*H/\W*H<=256:=by
 have a:=Int.mul_le_mul w1 h1 (by omega) (by omega)
 have b:=Int.mul_le_mul w2 h2 (by omega) (by omega)
 omega
set_option maxHeartbeats 400000 in
theorem cells_any {b:Nat}{W H V:Int}{bl:Nat->Bool}(w:World) (g:GridAt w b W H V bl) :
  Calls Tryz.prog 53 #[.pointer (some ⟨b,0,none⟩)] w fun e w'=>e=.returned (.int .i64 (W*H))/\∃ m,w'=w.drewN m:=by
 obtain ⟨w1,w2,h1,h2,c0,c1,c2,cs⟩:=g
 obtain ⟨k1,k2⟩:=wh_bd w1 w2 h1 h2
 go_enter Tryz.func53,Tryz.ntmps53
 go_wp2
 go_quiet (fail)
 go_wp2
 go_ret
 exact ⟨rfl,_,rfl⟩
def inB (W H c:Int):Bool:=decide (0<=c/\c < W*H)
set_option maxHeartbeats 400000 in
theorem hasCell_any {b:Nat}{W H V:Int}{bl:Nat->Bool}(c:Int) (w:World) (g:GridAt w b W H V bl) :
  Calls Tryz.prog 105 #[.pointer (some ⟨b,0,none⟩),.int .i64 c] w fun e w'=>e=.returned (.bool (inB W H c))/\∃ m,w'=w.drewN m:=by
 by_cases h:0<=c
 ·by_cases k:c < W*H
  ·rw [show inB W H c=true from decide_eq_true ⟨h,k⟩]
   go_enter Tryz.func105,Tryz.ntmps105
   go_wp2_with (go_at_call 53;refine (cells_any _ g).mono ?_;rintro e w' ⟨rfl,m,rfl⟩)
   go_ret
   exact ⟨rfl,_,rfl⟩
  ·rw [show inB W H c=false from decide_eq_false fun q=>k q.2]
   have hd:decide (c < W*H)=false:=decide_eq_false k
   go_enter Tryz.func105,Tryz.ntmps105
   go_wp2_with (go_at_call 53;refine (cells_any _ g).mono ?_;rintro e w' ⟨rfl,m,rfl⟩)
   go_ret
   exact ⟨rfl,_,rfl⟩
 ·rw [show inB W H c=false from decide_eq_false fun q=>h q.1]
  go_enter Tryz.func105,Tryz.ntmps105
  go_wp2
  go_ret
  exact ⟨rfl,0,rfl⟩
def atB (W H x y:Int):Bool:=decide (0<=x/\x < W/\0<=y/\y < H)
set_option maxHeartbeats 1000000 in
theorem hasPlace_any {b:Nat}{W H V:Int}{bl:Nat->Bool}(x y:Int) (w:World) (g:GridAt w b W H V bl) :
  Calls Tryz.prog 135 #[.pointer (some ⟨b,0,none⟩),.int .i64 x,.int .i64 y] w fun e w'=>e=.returned (.bool (atB W H x y))/\w'=w:=by
 obtain ⟨w1,w2,h1,h2,c0,c1,c2,cs⟩:=g
 have hc:(0<=x/\x < W/\0<=y/\y < H)\/(¬ 0<=x)\/(0<=x/\¬ x < W)\/(0<=x/\x < W/\¬ 0<=y)\/(0<=x/\x < W/\0<=y/\¬ y < H):=by omega
 rcases hc with h | h | h | h | h
 ·rw [show atB W H x y=true from decide_eq_true h]
  obtain ⟨q1,q2,q3,q4⟩:=h
  go_enter Tryz.func135,Tryz.ntmps135
  go_wp2
  go_ret
  exact ⟨rfl,rfl⟩
 all_goals
  rw [show atB W H x y=false from decide_eq_false (by omega)]
  go_enter Tryz.func135,Tryz.ntmps135
  go_wp2
  go_ret
  exact ⟨rfl,rfl⟩
theorem yw_bd {W y:Int}(w1:1<=W) (w2:W<=16) (y1:-100<=y) (y2:y<=100):-1600<=y*W/\y*W<=1600:=by
 rcases Int.le_total 0 y with h | h
 ·have a:=Int.mul_nonneg h (show 0<=W by omega)
  have b:=Int.mul_le_mul y2 w2 (by omega) (by omega)
  omega
 ·have a:=Int.mul_nonneg (show 0<=-y by omega) (show 0<=W by omega)
  have b:=Int.mul_le_mul (show -y<=100 by omega) w2 (by omega) (by omega)
  rw [Int.neg_mul] at a b
  omega
set_option maxHeartbeats 400000 in
theorem number_any {b:Nat}{W H V:Int}{bl:Nat->Bool}(x y:Int) (w:World) (g:GridAt w b W H V bl) (x1:-100<=x) (x2:x<=100) (y1:-100<=y) (y2:y<=100) :
  Calls Tryz.prog 136 #[.pointer (some ⟨b,0,none⟩),.int .i64 x,.int .i64 y] w fun e w'=>e=.returned (.int .i64 (y*W+x))/\w'=w:=by
 obtain ⟨w1,w2,h1,h2,c0,c1,c2,cs⟩:=g
 obtain ⟨k1,k2⟩:=yw_bd w1 w2 y1 y2
 go_enter Tryz.func136,Tryz.ntmps136
 go_wp2
 go_ret
 exact ⟨rfl,rfl⟩
def openB (W H:Int) (bl:Nat->Bool) (x y:Int):Bool:=atB W H x y&&!bl (y*W+x).toNat
theorem idx_bd {W H x y:Int}(w1:1<=W) (w2:W<=16) (h1:1<=H) (h2:H<=16) (x1:0<=x) (x2:x < W) (y1:0<=y) (y2:y < H):0<=y*W+x/\y*W+x < W*H/\y*W+x < 256:=by
 have k:=wh_bd w1 w2 h1 h2
 have a:=Int.mul_nonneg y1 (show 0<=W by omega)
 have b:y*W+W<=H*W:=by
  have:=Int.mul_le_mul_of_nonneg_right (show y+1<=H by omega) (show 0<=W by omega)
  rw [Int.add_mul,Int.one_mul] at this
  exact this
 rw [Int.mul_comm H W] at b
 omega
set_option maxHeartbeats 400000 in
theorem open_any {b:Nat}{W H V:Int}{bl:Nat->Bool}(x y:Int) (w:World) (g:GridAt w b W H V bl) :
  Calls Tryz.prog 97 #[.pointer (some ⟨b,0,none⟩),.int .i64 x,.int .i64 y] w fun e w'=>e=.returned (.bool (openB W H bl x y))/\∃ m,w'=w.drewN m:=by
 by_cases h:0<=x/\x < W/\0<=y/\y < H
 ·have ha:atB W H x y=true:=decide_eq_true h
  have e:openB W H bl x y=!bl (y*W+x).toNat:=by unfold openB;rw [ha];rfl
  rw [e];clear e
  obtain ⟨x1,x2,y1,y2⟩:=h
  obtain ⟨i1,i2,i3⟩:=idx_bd g.w1 g.w2 g.h1 g.h2 x1 x2 y1 y2
  have gw1:=g.w1
  have gw2:=g.w2
  have gh2:=g.h2
  have hp:∀ w:World,GridAt w b W H V bl->Calls Tryz.prog 135 #[.pointer (some ⟨b,0,none⟩),.int .i64 x,.int .i64 y] w fun e w'=>e=.returned (.bool true)/\w'=w:=fun w g=>ha ▸ hasPlace_any x y w g
  have hc:=g.cs (y*W+x).toNat (by omega)
  obtain ⟨n,hn⟩:∃ n:Nat,y*W+x=n:=⟨(y*W+x).toNat,by omega⟩
  have gd:∀ m,GridAt (w.drewN m) b W H V bl:=fun m=>⟨g.w1,g.w2,g.h1,g.h2,g.c0,g.c1,g.c2,g.cs⟩
  have hnum:∀ w:World,GridAt w b W H V bl->Calls Tryz.prog 136 #[.pointer (some ⟨b,0,none⟩),.int .i64 x,.int .i64 y] w fun e w'=>e=.returned (.int .i64 n)/\w'=w:=fun w g=>hn ▸ number_any x y w g (by omega) (by omega) (by omega) (by omega)
  rw [hn] at hc i1 i3 ⊢
  simp only [Int.toNat_natCast] at hc ⊢
  have j3:(n:Int) < 256:=i3
  clear hn i2 ha
  go_enter Tryz.func97,Tryz.ntmps97
  go_wp2
  go_quiet (first | (go_at_call 135;exact Calls.quiet_of_same (hp _ (gd _))) | (go_at_call 136;exact Calls.quiet_of_same (hnum _ (gd _))))
  go_wp2
  go_ret
  exact ⟨rfl,_,rfl⟩
 ·have ha:atB W H x y=false:=decide_eq_false h
  have e:openB W H bl x y=false:=by unfold openB;rw [ha];rfl
  rw [e];clear e
  have hp:∀ w:World,GridAt w b W H V bl->Calls Tryz.prog 135 #[.pointer (some ⟨b,0,none⟩),.int .i64 x,.int .i64 y] w fun e w'=>e=.returned (.bool false)/\w'=w:=fun w g=>ha ▸ hasPlace_any x y w g
  have gd:∀ m,GridAt (w.drewN m) b W H V bl:=fun m=>⟨g.w1,g.w2,g.h1,g.h2,g.c0,g.c1,g.c2,g.cs⟩
  clear ha h
  go_enter Tryz.func97,Tryz.ntmps97
  go_wp2
  go_quiet ((go_at_call 135;exact Calls.quiet_of_same (hp _ (gd _))))
  go_wp2
  go_ret
  exact ⟨rfl,_,rfl⟩
def stepX (d:Nat):Int:=[0,1,1,1,0,-1,-1,-1].getD d 0
def stepY (d:Nat):Int:=[-1,-1,0,1,1,1,0,-1].getD d 0
def StepsAt (w:World):Prop:=∀ i,i < 8->w.cell? ⟨1,2*i,none⟩=some (.int .i64 (stepX i))/\w.cell? ⟨1,2*i+1,none⟩=some (.int .i64 (stepY i))
set_option maxHeartbeats 1000000 in
theorem step_any (d:Nat) (w:World) (h:StepsAt w) (hd:d < 8) :
  Calls Tryz.prog 158 #[.int .i64 d] w fun e w'=>e=.returned (.tuple #[.int .i64 (stepX d),.int .i64 (stepY d)])/\∃ m,w'=w.drewN m:=by
 obtain ⟨a,b⟩:=h d hd
 have b0:bits BinOp.and IntKind.i64 0 7=0:=by decide
 have b1:bits BinOp.and IntKind.i64 1 7=1:=by decide
 have b2:bits BinOp.and IntKind.i64 2 7=2:=by decide
 have b3:bits BinOp.and IntKind.i64 3 7=3:=by decide
 have b4:bits BinOp.and IntKind.i64 4 7=4:=by decide
 have b5:bits BinOp.and IntKind.i64 5 7=5:=by decide
 have b6:bits BinOp.and IntKind.i64 6 7=6:=by decide
 have b7:bits BinOp.and IntKind.i64 7 7=7:=by decide
 have hks:d=0\/d=1\/d=2\/d=3\/d=4\/d=5\/d=6\/d=7:=by omega
 clear h
 rcases hks with rfl | rfl | rfl | rfl | rfl | rfl | rfl | rfl
 all_goals
  simp [stepX,stepY] at a b
  go_enter Tryz.func158,Tryz.ntmps158
  go_wp2
  go_quiet (fail)
  go_wp2
  go_ret2
  exact ⟨rfl,_,rfl⟩
end
end Go.Proofs.YtipbhlofbpnpjaaGreatDoor
