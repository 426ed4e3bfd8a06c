/-
  Texts laid together: Aid, Small, Grid, Moves, New, Set.
-/
import Derived.WalkKit
import Derived.WalkSpells
import Derived.WalkLawsBesides
import Derived.Deep.QuietTactic
import Derived.BigQuiet
import Derived.Test.YtmaefimaeelkbaaGreatDoorProg
namespace Go.Proofs.YtmaefimaeelkbaaGreatDoor
section
open Go.RowKit
structure Since (w:World) where
 u:World
 h:Below w.heap.size w u
theorem since_ne (w:World):Nonempty (Since w):=⟨⟨w,Below.refl _ _⟩⟩
theorem Since.cell {w:World}(x:Since w)(b o:Nat)(hb:b<w.heap.size):x.u.cell? ⟨b,o,none⟩=w.cell? ⟨b,o,none⟩:=x.h.cell (p:=⟨b,o,none⟩) hb
theorem wp_region_since {P:Program}{id:Nat}{Q:Exit->Act->World->Prop}{a:Act}{w:World}{l:List Oper}(hm:P.follows .mixedOrders=true)(hB:Region.lexB .any l.toArray=true)
  (h:wpQuiet P l.toArray (fun w'=>∃ x:Since w,w'=x.u) (fun a'=>∀ w',(∃ x:Since w,w'=x.u)->Q .normal a' w') l a):(Code.region id l.toArray true).wp P Q a w :=
 wp_region_quiet (C:=fun w'=>∃ x:Since w,w'=x.u) hm hB ⟨⟨{ w with drawn:=w.drawn+1 },(Below.refl _ w).drew⟩,rfl⟩ (by simpa using h)
theorem Calls.since_of {P:Program}{f:FuncId}{args:Array Value}{w:World}{x:Since w}{v:Value}
  (h:Calls P f args x.u fun e w'=>e=.returned v/\Below x.u.heap.size x.u w'):Calls P f args x.u fun e w''=>e=.returned v/\∃ y:Since w,w''=y.u :=
 h.mono fun _ w' ⟨he,hb⟩=>⟨he,⟨w',x.h.trans (hb.mono x.h.size)⟩,rfl⟩
theorem bcell {W w1:World}(hb:Below W.heap.size W w1):(∀ b o,b<W.heap.size->w1.cell? ⟨b,o,none⟩=W.cell? ⟨b,o,none⟩)/\(∀ b o,b<W.heap.size->w1.frozen? ⟨b,o,none⟩=W.frozen? ⟨b,o,none⟩) :=
 ⟨fun b o h=>hb.cell (p:=⟨b,o,none⟩) h,fun b o h=>hb.frozen (p:=⟨b,o,none⟩) h⟩
end
section
open Go.RowKit
end
section
open Go.RowKit
structure GridAt (w:World) (b:Nat) (W H V:Int) (bl:Nat->Bool):Prop where
 w1:1<=W
 w2:W<=16
 h1:1<=H
 h2:H<=16
 c0:w.cell? ⟨b,0,none⟩=some (.int .i64 W)
 c1:w.cell? ⟨b,1,none⟩=some (.int .i64 H)
 c2:w.cell? ⟨b,2,none⟩=some (.int .i64 V)
 cs:∀ i,i<256->w.cell? ⟨b,3+i,none⟩=some (.bool (bl i))
theorem wh_bd {W H:Int}(w1:1<=W)(w2:W<=16)(h1:1<=H)(h2:H<=16):1<=W*H/\W*H<=256:=by
 have a:=Int.mul_le_mul w1 h1 (by omega) (by omega)
 have b:=Int.mul_le_mul w2 h2 (by omega) (by omega)
 omega
set_option maxHeartbeats 400000 in
theorem cells_any {b:Nat}{W H V:Int}{bl:Nat->Bool}(w:World)(g:GridAt w b W H V bl) :
  Calls Tryz.prog 52 #[.pointer (some ⟨b,0,none⟩)] w fun e w'=>e=.returned (.int .i64 (W*H))/\∃ m,w'=w.drewN m:=by
 obtain ⟨w1,w2,h1,h2,c0,c1,c2,cs⟩:=g
 obtain ⟨k1,k2⟩:=wh_bd w1 w2 h1 h2
 go_enter Tryz.func52,Tryz.ntmps52
 go_wp2
 go_quiet (fail)
 go_wp2
 go_ret
 exact ⟨rfl,_,rfl⟩
def inB (W H c:Int):Bool:=decide (0<=c/\c<W*H)
set_option maxHeartbeats 400000 in
theorem hasCell_any {b:Nat}{W H V:Int}{bl:Nat->Bool}(c:Int)(w:World)(g:GridAt w b W H V bl) :
  Calls Tryz.prog 117 #[.pointer (some ⟨b,0,none⟩),.int .i64 c] w fun e w'=>e=.returned (.bool (inB W H c))/\∃ m,w'=w.drewN m:=by
 by_cases h:0<=c
 ·by_cases k:c<W*H
  ·rw [show inB W H c=true from decide_eq_true ⟨h,k⟩]
   go_enter Tryz.func117,Tryz.ntmps117
   go_wp2_with (go_at_call 52;refine (cells_any _ g).mono ?_;rintro e w' ⟨rfl,m,rfl⟩)
   go_ret
   exact ⟨rfl,_,rfl⟩
  ·rw [show inB W H c=false from decide_eq_false fun q=>k q.2]
   have hd:decide (c<W*H)=false:=decide_eq_false k
   go_enter Tryz.func117,Tryz.ntmps117
   go_wp2_with (go_at_call 52;refine (cells_any _ g).mono ?_;rintro e w' ⟨rfl,m,rfl⟩)
   go_ret
   exact ⟨rfl,_,rfl⟩
 ·rw [show inB W H c=false from decide_eq_false fun q=>h q.1]
  go_enter Tryz.func117,Tryz.ntmps117
  go_wp2
  go_ret
  exact ⟨rfl,0,rfl⟩
def atB (W H x y:Int):Bool:=decide (0<=x/\x<W/\0<=y/\y<H)
set_option maxHeartbeats 1000000 in
theorem hasPlace_any {b:Nat}{W H V:Int}{bl:Nat->Bool}(x y:Int)(w:World)(g:GridAt w b W H V bl) :
  Calls Tryz.prog 139 #[.pointer (some ⟨b,0,none⟩),.int .i64 x,.int .i64 y] w fun e w'=>e=.returned (.bool (atB W H x y))/\w'=w:=by
 obtain ⟨w1,w2,h1,h2,c0,c1,c2,cs⟩:=g
 have hc:(0<=x/\x<W/\0<=y/\y<H)\/(¬ 0<=x)\/(0<=x/\¬ x<W)\/(0<=x/\x<W/\¬ 0<=y)\/(0<=x/\x<W/\0<=y/\¬ y<H):=by omega
 rcases hc with h|h|h|h|h
 ·rw [show atB W H x y=true from decide_eq_true h]
  obtain ⟨q1,q2,q3,q4⟩:=h
  go_enter Tryz.func139,Tryz.ntmps139
  go_wp2
  go_ret
  exact ⟨rfl,rfl⟩
 all_goals
  rw [show atB W H x y=false from decide_eq_false (by omega)]
  go_enter Tryz.func139,Tryz.ntmps139
  go_wp2
  go_ret
  exact ⟨rfl,rfl⟩
theorem yw_bd {W y:Int}(w1:1<=W)(w2:W<=16)(y1:-100<=y)(y2:y<=100):-1600<=y*W/\y*W<=1600:=by
 rcases Int.le_total 0 y with h|h
 ·have a:=Int.mul_nonneg h (show 0<=W by omega)
  have b:=Int.mul_le_mul y2 w2 (by omega) (by omega)
  omega
 ·have a:=Int.mul_nonneg (show 0<=-y by omega) (show 0<=W by omega)
  have b:=Int.mul_le_mul (show -y<=100 by omega) w2 (by omega) (by omega)
  rw [Int.neg_mul] at a b
  omega
set_option maxHeartbeats 400000 in
theorem number_any {b:Nat}{W H V:Int}{bl:Nat->Bool}(x y:Int)(w:World)(g:GridAt w b W H V bl)(x1:-100<=x)(x2:x<=100)(y1:-100<=y)(y2:y<=100) :
  Calls Tryz.prog 140 #[.pointer (some ⟨b,0,none⟩),.int .i64 x,.int .i64 y] w fun e w'=>e=.returned (.int .i64 (y*W+x))/\w'=w:=by
 obtain ⟨w1,w2,h1,h2,c0,c1,c2,cs⟩:=g
 obtain ⟨k1,k2⟩:=yw_bd w1 w2 y1 y2
 go_enter Tryz.func140,Tryz.ntmps140
 go_wp2
 go_ret
 exact ⟨rfl,rfl⟩
def openB (W H:Int) (bl:Nat->Bool) (x y:Int):Bool:=atB W H x y&&!bl (y*W+x).toNat
theorem idx_bd {W H x y:Int}(w1:1<=W)(w2:W<=16)(h1:1<=H)(h2:H<=16)(x1:0<=x)(x2:x<W)(y1:0<=y)(y2:y<H):0<=y*W+x/\y*W+x<W*H/\y*W+x<256:=by
 have k:=wh_bd w1 w2 h1 h2
 have a:=Int.mul_nonneg y1 (show 0<=W by omega)
 have b:y*W+W<=H*W:=by
  have:=Int.mul_le_mul_of_nonneg_right (show y+1<=H by omega) (show 0<=W by omega)
  rw [Int.add_mul,Int.one_mul] at this
  exact this
 rw [Int.mul_comm H W] at b
 omega
set_option maxHeartbeats 400000 in
theorem open_any {b:Nat}{W H V:Int}{bl:Nat->Bool}(x y:Int)(w:World)(g:GridAt w b W H V bl) :
  Calls Tryz.prog 97 #[.pointer (some ⟨b,0,none⟩),.int .i64 x,.int .i64 y] w fun e w'=>e=.returned (.bool (openB W H bl x y))/\∃ m,w'=w.drewN m:=by
 by_cases h:0<=x/\x<W/\0<=y/\y<H
 ·have ha:atB W H x y=true:=decide_eq_true h
  have e:openB W H bl x y=!bl (y*W+x).toNat:=by unfold openB;rw [ha];rfl
  rw [e];clear e
  obtain ⟨x1,x2,y1,y2⟩:=h
  obtain ⟨i1,i2,i3⟩:=idx_bd g.w1 g.w2 g.h1 g.h2 x1 x2 y1 y2
  have gw1:=g.w1
  have gw2:=g.w2
  have gh2:=g.h2
  have hp:∀ w:World,GridAt w b W H V bl->Calls Tryz.prog 139 #[.pointer (some ⟨b,0,none⟩),.int .i64 x,.int .i64 y] w fun e w'=>e=.returned (.bool true)/\w'=w:=fun w g=>ha ▸ hasPlace_any x y w g
  have hc:=g.cs (y*W+x).toNat (by omega)
  obtain ⟨n,hn⟩:∃ n:Nat,y*W+x=n:=⟨(y*W+x).toNat,by omega⟩
  have gd:∀ m,GridAt (w.drewN m) b W H V bl:=fun m=>⟨g.w1,g.w2,g.h1,g.h2,g.c0,g.c1,g.c2,g.cs⟩
  have hnum:∀ w:World,GridAt w b W H V bl->Calls Tryz.prog 140 #[.pointer (some ⟨b,0,none⟩),.int .i64 x,.int .i64 y] w fun e w'=>e=.returned (.int .i64 n)/\w'=w:=fun w g=>hn ▸ number_any x y w g (by omega) (by omega) (by omega) (by omega)
  rw [hn] at hc i1 i3 ⊢
  simp only [Int.toNat_natCast] at hc ⊢
  have j3:(n:Int)<256:=i3
  clear hn i2 ha
  go_enter Tryz.func97,Tryz.ntmps97
  go_wp2
  go_quiet (first|(go_at_call 139;exact Calls.quiet_of_same (hp _ (gd _)))|(go_at_call 140;exact Calls.quiet_of_same (hnum _ (gd _))))
  go_wp2
  go_ret
  exact ⟨rfl,_,rfl⟩
 ·have ha:atB W H x y=false:=decide_eq_false h
  have e:openB W H bl x y=false:=by unfold openB;rw [ha];rfl
  rw [e];clear e
  have hp:∀ w:World,GridAt w b W H V bl->Calls Tryz.prog 139 #[.pointer (some ⟨b,0,none⟩),.int .i64 x,.int .i64 y] w fun e w'=>e=.returned (.bool false)/\w'=w:=fun w g=>ha ▸ hasPlace_any x y w g
  have gd:∀ m,GridAt (w.drewN m) b W H V bl:=fun m=>⟨g.w1,g.w2,g.h1,g.h2,g.c0,g.c1,g.c2,g.cs⟩
  clear ha h
  go_enter Tryz.func97,Tryz.ntmps97
  go_wp2
  go_quiet ((go_at_call 139;exact Calls.quiet_of_same (hp _ (gd _))))
  go_wp2
  go_ret
  exact ⟨rfl,_,rfl⟩
def stepX (d:Nat):Int:=[0,1,1,1,0,-1,-1,-1].getD d 0
def stepY (d:Nat):Int:=[-1,-1,0,1,1,1,0,-1].getD d 0
def StepsAt (w:World):Prop:=∀ i,i<8->w.cell? ⟨1,2*i,none⟩=some (.int .i64 (stepX i))/\w.cell? ⟨1,2*i+1,none⟩=some (.int .i64 (stepY i))
set_option maxHeartbeats 1000000 in
theorem step_any (d:Nat)(w:World)(h:StepsAt w)(hd:d<8) :
  Calls Tryz.prog 151 #[.int .i64 d] w fun e w'=>e=.returned (.tuple #[.int .i64 (stepX d),.int .i64 (stepY d)])/\∃ m,w'=w.drewN m:=by
 obtain ⟨a,b⟩:=h d hd
 have b0:bits BinOp.and IntKind.i64 0 7=0:=by decide
 have b1:bits BinOp.and IntKind.i64 1 7=1:=by decide
 have b2:bits BinOp.and IntKind.i64 2 7=2:=by decide
 have b3:bits BinOp.and IntKind.i64 3 7=3:=by decide
 have b4:bits BinOp.and IntKind.i64 4 7=4:=by decide
 have b5:bits BinOp.and IntKind.i64 5 7=5:=by decide
 have b6:bits BinOp.and IntKind.i64 6 7=6:=by decide
 have b7:bits BinOp.and IntKind.i64 7 7=7:=by decide
 have hks:d=0\/d=1\/d=2\/d=3\/d=4\/d=5\/d=6\/d=7:=by omega
 clear h
 rcases hks with rfl|rfl|rfl|rfl|rfl|rfl|rfl|rfl
 all_goals
  simp [stepX,stepY] at a b
  go_enter Tryz.func151,Tryz.ntmps151
  go_wp2
  go_quiet (fail)
  go_wp2
  go_ret2
  exact ⟨rfl,_,rfl⟩
end
section
open Go.RowKit
theorem GridAt.drewN {w:World}{b:Nat}{W H V:Int}{bl:Nat->Bool}(g:GridAt w b W H V bl)(m:Nat):GridAt (w.drewN m) b W H V bl:=⟨g.w1,g.w2,g.h1,g.h2,g.c0,g.c1,g.c2,g.cs⟩
theorem StepsAt.drewN {w:World}(h:StepsAt w)(m:Nat):StepsAt (w.drewN m):=h
def mayB (W H:Int) (bl:Nat->Bool) (x y:Int) (d:Nat):Bool:=openB W H bl x y&&openB W H bl (x+stepX d) (y+stepY d)&&openB W H bl (x+stepX d) y&&openB W H bl x (y+stepY d)
theorem step_bd (d:Nat):-1<=stepX d/\stepX d<=1/\-1<=stepY d/\stepY d<=1:=by
 by_cases h:d<8
 ·have hks:d=0\/d=1\/d=2\/d=3\/d=4\/d=5\/d=6\/d=7:=by omega
  rcases hks with rfl|rfl|rfl|rfl|rfl|rfl|rfl|rfl <;> decide
 ·have e1:stepX d=0:=by unfold stepX;rw [List.getD_eq_getElem?_getD,List.getElem?_eq_none (by simp;omega)];rfl
  have e2:stepY d=0:=by unfold stepY;rw [List.getD_eq_getElem?_getD,List.getElem?_eq_none (by simp;omega)];rfl
  omega
theorem open_v {b:Nat}{W H V:Int}{bl:Nat->Bool}{x y:Int}{r:Bool}(hr:openB W H bl x y=r)(w:World)(g:GridAt w b W H V bl) :
  Calls Tryz.prog 97 #[.pointer (some ⟨b,0,none⟩),.int .i64 x,.int .i64 y] w fun e w'=>e=.returned (.bool r)/\∃ m,w'=w.drewN m:=hr ▸ open_any x y w g
set_option maxHeartbeats 1000000 in
theorem may_any {b:Nat}{W H V:Int}{bl:Nat->Bool}(x y:Int)(d:Nat)(w:World)(g:GridAt w b W H V bl)(s:StepsAt w)(hd:d<8)(x1:-100<=x)(x2:x<=100)(y1:-100<=y)(y2:y<=100) :
  Calls Tryz.prog 153 #[.pointer (some ⟨b,0,none⟩),.int .i64 x,.int .i64 y,.int .i64 d] w fun e w'=>e=.returned (.bool (mayB W H bl x y d))/\∃ m,w'=w.drewN m:=by
 obtain ⟨s1,s2,s3,s4⟩:=step_bd d
 have hs:=fun w h=>step_any d w h hd
 have hm:mayB W H bl x y d=(openB W H bl x y&&openB W H bl (x+stepX d) (y+stepY d)&&openB W H bl (x+stepX d) y&&openB W H bl x (y+stepY d)):=rfl
 generalize stepX d=dx at *
 generalize stepY d=dy at *
 cases hA:openB W H bl x y with
 |false =>
  rw [hm,hA]
  simp only [Bool.false_and]
  clear hm
  go_enter Tryz.func153,Tryz.ntmps153
  go_wp2_with (first|(go_at_call 151;refine (hs _ s).mono ?_;rintro e w' ⟨rfl,m,rfl⟩)|(go_at_call 97;refine (open_v (by assumption) _ (g.drewN _)).mono ?_;rintro e w' ⟨rfl,m,rfl⟩))
  go_ret
  exact ⟨rfl,_,rfl⟩
 |true =>
  cases hB:openB W H bl (x+dx) (y+dy) with
  |false =>
   rw [hm,hA,hB]
   simp only [Bool.true_and,Bool.false_and]
   clear hm
   go_enter Tryz.func153,Tryz.ntmps153
   go_wp2_with (first|(go_at_call 151;refine (hs _ s).mono ?_;rintro e w' ⟨rfl,m,rfl⟩)|(go_at_call 97;refine (open_v (by assumption) _ (g.drewN _)).mono ?_;rintro e w' ⟨rfl,m,rfl⟩))
   go_ret
   exact ⟨rfl,_,rfl⟩
  |true =>
   cases hC:openB W H bl (x+dx) y with
   |false =>
    rw [hm,hA,hB,hC]
    simp only [Bool.true_and,Bool.false_and]
    clear hm
    go_enter Tryz.func153,Tryz.ntmps153
    go_wp2_with (first|(go_at_call 151;refine (hs _ s).mono ?_;rintro e w' ⟨rfl,m,rfl⟩)|(go_at_call 97;refine (open_v (by assumption) _ (g.drewN _)).mono ?_;rintro e w' ⟨rfl,m,rfl⟩))
    go_ret
    exact ⟨rfl,_,rfl⟩
   |true =>
    cases hD:openB W H bl x (y+dy) with
    |false =>
     rw [hm,hA,hB,hC,hD]
     simp only [Bool.true_and]
     clear hm
     go_enter Tryz.func153,Tryz.ntmps153
     go_wp2_with (first|(go_at_call 151;refine (hs _ s).mono ?_;rintro e w' ⟨rfl,m,rfl⟩)|(go_at_call 97;refine (open_v (by assumption) _ (g.drewN _)).mono ?_;rintro e w' ⟨rfl,m,rfl⟩))
     go_ret
     exact ⟨rfl,_,rfl⟩
    |true =>
     rw [hm,hA,hB,hC,hD]
     simp only [Bool.true_and]
     clear hm
     go_enter Tryz.func153,Tryz.ntmps153
     go_wp2_with (first|(go_at_call 151;refine (hs _ s).mono ?_;rintro e w' ⟨rfl,m,rfl⟩)|(go_at_call 97;refine (open_v (by assumption) _ (g.drewN _)).mono ?_;rintro e w' ⟨rfl,m,rfl⟩))
     go_ret
     exact ⟨rfl,_,rfl⟩
theorem hasCell_v {b:Nat}{W H V c:Int}{bl:Nat->Bool}{r:Bool}(hr:inB W H c=r)(w:World)(g:GridAt w b W H V bl) :
  Calls Tryz.prog 117 #[.pointer (some ⟨b,0,none⟩),.int .i64 c] w fun e w'=>e=.returned (.bool r)/\∃ m,w'=w.drewN m:=hr ▸ hasCell_any c w g
set_option maxHeartbeats 1000000 in
theorem place_in {b:Nat}{W H V:Int}{bl:Nat->Bool}(c:Int)(w:World)(g:GridAt w b W H V bl)(hr:inB W H c=true) :
  Calls Tryz.prog 84 #[.pointer (some ⟨b,0,none⟩),.int .i64 c] w fun e w'=>e=.returned (.tuple #[.int .i64 (c % W),.int .i64 (c / W),.nilIface])/\∃ m,w'=w.drewN m:=by
 have hc:0<=c/\c<W*H:=of_decide_eq_true hr
 obtain ⟨k1,k2⟩:=wh_bd g.w1 g.w2 g.h1 g.h2
 have w1:=g.w1
 have w2:=g.w2
 have c0:=g.c0
 obtain ⟨q1,q2⟩:=hc
 go_enter Tryz.func84,Tryz.ntmps84
 go_wp2_with (go_at_call 117;refine (hasCell_v hr _ g).mono ?_;rintro e w' ⟨rfl,m,rfl⟩)
 go_quiet (fail)
 go_wp2
 go_ret3
 exact ⟨rfl,_,World.drewN_drewN _ _ _⟩
set_option maxHeartbeats 400000 in
theorem place_out {b:Nat}{W H V:Int}{bl:Nat->Bool}(c:Int)(w:World)(g:GridAt w b W H V bl)(hr:inB W H c=false) :
  Calls Tryz.prog 84 #[.pointer (some ⟨b,0,none⟩),.int .i64 c] w fun e w'=>e=.returned (.tuple #[.int .i64 0,.int .i64 0,.iface 54 (.int .i64 1)])/\∃ m,w'=w.drewN m:=by
 go_enter Tryz.func84,Tryz.ntmps84
 go_wp2_with (go_at_call 117;refine (hasCell_v hr _ g).mono ?_;rintro e w' ⟨rfl,m,rfl⟩)
 go_ret3
 exact ⟨rfl,_,rfl⟩
set_option maxHeartbeats 400000 in
theorem to_any {b:Nat}{W H V:Int}{bl:Nat->Bool}(c:Int)(d:Nat)(w:World)(g:GridAt w b W H V bl)(s:StepsAt w)(hd:d<8)(c1:-1000<=c)(c2:c<=1000) :
  Calls Tryz.prog 154 #[.pointer (some ⟨b,0,none⟩),.int .i64 c,.int .i64 d] w fun e w'=>e=.returned (.int .i64 (c+(stepY d*W+stepX d)))/\∃ m,w'=w.drewN m:=by
 obtain ⟨s1,s2,s3,s4⟩:=step_bd d
 obtain ⟨k1,k2⟩:=yw_bd g.w1 g.w2 (show -100<=stepY d by omega) (by omega)
 have hs:=fun w h=>step_any d w h hd
 have hn:=fun w g=>number_any (b:=b) (W:=W) (H:=H) (V:=V) (bl:=bl) (stepX d) (stepY d) w g (by omega) (by omega) (by omega) (by omega)
 generalize stepX d=dx at *
 generalize stepY d=dy at *
 go_enter Tryz.func154,Tryz.ntmps154
 go_wp2_with (first|(go_at_call 151;refine (hs _ s).mono ?_;rintro e w' ⟨rfl,m,rfl⟩)|(go_at_call 140;refine (hn _ (g.drewN _)).mono ?_;rintro e w' ⟨rfl,rfl⟩))
 go_ret
 exact ⟨rfl,_,rfl⟩
def mvs (W H:Int) (bl:Nat->Bool) (x y:Int) (k:Nat):List Nat:=(List.range k).filter (mayB W H bl x y)
theorem mvs_succ (W H:Int)(bl:Nat->Bool)(x y:Int)(k:Nat):mvs W H bl x y (k+1)=mvs W H bl x y k++(if mayB W H bl x y k then [k] else []):=by
 unfold mvs
 rw [List.range_succ,List.filter_append]
 cases h:mayB W H bl x y k <;> simp [h]
theorem mvs_len (W H:Int)(bl:Nat->Bool)(x y:Int)(k:Nat):(mvs W H bl x y k).length<=k:=by
 unfold mvs
 have:=List.length_filter_le (mayB W H bl x y) (List.range k)
 simpa using this
abbrev vals (l:List Nat):List Value:=l.map fun d:Nat=>Value.int .i64 (d:Int)
theorem may_v {b:Nat}{W H V x y:Int}{bl:Nat->Bool}{d:Nat}{r:Bool}(hr:mayB W H bl x y d=r)(w:World)(g:GridAt w b W H V bl)(s:StepsAt w)(hd:d<8)(x1:-100<=x)(x2:x<=100)(y1:-100<=y)(y2:y<=100) :
  Calls Tryz.prog 153 #[.pointer (some ⟨b,0,none⟩),.int .i64 x,.int .i64 y,.int .i64 d] w fun e w'=>e=.returned (.bool r)/\∃ m,w'=w.drewN m:=hr ▸ may_any x y d w g s hd x1 x2 y1 y2
theorem GridAt.below {w w':World}{b:Nat}{W H V:Int}{bl:Nat->Bool}{B:Nat}(g:GridAt w b W H V bl)(hb:Below B w w')(h:b<B):GridAt w' b W H V bl :=
 ⟨g.w1,g.w2,g.h1,g.h2,(hb.cell (p:=⟨b,0,none⟩) h).trans g.c0,(hb.cell (p:=⟨b,1,none⟩) h).trans g.c1,(hb.cell (p:=⟨b,2,none⟩) h).trans g.c2,fun i hi=>(hb.cell (p:=⟨b,3+i,none⟩) h).trans (g.cs i hi)⟩
theorem StepsAt.below {w w':World}(s:StepsAt w)(hb:Below w.heap.size w w')(_h:0<w.heap.size):StepsAt w' :=
 fun i hi=>⟨(hb.cell (p:=⟨1,2*i,none⟩) (World.block_lt_of_cell? w _ (s i hi).1)).trans (s i hi).1,(hb.cell (p:=⟨1,2*i+1,none⟩) (World.block_lt_of_cell? w _ (s i hi).2)).trans (s i hi).2⟩
theorem Tryz.info3:(Tryz.prog.info? 3).map (fun i=>(i.zero,i.size,i.bytes))=some (some (.int .i64 0),1,8):=by kernel_rfl
end
section
open Go.RowKit
def sideB (n:Int):Bool:=decide (1<=n/\n<=16)
theorem isSide_any (n:Int)(w:World) :
  Calls Tryz.prog 63 #[.int .i64 n] w fun e w'=>e=.returned (.bool (sideB n))/\w'=w:=by
 by_cases h:1<=n
 ·by_cases k:n<=16
  ·rw [show sideB n=true from decide_eq_true ⟨h,k⟩]
   go_enter Tryz.func63,Tryz.ntmps63
   go_wp2
   go_ret
   exact ⟨rfl,rfl⟩
  ·rw [show sideB n=false from decide_eq_false fun q=>k q.2]
   go_enter Tryz.func63,Tryz.ntmps63
   go_wp2
   go_ret
   exact ⟨rfl,rfl⟩
 ·rw [show sideB n=false from decide_eq_false fun q=>h q.1]
  go_enter Tryz.func63,Tryz.ntmps63
  go_wp2
  go_ret
  exact ⟨rfl,rfl⟩
theorem isSide_v {n:Int}{r:Bool}(hr:sideB n=r)(w:World) :
  Calls Tryz.prog 63 #[.int .i64 n] w fun e w'=>e=.returned (.bool r)/\w'=w:=hr ▸ isSide_any n w
set_option maxHeartbeats 400000 in
theorem new_bad (W H:Int)(w:World)(h:sideB W=false\/(sideB W=true/\sideB H=false)) :
  Calls Tryz.prog 31 #[.int .i64 W,.int .i64 H] w fun e w'=>e=.returned (.tuple #[.pointer none,.iface 54 (.int .i64 1)])/\w'=w:=by
 rcases h with h|⟨h,k⟩
 all_goals
  go_enter Tryz.func31,Tryz.ntmps31
  go_wp2_with (go_at_call 63;refine (isSide_v (by assumption) _).mono ?_;rintro e w' ⟨rfl,rfl⟩)
  go_ret2
  exact ⟨rfl,rfl⟩
def gridC (W H:Int):Array Value:=#[.int .i64 W,.int .i64 H,.int .i64 0]++Array.replicate 256 (.bool false)
def refC (W H:Int):Array Value:=#[.int .i64 W,.int .i64 H]++(Array.replicate 256 (.bool false)++#[.int .i64 0])
theorem built65 (W H:Int):Tryz.prog.built 136 [(0,.int .i64 W),(1,.int .i64 H)]=some (gridC W H):=by kernel_rfl
theorem built67 (W H:Int):Tryz.prog.built 38 [(0,.int .i64 W),(1,.int .i64 H)]=some (refC W H):=by kernel_rfl
theorem wpList_build65 {ops:Array Oper}{rest:List Oper}{o:Oper}{a:Act}{w:World}{Q:Exit->Act->World->Prop}(hgd:o.guard=none)(x y:Operand)(ho:o.op=.build 136 #[(0,x),(1,y)])(W H:Int)
  (hx:a.eval x=.int .i64 W) (hy:a.eval y=.int .i64 H) (h:wpList Tryz.prog ops Q rest (a.put o.dst (.agg (gridC W H))) w):wpList Tryz.prog ops Q (o::rest) a w :=
 wpList_plain hgd fun _ hK=>wp_build 136 _ ho (by simp [hx,hy,built65]) (by simp [hx,hy,built65];exact hK _ _ h)
theorem wpList_build67 {ops:Array Oper}{rest:List Oper}{o:Oper}{a:Act}{w:World}{Q:Exit->Act->World->Prop}(hgd:o.guard=none)(x y:Operand)(ho:o.op=.build 38 #[(0,x),(1,y)])(W H:Int)
  (hx:a.eval x=.int .i64 W) (hy:a.eval y=.int .i64 H) (h:wpList Tryz.prog ops Q rest (a.put o.dst (.agg (refC W H))) w):wpList Tryz.prog ops Q (o::rest) a w :=
 wpList_plain hgd fun _ hK=>wp_build 38 _ ho (by simp [hx,hy,built67]) (by simp [hx,hy,built67];exact hK _ _ h)
set_option maxHeartbeats 400000 in
theorem new_ok (W H:Int)(w:World)(h:sideB W=true)(k:sideB H=true) :
  Calls Tryz.prog 31 #[.int .i64 W,.int .i64 H] w fun e w'=>e=.returned (.tuple #[.pointer (some ⟨w.heap.size,0,none⟩),.nilIface])/\w'=w.alloc (.cells (gridC W H) 136):=by
 go_enter Tryz.func31,Tryz.ntmps31
 go_wp2_with (first|(go_at_call 63;refine (isSide_v (by assumption) _).mono ?_;rintro e w' ⟨rfl,rfl⟩)|refine wpList_build65 rfl _ _ rfl W H rfl rfl ?_)
 go_ret2
 exact ⟨rfl,rfl⟩
set_option maxHeartbeats 400000 in
theorem rnew_ok (W H:Int)(w:World)(w1:1<=W)(w2:W<=16)(h1:1<=H)(h2:H<=16) :
  Calls Tryz.prog 28 #[.int .i64 W,.int .i64 H] w fun e w'=>e=.returned (.tuple #[.pointer (some ⟨w.heap.size,0,none⟩),.int .i64 0])/\w'=w.alloc (.cells (refC W H) 38):=by
 go_enter Tryz.func28,Tryz.ntmps28
 go_wp2_with (refine wpList_build67 rfl _ _ rfl W H rfl rfl ?_)
 go_ret2
 exact ⟨rfl,rfl⟩
set_option maxHeartbeats 400000 in
theorem rnew_bad (W H:Int)(w:World)(h:sideB W=false\/(sideB W=true/\sideB H=false)) :
  Calls Tryz.prog 28 #[.int .i64 W,.int .i64 H] w fun e w'=>e=.returned (.tuple #[.pointer none,.int .i64 1])/\w'=w:=by
 have hc:(W<1)\/(¬ W<1/\16<W)\/(¬ W<1/\¬ 16<W/\H<1)\/(¬ W<1/\¬ 16<W/\¬ H<1/\16<H):=by
  unfold sideB at h
  simp only [decide_eq_false_iff_not,decide_eq_true_eq] at h
  omega
 clear h
 rcases hc with h|⟨h1,h2⟩|⟨h1,h2,h3⟩|⟨h1,h2,h3,h4⟩
 all_goals
  go_enter Tryz.func28,Tryz.ntmps28
  go_wp2
  go_ret2
  exact ⟨rfl,rfl⟩
theorem gridC_at (W H:Int)(i:Nat)(hi:i<256):(gridC W H)[3+i]? = some (.bool false):=by
 unfold gridC
 rw [Array.getElem?_append_right (by simp)]
 simp [hi]
theorem gridAt_new (W H:Int)(w:World)(h:sideB W=true)(k:sideB H=true):GridAt (w.alloc (.cells (gridC W H) 136)) w.heap.size W H 0 (fun _=>false):=by
 have a:1<=W/\W<=16:=of_decide_eq_true h
 have b:1<=H/\H<=16:=of_decide_eq_true k
 refine ⟨a.1,a.2,b.1,b.2,?_,?_,?_,fun i hi=>?_⟩
 ·rw [World.cell?_alloc_new];unfold gridC;rw [Array.getElem?_append_left (by simp)];rfl
 ·rw [World.cell?_alloc_new];unfold gridC;rw [Array.getElem?_append_left (by simp)];rfl
 ·rw [World.cell?_alloc_new];unfold gridC;rw [Array.getElem?_append_left (by simp)];rfl
 ·rw [World.cell?_alloc_new];exact gridC_at W H i hi
structure RefAt (w:World) (b:Nat) (W H V:Int) (bl:Nat->Bool):Prop where
 w1:1<=W
 w2:W<=16
 h1:1<=H
 h2:H<=16
 c0:w.cell? ⟨b,0,none⟩=some (.int .i64 W)
 c1:w.cell? ⟨b,1,none⟩=some (.int .i64 H)
 c2:w.cell? ⟨b,258,none⟩=some (.int .i64 V)
 cs:∀ i,i<256->w.cell? ⟨b,2+i,none⟩=some (.bool (bl i))
theorem refAt_new (W H:Int)(w:World)(h:sideB W=true)(k:sideB H=true):RefAt (w.alloc (.cells (refC W H) 38)) w.heap.size W H 0 (fun _=>false):=by
 have a:1<=W/\W<=16:=of_decide_eq_true h
 have b:1<=H/\H<=16:=of_decide_eq_true k
 refine ⟨a.1,a.2,b.1,b.2,?_,?_,?_,fun i hi=>?_⟩
 ·rw [World.cell?_alloc_new];unfold refC;rw [Array.getElem?_append_left (by simp)];rfl
 ·rw [World.cell?_alloc_new];unfold refC;rw [Array.getElem?_append_left (by simp)];rfl
 ·rw [World.cell?_alloc_new];unfold refC;rw [Array.getElem?_append_right (by simp),Array.getElem?_append_right (by simp)];simp
 ·rw [World.cell?_alloc_new];unfold refC;rw [Array.getElem?_append_right (by simp),Array.getElem?_append_left (by simp;omega)];simp [hi]
structure Touch (b:Nat) (w w':World):Prop where
 os:w'.os=w.os
 tape:w'.tape=w.tape
 output:w'.output=w.output
 size:w'.heap.size=w.heap.size
 other:∀ k,k≠b->w'.heap[k]? = w.heap[k]?
theorem Touch.refl (b:Nat)(w:World):Touch b w w:=⟨rfl,rfl,rfl,rfl,fun _ _=>rfl⟩
theorem Touch.drewN {b:Nat}{w w':World}(h:Touch b w w')(m:Nat):Touch b w (w'.drewN m):=⟨h.os,h.tape,h.output,h.size,h.other⟩
theorem Touch.setCell {b:Nat}{w w':World}(h:Touch b w w')(o:Nat)(v:Value):Touch b w (w'.setCell ⟨b,o,none⟩ v) :=
 ⟨h.os,h.tape,h.output,by rw [<- h.size];simp [World.setCell],fun k hk=>(Below.heap_setCell _ _ _ k hk).trans (h.other k hk)⟩
theorem Touch.below {b B:Nat}{a w w':World}(h:Touch b w w')(hb:Below B a w)(hB:B<=b):Below B a w' :=
 hb.trans ⟨h.os,h.tape,h.output,by rw [h.size];exact Nat.le_refl _,fun k hk=>h.other k (by omega)⟩
theorem Touch.cell {b:Nat}{w w':World}(h:Touch b w w'){p:Addr}(hp:p.block≠b):w'.cell? p=w.cell? p:=World.cell?_of_block (h.other _ hp)
theorem Touch.frozen {b:Nat}{w w':World}(h:Touch b w w'){p:Addr}(hp:p.block≠b):w'.frozen? p=w.frozen? p:=World.frozen?_of_block (h.other _ hp)
theorem GridAt.touch {w w':World}{b b':Nat}{W H V:Int}{bl:Nat->Bool}(g:GridAt w b W H V bl)(h:Touch b' w w')(hne:b≠b'):GridAt w' b W H V bl :=
 ⟨g.w1,g.w2,g.h1,g.h2,(h.cell (p:=⟨b,0,none⟩) hne).trans g.c0,(h.cell (p:=⟨b,1,none⟩) hne).trans g.c1,(h.cell (p:=⟨b,2,none⟩) hne).trans g.c2,fun i hi=>(h.cell (p:=⟨b,3+i,none⟩) hne).trans (g.cs i hi)⟩
theorem RefAt.touch {w w':World}{b b':Nat}{W H V:Int}{bl:Nat->Bool}(g:RefAt w b W H V bl)(h:Touch b' w w')(hne:b≠b'):RefAt w' b W H V bl :=
 ⟨g.w1,g.w2,g.h1,g.h2,(h.cell (p:=⟨b,0,none⟩) hne).trans g.c0,(h.cell (p:=⟨b,1,none⟩) hne).trans g.c1,(h.cell (p:=⟨b,258,none⟩) hne).trans g.c2,fun i hi=>(h.cell (p:=⟨b,2+i,none⟩) hne).trans (g.cs i hi)⟩
theorem RefAt.drewN {w:World}{b:Nat}{W H V:Int}{bl:Nat->Bool}(g:RefAt w b W H V bl)(m:Nat):RefAt (w.drewN m) b W H V bl:=⟨g.w1,g.w2,g.h1,g.h2,g.c0,g.c1,g.c2,g.cs⟩
theorem RefAt.below {w w':World}{b:Nat}{W H V:Int}{bl:Nat->Bool}{B:Nat}(g:RefAt w b W H V bl)(hb:Below B w w')(h:b<B):RefAt w' b W H V bl :=
 ⟨g.w1,g.w2,g.h1,g.h2,(hb.cell (p:=⟨b,0,none⟩) h).trans g.c0,(hb.cell (p:=⟨b,1,none⟩) h).trans g.c1,(hb.cell (p:=⟨b,258,none⟩) h).trans g.c2,fun i hi=>(hb.cell (p:=⟨b,2+i,none⟩) h).trans (g.cs i hi)⟩
def upd (bl:Nat->Bool) (c:Nat) (v:Bool):Nat->Bool:=fun i=>if i=c then v else bl i
end
section
open Go.RowKit
def Free (w:World) (b:Nat):Prop:=∀ o,w.frozen? ⟨b,o,none⟩=false
set_option maxHeartbeats 400000 in
theorem set_out {b:Nat}{W H V:Int}{bl:Nat->Bool}(c:Int)(v:Bool)(w:World)(g:GridAt w b W H V bl)(hr:inB W H c=false) :
  Calls Tryz.prog 107 #[.pointer (some ⟨b,0,none⟩),.int .i64 c,.bool v] w fun e w'=>e=.returned (.tuple #[.bool false,.iface 54 (.int .i64 1)])/\∃ m,w'=w.drewN m:=by
 go_enter Tryz.func107,Tryz.ntmps107
 go_wp2_with (go_at_call 117;refine (hasCell_v hr _ g).mono ?_;rintro e w' ⟨rfl,m,rfl⟩)
 go_ret2
 exact ⟨rfl,_,rfl⟩
set_option maxHeartbeats 400000 in
theorem set_same {b:Nat}{W H V:Int}{bl:Nat->Bool}(c:Nat)(v:Bool)(w:World)(g:GridAt w b W H V bl)(hr:inB W H c=true)(hv:bl c=v) :
  Calls Tryz.prog 107 #[.pointer (some ⟨b,0,none⟩),.int .i64 c,.bool v] w fun e w'=>e=.returned (.tuple #[.bool false,.nilIface])/\∃ m,w'=w.drewN m:=by
 have hc:0<=(c:Int)/\(c:Int)<W*H:=of_decide_eq_true hr
 obtain ⟨k1,k2⟩:=wh_bd g.w1 g.w2 g.h1 g.h2
 obtain ⟨q1,q2⟩:=hc
 have q3:(c:Int)<256:=by omega
 have h:=g.cs c (by omega)
 rw [hv] at h
 go_enter Tryz.func107,Tryz.ntmps107
 go_wp2_with (go_at_call 117;refine (hasCell_v hr _ g).mono ?_;rintro e w' ⟨rfl,m,rfl⟩)
 go_ret2
 exact ⟨rfl,_,rfl⟩
theorem addr_ne {b o p:Nat}(h:o≠p):(⟨b,o,none⟩:Addr)≠⟨b,p,none⟩:=by
 intro e;cases e;exact h rfl
theorem gridAt_set {w:World}{b:Nat}{W H V:Int}{bl:Nat->Bool}(g:GridAt w b W H V bl)(c:Nat)(hc:c<256)(v:Bool) :
  GridAt ((w.setCell ⟨b,3+c,none⟩ (.bool v)).setCell ⟨b,2,none⟩ (.int .i64 (V+1))) b W H (V+1) (upd bl c v):=by
 refine ⟨g.w1,g.w2,g.h1,g.h2,?_,?_,?_,fun i hi=>?_⟩
 ·rw [World.cell?_setCell_other _ _ _ _ (addr_ne (by omega)),World.cell?_setCell_other _ _ _ _ (addr_ne (by omega))];exact g.c0
 ·rw [World.cell?_setCell_other _ _ _ _ (addr_ne (by omega)),World.cell?_setCell_other _ _ _ _ (addr_ne (by omega))];exact g.c1
 ·refine World.cell?_setCell_same _ _ _ (u:=.int .i64 V) ?_
  rw [World.cell?_setCell_other _ _ _ _ (addr_ne (by omega))];exact g.c2
 ·rw [World.cell?_setCell_other _ _ _ _ (addr_ne (by omega))]
  unfold upd
  by_cases e:i=c
  ·subst e
   rw [if_pos rfl]
   exact World.cell?_setCell_same _ _ _ (g.cs i hi)
  ·rw [if_neg e,World.cell?_setCell_other _ _ _ _ (addr_ne (by omega))];exact g.cs i hi
set_option maxHeartbeats 400000 in
theorem set_new {b:Nat}{W H V:Int}{bl:Nat->Bool}(c:Nat)(v:Bool)(w:World)(g:GridAt w b W H V bl)(f:Free w b)(hr:inB W H c=true)(hv:bl c=!v)(v1:0<=V)(v2:V<=1000000) :
  Calls Tryz.prog 107 #[.pointer (some ⟨b,0,none⟩),.int .i64 c,.bool v] w fun e w'=>e=.returned (.tuple #[.bool true,.nilIface])/\Touch b w w'/\GridAt w' b W H (V+1) (upd bl c v)/\Free w' b:=by
 have hc:0<=(c:Int)/\(c:Int)<W*H:=of_decide_eq_true hr
 obtain ⟨k1,k2⟩:=wh_bd g.w1 g.w2 g.h1 g.h2
 obtain ⟨q1,q2⟩:=hc
 have q3:(c:Int)<256:=by omega
 have h:=g.cs c (by omega)
 have c2:=g.c2
 have f1:=f 2
 have f2:=f (3+c)
 rw [hv] at h
 have hx:((!v) == v)=false:=by cases v <;> rfl
 have hG:=fun m=>gridAt_set (g.drewN m) c (by omega) v
 have hne:(⟨b,3+c,none⟩:Addr)≠⟨b,2,none⟩:=addr_ne (by omega)
 have c3:(w.setCell ⟨b,3+c,none⟩ (.bool v)).cell? ⟨b,2,none⟩=some (.int .i64 V):=by rw [World.cell?_setCell_other _ _ _ _ hne];exact c2
 go_enter Tryz.func107,Tryz.ntmps107
 go_wp2_with (go_at_call 117;refine (hasCell_v hr _ g).mono ?_;rintro e w' ⟨rfl,m,rfl⟩)
 go_ret2
 exact ⟨rfl,(((Touch.refl b w).drewN m).setCell _ _).setCell _ _,hG m,fun o=>by simpa using f o⟩
set_option maxHeartbeats 400000 in
theorem ris_in {b:Nat}{W H V:Int}{bl:Nat->Bool}(c:Int)(w:World)(g:RefAt w b W H V bl)(hr:inB W H c=true) :
  Calls Tryz.prog 19 #[.pointer (some ⟨b,0,none⟩),.int .i64 c] w fun e w'=>e=.returned (.int .i64 0)/\∃ m,w'=w.drewN m:=by
 have hc:0<=c/\c<W*H:=of_decide_eq_true hr
 obtain ⟨k1,k2⟩:=wh_bd g.w1 g.w2 g.h1 g.h2
 obtain ⟨q1,q2⟩:=hc
 have c0:=g.c0
 have c1:=g.c1
 have hd:decide (c<0)=false:=decide_eq_false (by omega)
 have he:¬ W*H<=c:=by omega
 go_enter Tryz.func19,Tryz.ntmps19
 go_wp2
 go_quiet (fail)
 go_wp2
 go_ret
 exact ⟨rfl,_,rfl⟩
set_option maxHeartbeats 400000 in
theorem ris_out {b:Nat}{W H V:Int}{bl:Nat->Bool}(c:Int)(w:World)(g:RefAt w b W H V bl)(hr:inB W H c=false) :
  Calls Tryz.prog 19 #[.pointer (some ⟨b,0,none⟩),.int .i64 c] w fun e w'=>e=.returned (.int .i64 1)/\∃ m,w'=w.drewN m:=by
 have hc:¬ (0<=c/\c<W*H):=of_decide_eq_false hr
 obtain ⟨k1,k2⟩:=wh_bd g.w1 g.w2 g.h1 g.h2
 have c0:=g.c0
 have c1:=g.c1
 by_cases h:c<0
 ·have hd:decide (c<0)=true:=decide_eq_true h
  go_enter Tryz.func19,Tryz.ntmps19
  go_wp2
  go_quiet (fail)
  go_wp2
  go_ret
  exact ⟨rfl,_,rfl⟩
 ·have hd:decide (c<0)=false:=decide_eq_false h
  have he:W*H<=c:=by omega
  go_enter Tryz.func19,Tryz.ntmps19
  go_wp2
  go_quiet (fail)
  go_wp2
  go_ret
  exact ⟨rfl,_,rfl⟩
set_option maxHeartbeats 400000 in
theorem rset_out {b:Nat}{W H V:Int}{bl:Nat->Bool}(c:Int)(v:Bool)(w:World)(g:RefAt w b W H V bl)(hr:inB W H c=false) :
  Calls Tryz.prog 29 #[.pointer (some ⟨b,0,none⟩),.int .i64 c,.bool v] w fun e w'=>e=.returned (.tuple #[.bool false,.int .i64 1])/\∃ m,w'=w.drewN m:=by
 go_enter Tryz.func29,Tryz.ntmps29
 go_wp2_with (go_at_call 19;refine (ris_out _ _ g hr).mono ?_;rintro e w' ⟨rfl,m,rfl⟩)
 go_ret2
 exact ⟨rfl,_,rfl⟩
set_option maxHeartbeats 400000 in
theorem rset_same {b:Nat}{W H V:Int}{bl:Nat->Bool}(c:Nat)(v:Bool)(w:World)(g:RefAt w b W H V bl)(hr:inB W H c=true)(hv:bl c=v) :
  Calls Tryz.prog 29 #[.pointer (some ⟨b,0,none⟩),.int .i64 c,.bool v] w fun e w'=>e=.returned (.tuple #[.bool false,.int .i64 0])/\∃ m,w'=w.drewN m:=by
 have hc:0<=(c:Int)/\(c:Int)<W*H:=of_decide_eq_true hr
 obtain ⟨k1,k2⟩:=wh_bd g.w1 g.w2 g.h1 g.h2
 obtain ⟨q1,q2⟩:=hc
 have q3:(c:Int)<256:=by omega
 have h:=g.cs c (by omega)
 rw [hv] at h
 go_enter Tryz.func29,Tryz.ntmps29
 go_wp2_with (go_at_call 19;refine (ris_in _ _ g hr).mono ?_;rintro e w' ⟨rfl,m,rfl⟩)
 go_ret2
 exact ⟨rfl,_,rfl⟩
theorem refAt_set {w:World}{b:Nat}{W H V:Int}{bl:Nat->Bool}(g:RefAt w b W H V bl)(c:Nat)(hc:c<256)(v:Bool) :
  RefAt ((w.setCell ⟨b,2+c,none⟩ (.bool v)).setCell ⟨b,258,none⟩ (.int .i64 (V+1))) b W H (V+1) (upd bl c v):=by
 refine ⟨g.w1,g.w2,g.h1,g.h2,?_,?_,?_,fun i hi=>?_⟩
 ·rw [World.cell?_setCell_other _ _ _ _ (addr_ne (by omega)),World.cell?_setCell_other _ _ _ _ (addr_ne (by omega))];exact g.c0
 ·rw [World.cell?_setCell_other _ _ _ _ (addr_ne (by omega)),World.cell?_setCell_other _ _ _ _ (addr_ne (by omega))];exact g.c1
 ·refine World.cell?_setCell_same _ _ _ (u:=.int .i64 V) ?_
  rw [World.cell?_setCell_other _ _ _ _ (addr_ne (by omega))];exact g.c2
 ·rw [World.cell?_setCell_other _ _ _ _ (addr_ne (by omega))]
  unfold upd
  by_cases e:i=c
  ·subst e
   rw [if_pos rfl]
   exact World.cell?_setCell_same _ _ _ (g.cs i hi)
  ·rw [if_neg e,World.cell?_setCell_other _ _ _ _ (addr_ne (by omega))];exact g.cs i hi
set_option maxHeartbeats 400000 in
theorem rset_new {b:Nat}{W H V:Int}{bl:Nat->Bool}(c:Nat)(v:Bool)(w:World)(g:RefAt w b W H V bl)(f:Free w b)(hr:inB W H c=true)(hv:bl c=!v)(v1:0<=V)(v2:V<=1000000) :
  Calls Tryz.prog 29 #[.pointer (some ⟨b,0,none⟩),.int .i64 c,.bool v] w fun e w'=>e=.returned (.tuple #[.bool true,.int .i64 0])/\Touch b w w'/\RefAt w' b W H (V+1) (upd bl c v)/\Free w' b:=by
 have hc:0<=(c:Int)/\(c:Int)<W*H:=of_decide_eq_true hr
 obtain ⟨k1,k2⟩:=wh_bd g.w1 g.w2 g.h1 g.h2
 obtain ⟨q1,q2⟩:=hc
 have q3:(c:Int)<256:=by omega
 have h:=g.cs c (by omega)
 have c2:=g.c2
 have f1:=f 258
 have f2:=f (2+c)
 rw [hv] at h
 have hx:((!v) == v)=false:=by cases v <;> rfl
 have hG:=fun m=>refAt_set (g.drewN m) c (by omega) v
 have hne:(⟨b,2+c,none⟩:Addr)≠⟨b,258,none⟩:=addr_ne (by omega)
 have c3:(w.setCell ⟨b,2+c,none⟩ (.bool v)).cell? ⟨b,258,none⟩=some (.int .i64 V):=by rw [World.cell?_setCell_other _ _ _ _ hne];exact c2
 go_enter Tryz.func29,Tryz.ntmps29
 go_wp2_with (go_at_call 19;refine (ris_in _ _ g hr).mono ?_;rintro e w' ⟨rfl,m,rfl⟩)
 go_ret2
 exact ⟨rfl,(((Touch.refl b w).drewN m).setCell _ _).setCell _ _,hG m,fun o=>by simpa using f o⟩
end
end Go.Proofs.YtmaefimaeelkbaaGreatDoor
