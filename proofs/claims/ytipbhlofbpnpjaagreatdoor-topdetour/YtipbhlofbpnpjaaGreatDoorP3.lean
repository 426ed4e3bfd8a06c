/-
  Texts laid together: Set, Ref, Laid, Back, RMoves, Dirs.
-/
import Derived.Test.YtipbhlofbpnpjaaGreatDoorP2
import Derived.Deep.LoopGhost
import Derived.Deep.Light
namespace Go.Proofs.YtipbhlofbpnpjaaGreatDoor
section
open Go.RowKit
def Free (w:World) (b:Nat):Prop:=∀ o,w.frozen? ⟨b,o,none⟩=false
set_option maxHeartbeats 400000 in
theorem set_out {b:Nat}{W H V:Int}{bl:Nat->Bool}(c:Int)(v:Bool)(w:World)(g:GridAt w b W H V bl)(hr:inB W H c=false) :
  Calls Tryz.prog 70 #[.pointer (some ⟨b,0,none⟩),.int .i64 c,.bool v] w fun e w'=>e=.returned (.tuple #[.bool false,.iface 39 (.int .i64 1)])/\∃ m,w'=w.drewN m:=by
 go_enter Tryz.func70,Tryz.ntmps70
 go_wp2_with (go_at_call 105;refine (hasCell_v hr _ g).mono ?_;rintro e w' ⟨rfl,m,rfl⟩)
 go_ret2
 exact ⟨rfl,_,rfl⟩
set_option maxHeartbeats 400000 in
theorem set_same {b:Nat}{W H V:Int}{bl:Nat->Bool}(c:Nat)(v:Bool)(w:World)(g:GridAt w b W H V bl)(hr:inB W H c=true)(hv:bl c=v) :
  Calls Tryz.prog 70 #[.pointer (some ⟨b,0,none⟩),.int .i64 c,.bool v] w fun e w'=>e=.returned (.tuple #[.bool false,.nilIface])/\∃ m,w'=w.drewN m:=by
 have hc:0<=(c:Int)/\(c:Int)<W*H:=of_decide_eq_true hr
 obtain ⟨k1,k2⟩:=wh_bd g.w1 g.w2 g.h1 g.h2
 obtain ⟨q1,q2⟩:=hc
 have q3:(c:Int)<256:=by omega
 have h:=g.cs c (by omega)
 rw [hv] at h
 go_enter Tryz.func70,Tryz.ntmps70
 go_wp2_with (go_at_call 105;refine (hasCell_v hr _ g).mono ?_;rintro e w' ⟨rfl,m,rfl⟩)
 go_ret2
 exact ⟨rfl,_,rfl⟩
theorem addr_ne {b o p:Nat}(h:o≠p):(⟨b,o,none⟩:Addr)≠⟨b,p,none⟩:=by
 intro e;cases e;exact h rfl
theorem gridAt_set {w:World}{b:Nat}{W H V:Int}{bl:Nat->Bool}(g:GridAt w b W H V bl)(c:Nat)(hc:c<256)(v:Bool) :
  GridAt ((w.setCell ⟨b,3+c,none⟩ (.bool v)).setCell ⟨b,2,none⟩ (.int .i64 (V+1))) b W H (V+1) (upd bl c v):=by
 refine ⟨g.w1,g.w2,g.h1,g.h2,?_,?_,?_,fun i hi=>?_⟩
 ·rw [World.cell?_setCell_other _ _ _ _ (addr_ne (by omega)),World.cell?_setCell_other _ _ _ _ (addr_ne (by omega))];exact g.c0
 ·rw [World.cell?_setCell_other _ _ _ _ (addr_ne (by omega)),World.cell?_setCell_other _ _ _ _ (addr_ne (by omega))];exact g.c1
 ·refine World.cell?_setCell_same _ _ _ (u:=.int .i64 V) ?_
  rw [World.cell?_setCell_other _ _ _ _ (addr_ne (by omega))];exact g.c2
 ·rw [World.cell?_setCell_other _ _ _ _ (addr_ne (by omega))]
  unfold upd
  by_cases e:i=c
  ·subst e
   rw [if_pos rfl]
   exact World.cell?_setCell_same _ _ _ (g.cs i hi)
  ·rw [if_neg e,World.cell?_setCell_other _ _ _ _ (addr_ne (by omega))];exact g.cs i hi
set_option maxHeartbeats 400000 in
theorem set_new {b:Nat}{W H V:Int}{bl:Nat->Bool}(c:Nat)(v:Bool)(w:World)(g:GridAt w b W H V bl)(f:Free w b)(hr:inB W H c=true)(hv:bl c=!v)(v1:0<=V)(v2:V<=1000000) :
  Calls Tryz.prog 70 #[.pointer (some ⟨b,0,none⟩),.int .i64 c,.bool v] w fun e w'=>e=.returned (.tuple #[.bool true,.nilIface])/\Touch b w w'/\GridAt w' b W H (V+1) (upd bl c v)/\Free w' b:=by
 have hc:0<=(c:Int)/\(c:Int)<W*H:=of_decide_eq_true hr
 obtain ⟨k1,k2⟩:=wh_bd g.w1 g.w2 g.h1 g.h2
 obtain ⟨q1,q2⟩:=hc
 have q3:(c:Int)<256:=by omega
 have h:=g.cs c (by omega)
 have c2:=g.c2
 have f1:=f 2
 have f2:=f (3+c)
 rw [hv] at h
 have hx:((!v) == v)=false:=by cases v <;> rfl
 have hG:=fun m=>gridAt_set (g.drewN m) c (by omega) v
 have hne:(⟨b,3+c,none⟩:Addr)≠⟨b,2,none⟩:=addr_ne (by omega)
 have c3:(w.setCell ⟨b,3+c,none⟩ (.bool v)).cell? ⟨b,2,none⟩=some (.int .i64 V):=by rw [World.cell?_setCell_other _ _ _ _ hne];exact c2
 go_enter Tryz.func70,Tryz.ntmps70
 go_wp2_with (go_at_call 105;refine (hasCell_v hr _ g).mono ?_;rintro e w' ⟨rfl,m,rfl⟩)
 go_ret2
 exact ⟨rfl,(((Touch.refl b w).drewN m).setCell _ _).setCell _ _,hG m,fun o=>by simpa using f o⟩
set_option maxHeartbeats 400000 in
theorem ris_in {b:Nat}{W H V:Int}{bl:Nat->Bool}(c:Int)(w:World)(g:RefAt w b W H V bl)(hr:inB W H c=true) :
  Calls Tryz.prog 26 #[.pointer (some ⟨b,0,none⟩),.int .i64 c] w fun e w'=>e=.returned (.int .i64 0)/\∃ m,w'=w.drewN m:=by
 have hc:0<=c/\c<W*H:=of_decide_eq_true hr
 obtain ⟨k1,k2⟩:=wh_bd g.w1 g.w2 g.h1 g.h2
 obtain ⟨q1,q2⟩:=hc
 have c0:=g.c0
 have c1:=g.c1
 have hd:decide (c<0)=false:=decide_eq_false (by omega)
 have he:¬ W*H<=c:=by omega
 go_enter Tryz.func26,Tryz.ntmps26
 go_wp2
 go_quiet (fail)
 go_wp2
 go_ret
 exact ⟨rfl,_,rfl⟩
set_option maxHeartbeats 400000 in
theorem ris_out {b:Nat}{W H V:Int}{bl:Nat->Bool}(c:Int)(w:World)(g:RefAt w b W H V bl)(hr:inB W H c=false) :
  Calls Tryz.prog 26 #[.pointer (some ⟨b,0,none⟩),.int .i64 c] w fun e w'=>e=.returned (.int .i64 1)/\∃ m,w'=w.drewN m:=by
 have hc:¬ (0<=c/\c<W*H):=of_decide_eq_false hr
 obtain ⟨k1,k2⟩:=wh_bd g.w1 g.w2 g.h1 g.h2
 have c0:=g.c0
 have c1:=g.c1
 by_cases h:c<0
 ·have hd:decide (c<0)=true:=decide_eq_true h
  go_enter Tryz.func26,Tryz.ntmps26
  go_wp2
  go_quiet (fail)
  go_wp2
  go_ret
  exact ⟨rfl,_,rfl⟩
 ·have hd:decide (c<0)=false:=decide_eq_false h
  have he:W*H<=c:=by omega
  go_enter Tryz.func26,Tryz.ntmps26
  go_wp2
  go_quiet (fail)
  go_wp2
  go_ret
  exact ⟨rfl,_,rfl⟩
set_option maxHeartbeats 400000 in
theorem rset_out {b:Nat}{W H V:Int}{bl:Nat->Bool}(c:Int)(v:Bool)(w:World)(g:RefAt w b W H V bl)(hr:inB W H c=false) :
  Calls Tryz.prog 32 #[.pointer (some ⟨b,0,none⟩),.int .i64 c,.bool v] w fun e w'=>e=.returned (.tuple #[.bool false,.int .i64 1])/\∃ m,w'=w.drewN m:=by
 go_enter Tryz.func32,Tryz.ntmps32
 go_wp2_with (go_at_call 26;refine (ris_out _ _ g hr).mono ?_;rintro e w' ⟨rfl,m,rfl⟩)
 go_ret2
 exact ⟨rfl,_,rfl⟩
set_option maxHeartbeats 400000 in
theorem rset_same {b:Nat}{W H V:Int}{bl:Nat->Bool}(c:Nat)(v:Bool)(w:World)(g:RefAt w b W H V bl)(hr:inB W H c=true)(hv:bl c=v) :
  Calls Tryz.prog 32 #[.pointer (some ⟨b,0,none⟩),.int .i64 c,.bool v] w fun e w'=>e=.returned (.tuple #[.bool false,.int .i64 0])/\∃ m,w'=w.drewN m:=by
 have hc:0<=(c:Int)/\(c:Int)<W*H:=of_decide_eq_true hr
 obtain ⟨k1,k2⟩:=wh_bd g.w1 g.w2 g.h1 g.h2
 obtain ⟨q1,q2⟩:=hc
 have q3:(c:Int)<256:=by omega
 have h:=g.cs c (by omega)
 rw [hv] at h
 go_enter Tryz.func32,Tryz.ntmps32
 go_wp2_with (go_at_call 26;refine (ris_in _ _ g hr).mono ?_;rintro e w' ⟨rfl,m,rfl⟩)
 go_ret2
 exact ⟨rfl,_,rfl⟩
theorem refAt_set {w:World}{b:Nat}{W H V:Int}{bl:Nat->Bool}(g:RefAt w b W H V bl)(c:Nat)(hc:c<256)(v:Bool) :
  RefAt ((w.setCell ⟨b,2+c,none⟩ (.bool v)).setCell ⟨b,258,none⟩ (.int .i64 (V+1))) b W H (V+1) (upd bl c v):=by
 refine ⟨g.w1,g.w2,g.h1,g.h2,?_,?_,?_,fun i hi=>?_⟩
 ·rw [World.cell?_setCell_other _ _ _ _ (addr_ne (by omega)),World.cell?_setCell_other _ _ _ _ (addr_ne (by omega))];exact g.c0
 ·rw [World.cell?_setCell_other _ _ _ _ (addr_ne (by omega)),World.cell?_setCell_other _ _ _ _ (addr_ne (by omega))];exact g.c1
 ·refine World.cell?_setCell_same _ _ _ (u:=.int .i64 V) ?_
  rw [World.cell?_setCell_other _ _ _ _ (addr_ne (by omega))];exact g.c2
 ·rw [World.cell?_setCell_other _ _ _ _ (addr_ne (by omega))]
  unfold upd
  by_cases e:i=c
  ·subst e
   rw [if_pos rfl]
   exact World.cell?_setCell_same _ _ _ (g.cs i hi)
  ·rw [if_neg e,World.cell?_setCell_other _ _ _ _ (addr_ne (by omega))];exact g.cs i hi
set_option maxHeartbeats 400000 in
theorem rset_new {b:Nat}{W H V:Int}{bl:Nat->Bool}(c:Nat)(v:Bool)(w:World)(g:RefAt w b W H V bl)(f:Free w b)(hr:inB W H c=true)(hv:bl c=!v)(v1:0<=V)(v2:V<=1000000) :
  Calls Tryz.prog 32 #[.pointer (some ⟨b,0,none⟩),.int .i64 c,.bool v] w fun e w'=>e=.returned (.tuple #[.bool true,.int .i64 0])/\Touch b w w'/\RefAt w' b W H (V+1) (upd bl c v)/\Free w' b:=by
 have hc:0<=(c:Int)/\(c:Int)<W*H:=of_decide_eq_true hr
 obtain ⟨k1,k2⟩:=wh_bd g.w1 g.w2 g.h1 g.h2
 obtain ⟨q1,q2⟩:=hc
 have q3:(c:Int)<256:=by omega
 have h:=g.cs c (by omega)
 have c2:=g.c2
 have f1:=f 258
 have f2:=f (2+c)
 rw [hv] at h
 have hx:((!v) == v)=false:=by cases v <;> rfl
 have hG:=fun m=>refAt_set (g.drewN m) c (by omega) v
 have hne:(⟨b,2+c,none⟩:Addr)≠⟨b,258,none⟩:=addr_ne (by omega)
 have c3:(w.setCell ⟨b,2+c,none⟩ (.bool v)).cell? ⟨b,258,none⟩=some (.int .i64 V):=by rw [World.cell?_setCell_other _ _ _ _ hne];exact c2
 go_enter Tryz.func32,Tryz.ntmps32
 go_wp2_with (go_at_call 26;refine (ris_in _ _ g hr).mono ?_;rintro e w' ⟨rfl,m,rfl⟩)
 go_ret2
 exact ⟨rfl,(((Touch.refl b w).drewN m).setCell _ _).setCell _ _,hG m,fun o=>by simpa using f o⟩
end
section
open Go.RowKit
set_option maxHeartbeats 1000000 in
theorem rstep_any (d:Nat)(w:World)(hd:d<8) :
  Calls Tryz.prog 66 #[.int .i64 d] w fun e w'=>e=.returned (.tuple #[.int .i64 (stepX d),.int .i64 (stepY d)])/\w'=w:=by
 have hks:d=0\/d=1\/d=2\/d=3\/d=4\/d=5\/d=6\/d=7:=by omega
 rcases hks with rfl|rfl|rfl|rfl|rfl|rfl|rfl|rfl
 all_goals
  go_enter Tryz.func66,Tryz.ntmps66
  go_wp2
  go_ret2
  exact ⟨rfl,rfl⟩
theorem rstep_d (d:Nat)(w:World)(hd:d<8) :
  Calls Tryz.prog 66 #[.int .i64 d] w fun e w'=>e=.returned (.tuple #[.int .i64 (stepX d),.int .i64 (stepY d)])/\∃ m,w'=w.drewN m :=
 (rstep_any d w hd).mono fun _ _ ⟨h1,h2⟩=>⟨h1,0,h2⟩
set_option maxHeartbeats 1000000 in
theorem ropen_any {b:Nat}{W H V:Int}{bl:Nat->Bool}(x y:Int)(w:World)(g:RefAt w b W H V bl) :
  Calls Tryz.prog 67 #[.pointer (some ⟨b,0,none⟩),.int .i64 x,.int .i64 y] w fun e w'=>e=.returned (.bool (openB W H bl x y))/\∃ m,w'=w.drewN m:=by
 have c0:=g.c0
 have c1:=g.c1
 have gw1:=g.w1
 have gw2:=g.w2
 have gh2:=g.h2
 by_cases h:0<=x/\x<W/\0<=y/\y<H
 ·have ha:atB W H x y=true:=decide_eq_true h
  have e:openB W H bl x y=!bl (y*W+x).toNat:=by unfold openB;rw [ha];rfl
  rw [e];clear e
  obtain ⟨x1,x2,y1,y2⟩:=h
  obtain ⟨i1,i2,i3⟩:=idx_bd g.w1 g.w2 g.h1 g.h2 x1 x2 y1 y2
  obtain ⟨k1,k2⟩:=yw_bd (y:=y) g.w1 g.w2 (by omega) (by omega)
  have hc:=g.cs (y*W+x).toNat (by omega)
  have d1:decide (0<=x)=true:=decide_eq_true x1
  have d2:decide (x<W)=true:=decide_eq_true x2
  have d3:decide (0<=y)=true:=decide_eq_true y1
  have d4:decide (y<H)=true:=decide_eq_true y2
  clear i2 ha
  go_enter Tryz.func67,Tryz.ntmps67
  go_wp2
  go_quiet (fail)
  go_wp2
  go_ret
  exact ⟨rfl,_,rfl⟩
 ·have ha:atB W H x y=false:=decide_eq_false h
  have e:openB W H bl x y=false:=by unfold openB;rw [ha];rfl
  rw [e];clear e
  have hc:(¬ 0<=x)\/(0<=x/\¬ x<W)\/(0<=x/\x<W/\¬ 0<=y)\/(0<=x/\x<W/\0<=y/\¬ y<H):=by omega
  clear ha h
  rcases hc with h|⟨h1,h2⟩|⟨h1,h2,h3⟩|⟨h1,h2,h3,h4⟩
  ·have d1:decide (0<=x)=false:=decide_eq_false h
   go_enter Tryz.func67,Tryz.ntmps67
   go_wp2
   go_quiet (fail)
   go_wp2
   go_ret
   exact ⟨rfl,_,rfl⟩
  ·have d1:decide (0<=x)=true:=decide_eq_true h1
   have d2:decide (x<W)=false:=decide_eq_false h2
   go_enter Tryz.func67,Tryz.ntmps67
   go_wp2
   go_quiet (fail)
   go_wp2
   go_ret
   exact ⟨rfl,_,rfl⟩
  ·have d1:decide (0<=x)=true:=decide_eq_true h1
   have d2:decide (x<W)=true:=decide_eq_true h2
   have d3:decide (0<=y)=false:=decide_eq_false h3
   go_enter Tryz.func67,Tryz.ntmps67
   go_wp2
   go_quiet (fail)
   go_wp2
   go_ret
   exact ⟨rfl,_,rfl⟩
  ·have d1:decide (0<=x)=true:=decide_eq_true h1
   have d2:decide (x<W)=true:=decide_eq_true h2
   have d3:decide (0<=y)=true:=decide_eq_true h3
   have d4:decide (y<H)=false:=decide_eq_false h4
   go_enter Tryz.func67,Tryz.ntmps67
   go_wp2
   go_quiet (fail)
   go_wp2
   go_ret
   exact ⟨rfl,_,rfl⟩
theorem ropen_v {b:Nat}{W H V:Int}{bl:Nat->Bool}{x y:Int}{r:Bool}(hr:openB W H bl x y=r)(w:World)(g:RefAt w b W H V bl) :
  Calls Tryz.prog 67 #[.pointer (some ⟨b,0,none⟩),.int .i64 x,.int .i64 y] w fun e w'=>e=.returned (.bool r)/\∃ m,w'=w.drewN m:=hr ▸ ropen_any x y w g
set_option maxHeartbeats 1000000 in
theorem rmay_any {b:Nat}{W H V:Int}{bl:Nat->Bool}(x y:Int)(d:Nat)(w:World)(g:RefAt w b W H V bl)(hd:d<8)(x1:-100<=x)(x2:x<=100)(y1:-100<=y)(y2:y<=100) :
  Calls Tryz.prog 36 #[.pointer (some ⟨b,0,none⟩),.int .i64 x,.int .i64 y,.int .i64 d] w fun e w'=>e=.returned (.bool (mayB W H bl x y d))/\∃ m,w'=w.drewN m:=by
 obtain ⟨s1,s2,s3,s4⟩:=step_bd d
 have hs:=fun w=>rstep_d d w hd
 have hm:mayB W H bl x y d=(openB W H bl x y&&openB W H bl (x+stepX d) (y+stepY d)&&openB W H bl (x+stepX d) y&&openB W H bl x (y+stepY d)):=rfl
 generalize stepX d=dx at *
 generalize stepY d=dy at *
 cases hA:openB W H bl x y with
 |false =>
  rw [hm,hA]
  simp only [Bool.false_and]
  clear hm
  go_enter Tryz.func36,Tryz.ntmps36
  go_wp2_with (first|(go_at_call 66;refine (hs _).mono ?_;rintro e w' ⟨rfl,m0,rfl⟩)|(go_at_call 67;refine (ropen_v (by assumption) _ (g.drewN _)).mono ?_;rintro e w' ⟨rfl,m,rfl⟩))
  go_ret
  exact ⟨rfl,_,rfl⟩
 |true =>
  cases hB:openB W H bl (x+dx) (y+dy) with
  |false =>
   rw [hm,hA,hB]
   simp only [Bool.true_and,Bool.false_and]
   clear hm
   go_enter Tryz.func36,Tryz.ntmps36
   go_wp2_with (first|(go_at_call 66;refine (hs _).mono ?_;rintro e w' ⟨rfl,m0,rfl⟩)|(go_at_call 67;refine (ropen_v (by assumption) _ (g.drewN _)).mono ?_;rintro e w' ⟨rfl,m,rfl⟩))
   go_ret
   exact ⟨rfl,_,rfl⟩
  |true =>
   cases hC:openB W H bl (x+dx) y with
   |false =>
    rw [hm,hA,hB,hC]
    simp only [Bool.true_and,Bool.false_and]
    clear hm
    go_enter Tryz.func36,Tryz.ntmps36
    go_wp2_with (first|(go_at_call 66;refine (hs _).mono ?_;rintro e w' ⟨rfl,m0,rfl⟩)|(go_at_call 67;refine (ropen_v (by assumption) _ (g.drewN _)).mono ?_;rintro e w' ⟨rfl,m,rfl⟩))
    go_ret
    exact ⟨rfl,_,rfl⟩
   |true =>
    cases hD:openB W H bl x (y+dy) with
    |false =>
     rw [hm,hA,hB,hC,hD]
     simp only [Bool.true_and]
     clear hm
     go_enter Tryz.func36,Tryz.ntmps36
     go_wp2_with (first|(go_at_call 66;refine (hs _).mono ?_;rintro e w' ⟨rfl,m0,rfl⟩)|(go_at_call 67;refine (ropen_v (by assumption) _ (g.drewN _)).mono ?_;rintro e w' ⟨rfl,m,rfl⟩))
     go_ret
     exact ⟨rfl,_,rfl⟩
    |true =>
     rw [hm,hA,hB,hC,hD]
     simp only [Bool.true_and]
     clear hm
     go_enter Tryz.func36,Tryz.ntmps36
     go_wp2_with (first|(go_at_call 66;refine (hs _).mono ?_;rintro e w' ⟨rfl,m0,rfl⟩)|(go_at_call 67;refine (ropen_v (by assumption) _ (g.drewN _)).mono ?_;rintro e w' ⟨rfl,m,rfl⟩))
     go_ret
     exact ⟨rfl,_,rfl⟩
set_option maxHeartbeats 400000 in
theorem rto_any {b:Nat}{W H V:Int}{bl:Nat->Bool}(c:Int)(d:Nat)(w:World)(g:RefAt w b W H V bl)(hd:d<8)(c1:-1000<=c)(c2:c<=1000) :
  Calls Tryz.prog 35 #[.pointer (some ⟨b,0,none⟩),.int .i64 c,.int .i64 d] w fun e w'=>e=.returned (.int .i64 (c+stepX d+stepY d*W))/\w'=w:=by
 obtain ⟨s1,s2,s3,s4⟩:=step_bd d
 obtain ⟨k1,k2⟩:=yw_bd g.w1 g.w2 (show -100<=stepY d by omega) (by omega)
 have hs:=fun w=>rstep_any d w hd
 have c0:=g.c0
 generalize stepX d=dx at *
 generalize stepY d=dy at *
 go_enter Tryz.func35,Tryz.ntmps35
 go_wp2_with (go_at_call 66;refine (hs _).mono ?_;rintro e w' ⟨rfl,rfl⟩)
 go_ret
 exact ⟨rfl,rfl⟩
set_option maxHeartbeats 400000 in
theorem free_in {b:Nat}{W H V:Int}{bl:Nat->Bool}(c:Nat)(w:World)(g:GridAt w b W H V bl)(hr:inB W H c=true) :
  Calls Tryz.prog 82 #[.pointer (some ⟨b,0,none⟩),.int .i64 c] w fun e w'=>e=.returned (.tuple #[.bool (!bl c),.nilIface])/\∃ m,w'=w.drewN m:=by
 have hc:0<=(c:Int)/\(c:Int)<W*H:=of_decide_eq_true hr
 obtain ⟨k1,k2⟩:=wh_bd g.w1 g.w2 g.h1 g.h2
 obtain ⟨q1,q2⟩:=hc
 have q3:(c:Int)<256:=by omega
 have h:=g.cs c (by omega)
 go_enter Tryz.func82,Tryz.ntmps82
 go_wp2_with (go_at_call 105;refine (hasCell_v hr _ g).mono ?_;rintro e w' ⟨rfl,m,rfl⟩)
 go_ret2
 exact ⟨rfl,_,rfl⟩
set_option maxHeartbeats 400000 in
theorem free_out {b:Nat}{W H V:Int}{bl:Nat->Bool}(c:Int)(w:World)(g:GridAt w b W H V bl)(hr:inB W H c=false) :
  Calls Tryz.prog 82 #[.pointer (some ⟨b,0,none⟩),.int .i64 c] w fun e w'=>e=.returned (.tuple #[.bool false,.iface 39 (.int .i64 1)])/\∃ m,w'=w.drewN m:=by
 go_enter Tryz.func82,Tryz.ntmps82
 go_wp2_with (go_at_call 105;refine (hasCell_v hr _ g).mono ?_;rintro e w' ⟨rfl,m,rfl⟩)
 go_ret2
 exact ⟨rfl,_,rfl⟩
end
section
open Go.RowKit
def OldRow (w:World) (A:Option Addr) (n:Nat) (xs:Nat->Int):Prop:=∀ i,i<n->∃ b o,A=some ⟨b,o,none⟩/\b<w.heap.size/\w.cell? ⟨b,o+i,none⟩=some (.int .i64 (xs i))
structure Both (w:World) (g m:Nat) (W H V:Int) (bl:Nat->Bool):Prop where
 ga:GridAt w g W H V bl
 gf:Free w g
 ra:RefAt w m W H V bl
 rf:Free w m
 v1:0<=V
 ne:g≠m
theorem Both.drewN {w:World}{g m:Nat}{W H V:Int}{bl:Nat->Bool}(h:Both w g m W H V bl)(k:Nat):Both (w.drewN k) g m W H V bl:=⟨h.ga.drewN k,h.gf,h.ra.drewN k,h.rf,h.v1,h.ne⟩
set_option maxHeartbeats 400000 in
theorem laid_many (W H:Int)(A:Option Addr)(n cap:Nat)(w:World)(hn:300<(n:Int))(_hm:n<=maxLen) :
  Calls Tryz.prog 39 #[.agg #[.int .i64 W,.int .i64 H,.slice A n cap]] w fun e w'=>e=.returned (.tuple #[.pointer none,.pointer none,.bool false])/\Below w.heap.size w w':=by
 unfold maxLen at _hm
 go_enter Tryz.func39,Tryz.ntmps39
 go_wp2
 go_ret3
 exact ⟨rfl,(Below.refl _ _).alloc (Nat.le_refl _) _⟩
set_option maxHeartbeats 400000 in
theorem laid_bad (W H:Int)(A:Option Addr)(n cap:Nat)(w:World)(hn:¬ 300<(n:Int))(h:sideB W=false\/(sideB W=true/\sideB H=false)) :
  Calls Tryz.prog 39 #[.agg #[.int .i64 W,.int .i64 H,.slice A n cap]] w fun e w'=>e=.returned (.tuple #[.pointer none,.pointer none,.bool false])/\Below w.heap.size w w':=by
 go_enter Tryz.func39,Tryz.ntmps39
 go_wp2_with (first|(go_at_call 68;refine (new_bad _ _ _ h).mono ?_;rintro e w' ⟨rfl,rfl⟩)|(go_at_call 69;refine (rnew_bad _ _ _ h).mono ?_;rintro e w' ⟨rfl,rfl⟩))
 go_ret3
 exact ⟨rfl,(Below.refl _ _).alloc (Nat.le_refl _) _⟩
theorem free_alloc (w:World)(c:Array Value)(t:TypeId)(b:Nat)(h:w.heap.size<=b):Free (w.alloc (.cells c t)) b:=fun o=>by
 rw [frozen?_alloc_cells]
 unfold World.frozen?
 rw [Array.getElem?_eq_none h]
theorem both_new (W H:Int)(h:sideB W=true)(k:sideB H=true)(w:World)(C:Array Value)(t:TypeId) :
  Both (((w.alloc (.cells C t)).alloc (.cells (gridC W H) 168)).alloc (.cells (refC W H) 65)) (w.heap.size+1) (w.heap.size+1+1) W H 0 (fun _=>false):=by
 have e1:w.heap.size+1=(w.alloc (.cells C t)).heap.size:=by simp
 have e2:w.heap.size+1+1=((w.alloc (.cells C t)).alloc (.cells (gridC W H) 168)).heap.size:=by simp
 refine ⟨?_,?_,?_,?_,by omega,by omega⟩
 ·have g:=gridAt_new W H (w.alloc (.cells C t)) h k
  rw [<- e1] at g
  exact g.below ((Below.refl _ _).alloc (Nat.le_refl _) _) (by simp)
 ·intro o
  rw [frozen?_alloc_cells]
  exact free_alloc (w.alloc (.cells C t)) _ _ _ (by simp) o
 ·rw [e2];exact refAt_new W H _ h k
 ·exact free_alloc _ _ _ _ (by simp)
set_option maxHeartbeats 1600000 in
theorem laid_ok (W H:Int)(A:Option Addr)(n cap:Nat)(xs:Nat->Int)(w:World)(hn:¬ 300<(n:Int))(h:sideB W=true)(k:sideB H=true)(hx:OldRow w A n xs) :
  Calls Tryz.prog 39 #[.agg #[.int .i64 W,.int .i64 H,.slice A n cap]] w fun e w'=>e=.returned (.tuple #[.pointer (some ⟨w.heap.size+1,0,none⟩),.pointer (some ⟨w.heap.size+1+1,0,none⟩),.bool true])/\Below w.heap.size w w'/\w'.heap.size=w.heap.size+3 /\
   ∃ V bl,V<=300/\Both w' (w.heap.size+1) (w.heap.size+1+1) W H V bl:=by
 have a:1<=W/\W<=16:=of_decide_eq_true h
 have b:1<=H/\H<=16:=of_decide_eq_true k
 go_enter Tryz.func39,Tryz.ntmps39
 go_wp2_with (first|(go_at_call 68;refine (new_ok _ _ _ h k).mono ?_;rintro e w' ⟨rfl,rfl⟩)|(go_at_call 69;refine (rnew_ok _ _ _ a.1 a.2 b.1 b.2).mono ?_;rintro e w' ⟨rfl,rfl⟩))
 go_loopw [9] (fun i wr=>∃ (j:Nat) (V:Int) (bl:Nat->Bool),j<=n/\i=.int .i64 j/\V<=j/\Both wr (w.heap.size+1) (w.heap.size+1+1) W H V bl/\Below w.heap.size w wr/\wr.cell? ⟨w.heap.size,2,none⟩=some (.slice A n cap)/\wr.heap.size=w.heap.size+3)
  (fun i _=>n - (intOf i).toNat)
 case atStart =>
  refine ⟨0,0,fun _=>false,Nat.zero_le _,rfl,by omega,both_new W H h k w _ 24,((((Below.refl _ _).alloc (Nat.le_refl _) _).alloc (by simp) _).alloc (by simp;omega) _),?_,by simp⟩
  rw [World.cell?_alloc_old _ _ _ (by simp;omega),World.cell?_alloc_old _ _ _ (by simp),World.cell?_alloc_new];rfl
 case round =>
  obtain ⟨j,V,bl,hj,rfl,hV,hB,hnx,hbox,hsz⟩:=hrel
  have hv0:=hB.v1
  by_cases hlt:j<n
  ·obtain ⟨ba,oa,rfl,hba,hcell⟩:=hx j hlt
   have hc2:wr.cell? ⟨ba,oa+j,none⟩=some (.int .i64 (xs j)):=(hnx.cell (p:=⟨ba,oa+j,none⟩) hba).trans hcell
   clear hcell
   generalize xs j=c at hc2
   have i1:(0:Int)<=(j:Int):=by omega
   have i2:(j:Int)<(n:Int):=by omega
   cases hin:inB W H c with
   |false =>
    go_wp2_with (first|(go_at_call 26;refine (ris_out _ _ hB.ra hin).mono ?_;rintro e w' ⟨rfl,m1,rfl⟩)|(go_at_call 70;refine (set_out _ _ _ (hB.drewN _).ga hin).mono ?_;rintro e w' ⟨rfl,m2,rfl⟩)|(go_at_call 32;refine (rset_out _ _ _ (hB.drewN _).ra hin).mono ?_;rintro e w' ⟨rfl,m3,rfl⟩))
    go_roundw
    case rel=>exact ⟨j+1,V,bl,by omega,by go_num,by omega,hB.drewN _,below_drewN hnx _,hbox,hsz⟩
    case measure=>simp [intOf];omega
   |true =>
    have hc:0<=c/\c<W*H:=of_decide_eq_true hin
    obtain ⟨k1,k2⟩:=wh_bd a.1 a.2 b.1 b.2
    obtain ⟨cN,rfl⟩:∃ cN:Nat,c=cN:=⟨c.toNat,by omega⟩
    obtain ⟨q1,q2⟩:=hc
    have q3:(cN:Int)<256:=by omega
    have hbl:=hB.ra.cs cN (by omega)
    have ne1:w.heap.size≠w.heap.size+1:=by omega
    have ne2:w.heap.size≠w.heap.size+1+1:=by omega
    go_wp2_with (first|(go_at_call 26;refine (ris_in _ _ hB.ra hin).mono ?_;rintro e w' ⟨rfl,m1,rfl⟩)|(go_at_call 70;refine (set_new cN (!bl cN) _ (hB.drewN _).ga (hB.drewN _).gf hin (Bool.not_not _).symm hv0 (by omega)).mono ?_;rintro e w1 ⟨rfl,T1,G1,F1⟩)|(go_at_call 32;refine (rset_new cN (!bl cN) _ ((hB.drewN _).ra.touch T1 hB.ne.symm) (fun o=>(T1.frozen (p:=⟨w.heap.size+1+1,o,none⟩) hB.ne.symm).trans (hB.rf o)) hin (Bool.not_not _).symm hv0 (by omega)).mono ?_;rintro e w2 ⟨rfl,T2,R2,F2⟩))
    go_roundw
    case rel =>
     refine ⟨j+1,V+1,upd bl cN (!bl cN),by omega,by go_num,by omega,⟨G1.touch T2 hB.ne,fun o=>(T2.frozen (p:=⟨w.heap.size+1,o,none⟩) hB.ne).trans (F1 o),R2,F2,by omega,hB.ne⟩,T2.below (T1.below (below_drewN hnx _) (by omega)) (by omega),?_,?_⟩
     ·exact ((T2.cell (p:=⟨w.heap.size,2,none⟩) ne2).trans (T1.cell (p:=⟨w.heap.size,2,none⟩) ne1)).trans hbox
     ·exact (T2.size.trans T1.size).trans hsz
    case measure=>simp [intOf];omega
  ·have:j=n:=by omega
   subst this
   go_wp2
   go_ret3
   exact ⟨rfl,hnx,hsz,V,bl,by omega,hB⟩
end
section
theorem open_in {W H x y:Int}{bl:Nat->Bool}(h:openB W H bl x y=true):0<=x/\x<W/\0<=y/\y<H:=by
 unfold openB at h
 rw [Bool.and_eq_true] at h
 exact of_decide_eq_true h.1
theorem mem_mvs {W H x y:Int}{bl:Nat->Bool}{k d:Nat}:d ∈ mvs W H bl x y k↔d<k/\mayB W H bl x y d=true:=by
 unfold mvs;rw [List.mem_filter,List.mem_range]
theorem getD_at (l:List Nat)(i:Nat)(h:i<l.length):l.getD i 0=l[i]:=by
 rw [List.getD_eq_getElem?_getD,List.getElem?_eq_getElem h];rfl
def opp (d:Nat):Nat:=(d+4) % 8
theorem opp_lt (d:Nat):opp d<8:=Nat.mod_lt _ (by decide)
theorem opp_step (d:Nat)(h:d<8):stepX (opp d)=-stepX d/\stepY (opp d)=-stepY d:=by
 have hks:d=0\/d=1\/d=2\/d=3\/d=4\/d=5\/d=6\/d=7:=by omega
 rcases hks with rfl|rfl|rfl|rfl|rfl|rfl|rfl|rfl <;> decide
theorem may_parts {W H x y:Int}{bl:Nat->Bool}{d:Nat}(h:mayB W H bl x y d=true) :
  openB W H bl x y=true/\openB W H bl (x+stepX d) (y+stepY d)=true/\openB W H bl (x+stepX d) y=true/\openB W H bl x (y+stepY d)=true:=by
 unfold mayB at h
 simp only [Bool.and_eq_true] at h
 exact ⟨h.1.1.1,h.1.1.2,h.1.2,h.2⟩
theorem may_back {W H x y:Int}{bl:Nat->Bool}{d:Nat}(hd:d<8)(h:mayB W H bl x y d=true):mayB W H bl (x+stepX d) (y+stepY d) (opp d)=true:=by
 obtain ⟨a,b,c,e⟩:=may_parts h
 obtain ⟨o1,o2⟩:=opp_step d hd
 unfold mayB
 rw [o1,o2,show x+stepX d+-stepX d=x from by omega,show y+stepY d+-stepY d=y from by omega,a,b,c,e]
 rfl
theorem place_to {W H x y:Int}(w1:1<=W)(x1:0<=x)(x2:x<W)(y1:0<=y)(y2:y<H):inB W H (y*W+x)=true/\(y*W+x) % W=x/\(y*W+x) / W=y:=by
 refine ⟨decide_eq_true ⟨?_,?_⟩,?_,?_⟩
 ·have:=Int.mul_nonneg y1 (show 0<=W by omega);omega
 ·have:=Int.mul_le_mul_of_nonneg_right (show y+1<=H by omega) (show 0<=W by omega)
  rw [Int.add_mul,Int.one_mul,Int.mul_comm H W] at this
  omega
 ·rw [Int.add_comm,Int.add_mul_emod_self_right];exact Int.emod_eq_of_lt x1 x2
 ·rw [Int.add_comm,Int.add_mul_ediv_right _ _ (by omega),Int.ediv_eq_zero_of_lt x1 x2];omega
theorem cell_eq (W c:Int):c / W*W+c % W=c:=by
 have:=Int.mul_ediv_add_emod c W
 rw [Int.mul_comm] at this
 exact this
theorem back_facts {W H c:Int}{bl:Nat->Bool}{d:Nat}(w1:1<=W)(hd:d<8)(h:mayB W H bl (c % W) (c / W) d=true) :
  inB W H (c+(stepY d*W+stepX d))=true /\
  ∃ j,j<(mvs W H bl ((c+(stepY d*W+stepX d)) % W) ((c+(stepY d*W+stepX d)) / W) 8).length /\
   (mvs W H bl ((c+(stepY d*W+stepX d)) % W) ((c+(stepY d*W+stepX d)) / W) 8).getD j 0=opp d:=by
 have hb:=may_back hd h
 obtain ⟨_,o2,_,_⟩:=may_parts h
 obtain ⟨a1,a2,a3,a4⟩:=open_in o2
 have e:c+(stepY d*W+stepX d)=(c / W+stepY d)*W+(c % W+stepX d):=by
  have:=cell_eq W c
  rw [Int.add_mul]
  omega
 obtain ⟨p1,p2,p3⟩:=place_to (H:=H) w1 a1 a2 a3 a4
 rw [e,p2,p3]
 refine ⟨p1,?_⟩
 have hm:opp d ∈ mvs W H bl (c % W+stepX d) (c / W+stepY d) 8:=mem_mvs.mpr ⟨opp_lt d,hb⟩
 obtain ⟨j,hj,he⟩:=List.mem_iff_getElem.mp hm
 exact ⟨j,hj,by rw [getD_at _ _ hj];exact he⟩
theorem back_home {W c:Int}{d:Nat}(hd:d<8):c+(stepY d*W+stepX d)+(stepY (opp d)*W+stepX (opp d))=c:=by
 obtain ⟨o1,o2⟩:=opp_step d hd
 rw [o1,o2,Int.neg_mul]
 omega
theorem mvs_sorted (W H x y:Int)(bl:Nat->Bool)(k:Nat):(mvs W H bl x y k).Pairwise (·<·) :=
 List.Pairwise.filter _ List.pairwise_lt_range
theorem mvs_rise {W H x y:Int}{bl:Nat->Bool}{k i:Nat}(h0:0<i)(hi:i<(mvs W H bl x y k).length):(mvs W H bl x y k).getD (i - 1) 0<(mvs W H bl x y k).getD i 0:=by
 rw [getD_at _ _ hi,getD_at _ _ (by omega)]
 exact List.pairwise_iff_getElem.mp (mvs_sorted W H x y bl k) (i - 1) i (by omega) hi (by omega)
theorem mvs_at {W H x y:Int}{bl:Nat->Bool}{k i:Nat}(hi:i<(mvs W H bl x y k).length):(mvs W H bl x y k).getD i 0<k/\mayB W H bl x y ((mvs W H bl x y k).getD i 0)=true:=by
 rw [getD_at _ _ hi]
 exact mem_mvs.mp (List.getElem_mem hi)
end
section
open Go.RowKit
theorem rmay_v {b:Nat}{W H V x y:Int}{bl:Nat->Bool}{d:Nat}{r:Bool}(hr:mayB W H bl x y d=r)(w:World)(g:RefAt w b W H V bl)(hd:d<8)(x1:-100<=x)(x2:x<=100)(y1:-100<=y)(y2:y<=100) :
  Calls Tryz.prog 36 #[.pointer (some ⟨b,0,none⟩),.int .i64 x,.int .i64 y,.int .i64 d] w fun e w'=>e=.returned (.bool r)/\∃ m,w'=w.drewN m:=hr ▸ rmay_any x y d w g hd x1 x2 y1 y2
set_option maxHeartbeats 1600000 in
set_option maxRecDepth 1000000 in
theorem rmoves_in {b:Nat}{W H V:Int}{bl:Nat->Bool}(c:Int)(w:World)(g:RefAt w b W H V bl)(hr:inB W H c=true)(hb:b<w.heap.size) :
  Calls Tryz.prog 63 #[.pointer (some ⟨b,0,none⟩),.int .i64 c] w fun e w'=>∃ v,e=.returned v /\
   w'.ownsRow w.heap.size 3 1 v (mvs W H bl (c % W) (c / W) 8).length (vals (mvs W H bl (c % W) (c / W) 8))/\Below w.heap.size w w':=by
 obtain ⟨i0,hi,hz0,hz1,hz2⟩:=info_parts Tryz.info3
 have hc:0<=c/\c<W*H:=of_decide_eq_true hr
 obtain ⟨k1,k2⟩:=wh_bd g.w1 g.w2 g.h1 g.h2
 have gw1:=g.w1
 have gw:=g.w2
 have gh:=g.h2
 have x1:0<=c % W:=Int.emod_nonneg _ (by omega)
 have x2:c % W<W:=Int.emod_lt_of_pos _ (by omega)
 have y1:0<=c / W:=Int.ediv_nonneg hc.1 (by omega)
 have y3:c / W<H:=Int.ediv_lt_of_lt_mul (by omega) (by rw [Int.mul_comm];exact hc.2)
 obtain ⟨q1,q2⟩:=hc
 go_enter Tryz.func63,Tryz.ntmps63
 go_wp2
 go_loopw [5,6] (fun v i wr=>∃ k:Nat,k<=8/\i=.int .i64 k/\wr.ownsRow w.heap.size 3 1 v (mvs W H bl (c % W) (c / W) k).length (vals (mvs W H bl (c % W) (c / W) k))/\Below w.heap.size w wr)
  (fun _ i _=>8 - (intOf i).toNat)
 case atStart=>exact ⟨0,Nat.zero_le _,rfl,World.ownsRow_nil _ _ _ _,Below.refl _ _⟩
 case round =>
  obtain ⟨k,hk,rfl,hown,hnx⟩:=hrel
  have hl:=mvs_len W H bl (c % W) (c / W) k
  have gr:=g.below hnx hb
  have c0:=gr.c0
  have hsz:=hnx.size
  by_cases hlt:k<8
  ·have hms:=mvs_succ W H bl (c % W) (c / W) k
   cases hM:mayB W H bl (c % W) (c / W) k with
   |false =>
    rw [hM] at hms
    have h0:mvs W H bl (c % W) (c / W) (k+1)=mvs W H bl (c % W) (c / W) k:=by simpa using hms
    have HS:Hid (mvs W H bl (c % W) (c / W) (k+1)=mvs W H bl (c % W) (c / W) k):=h0
    clear h0 hms
    go_wp2
    go_quiet ((go_at_call 36;exact Calls.quiet_of (rmay_v hM _ (gr.drewN _) hlt (by omega) (by omega) (by omega) (by omega))))
    go_wp2
    go_roundw
    case rel=>exact ⟨k+1,by omega,by go_num,by rw [HS.out];exact hown,below_drewN hnx _⟩
    case measure=>simp [intOf];omega
   |true =>
    rw [hM] at hms
    have h0:mvs W H bl (c % W) (c / W) (k+1)=mvs W H bl (c % W) (c / W) k++[k]:=by simpa using hms
    have HS:Hid (mvs W H bl (c % W) (c / W) (k+1)=mvs W H bl (c % W) (c / W) k++[k]):=h0
    clear h0 hms
    go_wp2
    go_quiet ((go_at_call 36;exact Calls.quiet_of (rmay_v hM _ (gr.drewN _) hlt (by omega) (by omega) (by omega) (by omega))))
    go_wp2_with (at_builtin;refine wpList_append_own _ rfl _ _ 22 rfl w.heap.size 3 i0 (.int .i64 0) 1 8 Tryz.underlying22 hi hz0 hz1 hz2 rfl (by decide) _ _ _ rfl (World.ownsRow.alloc hown _) ⟨wr.heap.size,0,none⟩ 1 1 [.int .i64 k] rfl rfl ?c1 ?c2 ?c3 ?c4 ?c5 ?_)
    case c1 =>
     intro j u hj
     match j,hj with
     |0,hj =>
      simp at hj;subst hj;simp only [Addr.add]
      exact World.cell?_alloc_at (w:=wr.drewN nq) #[.int .i64 k] 3 wr.heap.size 0 rfl
    case c2=>intro u hu;simp at hu;subst hu;rfl
    case c3=>unfold maxLen;omega
    case c4=>omega
    case c5=>simp;omega
    intro v' w1 hown' hgrow _
    have hbase:=fun q hq=>(hown.lt q hq).1
    have B1:Below w.heap.size w w1:=((below_drewN hnx nq).alloc hsz _).grown hgrow (by simp;omega) hbase
    have O1:w1.ownsRow w.heap.size 3 1 v' (mvs W H bl (c % W) (c / W) (k+1)).length (vals (mvs W H bl (c % W) (c / W) (k+1))):=by
     rw [HS.out]
     simpa [vals] using hown'
    clear hown' hgrow hown hnx gr c0
    go_wp2
    go_roundw
    case rel=>exact ⟨k+1,by omega,by go_num,O1,B1⟩
    case measure=>simp [intOf];omega
  ·have:k=8:=by omega
   subst this
   go_wp2
   go_ret
   exact ⟨_,rfl,hown,hnx⟩
end
section
open Go.RowKit
theorem OldRow.below {w w':World}{A:Option Addr}{n:Nat}{xs:Nat->Int}(h:OldRow w A n xs)(hb:Below w.heap.size w w'):OldRow w' A n xs:=fun i hi=>by
 obtain ⟨b,o,e,hlt,hc⟩:=h i hi
 exact ⟨b,o,e,Nat.lt_of_lt_of_le hlt hb.size,(hb.cell (p:=⟨b,o+i,none⟩) hlt).trans hc⟩
theorem row_of {w:World}{base:Nat}{v:Value}{l:List Nat}(h:w.ownsRow base 3 1 v l.length (vals l)):∃ A cap,v=.slice A l.length cap/\OldRow w A l.length (fun i=>(l.getD i 0:Nat)):=by
 rcases h.2 with ⟨hv,h0⟩|⟨g,cap,cur,hv,hb,hg,_,_,hsz,htk⟩
 ·refine ⟨none,0,by rw [h0];exact hv,fun i hi=>absurd hi (by omega)⟩
 ·refine ⟨_,cap,hv,fun i hi=>⟨g,0,rfl,(Array.getElem?_eq_some_iff.1 hg).1,?_⟩⟩
  subst hv
  have:=h.cellAt i (by omega)
  rw [Nat.zero_add,this]
  rw [List.getElem?_map,List.getElem?_eq_getElem hi]
  show _=some (Value.int .i64 ((l.getD i 0:Nat):Int))
  rw [getD_at _ _ hi]
  rfl
structure DirsOf (W H:Int) (bl:Nat->Bool) (c:Int) (l:List Nat):Prop where
 eq:mvs W H bl (c % W) (c / W) 8=l
 len:l.length<=8
 lt:∀ i,i<l.length->l.getD i 0<8
 rise:∀ i,0<i->i<l.length->l.getD (i - 1) 0<l.getD i 0
 back:∀ i,i<l.length->inB W H (c+(stepY (l.getD i 0)*W+stepX (l.getD i 0)))=true /\
  ∀ l',mvs W H bl ((c+(stepY (l.getD i 0)*W+stepX (l.getD i 0))) % W) ((c+(stepY (l.getD i 0)*W+stepX (l.getD i 0))) / W) 8=l'->∃ j,j<l'.length/\l'.getD j 0=opp (l.getD i 0)
theorem dirsOf {W H:Int}(bl:Nat->Bool)(c:Int)(w1:1<=W):∃ l,DirsOf W H bl c l :=
 ⟨_,rfl,mvs_len _ _ _ _ _ _,fun _ hi=>(mvs_at hi).1,fun _ h0 hi=>mvs_rise h0 hi,fun _ hi=>⟨(back_facts w1 (mvs_at hi).1 (mvs_at hi).2).1,fun _ e=>e ▸ (back_facts w1 (mvs_at hi).1 (mvs_at hi).2).2⟩⟩
end
end Go.Proofs.YtipbhlofbpnpjaaGreatDoor
