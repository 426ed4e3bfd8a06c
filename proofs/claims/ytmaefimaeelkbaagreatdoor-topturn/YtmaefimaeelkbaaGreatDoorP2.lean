/-
  Texts laid together: Ref, Math, HeapM, FloodM, Cost, Oct.
-/
import Derived.Test.YtmaefimaeelkbaaGreatDoorP1
import Derived.WalkKit
import Derived.Test.YtmaefimaeelkbaaGreatDoorProg
namespace Go.Proofs.YtmaefimaeelkbaaGreatDoor
section
open Go.RowKit
set_option maxHeartbeats 1000000 in
theorem rstep_any (d:Nat)(w:World)(hd:d<8) :
  Calls Tryz.prog 90 #[.int .i64 d] w fun e w'=>e=.returned (.tuple #[.int .i64 (stepX d),.int .i64 (stepY d)])/\w'=w:=by
 have hks:d=0\/d=1\/d=2\/d=3\/d=4\/d=5\/d=6\/d=7:=by omega
 rcases hks with rfl|rfl|rfl|rfl|rfl|rfl|rfl|rfl
 all_goals
  go_enter Tryz.func90,Tryz.ntmps90
  go_wp2
  go_ret2
  exact ⟨rfl,rfl⟩
theorem rstep_d (d:Nat)(w:World)(hd:d<8) :
  Calls Tryz.prog 90 #[.int .i64 d] w fun e w'=>e=.returned (.tuple #[.int .i64 (stepX d),.int .i64 (stepY d)])/\∃ m,w'=w.drewN m :=
 (rstep_any d w hd).mono fun _ _ ⟨h1,h2⟩=>⟨h1,0,h2⟩
set_option maxHeartbeats 1000000 in
theorem ropen_any {b:Nat}{W H V:Int}{bl:Nat->Bool}(x y:Int)(w:World)(g:RefAt w b W H V bl) :
  Calls Tryz.prog 91 #[.pointer (some ⟨b,0,none⟩),.int .i64 x,.int .i64 y] w fun e w'=>e=.returned (.bool (openB W H bl x y))/\∃ m,w'=w.drewN m:=by
 have c0:=g.c0
 have c1:=g.c1
 have gw1:=g.w1
 have gw2:=g.w2
 have gh2:=g.h2
 by_cases h:0<=x/\x<W/\0<=y/\y<H
 ·have ha:atB W H x y=true:=decide_eq_true h
  have e:openB W H bl x y=!bl (y*W+x).toNat:=by unfold openB;rw [ha];rfl
  rw [e];clear e
  obtain ⟨x1,x2,y1,y2⟩:=h
  obtain ⟨i1,i2,i3⟩:=idx_bd g.w1 g.w2 g.h1 g.h2 x1 x2 y1 y2
  obtain ⟨k1,k2⟩:=yw_bd (y:=y) g.w1 g.w2 (by omega) (by omega)
  have hc:=g.cs (y*W+x).toNat (by omega)
  have d1:decide (0<=x)=true:=decide_eq_true x1
  have d2:decide (x<W)=true:=decide_eq_true x2
  have d3:decide (0<=y)=true:=decide_eq_true y1
  have d4:decide (y<H)=true:=decide_eq_true y2
  clear i2 ha
  go_enter Tryz.func91,Tryz.ntmps91
  go_wp2
  go_quiet (fail)
  go_wp2
  go_ret
  exact ⟨rfl,_,rfl⟩
 ·have ha:atB W H x y=false:=decide_eq_false h
  have e:openB W H bl x y=false:=by unfold openB;rw [ha];rfl
  rw [e];clear e
  have hc:(¬ 0<=x)\/(0<=x/\¬ x<W)\/(0<=x/\x<W/\¬ 0<=y)\/(0<=x/\x<W/\0<=y/\¬ y<H):=by omega
  clear ha h
  rcases hc with h|⟨h1,h2⟩|⟨h1,h2,h3⟩|⟨h1,h2,h3,h4⟩
  ·have d1:decide (0<=x)=false:=decide_eq_false h
   go_enter Tryz.func91,Tryz.ntmps91
   go_wp2
   go_quiet (fail)
   go_wp2
   go_ret
   exact ⟨rfl,_,rfl⟩
  ·have d1:decide (0<=x)=true:=decide_eq_true h1
   have d2:decide (x<W)=false:=decide_eq_false h2
   go_enter Tryz.func91,Tryz.ntmps91
   go_wp2
   go_quiet (fail)
   go_wp2
   go_ret
   exact ⟨rfl,_,rfl⟩
  ·have d1:decide (0<=x)=true:=decide_eq_true h1
   have d2:decide (x<W)=true:=decide_eq_true h2
   have d3:decide (0<=y)=false:=decide_eq_false h3
   go_enter Tryz.func91,Tryz.ntmps91
   go_wp2
   go_quiet (fail)
   go_wp2
   go_ret
   exact ⟨rfl,_,rfl⟩
  ·have d1:decide (0<=x)=true:=decide_eq_true h1
   have d2:decide (x<W)=true:=decide_eq_true h2
   have d3:decide (0<=y)=true:=decide_eq_true h3
   have d4:decide (y<H)=false:=decide_eq_false h4
   go_enter Tryz.func91,Tryz.ntmps91
   go_wp2
   go_quiet (fail)
   go_wp2
   go_ret
   exact ⟨rfl,_,rfl⟩
theorem ropen_v {b:Nat}{W H V:Int}{bl:Nat->Bool}{x y:Int}{r:Bool}(hr:openB W H bl x y=r)(w:World)(g:RefAt w b W H V bl) :
  Calls Tryz.prog 91 #[.pointer (some ⟨b,0,none⟩),.int .i64 x,.int .i64 y] w fun e w'=>e=.returned (.bool r)/\∃ m,w'=w.drewN m:=hr ▸ ropen_any x y w g
set_option maxHeartbeats 1000000 in
theorem rmay_any {b:Nat}{W H V:Int}{bl:Nat->Bool}(x y:Int)(d:Nat)(w:World)(g:RefAt w b W H V bl)(hd:d<8)(x1:-100<=x)(x2:x<=100)(y1:-100<=y)(y2:y<=100) :
  Calls Tryz.prog 48 #[.pointer (some ⟨b,0,none⟩),.int .i64 x,.int .i64 y,.int .i64 d] w fun e w'=>e=.returned (.bool (mayB W H bl x y d))/\∃ m,w'=w.drewN m:=by
 obtain ⟨s1,s2,s3,s4⟩:=step_bd d
 have hs:=fun w=>rstep_d d w hd
 have hm:mayB W H bl x y d=(openB W H bl x y&&openB W H bl (x+stepX d) (y+stepY d)&&openB W H bl (x+stepX d) y&&openB W H bl x (y+stepY d)):=rfl
 generalize stepX d=dx at *
 generalize stepY d=dy at *
 cases hA:openB W H bl x y with
 |false =>
  rw [hm,hA]
  simp only [Bool.false_and]
  clear hm
  go_enter Tryz.func48,Tryz.ntmps48
  go_wp2_with (first|(go_at_call 90;refine (hs _).mono ?_;rintro e w' ⟨rfl,m0,rfl⟩)|(go_at_call 91;refine (ropen_v (by assumption) _ (g.drewN _)).mono ?_;rintro e w' ⟨rfl,m,rfl⟩))
  go_ret
  exact ⟨rfl,_,rfl⟩
 |true =>
  cases hB:openB W H bl (x+dx) (y+dy) with
  |false =>
   rw [hm,hA,hB]
   simp only [Bool.true_and,Bool.false_and]
   clear hm
   go_enter Tryz.func48,Tryz.ntmps48
   go_wp2_with (first|(go_at_call 90;refine (hs _).mono ?_;rintro e w' ⟨rfl,m0,rfl⟩)|(go_at_call 91;refine (ropen_v (by assumption) _ (g.drewN _)).mono ?_;rintro e w' ⟨rfl,m,rfl⟩))
   go_ret
   exact ⟨rfl,_,rfl⟩
  |true =>
   cases hC:openB W H bl (x+dx) y with
   |false =>
    rw [hm,hA,hB,hC]
    simp only [Bool.true_and,Bool.false_and]
    clear hm
    go_enter Tryz.func48,Tryz.ntmps48
    go_wp2_with (first|(go_at_call 90;refine (hs _).mono ?_;rintro e w' ⟨rfl,m0,rfl⟩)|(go_at_call 91;refine (ropen_v (by assumption) _ (g.drewN _)).mono ?_;rintro e w' ⟨rfl,m,rfl⟩))
    go_ret
    exact ⟨rfl,_,rfl⟩
   |true =>
    cases hD:openB W H bl x (y+dy) with
    |false =>
     rw [hm,hA,hB,hC,hD]
     simp only [Bool.true_and]
     clear hm
     go_enter Tryz.func48,Tryz.ntmps48
     go_wp2_with (first|(go_at_call 90;refine (hs _).mono ?_;rintro e w' ⟨rfl,m0,rfl⟩)|(go_at_call 91;refine (ropen_v (by assumption) _ (g.drewN _)).mono ?_;rintro e w' ⟨rfl,m,rfl⟩))
     go_ret
     exact ⟨rfl,_,rfl⟩
    |true =>
     rw [hm,hA,hB,hC,hD]
     simp only [Bool.true_and]
     clear hm
     go_enter Tryz.func48,Tryz.ntmps48
     go_wp2_with (first|(go_at_call 90;refine (hs _).mono ?_;rintro e w' ⟨rfl,m0,rfl⟩)|(go_at_call 91;refine (ropen_v (by assumption) _ (g.drewN _)).mono ?_;rintro e w' ⟨rfl,m,rfl⟩))
     go_ret
     exact ⟨rfl,_,rfl⟩
set_option maxHeartbeats 400000 in
theorem rto_any {b:Nat}{W H V:Int}{bl:Nat->Bool}(c:Int)(d:Nat)(w:World)(g:RefAt w b W H V bl)(hd:d<8)(c1:-1000<=c)(c2:c<=1000) :
  Calls Tryz.prog 49 #[.pointer (some ⟨b,0,none⟩),.int .i64 c,.int .i64 d] w fun e w'=>e=.returned (.int .i64 (c+stepX d+stepY d*W))/\w'=w:=by
 obtain ⟨s1,s2,s3,s4⟩:=step_bd d
 obtain ⟨k1,k2⟩:=yw_bd g.w1 g.w2 (show -100<=stepY d by omega) (by omega)
 have hs:=fun w=>rstep_any d w hd
 have c0:=g.c0
 generalize stepX d=dx at *
 generalize stepY d=dy at *
 go_enter Tryz.func49,Tryz.ntmps49
 go_wp2_with (go_at_call 90;refine (hs _).mono ?_;rintro e w' ⟨rfl,rfl⟩)
 go_ret
 exact ⟨rfl,rfl⟩
set_option maxHeartbeats 400000 in
theorem free_in {b:Nat}{W H V:Int}{bl:Nat->Bool}(c:Nat)(w:World)(g:GridAt w b W H V bl)(hr:inB W H c=true) :
  Calls Tryz.prog 72 #[.pointer (some ⟨b,0,none⟩),.int .i64 c] w fun e w'=>e=.returned (.tuple #[.bool (!bl c),.nilIface])/\∃ m,w'=w.drewN m:=by
 have hc:0<=(c:Int)/\(c:Int)<W*H:=of_decide_eq_true hr
 obtain ⟨k1,k2⟩:=wh_bd g.w1 g.w2 g.h1 g.h2
 obtain ⟨q1,q2⟩:=hc
 have q3:(c:Int)<256:=by omega
 have h:=g.cs c (by omega)
 go_enter Tryz.func72,Tryz.ntmps72
 go_wp2_with (go_at_call 117;refine (hasCell_v hr _ g).mono ?_;rintro e w' ⟨rfl,m,rfl⟩)
 go_ret2
 exact ⟨rfl,_,rfl⟩
set_option maxHeartbeats 400000 in
theorem free_out {b:Nat}{W H V:Int}{bl:Nat->Bool}(c:Int)(w:World)(g:GridAt w b W H V bl)(hr:inB W H c=false) :
  Calls Tryz.prog 72 #[.pointer (some ⟨b,0,none⟩),.int .i64 c] w fun e w'=>e=.returned (.tuple #[.bool false,.iface 54 (.int .i64 1)])/\∃ m,w'=w.drewN m:=by
 go_enter Tryz.func72,Tryz.ntmps72
 go_wp2_with (go_at_call 117;refine (hasCell_v hr _ g).mono ?_;rintro e w' ⟨rfl,m,rfl⟩)
 go_ret2
 exact ⟨rfl,_,rfl⟩
end
section
def sqs (n:Int):Int:=if n<0 then -n*n else n*n
def cmpI (a b:Int):Int:=if a<b then -1 else if b<a then 1 else 0
def cmpC (s d t e:Int):Int:=cmpI (sqs (s - t)) (2*sqs (e - d))
def val (s d:Int):Int:=38613965*s+54608393*d
theorem mul_self_nonneg (n:Int):0<=n*n:=by
 rcases Int.le_total 0 n with h|h
 ·exact Int.mul_nonneg h h
 ·exact Int.mul_nonneg_of_nonpos_of_nonpos h h
theorem mul_self_bd (n:Int)(h1:-8388608<=n)(h2:n<=8388608):0<=n*n/\n*n<=70368744177664:=by
 refine ⟨mul_self_nonneg n,?_⟩
 rcases Int.le_total 0 n with h|h
 ·have:=Int.mul_le_mul_of_nonneg_right h2 h
  omega
 ·have:=Int.mul_le_mul_of_nonpos_right h1 h
  omega
theorem sqs_bd (n:Int)(h1:-8388608<=n)(h2:n<=8388608):-70368744177664<=sqs n/\sqs n<=70368744177664:=by
 have:=mul_self_bd n h1 h2
 unfold sqs
 have e:-n*n=-(n*n):=Int.neg_mul n n
 split <;> omega
theorem sqs_neg (n:Int):sqs (-n)=-sqs n:=by
 unfold sqs
 have e1:-n*n=-(n*n):=Int.neg_mul n n
 have e2:- -n*-n=-(n*n):=by rw [Int.neg_neg,Int.mul_neg]
 have e3:-n*-n=n*n:=by rw [Int.neg_mul,Int.mul_neg,Int.neg_neg]
 split
 ·split
  ·omega
  ·omega
 ·split
  ·omega
  ·have:n=0:=by omega
   subst this;rfl
theorem sq_mul (k x:Int):k*x*(k*x)=k*k*(x*x):=by
 rw [Int.mul_assoc,Int.mul_assoc,Int.mul_left_comm x k x]
theorem sq_p (y:Int):54608393*y*(54608393*y)=2982076586042449*(y*y):=by
 rw [sq_mul];rfl
theorem sq_q (y:Int):38613965*y*(38613965*y)=1491038293021225*(y*y):=by
 rw [sq_mul];rfl
theorem sq_le (a b:Int)(h0:0<=a)(h:a<=b):a*a<=b*b:=Int.mul_le_mul h h h0 (by omega)
theorem pos_lt (x y:Int)(hx:0<=x)(hy:0<=y)(hq:y<38613965):x*x<2*(y*y)↔38613965*x<54608393*y:=by
 constructor
 ·intro h
  by_cases g:38613965*x<54608393*y
  ·exact g
  ·have g:54608393*y<=38613965*x:=by omega
   have k:=sq_le (54608393*y) (38613965*x) (by omega) g
   have e1:=sq_p y
   have e2:=sq_q x
   have k2:=sq_le y 38613964 hy (by omega)
   have e3:(38613964*38613964:Int)=1491038215793296:=by decide
   rw [e1,e2] at k
   rw [e3] at k2
   clear e1 e2 e3 g hx hy hq
   generalize x*x=X at *
   generalize y*y=Y at *
   omega
 ·intro g
  have hlt:38613965*x+1<=54608393*y:=by omega
  have k:=sq_le (38613965*x) (54608393*y) (by omega) (by omega)
  have e1:=sq_p y
  have e2:=sq_q x
  have hy1:1<=y:=by omega
  have k3:=sq_le 1 y (by omega) hy1
  rw [e1,e2] at k
  clear e1 e2 g hx hy hq hlt hy1
  generalize x*x=X at *
  generalize y*y=Y at *
  omega
theorem no_mid (x y:Int)(h:38613965*x=54608393*y)(h1:-38613965<y)(h2:y<38613965):x=0/\y=0:=by
 have e0:54608393*(38613965*x)=54608393*(54608393*y):=by rw [h]
 have e:y=38613965*(77227930*y - 54608393*x):=by
  rw [Int.mul_sub,<- Int.mul_assoc,<- Int.mul_assoc]
  rw [<- Int.mul_assoc,<- Int.mul_assoc] at e0
  have n1:(54608393*38613965:Int)=2108646576008245:=by decide
  have n2:(54608393*54608393:Int)=2982076586042449:=by decide
  have n3:(38613965*77227930:Int)=2982076586042450:=by decide
  have n4:(38613965*54608393:Int)=2108646576008245:=by decide
  rw [n1,n2] at e0
  rw [n3,n4,e0]
  clear e0 h n1 n2 n3 n4
  omega
 have hy:y=0:=by
  clear e0 h
  generalize 77227930*y - 54608393*x=k at e
  omega
 subst hy
 exact ⟨by clear e e0;omega,rfl⟩
theorem sq_zero (n:Int)(h:n*n=0):n=0:=by
 rcases Int.mul_eq_zero.mp h with h|h <;> exact h
theorem pos_gt (x y:Int)(hx:0<=x)(hy:0<=y)(hq:y<38613965):2*(y*y)<x*x↔54608393*y<38613965*x:=by
 have h:=pos_lt x y hx hy hq
 constructor
 ·intro g
  rcases Int.lt_trichotomy (38613965*x) (54608393*y) with k|k|k
  ·have:=h.mpr k;omega
  ·obtain ⟨rfl,rfl⟩:=no_mid x y k (Int.lt_of_lt_of_le (by decide) hy) hq
   clear k;omega
  ·exact k
 ·intro g
  rcases Int.lt_trichotomy (x*x) (2*(y*y)) with k|k|k
  ·have:=h.mp k;omega
  ·exfalso
   have k1:=sq_le (54608393*y+1) (38613965*x) (by omega) (by omega)
   have e2:=sq_q x
   have e1:(54608393*y+1)*(54608393*y+1)=2982076586042449*(y*y)+109216786*y+1:=by
    have:=sq_p y
    rw [Int.add_mul,Int.mul_add,this];omega
   rw [e1,e2] at k1
   have k2:y*y<=38613964*y:=Int.mul_le_mul_of_nonneg_right (by omega) hy
   clear e1 e2 g hx h
   generalize x*x=X at *
   generalize y*y=Y at *
   omega
  ·exact k
theorem any_lt (x y:Int)(h1:-38613965<y)(h2:y<38613965):sqs x<2*sqs y↔38613965*x<54608393*y:=by
 have ex:=mul_self_nonneg x
 have ey:=mul_self_nonneg y
 have nx:-x*x=-(x*x):=Int.neg_mul x x
 have ny:-y*y=-(y*y):=Int.neg_mul y y
 have mx:-x*-x=x*x:=by rw [Int.neg_mul,Int.mul_neg,Int.neg_neg]
 have my:-y*-y=y*y:=by rw [Int.neg_mul,Int.mul_neg,Int.neg_neg]
 unfold sqs
 by_cases hx:x<0 <;> by_cases hy:y<0
 ·rw [if_pos hx,if_pos hy]
  have:=pos_gt (-x) (-y) (by omega) (by omega) (by omega)
  rw [mx,my] at this
  constructor
  ·intro g;have:=this.mp (by omega);omega
  ·intro g;have:=this.mpr (by omega);omega
 ·rw [if_pos hx,if_neg hy]
  constructor
  ·intro _;omega
  ·intro _
   by_cases g:0<x*x
   ·omega
   ·have:=sq_zero x (by omega);omega
 ·rw [if_neg hx,if_pos hy]
  constructor
  ·intro _;omega
  ·intro _;omega
 ·rw [if_neg hx,if_neg hy]
  exact pos_lt x y (by omega) (by omega) h2
theorem any_gt (x y:Int)(h1:-38613965<y)(h2:y<38613965):2*sqs y<sqs x↔54608393*y<38613965*x:=by
 have h:=any_lt (-x) (-y) (by omega) (by omega)
 rw [sqs_neg,sqs_neg] at h
 constructor
 ·intro g;have:=h.mp (by omega);omega
 ·intro g;have:=h.mpr (by omega);omega
theorem cmpC_val (s d t u:Int)(h1:-38613965<u - d)(h2:u - d<38613965):cmpC s d t u=cmpI (val s d) (val t u):=by
 have a:=any_lt (s - t) (u - d) h1 h2
 have b:=any_gt (s - t) (u - d) h1 h2
 unfold cmpC cmpI val
 have a':(sqs (s - t)<2*sqs (u - d))=(38613965*s+54608393*d<38613965*t+54608393*u):=by
  rw [propext a];apply propext;constructor <;> intro _ <;> omega
 have b':(2*sqs (u - d)<sqs (s - t))=(38613965*t+54608393*u<38613965*s+54608393*d):=by
  rw [propext b];apply propext;constructor <;> intro _ <;> omega
 simp only [a',b']
theorem shift (a b c d:Int)(h:a+b=c+d):a - c=d - b:=by omega
theorem val_inj (s d t u:Int)(h1:-38613965<u - d)(h2:u - d<38613965)(h:val s d=val t u):s=t/\d=u:=by
 unfold val at h
 have:=no_mid (s - t) (u - d) (by rw [Int.mul_sub,Int.mul_sub];exact shift _ _ _ _ h) h1 h2
 clear h
 omega
theorem cmpI_neg (a b:Int):cmpI a b<0↔a<b:=by
 unfold cmpI
 split
 ·omega
 ·split <;> omega
theorem cmpI_zero (a b:Int):cmpI a b=0↔a=b:=by
 unfold cmpI
 split
 ·omega
 ·split <;> omega
end
section
structure Item where
 id:Int
 s:Int
 d:Int
def Item.v (x:Item):Int:=val x.s x.d
def bef (x y:Item):Prop:=x.v<y.v\/(x.v=y.v/\x.id<y.id)
def upN (i:Nat):Nat:=(i - 1) / 2
theorem bef_trans {x y z:Item}(h:¬ bef y x)(k:¬ bef z y):¬ bef z x:=by
 unfold bef at *;omega
theorem bef_asymm {x y:Item}(h:bef x y):¬ bef y x:=by
 unfold bef at *;omega
theorem bef_irrefl (x:Item):¬ bef x x:=by
 unfold bef;omega
def swI (it:Nat->Item) (i j:Nat):Nat->Item:=fun k=>if k=i then it j else if k=j then it i else it k
def updI (it:Nat->Item) (i:Nat) (x:Item):Nat->Item:=fun k=>if k=i then x else it k
theorem swI_i (it:Nat->Item)(i j:Nat):swI it i j i=it j:=if_pos rfl
theorem swI_j (it:Nat->Item)(i j:Nat):swI it i j j=it i:=by
 unfold swI;by_cases h:j=i
 ·subst h;rw [if_pos rfl]
 ·rw [if_neg h,if_pos rfl]
theorem swI_k (it:Nat->Item){i j k:Nat}(h:k≠i)(h2:k≠j):swI it i j k=it k:=by
 unfold swI;rw [if_neg h,if_neg h2]
theorem updI_i (it:Nat->Item)(i:Nat)(x:Item):updI it i x i=x:=if_pos rfl
theorem updI_k (it:Nat->Item){i k:Nat}(x:Item)(h:k≠i):updI it i x k=it k:=if_neg h
theorem swI_upd (it:Nat->Item)(i j:Nat):swI it i j=updI (updI it i (it j)) j (it i):=by
 funext k
 unfold swI updI
 by_cases h:k=j
 ·by_cases g:k=i
  ·rw [if_pos g,if_pos h];rw [<- h,<- g]
  ·rw [if_neg g,if_pos h,if_pos h]
 ·by_cases g:k=i
  ·rw [if_pos g,if_neg h,if_pos g]
  ·rw [if_neg g,if_neg h,if_neg h,if_neg g]
def Ord (it:Nat->Item) (n:Nat):Prop:=∀ j,0<j->j<n->¬ bef (it j) (it (upN j))
theorem Ord.root {it:Nat->Item}{n:Nat}(h:Ord it n):∀ j,j<n->¬ bef (it j) (it 0):=by
 intro j
 induction j using Nat.strongRecOn with
 |ind j ih =>
  intro hj
  by_cases h0:j=0
  ·subst h0;exact bef_irrefl _
  ·have hlt:upN j<j:=by unfold upN;omega
   exact bef_trans (ih (upN j) hlt (by omega)) (h j (by omega) hj)
structure Rising (it:Nat->Item) (n i:Nat):Prop where
 lt:i<n
 ord:∀ j,0<j->j<n->j≠i->¬ bef (it j) (it (upN j))
 over:∀ j,0<j->j<n->upN j=i->0<i->¬ bef (it j) (it (upN i))
theorem Rising.done {it:Nat->Item}{n i:Nat}(h:Rising it n i)(hd:i=0\/¬ bef (it i) (it (upN i))):Ord it n:=by
 intro j h0 hj
 by_cases e:j=i
 ·subst e
  rcases hd with hd|hd
  ·omega
  ·exact hd
 ·exact h.ord j h0 hj e
theorem Rising.step {it:Nat->Item}{n i:Nat}(h:Rising it n i)(h0:0<i)(hb:bef (it i) (it (upN i))):Rising (swI it i (upN i)) n (upN i):=by
 have hlt:upN i<i:=by unfold upN;omega
 have hn:=h.lt
 refine ⟨by omega,fun j j0 jn jne=>?_,fun j j0 jn ju u0=>?_⟩
 ·by_cases e:j=i
  ·subst e
   rw [swI_i,swI_j]
   exact bef_asymm hb
  ·rw [swI_k it e jne]
   by_cases e1:upN j=i
   ·rw [e1,swI_i]
    exact h.over j j0 jn e1 h0
   ·by_cases e2:upN j=upN i
    ·rw [e2,swI_j]
     have:=h.ord j j0 jn e
     rw [e2] at this
     exact bef_trans (bef_asymm hb) this
    ·rw [swI_k it e1 e2]
     exact h.ord j j0 jn e
 ·have hlt2:upN (upN i)<upN i:=by unfold upN at *;omega
  rw [swI_k it (k:=upN (upN i)) (by omega) (by omega)]
  have ha:=h.ord (upN i) u0 (by omega) (by omega)
  by_cases e:j=i
  ·subst e;rw [swI_i];exact ha
  ·have hj:j≠upN i:=by unfold upN at *;omega
   rw [swI_k it e hj]
   have:=h.ord j j0 jn e
   rw [ju] at this
   exact bef_trans ha this
theorem Rising.last {it:Nat->Item}{n:Nat}(h:Ord it n)(x:Item):Rising (updI it n x) (n+1) n:=by
 refine ⟨by omega,fun j j0 jn jne=>?_,fun j j0 jn ju _=>?_⟩
 ·rw [updI_k it x jne,updI_k it x (by unfold upN;omega)]
  exact h j j0 (by omega)
 ·unfold upN at ju;omega
theorem Rising.less {it:Nat->Item}{n i:Nat}(h:Ord it n)(hi:i<n)(x:Item)(hx:¬ bef (it i) x):Rising (updI it i x) n i:=by
 refine ⟨hi,fun j j0 jn jne=>?_,fun j j0 jn ju u0=>?_⟩
 ·rw [updI_k it x jne]
  by_cases e:upN j=i
  ·rw [e,updI_i]
   have:=h j j0 jn
   rw [e] at this
   exact bef_trans hx this
  ·rw [updI_k it x e];exact h j j0 jn
 ·have hlt:upN i<i:=by unfold upN;omega
  have hj:j≠i:=by unfold upN at ju;omega
  rw [updI_k it x hj,updI_k it x (k:=upN i) (by omega)]
  have a:=h j j0 jn
  rw [ju] at a
  exact bef_trans (h i u0 hi) a
structure Sinking (it:Nat->Item) (n i:Nat):Prop where
 ord:∀ j,0<j->j<n->upN j≠i->¬ bef (it j) (it (upN j))
 over:∀ j,0<j->j<n->upN j=i->0<i->¬ bef (it j) (it (upN i))
structure FirstOf (it:Nat->Item) (n i m:Nat):Prop where
 lt:m<n
 who:m=i\/m=2*i+1\/m=2*i+2
 self:¬ bef (it i) (it m)
 below:∀ j,0<j->j<n->upN j=i->¬ bef (it j) (it m)
theorem Sinking.done {it:Nat->Item}{n i:Nat}(h:Sinking it n i)(hd:FirstOf it n i i):Ord it n:=by
 intro j h0 hj
 by_cases e:upN j=i
 ·rw [e];exact hd.below j h0 hj e
 ·exact h.ord j h0 hj e
theorem Sinking.step {it:Nat->Item}{n i m:Nat}(h:Sinking it n i)(f:FirstOf it n i m)(hne:m≠i):Sinking (swI it i m) n m:=by
 have hm:upN m=i/\i<m/\0<m:=by have:=f.who;unfold upN;omega
 obtain ⟨hu,him,hm0⟩:=hm
 refine ⟨fun j j0 jn ju=>?_,fun j j0 jn ju _=>?_⟩
 ·by_cases e:j=m
  ·subst e
   rw [swI_j,hu,swI_i]
   exact f.self
  ·by_cases e1:j=i
   ·subst e1
    have hlt:upN j<j:=by unfold upN;omega
    rw [swI_i,swI_k it (k:=upN j) (by omega) (by omega)]
    exact h.over m hm0 f.lt hu j0
   ·rw [swI_k it e1 e]
    by_cases e2:upN j=i
    ·rw [e2,swI_i]
     exact f.below j j0 jn e2
    ·rw [swI_k it e2 ju]
     exact h.ord j j0 jn e2
 ·have hj:j≠m:=by unfold upN at ju;omega
  have hj2:j≠i:=by unfold upN at ju;omega
  rw [swI_k it hj2 hj,hu,swI_i]
  have:=h.ord j j0 jn (by omega)
  rw [ju] at this
  exact this
theorem Sinking.first {it:Nat->Item}{n:Nat}(h:Ord it (n+1))(x:Item):Sinking (updI it 0 x) n 0:=by
 refine ⟨fun j j0 jn ju=>?_,fun j j0 jn ju h0=>by omega⟩
 rw [updI_k it x (by omega),updI_k it x ju]
 exact h j j0 (by omega)
def Holds (it:Nat->Item) (n:Nat) (H:Int->Option (Int × Int)):Prop:=∀ a s d,H a=some (s,d)↔∃ i,i<n/\it i=⟨a,s,d⟩
theorem Holds.sw {it:Nat->Item}{n:Nat}{H:Int->Option (Int × Int)}(h:Holds it n H){i j:Nat}(hi:i<n)(hj:j<n):Holds (swI it i j) n H:=by
 intro a s d
 rw [h a s d]
 constructor
 ·rintro ⟨k,hk,e⟩
  by_cases e1:k=i
  ·subst e1;exact ⟨j,hj,by rw [swI_j];exact e⟩
  ·by_cases e2:k=j
   ·subst e2;exact ⟨i,hi,by rw [swI_i];exact e⟩
   ·exact ⟨k,hk,by rw [swI_k it e1 e2];exact e⟩
 ·rintro ⟨k,hk,e⟩
  by_cases e1:k=i
  ·subst e1;rw [swI_i] at e;exact ⟨j,hj,e⟩
  ·by_cases e2:k=j
   ·subst e2;rw [swI_j] at e;exact ⟨i,hi,e⟩
   ·rw [swI_k it e1 e2] at e;exact ⟨k,hk,e⟩
def Apart (it:Nat->Item) (n:Nat):Prop:=∀ i j,i<n->j<n->(it i).id=(it j).id->i=j
def putH (H:Int->Option (Int × Int)) (a s d:Int):Int->Option (Int × Int):=fun i=>if i=a then some (s,d) else H i
def delH (H:Int->Option (Int × Int)) (a:Int):Int->Option (Int × Int):=fun i=>if i=a then none else H i
theorem Holds.gone {it:Nat->Item}{n:Nat}{H:Int->Option (Int × Int)}(h:Holds it n H){a:Int}(ha:H a=none):∀ i,i<n->(it i).id≠a:=by
 intro i hi e
 have:=(h (it i).id (it i).s (it i).d).mpr ⟨i,hi,rfl⟩
 rw [e,ha] at this
 cases this
theorem Holds.last {it:Nat->Item}{n:Nat}{H:Int->Option (Int × Int)}(h:Holds it n H){a s d:Int}(ha:H a=none):Holds (updI it n ⟨a,s,d⟩) (n+1) (putH H a s d):=by
 intro a' s' d'
 unfold putH
 by_cases e:a'=a
 ·subst e
  rw [if_pos rfl]
  constructor
  ·intro q;cases q;exact ⟨n,by omega,updI_i it n _⟩
  ·rintro ⟨i,hi,q⟩
   by_cases e1:i=n
   ·subst e1;rw [updI_i] at q;cases q;rfl
   ·rw [updI_k it _ e1] at q
    exact absurd (by rw [q]) (h.gone ha i (by omega))
 ·rw [if_neg e,h a' s' d']
  constructor
  ·rintro ⟨i,hi,q⟩
   exact ⟨i,by omega,by rw [updI_k it _ (by omega)];exact q⟩
  ·rintro ⟨i,hi,q⟩
   by_cases e1:i=n
   ·subst e1;rw [updI_i] at q;cases q;exact absurd rfl e
   ·rw [updI_k it _ e1] at q;exact ⟨i,by omega,q⟩
theorem Holds.at {it:Nat->Item}{n:Nat}{H:Int->Option (Int × Int)}(h:Holds it n H){i:Nat}(hi:i<n):H (it i).id=some ((it i).s,(it i).d):=(h _ _ _).mpr ⟨i,hi,rfl⟩
theorem Holds.same {it:Nat->Item}{n i:Nat}{H:Int->Option (Int × Int)}(h:Holds it n H)(hp:Apart it n){a s d:Int}(hi:i<n)(ha:(it i).id=a):Holds (updI it i ⟨a,s,d⟩) n (putH H a s d):=by
 intro a' s' d'
 unfold putH
 by_cases e:a'=a
 ·subst e
  rw [if_pos rfl]
  constructor
  ·intro q;cases q;exact ⟨i,hi,updI_i it i _⟩
  ·rintro ⟨k,hk,q⟩
   by_cases e1:k=i
   ·subst e1;rw [updI_i] at q;cases q;rfl
   ·rw [updI_k it _ e1] at q
    exact absurd (hp k i hk hi (by rw [q,ha])) e1
 ·rw [if_neg e,h a' s' d']
  constructor
  ·rintro ⟨k,hk,q⟩
   have e1:k≠i:=fun e1=>e (by rw [<- ha,<- e1,q])
   exact ⟨k,hk,by rw [updI_k it _ e1];exact q⟩
  ·rintro ⟨k,hk,q⟩
   by_cases e1:k=i
   ·subst e1;rw [updI_i] at q;cases q;exact absurd rfl e
   ·rw [updI_k it _ e1] at q;exact ⟨k,hk,q⟩
theorem Holds.pop {it:Nat->Item}{n:Nat}{H:Int->Option (Int × Int)}(h:Holds it (n+1) H)(hp:Apart it (n+1)):Holds (updI it 0 (it n)) n (delH H (it 0).id):=by
 intro a s d
 unfold delH
 by_cases e:a=(it 0).id
 ·rw [if_pos e]
  constructor
  ·intro q;cases q
  ·rintro ⟨k,hk,q⟩
   by_cases e1:k=0
   ·subst e1;rw [updI_i] at q
    have:=hp n 0 (by omega) (by omega) (by rw [q,<- e])
    omega
   ·rw [updI_k it _ e1] at q
    have:=hp k 0 (by omega) (by omega) (by rw [q,<- e])
    omega
 ·rw [if_neg e,h a s d]
  constructor
  ·rintro ⟨k,hk,q⟩
   have k0:k≠0:=fun k0=>e (by rw [<- k0,q])
   by_cases e1:k=n
   ·exact ⟨0,by omega,by rw [updI_i,<- e1];exact q⟩
   ·exact ⟨k,by omega,by rw [updI_k it _ k0];exact q⟩
  ·rintro ⟨k,hk,q⟩
   by_cases e1:k=0
   ·subst e1;rw [updI_i] at q;exact ⟨n,by omega,q⟩
   ·rw [updI_k it _ e1] at q;exact ⟨k,by omega,q⟩
theorem Holds.least {it:Nat->Item}{n:Nat}{H:Int->Option (Int × Int)}(h:Holds it n H)(ho:Ord it n){a s d:Int}(ha:H a=some (s,d)):¬ bef ⟨a,s,d⟩ (it 0):=by
 obtain ⟨i,hi,e⟩:=(h a s d).mp ha
 rw [<- e]
 exact ho.root i hi
end
section
def stS (k:Nat):Int:=1 - (k % 2:Nat)
def stD (k:Nat):Int:=(k % 2:Nat)
theorem st_bd (k:Nat):(stS k=1/\stD k=0)\/(stS k=0/\stD k=1):=by
 unfold stS stD;omega
theorem val_add (s d t u:Int):val (s+t) (d+u)=val s d+val t u:=by unfold val;omega
theorem val_st (k:Nat):1<=val (stS k) (stD k)/\val (stS k) (stD k)<=54608393:=by
 have:=st_bd k;unfold val;omega
theorem val_small {s d:Int}(h1:0<=s)(h2:0<=d)(h:val s d<=13979748608):s<=400/\d<=256:=by
 unfold val at h;omega
variable {E : Int → Nat → Int → Prop} {o : Int}
def Wk (E:Int->Nat->Int->Prop) (o a s d:Int):Prop :=
 ∀ R:Int->Int->Int->Prop,R o 0 0->(∀ (a s d:Int) (k:Nat) (b:Int),R a s d->E a k b->R b (s+stS k) (d+stD k))->R a s d
theorem Wk.nil:Wk E o o 0 0:=fun _ h0 _=>h0
theorem Wk.step {a b s d:Int}{k:Nat}(h:Wk E o a s d)(e:E a k b):Wk E o b (s+stS k) (d+stD k):=fun R h0 hs=>hs _ _ _ _ _ (h R h0 hs) e
theorem Wk.ind {R:Int->Int->Int->Prop}{a s d:Int}(h:Wk E o a s d)(h0:R o 0 0)(hs:∀ (a s d:Int) (k:Nat) (b:Int),Wk E o a s d->R a s d->E a k b->R b (s+stS k) (d+stD k)):R a s d :=
 (h (fun a s d=>Wk E o a s d/\R a s d) ⟨Wk.nil,h0⟩ (fun a s d k b hr e=>⟨hr.1.step e,hs a s d k b hr.1 hr.2 e⟩)).2
theorem Wk.inv {a s d:Int}(h:Wk E o a s d):(a=o/\s=0/\d=0)\/∃ a' s' d' k,Wk E o a' s' d'/\E a' k a/\s=s'+stS k/\d=d'+stD k :=
 h.ind (R:=fun a s d=>(a=o/\s=0/\d=0)\/∃ a' s' d' k,Wk E o a' s' d'/\E a' k a/\s=s'+stS k/\d=d'+stD k) (Or.inl ⟨rfl,rfl,rfl⟩) (fun a s d k _ hw _ e=>Or.inr ⟨a,s,d,k,hw,e,rfl,rfl⟩)
theorem Wk.nonneg {a s d:Int}(h:Wk E o a s d):0<=s/\0<=d :=
 h.ind (R:=fun _ s d=>0<=s/\0<=d) ⟨Int.le_refl _,Int.le_refl _⟩ (fun a s d k b _ ih _=>by have:=st_bd k;omega)
theorem Wk.cons {p a s d:Int}{k:Nat}(e:E p k o)(h:Wk E o a s d):Wk E p a (s+stS k) (d+stD k) :=
 h.ind (R:=fun a s d=>Wk E p a (s+stS k) (d+stD k)) (Wk.nil.step e) (fun a' s' d' k' b' _ ih e'=>by
  have:=ih.step e'
  have e1:s'+stS k'+stS k=s'+stS k+stS k':=by omega
  have e2:d'+stD k'+stD k=d'+stD k+stD k':=by omega
  rw [e1,e2]
  exact this)
theorem Wk.back (hE:∀ a k b,E a k b->∃ k',E b k' a/\stS k'=stS k/\stD k'=stD k){a s d:Int}(h:Wk E o a s d):Wk E a o s d :=
 h.ind (R:=fun a s d=>Wk E a o s d) Wk.nil (fun a' s' d' k' b' _ ih e'=>by
  obtain ⟨k2,e2,h1,h2⟩:=hE _ _ _ e'
  have:=ih.cons e2
  rw [h1,h2] at this
  exact this)
structure Best (E:Int->Nat->Int->Prop) (o:Int) (F:Int->Option (Int × Int)):Prop where
 sound:∀ {a s d},F a=some (s,d)->Wk E o a s d
 least:∀ {a s d},Wk E o a s d->∃ s' d',F a=some (s',d')/\val s' d'<=val s d
 small:∀ {a s d},F a=some (s,d)->0<=s/\0<=d/\val s d<=13979748608
theorem Best.home {F:Int->Option (Int × Int)}(h:Best E o F):F o=some (0,0):=by
 obtain ⟨s,d,h1,h2⟩:=h.least Wk.nil
 obtain ⟨a1,a2,_⟩:=h.small h1
 have:s=0/\d=0:=by unfold val at h2;omega
 rw [h1,this.1,this.2]
theorem Best.edge {F:Int->Option (Int × Int)}(h:Best E o F){a b s d:Int}{k:Nat}(ha:F a=some (s,d))(e:E a k b):∃ s' d',F b=some (s',d')/\val s' d'<=val s d+val (stS k) (stD k):=by
 obtain ⟨s',d',h1,h2⟩:=h.least (Wk.step (h.sound ha) e)
 rw [val_add] at h2
 exact ⟨s',d',h1,h2⟩
def cnt (F:Int->Option (Int × Int)):Nat->Nat
 |0=>0
 |N+1=>cnt F N+if (F N).isSome then 1 else 0
theorem cnt_le (F:Int->Option (Int × Int))(N:Nat):cnt F N<=N:=by
 induction N with
 |zero=>exact Nat.le_refl _
 |succ N ih=>unfold cnt;split <;> omega
theorem cnt_same (F:Int->Option (Int × Int))(a s d:Int)(N:Nat)(h:(N:Int)<=a):cnt (putH F a s d) N=cnt F N:=by
 induction N with
 |zero=>rfl
 |succ N ih =>
  unfold cnt
  rw [ih (by omega)]
  have:putH F a s d N=F N:=if_neg (by omega)
  rw [this]
theorem cnt_put (F:Int->Option (Int × Int))(a s d:Int)(N:Nat)(h0:0<=a)(h:a<N)(hn:F a=none):cnt (putH F a s d) N=cnt F N+1:=by
 induction N with
 |zero=>omega
 |succ N ih =>
  unfold cnt
  by_cases e:a=N
  ·rw [cnt_same F a s d N (by omega)]
   have:putH F a s d N=some (s,d):=if_pos e.symm
   rw [this,<- e,hn]
   simp
  ·rw [ih (by omega)]
   have:putH F a s d N=F N:=if_neg (fun q=>e q.symm)
   rw [this]
   omega
theorem cnt_none (N:Nat):cnt (fun _=>none) N=0:=by
 induction N with
 |zero=>rfl
 |succ N ih=>unfold cnt;rw [ih];rfl
def Pushed (H:Int->Option (Int × Int)) (b s d:Int) (H':Int->Option (Int × Int)):Prop :=
 (H'=putH H b s d/\∀ {t u},H b=some (t,u)->val s d<val t u)\/(H'=H/\∃ t u,H b=some (t,u)/\val t u<=val s d)
end
section
open Go.RowKit
def okC (s d:Int):Prop:=0<=s/\s<=8388608/\0<=d/\d<=8388608
set_option maxHeartbeats 400000 in
theorem add_any (s d t u:Int)(w:World)(h:okC s d)(k:okC t u) :
  Calls Tryz.prog 177 #[.agg #[.int .i64 s,.int .i64 d],.agg #[.int .i64 t,.int .i64 u]] w fun e w'=>e=.returned (.agg #[.int .i64 (s+t),.int .i64 (d+u)])/\Below w.heap.size w w':=by
 obtain ⟨h1,h2,h3,h4⟩:=h
 obtain ⟨k1,k2,k3,k4⟩:=k
 go_enter Tryz.func177,Tryz.ntmps177
 go_wp2
 exact bodyPost_ret (v:=.agg #[.int .i64 (s+t),.int .i64 (d+u)]) (by simp [results,Tryz.results177,go_sem]) rfl ⟨rfl,((((Below.refl _ _).alloc (Nat.le_refl _) _).alloc (by simp) _).alloc (by simp;omega) _)⟩
theorem cmpC_val' (s d t u:Int)(h:okC s d)(k:okC t u):cmpC s d t u=cmpI (val s d) (val t u):=by
 obtain ⟨h1,h2,h3,h4⟩:=h
 obtain ⟨k1,k2,k3,k4⟩:=k
 exact cmpC_val s d t u (by omega) (by omega)
def inC (s d:Int):Prop:=0<=s/\s<=1048576/\0<=d/\d<=1048576
def ltB (s d t u:Int):Bool:=decide (cmpC s d t u<0)
end
section
open Go.RowKit
def dst (a b:Int):Int:=if a<b then b - a else a - b
def les (a b:Int):Int:=if a<b then a else b
def nearB (a:Int):Prop:=-1048576<=a/\a<=1048576
theorem dst_bd (a b:Int)(h:nearB a)(k:nearB b):0<=dst a b/\dst a b<=2097152:=by
 unfold nearB at h k;unfold dst;split <;> omega
set_option maxHeartbeats 400000 in
theorem dst_any (a b:Int)(w:World)(h:nearB a)(k:nearB b) :
  Calls Tryz.prog 126 #[.int .i64 a,.int .i64 b] w fun e w'=>e=.returned (.int .i64 (dst a b))/\w'=w:=by
 obtain ⟨h1,h2⟩:=h
 obtain ⟨h3,h4⟩:=k
 by_cases h:a<b
 ·have e:dst a b=b - a:=by unfold dst;rw [if_pos h]
  rw [e];clear e
  go_enter Tryz.func126,Tryz.ntmps126
  go_wp2
  go_ret
  exact ⟨rfl,rfl⟩
 ·have e:dst a b=a - b:=by unfold dst;rw [if_neg h]
  rw [e];clear e
  by_cases g:b<a
  ·clear h
   go_enter Tryz.func126,Tryz.ntmps126
   go_wp2
   go_ret
   exact ⟨rfl,rfl⟩
  ·have:a=b:=by omega
   subst this
   rw [Int.sub_self]
   go_enter Tryz.func126,Tryz.ntmps126
   go_wp2
   go_ret
   exact ⟨rfl,rfl⟩
theorem dst_v {a b r:Int}(hr:dst a b=r)(w:World)(h:nearB a)(k:nearB b) :
  Calls Tryz.prog 126 #[.int .i64 a,.int .i64 b] w fun e w'=>e=.returned (.int .i64 r)/\w'=w:=hr ▸ dst_any a b w h k
set_option maxHeartbeats 400000 in
theorem oct_any (x y t u:Int)(w:World)(hx:nearB x)(hy:nearB y)(ht:nearB t)(hu:nearB u) :
  Calls Tryz.prog 86 #[.int .i64 x,.int .i64 y,.int .i64 t,.int .i64 u] w fun e w'=>e=.returned (.agg #[.int .i64 (dst (dst x t) (dst y u)),.int .i64 (les (dst x t) (dst y u))])/\Below w.heap.size w w':=by
 have b1:=dst_bd x t hx ht
 have b2:=dst_bd y u hy hu
 by_cases h:dst x t<dst y u
 ·have e1:dst (dst x t) (dst y u)=dst y u - dst x t:=by unfold dst at *;rw [if_pos h]
  have e2:les (dst x t) (dst y u)=dst x t:=by unfold les;rw [if_pos h]
  rw [e1,e2];clear e1 e2
  generalize hA:dst x t=A at *
  generalize hB:dst y u=B at *
  go_enter Tryz.func86,Tryz.ntmps86
  go_wp2_with (go_at_call 126;refine (dst_any _ _ _ ?_ ?_).mono ?_;assumption;assumption;rintro e w' ⟨rfl,rfl⟩)
  exact bodyPost_ret (v:=.agg #[.int .i64 (B - A),.int .i64 A]) (by simp [results,Tryz.results86,go_sem]) rfl ⟨rfl,(Below.refl _ _).alloc (Nat.le_refl _) _⟩
 ·have e1:dst (dst x t) (dst y u)=dst x t - dst y u:=by unfold dst at *;rw [if_neg h]
  have e2:les (dst x t) (dst y u)=dst y u:=by unfold les;rw [if_neg h]
  rw [e1,e2];clear e1 e2
  generalize hA:dst x t=A at *
  generalize hB:dst y u=B at *
  by_cases g:B<A
  ·clear h
   go_enter Tryz.func86,Tryz.ntmps86
   go_wp2_with (go_at_call 126;refine (dst_v (by assumption) _ (by assumption) (by assumption)).mono ?_;rintro e w' ⟨rfl,rfl⟩)
   exact bodyPost_ret (v:=.agg #[.int .i64 (A - B),.int .i64 B]) (by simp [results,Tryz.results86,go_sem]) rfl ⟨rfl,(Below.refl _ _).alloc (Nat.le_refl _) _⟩
  ·have:A=B:=by omega
   subst this
   rw [Int.sub_self]
   go_enter Tryz.func86,Tryz.ntmps86
   go_wp2_with (go_at_call 126;refine (dst_v (by assumption) _ (by assumption) (by assumption)).mono ?_;rintro e w' ⟨rfl,rfl⟩)
   exact bodyPost_ret (v:=.agg #[.int .i64 0,.int .i64 A]) (by simp [results,Tryz.results86,go_sem]) rfl ⟨rfl,(Below.refl _ _).alloc (Nat.le_refl _) _⟩
end
end Go.Proofs.YtmaefimaeelkbaaGreatDoor
