/- -/
import Derived.Test.YtmaefimaeelkbaaGreatDoorP27
import Derived.Test.YtmaefimaeelkbaaGreatDoorP29
namespace Go.Proofs.YtmaefimaeelkbaaGreatDoor
open Go.RowKit Go.Lib
theorem upd_same {bl:Nat->Bool}{c:Nat}{v:Bool}(h:bl c=v):upd bl c v=bl:=by
 funext n
 unfold upd
 split
 ·next e=>rw [e,h]
 ·rfl
theorem touch_keep {b:Nat}{w w':World}(h:Touch b w w'):Keep (fun k=>k=b) w w':=⟨h.os,h.tape,h.output,by rw [h.size];exact Nat.le_refl _,fun i _ hn=>h.other i hn⟩
theorem RefAt.keepO {F:Nat->Prop}{w w':World}{b:Nat}{W H V:Int}{bl:Nat->Bool}(g:RefAt w b W H V bl)(K:Keep F w w')(h:¬ F b):RefAt w' b W H V bl :=
 ⟨g.w1,g.w2,g.h1,g.h2,K.cellOf g.c0 h,K.cellOf g.c1 h,K.cellOf g.c2 h,fun i hi=>K.cellOf (g.cs i hi) h⟩
theorem refAt_setV {w:World}{b:Nat}{W H V:Int}{bl:Nat->Bool}(g:RefAt w b W H V bl)(c:Nat)(hc:c<256)(v:Bool)(V':Int):RefAt ((w.setCell ⟨b,2+c,none⟩ (.bool v)).setCell ⟨b,258,none⟩ (.int .i64 V')) b W H V' (upd bl c v):=by
 have hne:(⟨b,2+c,none⟩:Addr)≠⟨b,258,none⟩:=addr_ne (by omega)
 refine ⟨g.w1,g.w2,g.h1,g.h2,?_,?_,?_,fun i hi=>?_⟩
 ·rw [World.cell?_setCell_other _ _ _ _ (addr_ne (by omega)),World.cell?_setCell_other _ _ _ _ (addr_ne (by omega))];exact g.c0
 ·rw [World.cell?_setCell_other _ _ _ _ (addr_ne (by omega)),World.cell?_setCell_other _ _ _ _ (addr_ne (by omega))];exact g.c1
 ·exact World.cell?_setCell_same _ _ _ (u:=.int .i64 V) (by rw [World.cell?_setCell_other _ _ _ _ hne];exact g.c2)
 ·rw [World.cell?_setCell_other _ _ _ _ (addr_ne (by omega))]
  unfold upd
  by_cases e:i=c
  ·rw [if_pos e,e]
   exact World.cell?_setCell_same _ _ _ (g.cs c hc)
  ·rw [if_neg e,World.cell?_setCell_other _ _ _ _ (addr_ne (by omega))];exact g.cs i hi
set_option maxHeartbeats 400000 in
theorem rset_newV {b:Nat}{W H V:Int}{bl:Nat->Bool}(c:Nat)(v:Bool)(w:World)(g:RefAt w b W H V bl)(f:Free w b)(hr:inB W H c=true)(hv:bl c=!v) :
  Calls Tryz.prog 29 #[.pointer (some ⟨b,0,none⟩),.int .i64 c,.bool v] w fun e w'=>e=.returned (.tuple #[.bool true,.int .i64 0])/\Touch b w w'/\(∃ V',RefAt w' b W H V' (upd bl c v))/\Free w' b:=by
 have hc:0<=(c:Int)/\(c:Int)<W*H:=of_decide_eq_true hr
 obtain ⟨k1,k2⟩:=wh_bd g.w1 g.w2 g.h1 g.h2
 obtain ⟨q1,q2⟩:=hc
 have q3:(c:Int)<256:=by omega
 have h:=g.cs c (by omega)
 have c2:=g.c2
 have f1:=f 258
 have f2:=f (2+c)
 rw [hv] at h
 have hx:((!v) == v)=false:=by cases v <;> rfl
 have hG:=fun m V'=>refAt_setV (g.drewN m) c (by omega) v V'
 have hne:(⟨b,2+c,none⟩:Addr)≠⟨b,258,none⟩:=addr_ne (by omega)
 have c3:(w.setCell ⟨b,2+c,none⟩ (.bool v)).cell? ⟨b,258,none⟩=some (.int .i64 V):=by rw [World.cell?_setCell_other _ _ _ _ hne];exact c2
 go_enter Tryz.func29,Tryz.ntmps29
 go_wp2_with (go_at_call 19;refine (ris_in _ _ g hr).mono ?_;rintro e w' ⟨rfl,m,rfl⟩)
 go_ret2
 exact ⟨rfl,(((Touch.refl b w).drewN m).setCell _ _).setCell _ _,⟨_,hG m _⟩,fun o=>by simpa using f o⟩
theorem rset_any {b:Nat}{W H V:Int}{bl:Nat->Bool}(c:Nat)(v:Bool)(w:World)(g:RefAt w b W H V bl)(f:Free w b)(hr:inB W H c=true) :
  Calls Tryz.prog 29 #[.pointer (some ⟨b,0,none⟩),.int .i64 c,.bool v] w fun e w'=>e=.returned (.tuple #[.bool (!decide (bl c=v)),.int .i64 0])/\Keep (fun k=>k=b) w w'/\(∃ V',RefAt w' b W H V' (upd bl c v))/\Free w' b:=by
 by_cases hv:bl c=v
 ·refine (rset_same c v w g hr hv).mono ?_
  rintro e w' ⟨rfl,m,rfl⟩
  refine ⟨by rw [decide_eq_true hv];rfl,Keep.of_below (below_drewN (Below.refl _ _) m),⟨V,?_⟩,fun o=>f o⟩
  rw [upd_same hv]
  exact g.drewN m
 ·have hv':bl c=!v:=by cases hb:bl c <;> cases v <;> simp_all
  refine (rset_newV c v w g f hr hv').mono ?_
  rintro e w' ⟨rfl,h1,h2,h3⟩
  exact ⟨by rw [decide_eq_false hv];rfl,touch_keep h1,h2,h3⟩
theorem fldN (a0 a1 a2 a3 a4 a5 a6:Value)(w:World):(Instr.field 64 (.agg #[a0,a1,a2,a3,a4,a5,a6]) 2).run Tryz.prog w=.ok a2 w:=by kernel_rfl
def frV (W H:Nat) (bl:Nat->Bool) (X Y:Nat):Bool:=if 1<=X/\X<=W/\1<=Y/\Y<=H then bl ((Y - 1)*W+(X - 1)) else true
def FrP (W H:Nat) (bl:Nat->Bool) (y x:Nat) (blo:Nat->Bool):Prop:=∀ X Y:Nat,X<W+2->Y<H+2->(Y<y\/(Y=y/\X<x))->blo (Y*(W+2)+X)=frV W H bl X Y
theorem FrP.step {W H y x:Nat}{bl blo:Nat->Bool}(h:FrP W H bl y x blo)(hx:x<W+2):FrP W H bl y (x+1) (upd blo (y*(W+2)+x) (frV W H bl x y)):=fun X Y hX hY hlt=>by
 unfold upd
 by_cases e:Y*(W+2)+X=y*(W+2)+x
 ·rw [if_pos e]
  have e1:Y=y:=by
   have h1:(Y*(W+2)+X) / (W+2)=Y:=by rw [Nat.mul_comm,Nat.mul_add_div (by omega),Nat.div_eq_of_lt hX];rfl
   have h2:(y*(W+2)+x) / (W+2)=y:=by rw [Nat.mul_comm,Nat.mul_add_div (by omega),Nat.div_eq_of_lt hx];rfl
   rw [<- h1,<- h2,e]
  subst e1
  have e2:X=x:=by omega
  rw [e2]
 ·rw [if_neg e]
  refine h X Y hX hY ?_
  rcases hlt with h1|⟨h1,h2⟩
  ·exact Or.inl h1
  ·refine Or.inr ⟨h1,?_⟩
   by_cases e3:X=x
   ·exact absurd (by rw [h1,e3]) e
   ·omega
theorem FrP.row {W H y:Nat}{bl blo:Nat->Bool}(h:FrP W H bl y (W+2) blo):FrP W H bl (y+1) 0 blo:=fun X Y hX hY hlt=>by
 refine h X Y hX hY ?_
 rcases hlt with h1|⟨_,h2⟩
 ·by_cases e:Y=y
  ·exact Or.inr ⟨e,hX⟩
  ·exact Or.inl (by omega)
 ·exact absurd h2 (Nat.not_lt_zero X)
theorem frame_of {W H:Nat}{bl blo:Nat->Bool}(w1:1<=W)(h:FrP W H bl (H+2) 0 blo):GIso 0 1 1 (W:Int) (H:Int) (nrm W H bl) ((W:Int)+2) ((H:Int)+2) (nrm (W+2) (H+2) blo):=by
 refine GIso.frame (by omega) (fun x y x1 x2 y1 y2=>?_)
 obtain ⟨X,rfl⟩:∃ X:Nat,x=(X:Int):=⟨x.toNat,by omega⟩
 obtain ⟨Y,rfl⟩:∃ Y:Nat,y=(Y:Int):=⟨y.toNat,by omega⟩
 have hX:X<W+2:=by omega
 have hY:Y<H+2:=by omega
 have e1:((Y:Int)*((W:Int)+2)+(X:Int)).toNat=Y*(W+2)+X:=by
  have:(Y:Int)*((W:Int)+2)+(X:Int)=((Y*(W+2)+X:Nat):Int):=by rw [Int.natCast_add,Int.natCast_mul,Int.natCast_add];rfl
  rw [this,Int.toNat_natCast]
 have hlt:Y*(W+2)+X<(W+2)*(H+2):=by
  have h1:(Y+1)*(W+2)<=(H+2)*(W+2):=Nat.mul_le_mul_right _ (by omega)
  rw [Nat.add_mul,Nat.one_mul,Nat.mul_comm (H+2)] at h1
  omega
 rw [e1,nrm_eqv (W:=W+2) (H:=H+2) blo _ (by rw [<- Int.natCast_mul];exact Int.ofNat_lt.2 hlt),h X Y hX hY (Or.inl hY)]
 unfold frV
 by_cases hc:1<=X/\X<=W/\1<=Y/\Y<=H
 ·rw [if_pos hc,if_pos (by omega)]
  have e2:(((Y:Int) - 1)*(W:Int)+((X:Int) - 1)).toNat=(Y - 1)*W+(X - 1):=by
   have:((Y:Int) - 1)*(W:Int)+((X:Int) - 1)=(((Y - 1)*W+(X - 1):Nat):Int):=by rw [Int.natCast_add,Int.natCast_mul,Int.natCast_sub hc.2.2.1,Int.natCast_sub hc.1];rfl
   rw [this,Int.toNat_natCast]
  have hl2:(Y - 1)*W+(X - 1)<W*H:=by
   have h1:(Y - 1+1)*W<=H*W:=Nat.mul_le_mul_right _ (by omega)
   rw [Nat.add_mul,Nat.one_mul,Nat.mul_comm H] at h1
   omega
  rw [e2,nrm_eqv (W:=W) (H:=H) bl _ (by rw [<- Int.natCast_mul];exact Int.ofNat_lt.2 hl2)]
 ·rw [if_neg hc,if_neg (by omega)]
end Go.Proofs.YtmaefimaeelkbaaGreatDoor
