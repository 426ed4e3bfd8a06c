/- -/
import Derived.Test.YtmaefimaeelkbaaGreatDoorP2
import Derived.Test.YtmaefimaeelkbaaGreatDoorP1
import Derived.Test.YtmaefimaeelkbaaGreatDoorP29
import Derived.Test.YtmaefimaeelkbaaGreatDoorP27
namespace Go.Proofs.YtmaefimaeelkbaaGreatDoor
open Go.RowKit Go.Lib
def tuM (turn:Int):Nat:=(if (bits BinOp.and IntKind.i64 turn 1 == 1)=true then 1 else 0)+(if (bits BinOp.and IntKind.i64 turn 2 == 2)=true then 2 else 0)+(if (bits BinOp.and IntKind.i64 turn 4 == 4)=true then 4 else 0)
theorem tuM_lt (turn:Int):tuM turn<8:=by unfold tuM;(repeat' split) <;> omega
def mvI (m:Nat) (W H:Int) (c:Int):Int:=ph m (tuC m W H) (tuF m W H) W (tuW m W H) c
theorem tu_any {m:Nat}{W H:Int}(m8:m<8)(w1:1<=W)(h1:1<=H):GIso m (tuC m W H) (tuF m W H) W H (fun _=>true) (tuW m W H) (tuH m W H) (fun _=>true):=GIso.turn m8 w1 h1 (fun _ _ _ _ _ _=>rfl)
theorem mvI_in {m:Nat}{W H c:Int}(m8:m<8)(w1:1<=W)(h1:1<=H)(hc:inB W H c=true):inB (tuW m W H) (tuH m W H) (mvI m W H c)=true:=((tu_any m8 w1 h1).parts hc).2.2
theorem mvI_inj {m:Nat}{W H c d:Int}(m8:m<8)(w1:1<=W)(h1:1<=H)(hc:inB W H c=true)(hd:inB W H d=true)(h:mvI m W H c=mvI m W H d):c=d:=(tu_any m8 w1 h1).inj hc hd h
def TuP (m:Nat) (W H:Int) (bl:Nat->Bool) (k:Nat) (blo:Nat->Bool):Prop:=∀ c:Nat,c<k->blo (mvI m W H (c:Int)).toNat=bl c
theorem TuP.step {m:Nat}{W H:Int}{bl blo:Nat->Bool}{k:Nat}(h:TuP m W H bl k blo)(m8:m<8)(w1:1<=W)(h1:1<=H)(hk:inB W H (k:Int)=true):TuP m W H bl (k+1) (upd blo (mvI m W H (k:Int)).toNat (bl k)):=fun c hc=>by
 have q:0<=(k:Int)/\(k:Int)<W*H:=of_decide_eq_true hk
 have hci:inB W H (c:Int)=true:=decide_eq_true ⟨by omega,by omega⟩
 unfold upd
 by_cases e:(mvI m W H (c:Int)).toNat=(mvI m W H (k:Int)).toNat
 ·rw [if_pos e]
  have q1:0<=mvI m W H (c:Int)/\_:=of_decide_eq_true (mvI_in m8 w1 h1 hci)
  have q2:0<=mvI m W H (k:Int)/\_:=of_decide_eq_true (mvI_in m8 w1 h1 hk)
  have e2:=mvI_inj m8 w1 h1 hci hk (by omega)
  rw [Int.ofNat_inj.1 e2]
 ·rw [if_neg e]
  refine h c ?_
  by_cases e2:c=k
  ·exact absurd (by rw [e2]) e
  ·omega
theorem turn_of {m W H W' H':Nat}{bl blo:Nat->Bool}(m8:m<8)(w1:1<=W)(h1:1<=H)(eW:(W':Int)=tuW m W H)(eH:(H':Int)=tuH m W H)(h:TuP m W H bl (W*H) blo) :
  GIso m (tuC m W H) (tuF m W H) (W:Int) (H:Int) (nrm W H bl) (W':Int) (H':Int) (nrm W' H' blo):=by
 have w1':(1:Int)<=(W:Int):=by omega
 have h1':(1:Int)<=(H:Int):=by omega
 rw [eW,eH]
 refine GIso.turn m8 w1' h1' (fun x y x1 x2 y1 y2=>?_)
 obtain ⟨e1,e2,e3⟩:=of_parts (at_yes x1 x2 y1 y2)
 have q:0<=y*(W:Int)+x/\y*(W:Int)+x<(W:Int)*(H:Int):=of_decide_eq_true e3
 obtain ⟨c,hc⟩:∃ c:Nat,y*(W:Int)+x=(c:Int):=⟨(y*(W:Int)+x).toNat,by omega⟩
 have hcl:c<W*H:=by
  have:(c:Int)<((W*H:Nat):Int):=by rw [Int.natCast_mul];omega
  omega
 have hm:=h c hcl
 have em:mvI m W H (c:Int)=afY m (tuF m W H) x y*tuW m W H+afX m (tuC m W H) x y:=by
  unfold mvI ph
  rw [<- hc,e1,e2]
 have hin:=mvI_in m8 w1' h1' (by rw [<- hc];exact e3:inB (W:Int) (H:Int) (c:Int)=true)
 have q2:0<=mvI m W H (c:Int)/\mvI m W H (c:Int)<tuW m W H*tuH m W H:=of_decide_eq_true hin
 rw [<- em,nrm_eqv (W:=W') (H:=H') blo _ (by rw [eW,eH];omega),hm,hc,Int.toNat_natCast,nrm_eqv (W:=W) (H:=H) bl _ (by omega)]
theorem tu_side (turn:Int)(W H:Nat):∃ W' H':Nat,(W':Int)=tuW (tuM turn) W H/\(H':Int)=tuH (tuM turn) W H/\Hid (((bits BinOp.and IntKind.i64 turn 4 == 4)=true->W'=H/\H'=W)/\((bits BinOp.and IntKind.i64 turn 4 == 4)=false->W'=W/\H'=H)):=by
 unfold tuW tuH tuM
 cases b4:(bits BinOp.and IntKind.i64 turn 4 == 4) with
 |true =>
  refine ⟨H,W,?_,?_,fun _=>⟨rfl,rfl⟩,fun h=>by cases h⟩
  ·rw [if_neg (by simp only [if_true];omega)]
  ·rw [if_neg (by simp only [if_true];omega)]
 |false =>
  have hlt:(if (bits BinOp.and IntKind.i64 turn 1 == 1)=true then 1 else 0)+(if (bits BinOp.and IntKind.i64 turn 2 == 2)=true then 2 else 0)+(if (false:Bool)=true then 4 else 0)<4:=by
   simp only [Bool.false_eq_true,if_false]
   (repeat' split) <;> omega
  refine ⟨W,H,?_,?_,fun h=>(by cases h),fun _=>⟨rfl,rfl⟩⟩
  ·rw [if_pos hlt]
  ·rw [if_pos hlt]
set_option maxHeartbeats 800000 in
theorem move_any {W H V:Int}{bl:Nat->Bool}(c:Int){p q mb:Nat}(turn:Int)(w:World)(hp:w.cell? ⟨p,0,none⟩=some (.pointer (some ⟨mb,0,none⟩)))(hq:w.cell? ⟨q,0,none⟩=some (.int .i64 turn))(R:RefAt w mb W H V bl)(hc:inB W H c=true) :
  Calls Tryz.prog 27 #[.int .i64 c,.pointer (some ⟨p,0,none⟩),.pointer (some ⟨q,0,none⟩)] w fun e w'=>e=.returned (.int .i64 (mvI (tuM turn) W H c))/\w'=w:=by
 have c0:=R.c0
 have c1:=R.c1
 have w1:=R.w1
 have w2:=R.w2
 have h1:=R.h1
 have h2:=R.h2
 have hne:W≠0:=by omega
 have hd:0<=c/\c<W*H:=of_decide_eq_true hc
 have t1:Int.tmod c W=c % W:=Int.tmod_eq_emod_of_nonneg hd.1
 have t2:Int.tdiv c W=c / W:=Int.tdiv_eq_ediv_of_nonneg hd.1
 obtain ⟨x1,x2,y1,y2⟩:=place_bd w1 hc
 unfold tuM mvI ph
 clear R
 generalize c % W=x at *
 generalize c / W=y at *
 have key:Hid (∀ X Y:Int,0<=X->X<W->0<=Y->Y<H->IntKind.i64.wrap X=X/\IntKind.i64.wrap Y=Y/\IntKind.i64.wrap (Y*W)=Y*W/\IntKind.i64.wrap (Y*W+X)=Y*W+X/\IntKind.i64.wrap (X*H)=X*H/\IntKind.i64.wrap (X*H+Y)=X*H+Y):=by
  intro X Y X1 X2 Y1 Y2
  have p1:Y*W<=16*16:=Int.mul_le_mul (by omega) (by omega) (by omega) (by omega)
  have p2:X*H<=16*16:=Int.mul_le_mul (by omega) (by omega) (by omega) (by omega)
  have p3:0<=Y*W:=Int.mul_nonneg (by omega) (by omega)
  have p4:0<=X*H:=Int.mul_nonneg (by omega) (by omega)
  exact ⟨wrap_small (by omega) (by omega),wrap_small (by omega) (by omega),wrap_small (by omega) (by omega),wrap_small (by omega) (by omega),wrap_small (by omega) (by omega),wrap_small (by omega) (by omega)⟩
 have k1:IntKind.i64.wrap (W - 1)=W - 1:=wrap_small (by omega) (by omega)
 have k2:IntKind.i64.wrap (H - 1)=H - 1:=wrap_small (by omega) (by omega)
 have k3:=(key.out x y x1 x2 y1 y2).2.1
 have eh:Hid (-y+(H - 1)=H - 1 - y):=by show _=_;omega
 have ew:Hid (-x+(W - 1)=W - 1 - x):=by show _=_;omega
 cases b1:(bits BinOp.and IntKind.i64 turn 1 == 1) <;> cases b2:(bits BinOp.and IntKind.i64 turn 2 == 2) <;> cases b4:(bits BinOp.and IntKind.i64 turn 4 == 4)
 ·obtain ⟨j1,j2,j3,j4,j5,j6⟩:=key.out x y (by omega) (by omega) (by omega) (by omega)
  simp only [afX,afY,tuC,tuF,tuW,if_false,Bool.false_eq_true]
  go_enter Tryz.func27,Tryz.ntmps27
  go_wp2
  go_ret
  exact ⟨by simp,rfl⟩
 ·obtain ⟨j1,j2,j3,j4,j5,j6⟩:=key.out x y (by omega) (by omega) (by omega) (by omega)
  simp only [afX,afY,tuC,tuF,tuW,if_true,if_false,Bool.false_eq_true]
  go_enter Tryz.func27,Tryz.ntmps27
  go_wp2
  go_ret
  exact ⟨by simp,rfl⟩
 ·obtain ⟨j1,j2,j3,j4,j5,j6⟩:=key.out x (H - 1 - y) (by omega) (by omega) (by omega) (by omega)
  simp only [afX,afY,tuC,tuF,tuW,if_true,if_false,Bool.false_eq_true]
  go_enter Tryz.func27,Tryz.ntmps27
  go_wp2
  go_ret
  exact ⟨by simp [eh.out],rfl⟩
 ·obtain ⟨j1,j2,j3,j4,j5,j6⟩:=key.out x (H - 1 - y) (by omega) (by omega) (by omega) (by omega)
  simp only [afX,afY,tuC,tuF,tuW,if_true,if_false,Bool.false_eq_true]
  go_enter Tryz.func27,Tryz.ntmps27
  go_wp2
  go_ret
  exact ⟨by simp [eh.out],rfl⟩
 ·obtain ⟨j1,j2,j3,j4,j5,j6⟩:=key.out (W - 1 - x) y (by omega) (by omega) (by omega) (by omega)
  simp only [afX,afY,tuC,tuF,tuW,if_true,if_false,Bool.false_eq_true]
  go_enter Tryz.func27,Tryz.ntmps27
  go_wp2
  go_ret
  exact ⟨by simp [ew.out],rfl⟩
 ·obtain ⟨j1,j2,j3,j4,j5,j6⟩:=key.out (W - 1 - x) y (by omega) (by omega) (by omega) (by omega)
  simp only [afX,afY,tuC,tuF,tuW,if_true,if_false,Bool.false_eq_true]
  go_enter Tryz.func27,Tryz.ntmps27
  go_wp2
  go_ret
  exact ⟨by simp [ew.out],rfl⟩
 ·obtain ⟨j1,j2,j3,j4,j5,j6⟩:=key.out (W - 1 - x) (H - 1 - y) (by omega) (by omega) (by omega) (by omega)
  simp only [afX,afY,tuC,tuF,tuW,if_true,if_false,Bool.false_eq_true]
  go_enter Tryz.func27,Tryz.ntmps27
  go_wp2
  go_ret
  exact ⟨by simp [eh.out,ew.out],rfl⟩
 ·obtain ⟨j1,j2,j3,j4,j5,j6⟩:=key.out (W - 1 - x) (H - 1 - y) (by omega) (by omega) (by omega) (by omega)
  simp only [afX,afY,tuC,tuF,tuW,if_true]
  go_enter Tryz.func27,Tryz.ntmps27
  go_wp2
  go_ret
  exact ⟨by simp [eh.out,ew.out],rfl⟩
end Go.Proofs.YtmaefimaeelkbaaGreatDoor
