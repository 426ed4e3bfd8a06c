/- Texts laid together. -/
import Derived.Test.YtmaefimaeelkbaaGreatDoorP1
import Derived.Deep.LoopGhost
import Derived.Deep.Light
import Derived.Deep.MidRow
namespace Go.Proofs.YtmaefimaeelkbaaGreatDoor
open _root_.Int renaming mul_nonneg→Ou,mul_le_mul_of_nonneg_right→N3,add_mul→Nw,mul_comm→Oy,add_comm→NI,emod_nonneg→Px,emod_lt_of_pos→Pe,ediv_nonneg→Py,ediv_lt_of_lt_mul→OP
open Go.IntKind renaming i64→OK
open _root_.List renaming getD_eq_getElem?_getD→MS,getElem?_eq_none→NC,range→NX,range_succ→Pw,filter_append→NQ,length_filter_le→Nk,mem_range→NR,getElem?_eq_getElem→MJ,getElem?_append_left→Nd
open _root_.Bool renaming false_and→N1,true_and→NZ,and_eq_true→MW
open Go.World renaming block_lt_of_cell?→MK,cell?_alloc_new→MP,cell?_setCell_other→MH,cell?_setCell_same→MO,ownsRow_nil→Nj,cell?_alloc_at→ME
open _root_.Array renaming getElem?_append_right→OO,getElem?_append_left→Oe,getElem?_eq_none→Oz
open _root_.Nat renaming lt_of_lt_of_le→MN,zero_add→M8
open Go.Value renaming int→PE
open Go.IntKind renaming i64→PF
open Go.Proofs.Tryz
open _root_.Option renaming some→OM,none→Pk
open _root_.Bool renaming true→Pm,false→PB
open Go renaming World→PG,Calls→PK
open Go.RowKit renaming Below→PI
open Go.Ending renaming returned→PM
variable {W H V y x c:Int}{b d B g m k:Nat}{bl:Nat->Bool}{w w':PG}{r:Bool}
set_option maxHeartbeats 8000000
set_option maxRecDepth 1000000
section
open Go.RowKit
theorem MA (v:Value)(w:PG):(Instr.typeAssert (.iface 54 v) 27 54 Pm).run prog w=.ok (.tuple #[v,.bool Pm]) w:=by kernel_rfl
theorem oV (A B:Option Addr)(ca cb:Nat)(w:PG) :
  PK prog 30 #[.slice A 0 ca,.slice B 0 cb] w fun e w'=>e=PM (.bool Pm)/\∃m,w'=w.drewN m:=by
 go_enter func30,ntmps30;go_wp2;go_loop [5] (fun i=>i=PE PF 0) (fun _=>0)
 case atStart=>rfl
 case round =>
  subst hrel;go_wp2;go_ret;exact⟨rfl,0,rfl⟩
theorem pO (b o b2 o2 n ca cb:Nat)(xs:Nat->Int)(w:PG)(hn:n<=1000000)
  (hA:∀i,i<n->w.cell? ⟨b,o+i,Pk⟩=OM (PE PF (xs i))) (hB:∀i,i<n->w.cell? ⟨b2,o2+i,Pk⟩=OM (PE PF (xs i))) :
  PK prog 30 #[.slice (OM ⟨b,o,Pk⟩) n ca,.slice (OM ⟨b2,o2,Pk⟩) n cb] w fun e w'=>e=PM (.bool Pm)/\∃m,w'=w.drewN m:=by
 go_enter func30,ntmps30;go_wp2;go_loopw [5] (fun i w'=>∃k m:Nat,k<=n/\i=PE PF k/\w'=w.drewN m) (fun i _=>n-(intOf i).toNat)
 case atStart=>exact⟨0,0,by omega,rfl,rfl⟩
 case round =>
  obtain⟨k,m,hk,rfl,rfl⟩:=hrel;by_cases PO:k<n
  ·have h1:=hA k PO;have h2:=hB k PO;have hi:(0:Int)<=(k:Int):=(by omega);have hj:(k:Int)<(n:Int):=(by omega);clear hA hB;go_wp2;go_quiet (fail);go_wp2;go_roundw
   case rel=>exact⟨k+1,_,by omega,by go_num,rfl⟩
   case measure=>simp[intOf];omega
  ·have:k=n:=(by omega);subst this;go_wp2;go_ret;exact⟨rfl,m,rfl⟩
end
section
open Go.RowKit
structure aw (w:PG) (b:Nat) (W H V:Int) (bl:Nat->Bool):Prop where
 w1:1<=W
 w2:W<=16
 h1:1<=H
 h2:H<=16
 c0:w.cell? ⟨b,0,Pk⟩=OM (PE PF W)
 c1:w.cell? ⟨b,1,Pk⟩=OM (PE PF H)
 c2:w.cell? ⟨b,2,Pk⟩=OM (PE PF V)
 cs:∀i,i<256->w.cell? ⟨b,3+i,Pk⟩=OM (.bool (bl i))
theorem bP (w1:1<=W)(w2:W<=16)(h1:1<=H)(h2:H<=16):1<=W*H/\W*H<=256:=by
 have a:=Int.mul_le_mul w1 h1 (by omega) (by omega);have b:=Int.mul_le_mul w2 h2 (by omega) (by omega);omega
theorem gS (w:PG)(g:aw w b W H V bl) :
  PK prog 52 #[.pointer (OM ⟨b,0,Pk⟩)] w fun e w'=>e=PM (PE PF (W*H))/\∃m,w'=w.drewN m:=by
 obtain⟨w1,w2,h1,h2,c0,c1,c2,cs⟩:=g;obtain⟨k1,k2⟩:=bP w1 w2 h1 h2;go_enter func52,ntmps52;go_wp2;go_quiet (fail);go_wp2;go_ret;exact⟨rfl,_,rfl⟩
def inB (W H c:Int):Bool:=decide (0<=c/\c<W*H)
theorem xC (c:Int)(w:PG)(g:aw w b W H V bl) :
  PK prog 117 #[.pointer (OM ⟨b,0,Pk⟩),PE PF c] w fun e w'=>e=PM (.bool (inB W H c))/\∃m,w'=w.drewN m:=by
 by_cases h:0<=c
 ·by_cases k:c<W*H
  ·rw[show inB W H c=Pm from decide_eq_true ⟨h,k⟩];go_enter func117,ntmps117;go_wp2_with (go_at_call 52;refine(gS _ g).mono ?_;rintro e w' ⟨rfl,m,rfl⟩);go_ret;exact⟨rfl,_,rfl⟩
  ·rw[show inB W H c=PB from decide_eq_false fun q=>k q.2];have hd:decide (c<W*H)=false:=decide_eq_false k;go_enter func117,ntmps117;go_wp2_with (go_at_call 52;refine(gS _ g).mono ?_;rintro e w' ⟨rfl,m,rfl⟩);go_ret;exact⟨rfl,_,rfl⟩
 ·rw[show inB W H c=PB from decide_eq_false fun q=>h q.1];go_enter func117,ntmps117;go_wp2;go_ret;exact⟨rfl,0,rfl⟩
def atB (W H x y:Int):Bool:=decide (0<=x/\x<W/\0<=y/\y<H)
theorem gO (x y:Int)(w:PG)(g:aw w b W H V bl) :
  PK prog 139 #[.pointer (OM ⟨b,0,Pk⟩),PE PF x,PE PF y] w fun e w'=>e=PM (.bool (atB W H x y))/\w'=w:=by
 obtain⟨w1,w2,h1,h2,c0,c1,c2,cs⟩:=g;have hc:(0<=x/\x<W/\0<=y/\y<H)\/(¬0<=x)\/(0<=x/\¬x<W)\/(0<=x/\x<W/\¬0<=y)\/(0<=x/\x<W/\0<=y/\¬y<H):=by omega
 rcases hc with h|h|h|h|h
 ·rw[show atB W H x y=Pm from decide_eq_true h];obtain⟨q1,q2,q3,q4⟩:=h;go_enter func139,ntmps139;go_wp2;go_ret;exact⟨rfl,rfl⟩
 all_goals
  rw[show atB W H x y=PB from decide_eq_false (by omega)];go_enter func139,ntmps139;go_wp2;go_ret;exact⟨rfl,rfl⟩
theorem BV (w1:1<=W)(w2:W<=16)(y1:-100<=y)(y2:y<=100):-1600<=y*W/\y*W<=1600:=by
 rcases Int.le_total 0 y with h|h
 ·have a:=Ou h (show 0<=W by omega);have b:=Int.mul_le_mul y2 w2 (by omega) (by omega);omega
 ·have a:=Ou (show 0<=-y by omega) (show 0<=W by omega);have b:=Int.mul_le_mul (show -y<=100 by omega) w2 (by omega) (by omega);rw[Int.neg_mul]at a b;omega
theorem mw (x y:Int)(w:PG)(g:aw w b W H V bl)(x1:-100<=x)(x2:x<=100)(y1:-100<=y)(y2:y<=100) :
  PK prog 140 #[.pointer (OM ⟨b,0,Pk⟩),PE PF x,PE PF y] w fun e w'=>e=PM (PE PF (y*W+x))/\w'=w:=by
 obtain⟨w1,w2,h1,h2,c0,c1,c2,cs⟩:=g;obtain⟨k1,k2⟩:=BV w1 w2 y1 y2;go_enter func140,ntmps140;go_wp2;go_ret;exact⟨rfl,rfl⟩
def aM (W H:Int) (bl:Nat->Bool) (x y:Int):Bool:=atB W H x y&&!bl (y*W+x).toNat
theorem Ab (w1:1<=W)(w2:W<=16)(h1:1<=H)(h2:H<=16)(x1:0<=x)(x2:x<W)(y1:0<=y)(y2:y<H):0<=y*W+x/\y*W+x<W*H/\y*W+x<256:=by
 have k:=bP w1 w2 h1 h2;have a:=Ou y1 (show 0<=W by omega);have b:y*W+W<=H*W:=by
  have:=N3 (show y+1<=H by omega) (show 0<=W by omega);rw[Nw,Int.one_mul]at this;exact this
 rw[Oy H W]at b;omega
theorem GA (x y:Int)(w:PG)(g:aw w b W H V bl) :
  PK prog 97 #[.pointer (OM ⟨b,0,Pk⟩),PE PF x,PE PF y] w fun e w'=>e=PM (.bool (aM W H bl x y))/\∃m,w'=w.drewN m:=by
 by_cases h:0<=x/\x<W/\0<=y/\y<H
 ·have ha:atB W H x y=true:=decide_eq_true h;have e:aM W H bl x y=!bl (y*W+x).toNat:=by unfold aM;rw[ha];rfl
  rw[e];clear e;obtain⟨x1,x2,y1,y2⟩:=h;obtain⟨i1,i2,i3⟩:=Ab g.w1 g.w2 g.h1 g.h2 x1 x2 y1 y2;have Qa:=g.w1;have Xs:=g.w2;have Xt:=g.h2;have hp:∀w:PG,aw w b W H V bl->PK prog 139 #[.pointer (OM ⟨b,0,Pk⟩),PE PF x,PE PF y] w fun e w'=>e=PM (.bool Pm)/\w'=w:=fun w g=>ha▸gO x y w g;have hc:=g.cs (y*W+x).toNat (by omega);obtain⟨n,hn⟩:∃n:Nat,y*W+x=n:=⟨(y*W+x).toNat,by omega⟩;have gd:∀m,aw (w.drewN m) b W H V bl:=fun m=>⟨g.w1,g.w2,g.h1,g.h2,g.c0,g.c1,g.c2,g.cs⟩;have aj8:∀w:PG,aw w b W H V bl->PK prog 140 #[.pointer (OM ⟨b,0,Pk⟩),PE PF x,PE PF y] w fun e w'=>e=PM (PE PF n)/\w'=w:=fun w g=>hn▸mw x y w g (by omega) (by omega) (by omega) (by omega);rw[hn]at hc i1 i3 ⊢;simp only[Int.toNat_natCast]at hc ⊢;have j3:(n:Int)<256:=i3;clear hn i2 ha;go_enter func97,ntmps97;go_wp2;go_quiet (first|(go_at_call 139;exact Calls.quiet_of_same (hp _ (gd _)))|(go_at_call 140;exact Calls.quiet_of_same (aj8 _ (gd _))));go_wp2;go_ret;exact⟨rfl,_,rfl⟩
 ·have ha:atB W H x y=false:=decide_eq_false h;have e:aM W H bl x y=false:=by unfold aM;rw[ha];rfl
  rw[e];clear e;have hp:∀w:PG,aw w b W H V bl->PK prog 139 #[.pointer (OM ⟨b,0,Pk⟩),PE PF x,PE PF y] w fun e w'=>e=PM (.bool PB)/\w'=w:=fun w g=>ha▸gO x y w g;have gd:∀m,aw (w.drewN m) b W H V bl:=fun m=>⟨g.w1,g.w2,g.h1,g.h2,g.c0,g.c1,g.c2,g.cs⟩;clear ha h;go_enter func97,ntmps97;go_wp2;go_quiet ((go_at_call 139;exact Calls.quiet_of_same (hp _ (gd _))));go_wp2;go_ret;exact⟨rfl,_,rfl⟩
def ah (d:Nat):Int:=[0,1,1,1,0,-1,-1,-1].getD d 0
def af (d:Nat):Int:=[-1,-1,0,1,1,1,0,-1].getD d 0
def az (w:PG):Prop:=∀i,i<8->w.cell? ⟨1,2*i,Pk⟩=OM (PE PF (ah i))/\w.cell? ⟨1,2*i+1,Pk⟩=OM (PE PF (af i))
theorem gy (d:Nat)(w:PG)(h:az w)(hd:d<8) :
  PK prog 151 #[PE PF d] w fun e w'=>e=PM (.tuple #[PE PF (ah d),PE PF (af d)])/\∃m,w'=w.drewN m:=by
 obtain⟨a,b⟩:=h d hd;have b0:bits BinOp.and OK 0 7=0:=by decide
 have b1:bits BinOp.and OK 1 7=1:=by decide
 have b2:bits BinOp.and OK 2 7=2:=by decide
 have b3:bits BinOp.and OK 3 7=3:=by decide
 have b4:bits BinOp.and OK 4 7=4:=by decide
 have b5:bits BinOp.and OK 5 7=5:=by decide
 have b6:bits BinOp.and OK 6 7=6:=by decide
 have b7:bits BinOp.and OK 7 7=7:=by decide
 have UB:d=0\/d=1\/d=2\/d=3\/d=4\/d=5\/d=6\/d=7:=by omega
 clear h;rcases UB with rfl|rfl|rfl|rfl|rfl|rfl|rfl|rfl
 all_goals
  simp[ah,af]at a b;go_enter func151,ntmps151;go_wp2;go_quiet (fail);go_wp2;go_ret2;exact⟨rfl,_,rfl⟩
end
section
open Go.RowKit
theorem aw.drewN (g:aw w b W H V bl)(m:Nat):aw (w.drewN m) b W H V bl:=⟨g.w1,g.w2,g.h1,g.h2,g.c0,g.c1,g.c2,g.cs⟩
theorem az.drewN (h:az w)(m:Nat):az (w.drewN m):=h
def bC (W H:Int) (bl:Nat->Bool) (x y:Int) (d:Nat):Bool:=aM W H bl x y&&aM W H bl (x+ah d) (y+af d)&&aM W H bl (x+ah d) y&&aM W H bl x (y+af d)
theorem fW (d:Nat):-1<=ah d/\ah d<=1/\-1<=af d/\af d<=1:=by
 by_cases h:d<8
 ·have UB:d=0\/d=1\/d=2\/d=3\/d=4\/d=5\/d=6\/d=7:=by omega
  rcases UB with rfl|rfl|rfl|rfl|rfl|rfl|rfl|rfl<;>decide
 ·have e1:ah d=0:=by unfold ah;rw[MS,NC (by simp;omega)];rfl
  have e2:af d=0:=by unfold af;rw[MS,NC (by simp;omega)];rfl
  omega
theorem fN (hr:aM W H bl x y=r)(w:PG)(g:aw w b W H V bl) :
  PK prog 97 #[.pointer (OM ⟨b,0,Pk⟩),PE PF x,PE PF y] w fun e w'=>e=PM (.bool r)/\∃m,w'=w.drewN m:=hr▸GA x y w g
theorem Jp (x y:Int)(d:Nat)(w:PG)(g:aw w b W H V bl)(s:az w)(hd:d<8)(x1:-100<=x)(x2:x<=100)(y1:-100<=y)(y2:y<=100) :
  PK prog 153 #[.pointer (OM ⟨b,0,Pk⟩),PE PF x,PE PF y,PE PF d] w fun e w'=>e=PM (.bool (bC W H bl x y d))/\∃m,w'=w.drewN m:=by
 obtain⟨s1,s2,s3,s4⟩:=fW d;have hs:=fun w h=>gy d w h hd;have hm:bC W H bl x y d=(aM W H bl x y&&aM W H bl (x+ah d) (y+af d)&&aM W H bl (x+ah d) y&&aM W H bl x (y+af d)):=rfl;generalize ah d=dx at *;generalize af d=dy at *;cases hA:aM W H bl x y with
 |false =>
  rw[hm,hA];simp only[N1];clear hm;go_enter func153,ntmps153;go_wp2_with (first|(go_at_call 151;refine(hs _ s).mono ?_;rintro e w' ⟨rfl,m,rfl⟩)|(go_at_call 97;refine(fN (by assumption) _ (g.drewN _)).mono ?_;rintro e w' ⟨rfl,m,rfl⟩));go_ret;exact⟨rfl,_,rfl⟩
 |true =>
  cases hB:aM W H bl (x+dx) (y+dy) with
  |false =>
   rw[hm,hA,hB];simp only[NZ,N1];clear hm;go_enter func153,ntmps153;go_wp2_with (first|(go_at_call 151;refine(hs _ s).mono ?_;rintro e w' ⟨rfl,m,rfl⟩)|(go_at_call 97;refine(fN (by assumption) _ (g.drewN _)).mono ?_;rintro e w' ⟨rfl,m,rfl⟩));go_ret;exact⟨rfl,_,rfl⟩
  |true =>
   cases hC:aM W H bl (x+dx) y with
   |false =>
    rw[hm,hA,hB,hC];simp only[NZ,N1];clear hm;go_enter func153,ntmps153;go_wp2_with (first|(go_at_call 151;refine(hs _ s).mono ?_;rintro e w' ⟨rfl,m,rfl⟩)|(go_at_call 97;refine(fN (by assumption) _ (g.drewN _)).mono ?_;rintro e w' ⟨rfl,m,rfl⟩));go_ret;exact⟨rfl,_,rfl⟩
   |true =>
    cases hD:aM W H bl x (y+dy) with
    |false =>
     rw[hm,hA,hB,hC,hD];simp only[NZ];clear hm;go_enter func153,ntmps153;go_wp2_with (first|(go_at_call 151;refine(hs _ s).mono ?_;rintro e w' ⟨rfl,m,rfl⟩)|(go_at_call 97;refine(fN (by assumption) _ (g.drewN _)).mono ?_;rintro e w' ⟨rfl,m,rfl⟩));go_ret;exact⟨rfl,_,rfl⟩
    |true =>
     rw[hm,hA,hB,hC,hD];simp only[NZ];clear hm;go_enter func153,ntmps153;go_wp2_with (first|(go_at_call 151;refine(hs _ s).mono ?_;rintro e w' ⟨rfl,m,rfl⟩)|(go_at_call 97;refine(fN (by assumption) _ (g.drewN _)).mono ?_;rintro e w' ⟨rfl,m,rfl⟩));go_ret;exact⟨rfl,_,rfl⟩
theorem gT (hr:inB W H c=r)(w:PG)(g:aw w b W H V bl) :
  PK prog 117 #[.pointer (OM ⟨b,0,Pk⟩),PE PF c] w fun e w'=>e=PM (.bool r)/\∃m,w'=w.drewN m:=hr▸xC c w g
theorem dZ (c:Int)(w:PG)(g:aw w b W H V bl)(hr:inB W H c=Pm) :
  PK prog 84 #[.pointer (OM ⟨b,0,Pk⟩),PE PF c] w fun e w'=>e=PM (.tuple #[PE PF (c%W),PE PF (c/W),.nilIface])/\∃m,w'=w.drewN m:=by
 have hc:0<=c/\c<W*H:=of_decide_eq_true hr;obtain⟨k1,k2⟩:=bP g.w1 g.w2 g.h1 g.h2;have w1:=g.w1;have w2:=g.w2;have c0:=g.c0;obtain⟨q1,q2⟩:=hc;go_enter func84,ntmps84;go_wp2_with (go_at_call 117;refine(gT hr _ g).mono ?_;rintro e w' ⟨rfl,m,rfl⟩);go_quiet (fail);go_wp2;go_ret3;exact⟨rfl,_,World.drewN_drewN _ _ _⟩
theorem DP (c:Int)(w:PG)(g:aw w b W H V bl)(hr:inB W H c=PB) :
  PK prog 84 #[.pointer (OM ⟨b,0,Pk⟩),PE PF c] w fun e w'=>e=PM (.tuple #[PE PF 0,PE PF 0,.iface 54 (PE PF 1)])/\∃m,w'=w.drewN m:=by
 go_enter func84,ntmps84;go_wp2_with (go_at_call 117;refine(gT hr _ g).mono ?_;rintro e w' ⟨rfl,m,rfl⟩);go_ret3;exact⟨rfl,_,rfl⟩
theorem GB {b:Nat}{W H V:Int}{bl:Nat->Bool}(c:Int)(d:Nat)(w:PG)(g:aw w b W H V bl)(s:az w)(hd:d<8)(c1:-1000<=c)(c2:c<=1000) :
  PK prog 154 #[.pointer (OM ⟨b,0,Pk⟩),PE PF c,PE PF d] w fun e w'=>e=PM (PE PF (c+(af d*W+ah d)))/\∃m,w'=w.drewN m:=by
 obtain⟨s1,s2,s3,s4⟩:=fW d;obtain⟨k1,k2⟩:=BV g.w1 g.w2 (show -100<=af d by omega) (by omega);have hs:=fun w h=>gy d w h hd;have hn:=fun w g=>mw (b:=b) (W:=W) (H:=H) (V:=V) (bl:=bl) (ah d) (af d) w g (by omega) (by omega) (by omega) (by omega);generalize ah d=dx at *;generalize af d=dy at *;go_enter func154,ntmps154;go_wp2_with (first|(go_at_call 151;refine(hs _ s).mono ?_;rintro e w' ⟨rfl,m,rfl⟩)|(go_at_call 140;refine(hn _ (g.drewN _)).mono ?_;rintro e w' ⟨rfl,rfl⟩));go_ret;exact⟨rfl,_,rfl⟩
def mvs (W H:Int) (bl:Nat->Bool) (x y:Int) (k:Nat):List Nat:=(NX k).filter (bC W H bl x y)
theorem GC (W H:Int)(bl:Nat->Bool)(x y:Int)(k:Nat):mvs W H bl x y (k+1)=mvs W H bl x y k++(if bC W H bl x y k then [k] else []):=by
 unfold mvs;rw[Pw,NQ];cases h:bC W H bl x y k<;>simp[h]
theorem BX (W H:Int)(bl:Nat->Bool)(x y:Int)(k:Nat):(mvs W H bl x y k).length<=k:=by
 unfold mvs;have:=Nk (bC W H bl x y) (NX k)
 simpa using this
abbrev aH (l:List Nat):List Value:=l.map fun d:Nat=>Value.int .i64 (d:Int)
theorem tB (hr:bC W H bl x y d=r)(w:PG)(g:aw w b W H V bl)(s:az w)(hd:d<8)(x1:-100<=x)(x2:x<=100)(y1:-100<=y)(y2:y<=100) :
  PK prog 153 #[.pointer (OM ⟨b,0,Pk⟩),PE PF x,PE PF y,PE PF d] w fun e w'=>e=PM (.bool r)/\∃m,w'=w.drewN m:=hr▸Jp x y d w g s hd x1 x2 y1 y2
theorem aw.below (g:aw w b W H V bl)(hb:PI B w w')(h:b<B):aw w' b W H V bl :=
 ⟨g.w1,g.w2,g.h1,g.h2,(hb.cell (p:=⟨b,0,Pk⟩) h).trans g.c0,(hb.cell (p:=⟨b,1,Pk⟩) h).trans g.c1,(hb.cell (p:=⟨b,2,Pk⟩) h).trans g.c2,fun i hi=>(hb.cell (p:=⟨b,3+i,Pk⟩) h).trans (g.cs i hi)⟩
theorem az.below (s:az w)(hb:PI w.heap.size w w')(_h:0<w.heap.size):az w' :=
 fun i hi=>⟨(hb.cell (p:=⟨1,2*i,Pk⟩) (MK w _ (s i hi).1)).trans (s i hi).1,(hb.cell (p:=⟨1,2*i+1,Pk⟩) (MK w _ (s i hi).2)).trans (s i hi).2⟩
theorem Tryz.info3:(Tryz.prog.info? 3).map (fun i=>(i.zero,i.size,i.bytes))=OM (OM (PE PF 0),1,8):=by kernel_rfl
end
section
open Go.RowKit
def aU (n:Int):Bool:=decide (1<=n/\n<=16)
theorem Ac (n:Int)(w:PG) :
  PK prog 63 #[PE PF n] w fun e w'=>e=PM (.bool (aU n))/\w'=w:=by
 by_cases h:1<=n
 ·by_cases k:n<=16
  ·rw[show aU n=Pm from decide_eq_true ⟨h,k⟩];go_enter func63,ntmps63;go_wp2;go_ret;exact⟨rfl,rfl⟩
  ·rw[show aU n=PB from decide_eq_false fun q=>k q.2];go_enter func63,ntmps63;go_wp2;go_ret;exact⟨rfl,rfl⟩
 ·rw[show aU n=PB from decide_eq_false fun q=>h q.1];go_enter func63,ntmps63;go_wp2;go_ret;exact⟨rfl,rfl⟩
theorem xD {n:Int}(hr:aU n=r)(w:PG) :
  PK prog 63 #[PE PF n] w fun e w'=>e=PM (.bool r)/\w'=w:=hr▸Ac n w
theorem BY (W H:Int)(w:PG)(h:aU W=PB\/(aU W=Pm/\aU H=PB)) :
  PK prog 31 #[PE PF W,PE PF H] w fun e w'=>e=PM (.tuple #[.pointer Pk,.iface 54 (PE PF 1)])/\w'=w:=by
 rcases h with h|⟨h,k⟩
 all_goals
  go_enter func31,ntmps31;go_wp2_with (go_at_call 63;refine(xD (by assumption) _).mono ?_;rintro e w' ⟨rfl,rfl⟩);go_ret2;exact⟨rfl,rfl⟩
def eL (W H:Int):Array Value:=#[PE PF W,PE PF H,PE PF 0]++Array.replicate 256 (.bool PB)
def mz (W H:Int):Array Value:=#[PE PF W,PE PF H]++(Array.replicate 256 (.bool PB)++#[PE PF 0])
theorem BZ (W H:Int):prog.built 136 [(0,PE PF W),(1,PE PF H)]=OM (eL W H):=by kernel_rfl
theorem Ca (W H:Int):prog.built 38 [(0,PE PF W),(1,PE PF H)]=OM (mz W H):=by kernel_rfl
theorem qW {ops:Array Oper}{rest:List Oper}{o:Oper}{a:Act}{Q:Exit->Act->PG->Prop}(Tn:o.guard=Pk)(x y:Operand)(ho:o.op=.build 136 #[(0,x),(1,y)])(W H:Int)
  (hx:a.eval x=PE PF W) (hy:a.eval y=PE PF H) (h:wpList prog ops Q rest (a.put o.dst (.agg (eL W H))) w):wpList prog ops Q (o::rest) a w :=
 wpList_plain Tn fun _ hK=>wp_build 136 _ ho (by simp[hx,hy,BZ]) (by simp[hx,hy,BZ];exact hK _ _ h)
theorem qX {ops:Array Oper}{rest:List Oper}{o:Oper}{a:Act}{Q:Exit->Act->PG->Prop}(Tn:o.guard=Pk)(x y:Operand)(ho:o.op=.build 38 #[(0,x),(1,y)])(W H:Int)
  (hx:a.eval x=PE PF W) (hy:a.eval y=PE PF H) (h:wpList prog ops Q rest (a.put o.dst (.agg (mz W H))) w):wpList prog ops Q (o::rest) a w :=
 wpList_plain Tn fun _ hK=>wp_build 38 _ ho (by simp[hx,hy,Ca]) (by simp[hx,hy,Ca];exact hK _ _ h)
theorem Ad (W H:Int)(w:PG)(h:aU W=Pm)(k:aU H=Pm) :
  PK prog 31 #[PE PF W,PE PF H] w fun e w'=>e=PM (.tuple #[.pointer (OM ⟨w.heap.size,0,Pk⟩),.nilIface])/\w'=w.alloc (.cells (eL W H) 136):=by
 go_enter func31,ntmps31;go_wp2_with (first|(go_at_call 63;refine(xD (by assumption) _).mono ?_;rintro e w' ⟨rfl,rfl⟩)|refine qW rfl _ _ rfl W H rfl rfl ?_);go_ret2;exact⟨rfl,rfl⟩
theorem Cb (W H:Int)(w:PG)(w1:1<=W)(w2:W<=16)(h1:1<=H)(h2:H<=16) :
  PK prog 28 #[PE PF W,PE PF H] w fun e w'=>e=PM (.tuple #[.pointer (OM ⟨w.heap.size,0,Pk⟩),PE PF 0])/\w'=w.alloc (.cells (mz W H) 38):=by
 go_enter func28,ntmps28;go_wp2_with (refine qX rfl _ _ rfl W H rfl rfl ?_);go_ret2;exact⟨rfl,rfl⟩
theorem xE (W H:Int)(w:PG)(h:aU W=PB\/(aU W=Pm/\aU H=PB)) :
  PK prog 28 #[PE PF W,PE PF H] w fun e w'=>e=PM (.tuple #[.pointer Pk,PE PF 1])/\w'=w:=by
 have hc:(W<1)\/(¬W<1/\16<W)\/(¬W<1/\¬16<W/\H<1)\/(¬W<1/\¬16<W/\¬H<1/\16<H):=by
  unfold aU at h;simp only[decide_eq_false_iff_not,decide_eq_true_eq]at h;omega
 clear h;rcases hc with h|⟨h1,h2⟩|⟨h1,h2,h3⟩|⟨h1,h2,h3,h4⟩
 all_goals
  go_enter func28,ntmps28;go_wp2;go_ret2;exact⟨rfl,rfl⟩
theorem GF (W H:Int)(i:Nat)(hi:i<256):(eL W H)[3+i]? = OM (.bool PB):=by
 unfold eL;rw[OO (by simp)];simp[hi]
theorem mA (W H:Int)(w:PG)(h:aU W=Pm)(k:aU H=Pm):aw (w.alloc (.cells (eL W H) 136)) w.heap.size W H 0 (fun _=>PB):=by
 have a:1<=W/\W<=16:=of_decide_eq_true h;have b:1<=H/\H<=16:=of_decide_eq_true k;refine⟨a.1,a.2,b.1,b.2,?_,?_,?_,fun i hi=>?_⟩
 ·rw[MP];unfold eL;rw[Oe (by simp)];rfl
 ·rw[MP];unfold eL;rw[Oe (by simp)];rfl
 ·rw[MP];unfold eL;rw[Oe (by simp)];rfl
 ·rw[MP];exact GF W H i hi
structure bg (w:PG) (b:Nat) (W H V:Int) (bl:Nat->Bool):Prop where
 w1:1<=W
 w2:W<=16
 h1:1<=H
 h2:H<=16
 c0:w.cell? ⟨b,0,Pk⟩=OM (PE PF W)
 c1:w.cell? ⟨b,1,Pk⟩=OM (PE PF H)
 c2:w.cell? ⟨b,258,Pk⟩=OM (PE PF V)
 cs:∀i,i<256->w.cell? ⟨b,2+i,Pk⟩=OM (.bool (bl i))
theorem tD (W H:Int)(w:PG)(h:aU W=Pm)(k:aU H=Pm):bg (w.alloc (.cells (mz W H) 38)) w.heap.size W H 0 (fun _=>PB):=by
 have a:1<=W/\W<=16:=of_decide_eq_true h;have b:1<=H/\H<=16:=of_decide_eq_true k;refine⟨a.1,a.2,b.1,b.2,?_,?_,?_,fun i hi=>?_⟩
 ·rw[MP];unfold mz;rw[Oe (by simp)];rfl
 ·rw[MP];unfold mz;rw[Oe (by simp)];rfl
 ·rw[MP];unfold mz;rw[OO (by simp),OO (by simp)];simp
 ·rw[MP];unfold mz;rw[OO (by simp),Oe (by simp;omega)];simp[hi]
structure cA (b:Nat) (w w':PG):Prop where
 os:w'.os=w.os
 tape:w'.tape=w.tape
 output:w'.output=w.output
 size:w'.heap.size=w.heap.size
 other:∀k,k≠b->w'.heap[k]? = w.heap[k]?
theorem cA.refl (b:Nat)(w:PG):cA b w w:=⟨rfl,rfl,rfl,rfl,fun _ _=>rfl⟩
theorem cA.drewN (h:cA b w w')(m:Nat):cA b w (w'.drewN m):=⟨h.os,h.tape,h.output,h.size,h.other⟩
theorem cA.setCell (h:cA b w w')(o:Nat)(v:Value):cA b w (w'.setCell ⟨b,o,Pk⟩ v) :=
 ⟨h.os,h.tape,h.output,by rw[<- h.size];simp[World.setCell],fun k hk=>(Below.heap_setCell _ _ _ k hk).trans (h.other k hk)⟩
theorem cA.below {a:PG}(h:cA b w w')(hb:PI B a w)(hB:B<=b):PI B a w' :=
 hb.trans ⟨h.os,h.tape,h.output,by rw[h.size];exact aj,fun k hk=>h.other k (by omega)⟩
theorem cA.cell (h:cA b w w'){p:Addr}(hp:p.block≠b):w'.cell? p=w.cell? p:=World.cell?_of_block (h.other _ hp)
theorem cA.frozen (h:cA b w w'){p:Addr}(hp:p.block≠b):w'.frozen? p=w.frozen? p:=World.frozen?_of_block (h.other _ hp)
theorem bg.drewN (g:bg w b W H V bl)(m:Nat):bg (w.drewN m) b W H V bl:=⟨g.w1,g.w2,g.h1,g.h2,g.c0,g.c1,g.c2,g.cs⟩
theorem bg.below (g:bg w b W H V bl)(hb:PI B w w')(h:b<B):bg w' b W H V bl :=
 ⟨g.w1,g.w2,g.h1,g.h2,(hb.cell (p:=⟨b,0,Pk⟩) h).trans g.c0,(hb.cell (p:=⟨b,1,Pk⟩) h).trans g.c1,(hb.cell (p:=⟨b,258,Pk⟩) h).trans g.c2,fun i hi=>(hb.cell (p:=⟨b,2+i,Pk⟩) h).trans (g.cs i hi)⟩
def upd (bl:Nat->Bool) (c:Nat) (v:Bool):Nat->Bool:=fun i=>if i=c then v else bl i
end
section
open Go.RowKit
def gz (w:PG) (b:Nat):Prop:=∀o,w.frozen? ⟨b,o,Pk⟩=PB
theorem qY (c:Nat)(v:Bool)(w:PG)(g:aw w b W H V bl)(hr:inB W H c=Pm)(hv:bl c=v) :
  PK prog 107 #[.pointer (OM ⟨b,0,Pk⟩),PE PF c,.bool v] w fun e w'=>e=PM (.tuple #[.bool PB,.nilIface])/\∃m,w'=w.drewN m:=by
 have hc:0<=(c:Int)/\(c:Int)<W*H:=of_decide_eq_true hr;obtain⟨k1,k2⟩:=bP g.w1 g.w2 g.h1 g.h2;obtain⟨q1,q2⟩:=hc;have q3:(c:Int)<256:=by omega
 have h:=g.cs c (by omega);rw[hv]at h;go_enter func107,ntmps107;go_wp2_with (go_at_call 117;refine(gT hr _ g).mono ?_;rintro e w' ⟨rfl,m,rfl⟩);go_ret2;exact⟨rfl,_,rfl⟩
theorem bR {o p:Nat}(h:o≠p):(⟨b,o,Pk⟩:Addr)≠⟨b,p,Pk⟩:=by
 intro e;cases e;exact h rfl
theorem Ae (g:aw w b W H V bl)(c:Nat)(hc:c<256)(v:Bool) :
  aw ((w.setCell ⟨b,3+c,Pk⟩ (.bool v)).setCell ⟨b,2,Pk⟩ (PE PF (V+1))) b W H (V+1) (upd bl c v):=by
 refine⟨g.w1,g.w2,g.h1,g.h2,?_,?_,?_,fun i hi=>?_⟩
 ·rw[MH _ _ _ _ (bR (by omega)),MH _ _ _ _ (bR (by omega))];exact g.c0
 ·rw[MH _ _ _ _ (bR (by omega)),MH _ _ _ _ (bR (by omega))];exact g.c1
 ·refine MO _ _ _ (u:=PE PF V) ?_;rw[MH _ _ _ _ (bR (by omega))];exact g.c2
 ·rw[MH _ _ _ _ (bR (by omega))];unfold upd;by_cases e:i=c
  ·subst e;rw[if_pos rfl];exact MO _ _ _ (g.cs i hi)
  ·rw[if_neg e,MH _ _ _ _ (bR (by omega))];exact g.cs i hi
theorem uJ (c:Nat)(v:Bool)(w:PG)(g:aw w b W H V bl)(f:gz w b)(hr:inB W H c=Pm)(hv:bl c=!v)(v1:0<=V)(v2:V<=1000000) :
  PK prog 107 #[.pointer (OM ⟨b,0,Pk⟩),PE PF c,.bool v] w fun e w'=>e=PM (.tuple #[.bool Pm,.nilIface])/\cA b w w'/\aw w' b W H (V+1) (upd bl c v)/\gz w' b:=by
 have hc:0<=(c:Int)/\(c:Int)<W*H:=of_decide_eq_true hr;obtain⟨k1,k2⟩:=bP g.w1 g.w2 g.h1 g.h2;obtain⟨q1,q2⟩:=hc;have q3:(c:Int)<256:=by omega
 have h:=g.cs c (by omega);have c2:=g.c2;have f1:=f 2;have f2:=f (3+c);rw[hv]at h;have hx:((!v)==v)=false:=by cases v<;>rfl
 have hG:=fun m=>Ae (g.drewN m) c (by omega) v;have PW:(⟨b,3+c,Pk⟩:Addr)≠⟨b,2,Pk⟩:=bR (by omega);have c3:(w.setCell ⟨b,3+c,Pk⟩ (.bool v)).cell? ⟨b,2,Pk⟩=OM (PE PF V):=by rw[MH _ _ _ _ PW];exact c2
 go_enter func107,ntmps107;go_wp2_with (go_at_call 117;refine(gT hr _ g).mono ?_;rintro e w' ⟨rfl,m,rfl⟩);go_ret2;exact⟨rfl,(((cA.refl b w).drewN m).setCell _ _).setCell _ _,hG m,fun o=>by simpa using f o⟩
theorem ku (c:Int)(w:PG)(g:bg w b W H V bl)(hr:inB W H c=Pm) :
  PK prog 19 #[.pointer (OM ⟨b,0,Pk⟩),PE PF c] w fun e w'=>e=PM (PE PF 0)/\∃m,w'=w.drewN m:=by
 have hc:0<=c/\c<W*H:=of_decide_eq_true hr;obtain⟨k1,k2⟩:=bP g.w1 g.w2 g.h1 g.h2;obtain⟨q1,q2⟩:=hc;have c0:=g.c0;have c1:=g.c1;have hd:decide (c<0)=false:=decide_eq_false (by omega);have he:¬W*H<=c:=by omega
 go_enter func19,ntmps19;go_wp2;go_quiet (fail);go_wp2;go_ret;exact⟨rfl,_,rfl⟩
theorem uK (c:Int)(w:PG)(g:bg w b W H V bl)(hr:inB W H c=PB) :
  PK prog 19 #[.pointer (OM ⟨b,0,Pk⟩),PE PF c] w fun e w'=>e=PM (PE PF 1)/\∃m,w'=w.drewN m:=by
 have hc:¬(0<=c/\c<W*H):=of_decide_eq_false hr;obtain⟨k1,k2⟩:=bP g.w1 g.w2 g.h1 g.h2;have c0:=g.c0;have c1:=g.c1;by_cases h:c<0
 ·have hd:decide (c<0)=true:=decide_eq_true h;go_enter func19,ntmps19;go_wp2;go_quiet (fail);go_wp2;go_ret;exact⟨rfl,_,rfl⟩
 ·have hd:decide (c<0)=false:=decide_eq_false h;have he:W*H<=c:=by omega
  go_enter func19,ntmps19;go_wp2;go_quiet (fail);go_wp2;go_ret;exact⟨rfl,_,rfl⟩
theorem DQ (c:Nat)(v:Bool)(w:PG)(g:bg w b W H V bl)(hr:inB W H c=Pm)(hv:bl c=v) :
  PK prog 29 #[.pointer (OM ⟨b,0,Pk⟩),PE PF c,.bool v] w fun e w'=>e=PM (.tuple #[.bool PB,PE PF 0])/\∃m,w'=w.drewN m:=by
 have hc:0<=(c:Int)/\(c:Int)<W*H:=of_decide_eq_true hr;obtain⟨k1,k2⟩:=bP g.w1 g.w2 g.h1 g.h2;obtain⟨q1,q2⟩:=hc;have q3:(c:Int)<256:=by omega
 have h:=g.cs c (by omega);rw[hv]at h;go_enter func29,ntmps29;go_wp2_with (go_at_call 19;refine(ku _ _ g hr).mono ?_;rintro e w' ⟨rfl,m,rfl⟩);go_ret2;exact⟨rfl,_,rfl⟩
theorem DR (g:bg w b W H V bl)(c:Nat)(hc:c<256)(v:Bool) :
  bg ((w.setCell ⟨b,2+c,Pk⟩ (.bool v)).setCell ⟨b,258,Pk⟩ (PE PF (V+1))) b W H (V+1) (upd bl c v):=by
 refine⟨g.w1,g.w2,g.h1,g.h2,?_,?_,?_,fun i hi=>?_⟩
 ·rw[MH _ _ _ _ (bR (by omega)),MH _ _ _ _ (bR (by omega))];exact g.c0
 ·rw[MH _ _ _ _ (bR (by omega)),MH _ _ _ _ (bR (by omega))];exact g.c1
 ·refine MO _ _ _ (u:=PE PF V) ?_;rw[MH _ _ _ _ (bR (by omega))];exact g.c2
 ·rw[MH _ _ _ _ (bR (by omega))];unfold upd;by_cases e:i=c
  ·subst e;rw[if_pos rfl];exact MO _ _ _ (g.cs i hi)
  ·rw[if_neg e,MH _ _ _ _ (bR (by omega))];exact g.cs i hi
end
section
open Go.RowKit
theorem tE (d:Nat)(w:PG)(hd:d<8) :
  PK prog 90 #[PE PF d] w fun e w'=>e=PM (.tuple #[PE PF (ah d),PE PF (af d)])/\w'=w:=by
 have UB:d=0\/d=1\/d=2\/d=3\/d=4\/d=5\/d=6\/d=7:=by omega
 rcases UB with rfl|rfl|rfl|rfl|rfl|rfl|rfl|rfl
 all_goals
  go_enter func90,ntmps90;go_wp2;go_ret2;exact⟨rfl,rfl⟩
theorem Jq (d:Nat)(w:PG)(hd:d<8) :
  PK prog 90 #[PE PF d] w fun e w'=>e=PM (.tuple #[PE PF (ah d),PE PF (af d)])/\∃m,w'=w.drewN m :=
 (tE d w hd).mono fun _ _ ⟨h1,h2⟩=>⟨h1,0,h2⟩
theorem DS (x y:Int)(w:PG)(g:bg w b W H V bl) :
  PK prog 91 #[.pointer (OM ⟨b,0,Pk⟩),PE PF x,PE PF y] w fun e w'=>e=PM (.bool (aM W H bl x y))/\∃m,w'=w.drewN m:=by
 have c0:=g.c0;have c1:=g.c1;have Qa:=g.w1;have Xs:=g.w2;have Xt:=g.h2;by_cases h:0<=x/\x<W/\0<=y/\y<H
 ·have ha:atB W H x y=true:=decide_eq_true h;have e:aM W H bl x y=!bl (y*W+x).toNat:=by unfold aM;rw[ha];rfl
  rw[e];clear e;obtain⟨x1,x2,y1,y2⟩:=h;obtain⟨i1,i2,i3⟩:=Ab g.w1 g.w2 g.h1 g.h2 x1 x2 y1 y2;obtain⟨k1,k2⟩:=BV (y:=y) g.w1 g.w2 (by omega) (by omega);have hc:=g.cs (y*W+x).toNat (by omega);have d1:decide (0<=x)=true:=decide_eq_true x1;have d2:decide (x<W)=true:=decide_eq_true x2;have d3:decide (0<=y)=true:=decide_eq_true y1;have d4:decide (y<H)=true:=decide_eq_true y2;clear i2 ha;go_enter func91,ntmps91;go_wp2;go_quiet (fail);go_wp2;go_ret;exact⟨rfl,_,rfl⟩
 ·have ha:atB W H x y=false:=decide_eq_false h;have e:aM W H bl x y=false:=by unfold aM;rw[ha];rfl
  rw[e];clear e;have hc:(¬0<=x)\/(0<=x/\¬x<W)\/(0<=x/\x<W/\¬0<=y)\/(0<=x/\x<W/\0<=y/\¬y<H):=by omega
  clear ha h;rcases hc with h|⟨h1,h2⟩|⟨h1,h2,h3⟩|⟨h1,h2,h3,h4⟩
  ·have d1:decide (0<=x)=false:=decide_eq_false h;go_enter func91,ntmps91;go_wp2;go_quiet (fail);go_wp2;go_ret;exact⟨rfl,_,rfl⟩
  ·have d1:decide (0<=x)=true:=decide_eq_true h1;have d2:decide (x<W)=false:=decide_eq_false h2;go_enter func91,ntmps91;go_wp2;go_quiet (fail);go_wp2;go_ret;exact⟨rfl,_,rfl⟩
  ·have d1:decide (0<=x)=true:=decide_eq_true h1;have d2:decide (x<W)=true:=decide_eq_true h2;have d3:decide (0<=y)=false:=decide_eq_false h3;go_enter func91,ntmps91;go_wp2;go_quiet (fail);go_wp2;go_ret;exact⟨rfl,_,rfl⟩
  ·have d1:decide (0<=x)=true:=decide_eq_true h1;have d2:decide (x<W)=true:=decide_eq_true h2;have d3:decide (0<=y)=true:=decide_eq_true h3;have d4:decide (y<H)=false:=decide_eq_false h4;go_enter func91,ntmps91;go_wp2;go_quiet (fail);go_wp2;go_ret;exact⟨rfl,_,rfl⟩
theorem fX (hr:aM W H bl x y=r)(w:PG)(g:bg w b W H V bl) :
  PK prog 91 #[.pointer (OM ⟨b,0,Pk⟩),PE PF x,PE PF y] w fun e w'=>e=PM (.bool r)/\∃m,w'=w.drewN m:=hr▸DS x y w g
theorem GG (x y:Int)(d:Nat)(w:PG)(g:bg w b W H V bl)(hd:d<8)(x1:-100<=x)(x2:x<=100)(y1:-100<=y)(y2:y<=100) :
  PK prog 48 #[.pointer (OM ⟨b,0,Pk⟩),PE PF x,PE PF y,PE PF d] w fun e w'=>e=PM (.bool (bC W H bl x y d))/\∃m,w'=w.drewN m:=by
 obtain⟨s1,s2,s3,s4⟩:=fW d;have hs:=fun w=>Jq d w hd;have hm:bC W H bl x y d=(aM W H bl x y&&aM W H bl (x+ah d) (y+af d)&&aM W H bl (x+ah d) y&&aM W H bl x (y+af d)):=rfl;generalize ah d=dx at *;generalize af d=dy at *;cases hA:aM W H bl x y with
 |false =>
  rw[hm,hA];simp only[N1];clear hm;go_enter func48,ntmps48;go_wp2_with (first|(go_at_call 90;refine(hs _).mono ?_;rintro e w' ⟨rfl,m0,rfl⟩)|(go_at_call 91;refine(fX (by assumption) _ (g.drewN _)).mono ?_;rintro e w' ⟨rfl,m,rfl⟩));go_ret;exact⟨rfl,_,rfl⟩
 |true =>
  cases hB:aM W H bl (x+dx) (y+dy) with
  |false =>
   rw[hm,hA,hB];simp only[NZ,N1];clear hm;go_enter func48,ntmps48;go_wp2_with (first|(go_at_call 90;refine(hs _).mono ?_;rintro e w' ⟨rfl,m0,rfl⟩)|(go_at_call 91;refine(fX (by assumption) _ (g.drewN _)).mono ?_;rintro e w' ⟨rfl,m,rfl⟩));go_ret;exact⟨rfl,_,rfl⟩
  |true =>
   cases hC:aM W H bl (x+dx) y with
   |false =>
    rw[hm,hA,hB,hC];simp only[NZ,N1];clear hm;go_enter func48,ntmps48;go_wp2_with (first|(go_at_call 90;refine(hs _).mono ?_;rintro e w' ⟨rfl,m0,rfl⟩)|(go_at_call 91;refine(fX (by assumption) _ (g.drewN _)).mono ?_;rintro e w' ⟨rfl,m,rfl⟩));go_ret;exact⟨rfl,_,rfl⟩
   |true =>
    cases hD:aM W H bl x (y+dy) with
    |false =>
     rw[hm,hA,hB,hC,hD];simp only[NZ];clear hm;go_enter func48,ntmps48;go_wp2_with (first|(go_at_call 90;refine(hs _).mono ?_;rintro e w' ⟨rfl,m0,rfl⟩)|(go_at_call 91;refine(fX (by assumption) _ (g.drewN _)).mono ?_;rintro e w' ⟨rfl,m,rfl⟩));go_ret;exact⟨rfl,_,rfl⟩
    |true =>
     rw[hm,hA,hB,hC,hD];simp only[NZ];clear hm;go_enter func48,ntmps48;go_wp2_with (first|(go_at_call 90;refine(hs _).mono ?_;rintro e w' ⟨rfl,m0,rfl⟩)|(go_at_call 91;refine(fX (by assumption) _ (g.drewN _)).mono ?_;rintro e w' ⟨rfl,m,rfl⟩));go_ret;exact⟨rfl,_,rfl⟩
theorem Jr (c:Int)(d:Nat)(w:PG)(g:bg w b W H V bl)(hd:d<8)(c1:-1000<=c)(c2:c<=1000) :
  PK prog 49 #[.pointer (OM ⟨b,0,Pk⟩),PE PF c,PE PF d] w fun e w'=>e=PM (PE PF (c+ah d+af d*W))/\w'=w:=by
 obtain⟨s1,s2,s3,s4⟩:=fW d;obtain⟨k1,k2⟩:=BV g.w1 g.w2 (show -100<=af d by omega) (by omega);have hs:=fun w=>tE d w hd;have c0:=g.c0;generalize ah d=dx at *;generalize af d=dy at *;go_enter func49,ntmps49;go_wp2_with (go_at_call 90;refine(hs _).mono ?_;rintro e w' ⟨rfl,rfl⟩);go_ret;exact⟨rfl,rfl⟩
theorem jL (c:Nat)(w:PG)(g:aw w b W H V bl)(hr:inB W H c=Pm) :
  PK prog 72 #[.pointer (OM ⟨b,0,Pk⟩),PE PF c] w fun e w'=>e=PM (.tuple #[.bool (!bl c),.nilIface])/\∃m,w'=w.drewN m:=by
 have hc:0<=(c:Int)/\(c:Int)<W*H:=of_decide_eq_true hr;obtain⟨k1,k2⟩:=bP g.w1 g.w2 g.h1 g.h2;obtain⟨q1,q2⟩:=hc;have q3:(c:Int)<256:=by omega
 have h:=g.cs c (by omega);go_enter func72,ntmps72;go_wp2_with (go_at_call 117;refine(gT hr _ g).mono ?_;rintro e w' ⟨rfl,m,rfl⟩);go_ret2;exact⟨rfl,_,rfl⟩
theorem qZ (c:Int)(w:PG)(g:aw w b W H V bl)(hr:inB W H c=PB) :
  PK prog 72 #[.pointer (OM ⟨b,0,Pk⟩),PE PF c] w fun e w'=>e=PM (.tuple #[.bool PB,.iface 54 (PE PF 1)])/\∃m,w'=w.drewN m:=by
 go_enter func72,ntmps72;go_wp2_with (go_at_call 117;refine(gT hr _ g).mono ?_;rintro e w' ⟨rfl,m,rfl⟩);go_ret2;exact⟨rfl,_,rfl⟩
end
section
open Go.RowKit
def bu (w:PG) (A:Option Addr) (n:Nat) (xs:Nat->Int):Prop:=∀i,i<n->∃b o,A=OM ⟨b,o,Pk⟩/\b<w.heap.size/\w.cell? ⟨b,o+i,Pk⟩=OM (PE PF (xs i))
structure KY (w:PG) (g m:Nat) (W H V:Int) (bl:Nat->Bool):Prop where
 ga:aw w g W H V bl
 gf:gz w g
 ra:bg w m W H V bl
 rf:gz w m
 v1:0<=V
 ne:g≠m
theorem KY.drewN (h:KY w g m W H V bl)(k:Nat):KY (w.drewN k) g m W H V bl:=⟨h.ga.drewN k,h.gf,h.ra.drewN k,h.rf,h.v1,h.ne⟩
theorem bE (w:PG)(c:Array Value)(t:TypeId)(b:Nat)(h:w.heap.size<=b):gz (w.alloc (.cells c t)) b:=fun o=>by
 rw[frozen?_alloc_cells];unfold World.frozen?;rw[Oz h]
end
theorem jM (h:aM W H bl x y=Pm):0<=x/\x<W/\0<=y/\y<H:=by
 unfold aM at h;rw[MW]at h;exact of_decide_eq_true h.1
theorem uL :d∈mvs W H bl x y k↔d<k/\bC W H bl x y d=true:=by
 unfold mvs;rw[List.mem_filter,NR]
theorem bo (l:List Nat)(i:Nat)(h:i<l.length):l.getD i 0=l[i]:=by
 rw[MS,MJ h];rfl
def opp (d:Nat):Nat:=(d+4)%8
theorem uM (d:Nat):opp d<8:=Nat.mod_lt _ (by decide)
theorem q9 (d:Nat)(h:d<8):ah (opp d)=-ah d/\af (opp d)=-af d:=by
 have UB:d=0\/d=1\/d=2\/d=3\/d=4\/d=5\/d=6\/d=7:=by omega
 rcases UB with rfl|rfl|rfl|rfl|rfl|rfl|rfl|rfl<;>decide
theorem ft (h:bC W H bl x y d=Pm) :
  aM W H bl x y=Pm/\aM W H bl (x+ah d) (y+af d)=Pm/\aM W H bl (x+ah d) y=Pm/\aM W H bl x (y+af d)=true:=by
 unfold bC at h;simp only[MW]at h;exact⟨h.1.1.1,h.1.1.2,h.1.2,h.2⟩
theorem xF (hd:d<8)(h:bC W H bl x y d=Pm):bC W H bl (x+ah d) (y+af d) (opp d)=true:=by
 obtain⟨a,b,c,e⟩:=ft h;obtain⟨o1,o2⟩:=q9 d hd;unfold bC;rw[o1,o2,show x+ah d+-ah d=x from by omega,show y+af d+-af d=y from by omega,a,b,c,e];rfl
theorem nM (w1:1<=W)(x1:0<=x)(x2:x<W)(y1:0<=y)(y2:y<H):inB W H (y*W+x)=Pm/\(y*W+x)%W=x/\(y*W+x)/W=y:=by
 refine⟨decide_eq_true ⟨?_,?_⟩,?_,?_⟩
 ·have:=Ou y1 (show 0<=W by omega);omega
 ·have:=N3 (show y+1<=H by omega) (show 0<=W by omega);rw[Nw,Int.one_mul,Oy H W]at this;omega
 ·rw[NI,Int.add_mul_emod_self_right];exact Int.emod_eq_of_lt x1 x2
 ·rw[NI,Int.add_mul_ediv_right _ _ (by omega),Int.ediv_eq_zero_of_lt x1 x2];omega
theorem fe (W c:Int):c/W*W+c%W=c:=by
 have:=Int.mul_ediv_add_emod c W;rw[Oy]at this;exact this
theorem jN {H:Int}(w1:1<=W)(hd:d<8)(h:bC W H bl (c%W) (c/W) d=Pm) :
  inB W H (c+(af d*W+ah d))=Pm /\
  ∃j,j<(mvs W H bl ((c+(af d*W+ah d))%W) ((c+(af d*W+ah d))/W) 8).length /\
   (mvs W H bl ((c+(af d*W+ah d))%W) ((c+(af d*W+ah d))/W) 8).getD j 0=opp d:=by
 have hb:=xF hd h;obtain⟨_,o2,_,_⟩:=ft h;obtain⟨a1,a2,a3,a4⟩:=jM o2;have e:c+(af d*W+ah d)=(c/W+af d)*W+(c%W+ah d):=by
  have:=fe W c;rw[Nw];omega
 obtain⟨p1,p2,p3⟩:=nM (H:=H) w1 a1 a2 a3 a4;rw[e,p2,p3];refine⟨p1,?_⟩;have hm:opp d∈mvs W H bl (c%W+ah d) (c/W+af d) 8:=uL.mpr ⟨uM d,hb⟩;obtain⟨j,hj,he⟩:=List.mem_iff_getElem.mp hm;exact⟨j,hj,by rw[bo _ _ hj];exact he⟩
theorem tF (hd:d<8):c+(af d*W+ah d)+(af (opp d)*W+ah (opp d))=c:=by
 obtain⟨o1,o2⟩:=q9 d hd;rw[o1,o2,Int.neg_mul];omega
theorem re (W H x y:Int)(bl:Nat->Bool)(k:Nat):(mvs W H bl x y k).Pairwise (·<·) :=
 List.Pairwise.filter _ List.pairwise_lt_range
theorem GH {i:Nat}(h0:0<i)(hi:i<(mvs W H bl x y k).length):(mvs W H bl x y k).getD (i-1) 0<(mvs W H bl x y k).getD i 0:=by
 rw[bo _ _ hi,bo _ _ (by omega)];exact List.pairwise_iff_getElem.mp (re W H x y bl k) (i-1) i (by omega) hi (by omega)
theorem kz {i:Nat}(hi:i<(mvs W H bl x y k).length):(mvs W H bl x y k).getD i 0<k/\bC W H bl x y ((mvs W H bl x y k).getD i 0)=true:=by
 rw[bo _ _ hi];exact uL.mp (List.getElem_mem hi)
section
open Go.RowKit
theorem uN (hr:bC W H bl x y d=r)(w:PG)(g:bg w b W H V bl)(hd:d<8)(x1:-100<=x)(x2:x<=100)(y1:-100<=y)(y2:y<=100) :
  PK prog 48 #[.pointer (OM ⟨b,0,Pk⟩),PE PF x,PE PF y,PE PF d] w fun e w'=>e=PM (.bool r)/\∃m,w'=w.drewN m:=hr▸GG x y d w g hd x1 x2 y1 y2
theorem DT (c:Int)(w:PG)(g:bg w b W H V bl)(hr:inB W H c=Pm)(hb:b<w.heap.size) :
  PK prog 77 #[.pointer (OM ⟨b,0,Pk⟩),PE PF c] w fun e w'=>∃v,e=PM v /\
   w'.ownsRow w.heap.size 3 1 v (mvs W H bl (c%W) (c/W) 8).length (aH (mvs W H bl (c%W) (c/W) 8))/\PI w.heap.size w w':=by
 obtain⟨i0,hi,P0,P3,Qd⟩:=info_parts Tryz.info3;have hc:0<=c/\c<W*H:=of_decide_eq_true hr;obtain⟨k1,k2⟩:=bP g.w1 g.w2 g.h1 g.h2;have Qa:=g.w1;have gw:=g.w2;have gh:=g.h2;have x1:0<=c%W:=Px _ (by omega);have x2:c%W<W:=Pe _ (by omega);have y1:0<=c/W:=Py hc.1 (by omega);have y3:c/W<H:=OP (by omega) (by rw[Oy];exact hc.2);obtain⟨q1,q2⟩:=hc;go_enter func77,ntmps77;go_wp2;go_loopw [5,6] (fun v i wr=>∃k:Nat,k<=8/\i=PE PF k/\wr.ownsRow w.heap.size 3 1 v (mvs W H bl (c%W) (c/W) k).length (aH (mvs W H bl (c%W) (c/W) k))/\PI w.heap.size w wr)
  (fun _ i _=>8-(intOf i).toNat)
 case atStart=>exact⟨0,Nat.zero_le _,rfl,Nj _ _ _ _,al⟩
 case round =>
  obtain⟨k,hk,rfl,hown,Qu⟩:=hrel;have hl:=BX W H bl (c%W) (c/W) k;have gr:=g.below Qu hb;have c0:=gr.c0;have QC:=Qu.size;by_cases PO:k<8
  ·have Q3:=GC W H bl (c%W) (c/W) k;cases hM:bC W H bl (c%W) (c/W) k with
   |false =>
    rw[hM]at Q3;have h0:mvs W H bl (c%W) (c/W) (k+1)=mvs W H bl (c%W) (c/W) k:=by simpa using Q3
    have HS:=ae h0;clear h0 Q3;go_wp2;go_quiet ((go_at_call 48;exact Calls.quiet_of (uN hM _ (gr.drewN _) PO (by omega) (by omega) (by omega) (by omega))));go_wp2;go_roundw
    case rel=>exact⟨k+1,by omega,by go_num,by rw[HS.out];exact hown,below_drewN Qu _⟩
    case measure=>simp[intOf];omega
   |true =>
    rw[hM]at Q3;have h0:mvs W H bl (c%W) (c/W) (k+1)=mvs W H bl (c%W) (c/W) k++[k]:=by simpa using Q3
    have HS:=ae h0;clear h0 Q3;go_wp2;go_quiet ((go_at_call 48;exact Calls.quiet_of (uN hM _ (gr.drewN _) PO (by omega) (by omega) (by omega) (by omega))));go_wp2_with (at_builtin;refine wpList_append_own _ rfl _ _ 51 rfl w.heap.size 3 i0 (PE PF 0) 1 8 underlying51 hi P0 P3 Qd rfl (by decide) _ _ _ rfl (World.ownsRow.alloc hown _) ⟨wr.heap.size,0,Pk⟩ 1 1 [PE PF k] rfl rfl ?c1 ?c2 ?c3 ?c4 ?c5 ?_)
    case c1 =>
     intro j u hj
     match j,hj with
     |0,hj =>
      simp at hj;subst hj;simp only[Addr.add];exact ME (w:=wr.drewN nq) #[PE PF k] 3 wr.heap.size 0 rfl
    case c2=>intro u hu;simp at hu;subst hu;rfl
    case c3=>unfold maxLen;omega
    case c4=>omega
    case c5=>simp;omega
    intro v' w1 PS PR _;have PX:=fun q hq=>(hown.lt q hq).1;have B1:PI w.heap.size w w1:=((below_drewN Qu nq).alloc QC _).grown PR (by simp;omega) PX;have O1:w1.ownsRow w.heap.size 3 1 v' (mvs W H bl (c%W) (c/W) (k+1)).length (aH (mvs W H bl (c%W) (c/W) (k+1))):=by
     rw[HS.out]
     simpa [aH]using PS
    clear PS PR hown Qu gr c0;go_wp2;go_roundw
    case rel=>exact⟨k+1,by omega,by go_num,O1,B1⟩
    case measure=>simp[intOf];omega
  ·have:k=8:=(by omega);subst this;go_wp2;go_ret;exact⟨_,rfl,hown,Qu⟩
end
section
open Go.RowKit
theorem bu.below {A:Option Addr}{n:Nat}{xs:Nat->Int}(h:bu w A n xs)(hb:PI w.heap.size w w'):bu w' A n xs:=fun i hi=>by
 obtain⟨b,o,e,PO,hc⟩:=h i hi;exact⟨b,o,e,MN PO hb.size,(hb.cell (p:=⟨b,o+i,Pk⟩) PO).trans hc⟩
theorem bu.drewN {A:Option Addr}{n:Nat}{xs:Nat->Int}(h:bu w A n xs)(m:Nat):bu (w.drewN m) A n xs:=h
theorem iw {base:Nat}{v:Value}{l:List Nat}(h:w.ownsRow base 3 1 v l.length (aH l)):∃A cap,v=.slice A l.length cap/\bu w A l.length (fun i=>(l.getD i 0:Nat)):=by
 rcases h.2 with⟨hv,h0⟩|⟨g,cap,cur,hv,hb,hg,_,_,QC,htk⟩
 ·refine⟨Pk,0,by rw[h0];exact hv,fun i hi=>absurd hi (by omega)⟩
 ·refine⟨_,cap,hv,fun i hi=>⟨g,0,rfl,(Array.getElem?_eq_some_iff.1 hg).1,?_⟩⟩;subst hv;have:=h.cellAt i (by omega);rw[M8,this];rw[List.getElem?_map,MJ hi];show _=OM (Value.int .i64 ((l.getD i 0:Nat):Int));rw[bo _ _ hi];rfl
structure uO (W H:Int) (bl:Nat->Bool) (c:Int) (l:List Nat):Prop where
 eq:mvs W H bl (c%W) (c/W) 8=l
 len:l.length<=8
 lt:∀i,i<l.length->l.getD i 0<8
 rise:∀i,0<i->i<l.length->l.getD (i-1) 0<l.getD i 0
 back:∀i,i<l.length->inB W H (c+(af (l.getD i 0)*W+ah (l.getD i 0)))=Pm /\
  ∀l',mvs W H bl ((c+(af (l.getD i 0)*W+ah (l.getD i 0)))%W) ((c+(af (l.getD i 0)*W+ah (l.getD i 0)))/W) 8=l'->∃j,j<l'.length/\l'.getD j 0=opp (l.getD i 0)
theorem GI (bl:Nat->Bool)(c:Int)(w1:1<=W):∃l,uO W H bl c l :=
 ⟨_,rfl,BX _ _ _ _ _ _,fun _ hi=>(kz hi).1,fun _ h0 hi=>GH h0 hi,fun _ hi=>⟨(jN w1 (kz hi).1 (kz hi).2).1,fun _ e=>e▸(jN w1 (kz hi).1 (kz hi).2).2⟩⟩
end
section
open Go.RowKit
theorem Cc {r:Int}(hr:c+(af d*W+ah d)=r)(w:PG)(g:bg w b W H V bl)(hd:d<8)(c1:-1000<=c)(c2:c<=1000) :
  PK prog 49 #[.pointer (OM ⟨b,0,Pk⟩),PE PF c,PE PF d] w fun e w'=>e=PM (PE PF r)/\w'=w:=by
 have:=Jr c d w g hd c1 c2;rw[show c+ah d+af d*W=r from by omega]at this;exact this
theorem Mb {r:Int}(hr:c+(af d*W+ah d)=r)(w:PG)(g:aw w b W H V bl)(s:az w)(hd:d<8)(c1:-1000<=c)(c2:c<=1000) :
  PK prog 154 #[.pointer (OM ⟨b,0,Pk⟩),PE PF c,PE PF d] w fun e w'=>e=PM (PE PF r)/\∃m,w'=w.drewN m:=hr▸GB c d w g s hd c1 c2
structure DU (w:PG) (g m:Nat) (W H V:Int) (bl:Nat->Bool):Prop where
 ga:aw w g W H V bl
 ra:bg w m W H V bl
 gl:g<w.heap.size
 ml:m<w.heap.size
 st:az w
 z:0<w.heap.size
theorem DU.below (h:DU w g m W H V bl)(hb:PI w.heap.size w w'):DU w' g m W H V bl :=
 ⟨h.ga.below hb h.gl,h.ra.below hb h.ml,MN h.gl hb.size,MN h.ml hb.size,h.st.below hb h.z,MN h.z hb.size⟩
theorem DU.drewN (h:DU w g m W H V bl)(k:Nat):DU (w.drewN k) g m W H V bl:=⟨h.ga.drewN k,h.ra.drewN k,h.gl,h.ml,h.st,h.z⟩
end
section
open Go.RowKit
def crB (W H:Int) (bl:Nat->Bool) (x y:Int) (k:Nat):Bool:=aM W H bl (x+ah k) y&&aM W H bl x (y+af k)&&!aM W H bl (x+ah k) (y+af k)
def gJ (W H:Int) (bl:Nat->Bool) (x y:Int):Bool:=(NX 4).any fun j=>crB W H bl x y (2*j+1)
def bj (W H:Int) (bl:Nat->Bool) (c:Int):Bool:=aM W H bl (c%W) (c/W)&&gJ W H bl (c%W) (c/W)
theorem pF (h:∀j,j<4->crB W H bl x y (2*j+1)=PB):gJ W H bl x y=false:=by
 unfold gJ;rw[List.any_eq_false];intro j hj;rw[h j (NR.1 hj)];simp
theorem fO {j:Nat}(hj:j<4)(h:crB W H bl x y (2*j+1)=Pm):gJ W H bl x y=true :=
 List.any_eq_true.2 ⟨j,NR.2 hj,h⟩
theorem DV (x y:Int)(w:PG)(g:aw w b W H V bl)(s:az w)(x1:-100<=x)(x2:x<=100)(y1:-100<=y)(y2:y<=100) :
  PK prog 188 #[.pointer (OM ⟨b,0,Pk⟩),PE PF x,PE PF y] w fun e w'=>e=PM (.bool (gJ W H bl x y))/\∃m,w'=w.drewN m:=by
 go_enter func188,ntmps188;go_wp2;go_loopg [7] (4:Nat) (fun gk dv wr=>∃i:Nat,i<=4/\gk=4-i/\dv=PE PF ((2*i+1:Nat):Int)/\(∀j,j<i->crB W H bl x y (2*j+1)=PB)/\∃m,wr=w.drewN m)
 case atStart=>exact⟨0,Nat.zero_le _,rfl,rfl,fun j hj=>absurd hj (by omega),0,rfl⟩
 case round =>
  obtain⟨i,hi,QD,rfl,Qe,m,rfl⟩:=hrel;by_cases PO:i<4
  ·have hd:2*i+1<8:=(by omega);obtain⟨s1,s2,s3,s4⟩:=fW (2*i+1);have hs:=fun w h=>gy (2*i+1) w h hd;have XR:crB W H bl x y (2*i+1)=(aM W H bl (x+ah (2*i+1)) y&&aM W H bl x (y+af (2*i+1))&&!aM W H bl (x+ah (2*i+1)) (y+af (2*i+1))):=rfl;generalize ah (2*i+1)=dx at *;generalize af (2*i+1)=dy at *;have go_on:crB W H bl x y (2*i+1)=PB->Hid (∀j,j<i+1->crB W H bl x y (2*j+1)=PB):=fun h j hj=>by
    by_cases e:j=i
    ·rw[e];exact h
    ·exact Qe j (by omega)
   clear Qe;cases hA:aM W H bl (x+dx) y with
   |false =>
    rw[hA]at XR;have HN:=go_on (by rw[XR];rfl);clear XR go_on;go_wp2_with (first|(go_at_call 151;refine(hs _ (s.drewN _)).mono ?_;rintro e w' ⟨rfl,m,rfl⟩)|(go_at_call 97;refine(fN (by assumption) _ (g.drewN _)).mono ?_;rintro e w' ⟨rfl,m,rfl⟩));go_roundg (4-(i+1))
    case measure=>omega
    case rel=>exact⟨i+1,by omega,rfl,by go_num,HN.out,_,rfl⟩
   |true =>
    cases hB:aM W H bl x (y+dy) with
    |false =>
     rw[hA,hB]at XR;have HN:=go_on (by rw[XR];rfl);clear XR go_on;go_wp2_with (first|(go_at_call 151;refine(hs _ (s.drewN _)).mono ?_;rintro e w' ⟨rfl,m,rfl⟩)|(go_at_call 97;refine(fN (by assumption) _ (g.drewN _)).mono ?_;rintro e w' ⟨rfl,m,rfl⟩));go_roundg (4-(i+1))
     case measure=>omega
     case rel=>exact⟨i+1,by omega,rfl,by go_num,HN.out,_,rfl⟩
    |true =>
     cases hC:aM W H bl (x+dx) (y+dy) with
     |true =>
      rw[hA,hB,hC]at XR;have HN:=go_on (by rw[XR];rfl);clear XR go_on;go_wp2_with (first|(go_at_call 151;refine(hs _ (s.drewN _)).mono ?_;rintro e w' ⟨rfl,m,rfl⟩)|(go_at_call 97;refine(fN (by assumption) _ (g.drewN _)).mono ?_;rintro e w' ⟨rfl,m,rfl⟩));go_roundg (4-(i+1))
      case measure=>omega
      case rel=>exact⟨i+1,by omega,rfl,by go_num,HN.out,_,rfl⟩
     |false =>
      rw[hA,hB,hC]at XR;have HT:Hid (gJ W H bl x y=Pm):=fO PO XR;clear XR go_on;go_wp2_with (first|(go_at_call 151;refine(hs _ (s.drewN _)).mono ?_;rintro e w' ⟨rfl,m,rfl⟩)|(go_at_call 97;refine(fN (by assumption) _ (g.drewN _)).mono ?_;rintro e w' ⟨rfl,m,rfl⟩));go_ret;exact⟨by rw[HT.out];rfl,_,rfl⟩
  ·have:i=4:=(by omega);subst this;have HT:Hid (gJ W H bl x y=PB):=pF Qe;clear Qe;go_wp2;go_ret;exact⟨by rw[HT.out];rfl,_,rfl⟩
theorem Cd (hr:gJ W H bl x y=r)(w:PG)(g:aw w b W H V bl)(s:az w)(x1:-100<=x)(x2:x<=100)(y1:-100<=y)(y2:y<=100) :
  PK prog 188 #[.pointer (OM ⟨b,0,Pk⟩),PE PF x,PE PF y] w fun e w'=>e=PM (.bool r)/\∃m,w'=w.drewN m:=hr▸DV x y w g s x1 x2 y1 y2
theorem dA (w1:1<=W)(hr:inB W H c=Pm):0<=c%W/\c%W<W/\0<=c/W/\c/W<H:=by
 have hc:0<=c/\c<W*H:=of_decide_eq_true hr;exact⟨Px _ (by omega),Pe _ (by omega),Py hc.1 (by omega),OP (by omega) (by rw[Oy];exact hc.2)⟩
theorem Mc {b:Nat}{W H V:Int}{bl:Nat->Bool}(c:Int)(w:PG)(g:aw w b W H V bl)(s:az w)(hr:inB W H c=Pm) :
  PK prog 149 #[.pointer (OM ⟨b,0,Pk⟩),PE PF c] w fun e w'=>e=PM (.tuple #[.bool (bj W H bl c),.nilIface])/\∃m,w'=w.drewN m:=by
 obtain⟨x1,x2,y1,y2⟩:=dA g.w1 hr;have gw:=g.w2;have gh:=g.h2;have hP:=fun w g=>dZ (b:=b) (W:=W) (H:=H) (V:=V) (bl:=bl) c w g hr;have hm:bj W H bl c=(aM W H bl (c%W) (c/W)&&gJ W H bl (c%W) (c/W)):=rfl;rw[hm];clear hm;generalize c%W=x at *;generalize c/W=y at *;cases hA:aM W H bl x y with
 |false =>
  simp only[N1];go_enter func149,ntmps149;go_wp2_with (first|(go_at_call 84;refine(hP _ g).mono ?_;rintro e w' ⟨rfl,m,rfl⟩)|(go_at_call 97;refine(fN (by assumption) _ (g.drewN _)).mono ?_;rintro e w' ⟨rfl,m,rfl⟩));go_ret2;exact⟨rfl,_,rfl⟩
 |true =>
  cases hB:gJ W H bl x y with
  |false =>
   simp only[Bool.and_false];go_enter func149,ntmps149;go_wp2_with (first|(go_at_call 84;refine(hP _ g).mono ?_;rintro e w' ⟨rfl,m,rfl⟩)|(go_at_call 97;refine(fN (by assumption) _ (g.drewN _)).mono ?_;rintro e w' ⟨rfl,m,rfl⟩)|(go_at_call 188;refine(Cd (by assumption) _ (g.drewN _) (s.drewN _) (by omega) (by omega) (by omega) (by omega)).mono ?_;rintro e w' ⟨rfl,m,rfl⟩));go_ret2;exact⟨rfl,_,rfl⟩
  |true =>
   simp only[Bool.and_true];go_enter func149,ntmps149;go_wp2_with (first|(go_at_call 84;refine(hP _ g).mono ?_;rintro e w' ⟨rfl,m,rfl⟩)|(go_at_call 97;refine(fN (by assumption) _ (g.drewN _)).mono ?_;rintro e w' ⟨rfl,m,rfl⟩)|(go_at_call 188;refine(Cd (by assumption) _ (g.drewN _) (s.drewN _) (by omega) (by omega) (by omega) (by omega)).mono ?_;rintro e w' ⟨rfl,m,rfl⟩));go_ret2;exact⟨rfl,_,rfl⟩
theorem Js (hc:bj W H bl c=r)(w:PG)(g:aw w b W H V bl)(s:az w)(hr:inB W H c=Pm) :
  PK prog 149 #[.pointer (OM ⟨b,0,Pk⟩),PE PF c] w fun e w'=>e=PM (.tuple #[.bool r,.nilIface])/\∃m,w'=w.drewN m:=hc▸Mc c w g s hr
def crs (W H:Int) (bl:Nat->Bool) (k:Nat):List Nat:=(NX k).filter fun c=>bj W H bl (c:Nat)
theorem xG (W H:Int)(bl:Nat->Bool)(k:Nat):crs W H bl (k+1)=crs W H bl k++(if bj W H bl (k:Nat) then [k] else []):=by
 unfold crs;rw[Pw,NQ];cases h:bj W H bl (k:Nat)<;>simp[h]
theorem fF (W H:Int)(bl:Nat->Bool)(k:Nat):(crs W H bl k).length<=k:=by
 unfold crs;have:=Nk (fun c:Nat=>bj W H bl (c:Nat)) (NX k)
 simpa using this
theorem Jt (w:PG)(g:aw w b W H V bl)(s:az w)(hb:b<w.heap.size) :
  PK prog 108 #[.pointer (OM ⟨b,0,Pk⟩)] w fun e w'=>∃v,e=PM v /\
   w'.ownsRow w.heap.size 3 1 v (crs W H bl (W*H).toNat).length (aH (crs W H bl (W*H).toNat))/\PI w.heap.size w w':=by
 obtain⟨i0,hi,P0,P3,Qd⟩:=info_parts Tryz.info3;obtain⟨k1,k2⟩:=bP g.w1 g.w2 g.h1 g.h2;go_enter func108,ntmps108;go_wp2_with (go_at_call 52;refine(gS _ g).mono ?_;rintro e w' ⟨rfl,m,rfl⟩);go_loopw [3,9] (fun v i wr=>∃k:Nat,(k:Int)<=W*H/\i=PE PF k/\wr.ownsRow w.heap.size 3 1 v (crs W H bl k).length (aH (crs W H bl k))/\PI w.heap.size w wr)
  (fun _ i _=>1000-(intOf i).toNat)
 case atStart=>exact⟨0,by omega,rfl,Nj _ _ _ _,below_drewN al _⟩
 case round =>
  obtain⟨k,hk,rfl,hown,Qu⟩:=hrel;have hl:=fF W H bl k;have gr:=g.below Qu hb;have sr:=s.below Qu (by omega);have QC:=Qu.size;by_cases PO:(k:Int)<W*H
  ·have Q3:=xG W H bl k;have PY:inB W H (k:Nat)=true:=decide_eq_true ⟨by omega,PO⟩;cases hM:bj W H bl (k:Nat) with
   |false =>
    rw[hM]at Q3;have h0:crs W H bl (k+1)=crs W H bl k:=by simpa using Q3
    have HS:=ae h0;clear h0;clear Q3;go_wp2_with (go_at_call 149;refine(Js hM _ gr sr PY).mono ?_;rintro e w' ⟨rfl,m,rfl⟩);go_roundw
    case rel=>exact⟨k+1,by omega,by go_num,by rw[HS.out];exact hown,below_drewN Qu _⟩
    case measure=>simp[intOf];omega
   |true =>
    rw[hM]at Q3;have h0:crs W H bl (k+1)=crs W H bl k++[k]:=by simpa using Q3
    have HS:=ae h0;clear h0;clear Q3;go_wp2_with (first|(go_at_call 149;refine(Js hM _ gr sr PY).mono ?_;rintro e w' ⟨rfl,m,rfl⟩)|(at_builtin;refine wpList_append_own _ rfl _ _ 51 rfl w.heap.size 3 i0 (PE PF 0) 1 8 underlying51 hi P0 P3 Qd rfl (by decide) _ _ _ rfl (World.ownsRow.alloc hown _) ⟨wr.heap.size,0,Pk⟩ 1 1 [PE PF k] rfl rfl ?c1 ?c2 ?c3 ?c4 ?c5 ?_))
    case c1 =>
     intro j u hj
     match j,hj with
     |0,hj =>
      simp at hj;subst hj;simp only[Addr.add];exact ME (w:=wr.drewN m) #[PE PF k] 3 wr.heap.size 0 rfl
    case c2=>intro u hu;simp at hu;subst hu;rfl
    case c3=>unfold maxLen;omega
    case c4=>omega
    case c5=>simp;omega
    intro v' w1 PS PR _;have PX:=fun q hq=>(hown.lt q hq).1;have B1:PI w.heap.size w w1:=((below_drewN Qu m).alloc QC _).grown PR (by simp;omega) PX;have O1:w1.ownsRow w.heap.size 3 1 v' (crs W H bl (k+1)).length (aH (crs W H bl (k+1))):=by
     rw[HS.out]
     simpa [aH]using PS
    clear PS PR hown Qu gr sr;go_wp2;go_roundw
    case rel=>exact⟨k+1,by omega,by go_num,O1,B1⟩
    case measure=>simp[intOf];omega
  ·have e:(W*H).toNat=k:=(by omega);have HE:=ae e;clear e;go_wp2;go_ret;exact⟨_,rfl,by rw[HE.out];exact hown,Qu⟩
end
section
open Go.RowKit
theorem xH (w:PG):(Instr.alloc 136 Pm (.tuple #[])).run prog w=.ok (.pointer (OM ⟨w.heap.size,0,Pk⟩)) (w.alloc (.cells (eL 0 0) 136)):=by kernel_rfl
theorem rh {ops:Array Oper}{rest:List Oper}{o:Oper}{a:Act}{Q:Exit->Act->PG->Prop}(Tn:o.guard=Pk)(ho:o.op=.alloc 136)
  (h:wpList prog ops Q rest (a.put o.dst (.pointer (OM ⟨w.heap.size,0,Pk⟩))) (w.alloc (.cells (eL 0 0) 136))):wpList prog ops Q (o::rest) a w :=
 wpList_plain Tn fun _ hK=>by
  unfold Oper.wp execOp;simp only[ho,Sem.run_bind,xH w,Result.andThen_ok];exact hK _ _ h
def fK (W H V:Int) (bl:Nat->Bool):List Value:=[PE PF W,PE PF H,PE PF V]++(NX 256).map fun i=>Value.bool (bl i)
theorem tG (W H V:Int)(bl:Nat->Bool):(fK W H V bl).length=259:=by unfold fK;simp
theorem xI (W H V:Int)(bl:Nat->Bool)(i:Nat)(hi:i<256):(fK W H V bl)[3+i]? = OM (.bool (bl i)):=by
 unfold fK;rw[List.getElem?_append_right (by simp)];simp[hi]
theorem DW (W H V:Int)(bl:Nat->Bool):∀v∈fK W H V bl,v.oneCell'=true:=by
 intro v hv;unfold fK at hv;simp only[List.mem_append,List.mem_cons,List.mem_map,List.not_mem_nil,or_false]at hv;rcases hv with (rfl|rfl|rfl)|⟨i,_,rfl⟩<;>rfl
theorem aw.range (g:aw w b W H V bl):w.rangeAt b 0 (fK W H V bl):=by
 intro j v hj;rw[M8];have PO:j<259:=by
  have:=(List.getElem?_eq_some_iff.1 hj).1;rw[tG]at this;exact this
 by_cases h:j<3
 ·have hc:j=0\/j=1\/j=2:=by omega
  unfold fK at hj;rw[Nd (by simpa using h)]at hj;rcases hc with rfl|rfl|rfl
  ·simp at hj;rw[<- hj];exact g.c0
  ·simp at hj;rw[<- hj];exact g.c1
  ·simp at hj;rw[<- hj];exact g.c2
 ·obtain⟨i,rfl⟩:∃i,j=3+i:=⟨j-3,by omega⟩;rw[xI _ _ _ _ i (by omega)]at hj;have:v=.bool (bl i):=(Option.some.inj hj).symm;rw[this];exact g.cs i (by omega)
theorem uP (h:w.rangeAt b 0 (fK W H V bl))(w1:1<=W)(w2:W<=16)(h1:1<=H)(h2:H<=16):aw w b W H V bl:=by
 have at_:∀j v,(fK W H V bl)[j]? = OM v->w.cell? ⟨b,j,Pk⟩=OM v:=fun j v hj=>by have:=h j v hj;rw[M8]at this;exact this
 refine⟨w1,w2,h1,h2,at_ 0 _ ?_,at_ 1 _ ?_,at_ 2 _ ?_,fun i hi=>at_ (3+i) _ (xI W H V bl i hi)⟩
 ·unfold fK;rw[Nd (by simp)];rfl
 ·unfold fK;rw[Nd (by simp)];rfl
 ·unfold fK;rw[Nd (by simp)];rfl
theorem Af (W H:Int):(eL W H).size=259:=by unfold eL;simp
theorem DX (w:PG):(w.alloc (.cells (eL 0 0) 136)).there w.heap.size 0 259:=by
 intro j hj;rw[M8,MP,Array.getElem?_eq_getElem (by rw[Af];exact hj)];exact⟨rfl,bE w _ _ _ aj j⟩
theorem bW {a:PG}(b:Nat)(hb:B<=b):∀(vs:List Value) (o:Nat) {w:PG},PI B a w->PI B a (w.setCells b o vs)
 |[],_,_,h=>h
 |v::r,o,_,h=>bW b hb r (o+1) (h.setCell (p:=⟨b,o,Pk⟩) hb v)
theorem xJ {o:Nat}{v:Value}(h:w.cell? ⟨b,o,Pk⟩=OM v):b<w.heap.size:=by
 by_cases hb:b<w.heap.size
 ·exact hb
 ·unfold World.cell? at h;rw[Oz (by simpa using hb)]at h;simp at h
theorem GJ:(prog.info? 136).map (·.size)=OM 259:=by kernel_rfl
theorem kB (w:PG)(g:aw w b W H V bl) :
  PK prog 80 #[.pointer (OM ⟨b,0,Pk⟩)] w fun e w'=>e=PM (.pointer (OM ⟨w.heap.size,0,Pk⟩))/\PI w.heap.size w w'/\w.heap.size<w'.heap.size/\aw w' w.heap.size W H V bl/\gz w' w.heap.size:=by
 have hr:=g.range;have hl:=tG W H V bl;have h1:=DW W H V bl;have w1:=g.w1;have w2:=g.w2;have h3:=g.h1;have h4:=g.h2;have ht:=DX w;have hB:PI w.heap.size w ((w.alloc (.cells (eL 0 0) 136)).setCells w.heap.size 0 (fK W H V bl)):=bW _ aj _ _ (al.alloc aj _);have hG:aw ((w.alloc (.cells (eL 0 0) 136)).setCells w.heap.size 0 (fK W H V bl)) w.heap.size W H V bl:=uP (World.rangeAt_setCells_same _ _ _ _ (by rw[hl];exact ht)) w1 w2 h3 h4;have hF:gz ((w.alloc (.cells (eL 0 0) 136)).setCells w.heap.size 0 (fK W H V bl)) w.heap.size:=fun o=>by rw[World.frozen?_setCells];exact bE w _ _ _ aj o
 have hZ:w.heap.size<((w.alloc (.cells (eL 0 0) 136)).setCells w.heap.size 0 (fK W H V bl)).heap.size:=xJ hG.c0;clear w1 w2 h3 h4 g;generalize fK W H V bl=cs at *;go_enter func80,ntmps80;go_wp2_with (first|(refine wpList_load_mid rfl 136 _ rfl b 0 rfl cs _ hr underlying136 rfl (by rw[hl];exact GJ) ?_)|(refine rh rfl rfl ?_)|(refine wpList_store_mid rfl 136 _ _ rfl w.heap.size 0 cs.toArray rfl rfl (by simpa [hl]using ht) (by simpa [hl]using GJ) (all_oneCell_toArray h1) ?_));go_ret;exact⟨rfl,hB,hZ,hG,hF⟩
end
end Go.Proofs.YtmaefimaeelkbaaGreatDoor
