/- Texts laid together. -/
import Derived.Test.YtikdmenjibkgiaaGreatDoorProg
import Derived.Below
import Derived.KernelRfl
import Derived.IntWalk
import Derived.Deep.Draws
import Derived.WalkKit
import Derived.WalkSpells
import Derived.WalkLawsBesides
import Derived.Deep.QuietTactic
import Derived.BigQuiet
import Derived.Deep.LoopGhost
import Derived.Deep.Light
namespace Go.Proofs.YtikdmenjibkgiaaGreatDoor
open Go.World renaming block_lt_of_cell?->SZ,cell?_alloc_new->Tb,cell?_setCell_other->SY,cell?_setCell_same->Tf,cell?->D,alloc->E,setCell->C',ownsRow->G'
open _root_.Int renaming mul_nonneg->UL,neg_mul->UO,mul_le_mul_of_nonneg_right->Uq,add_mul->Ul,mul_comm->U4,add_comm->T9
open Go.IntKind renaming i64->U1
open _root_.List renaming getD_eq_getElem?_getD->Tt,getElem?_eq_none->US,length->K
open _root_.Bool renaming false_and->Un,true_and->Ux
open _root_.Array renaming getElem?_append_right->U5,getElem?_append_left->Uy,size->G
open Go.Proofs.Tryz
open _root_.Option renaming some->Z,none->UP
open _root_.Bool renaming true->Q,false->Vl
open Go renaming World->M,Value->Vr,Calls->VB,bodyPost_ret->Vxl
open Go.RowKit renaming Below->Vw
open Go.Ending renaming returned->VJ
variable {p:Prop}{w I:M}{a c W H V y x:Int}{n b B k i:Nat}{r:Bool}
set_option maxHeartbeats 8000000
set_option maxRecDepth 1000000
open Go.RowKit
theorem bX (h:p):Hid p:=h
theorem aB {a:Addr}{v:Vr}(h:D w a=Z v):a.block<G w.heap:=SZ w a h
theorem al {b:M}{a:Addr}{v:Vr}(h:Vw (G w.heap) w b)(k:D w a=Z v):D b a=Z v:=(h.cell (SZ _ _ k)).trans k
theorem QJ {a:Addr}{v:Vr}(n:Nat)(h:D w a=Z v):D (w.drewN n) a=Z v:=h
theorem mA {a:Addr}{v:Vr}(h:D w a=Z v):D w.drew a=Z v:=h
theorem mB (w:M)(o:Obj):Vw (G w.heap) w (w.alloc o):=(Below.refl _ _).alloc (Nat.le_refl _) _
theorem wB (w:M):Vw (G w.heap) w w.drew:=(Below.refl _ _).drew
theorem ae :Vw n w w:=Below.refl _ _
theorem aa :n<=n:=Nat.le_refl _
theorem aj {a b c:M}(h:Vw (G a.heap) a b)(k:Vw (G b.heap) b c):Vw (G a.heap) a c:=h.trans (k.mono h.size)
theorem qH (h:p):Hid p:=h
theorem U (h:p:=by omega):p:=h
theorem dQ (h:p:=by decide):p:=h
theorem kQ (h:p:=by kernel_rfl):p:=h
theorem sQ (h:p:=by simp):p:=h
theorem sU (h:p:=by simp;omega):p:=h
theorem mQ (h:p:=by unfold maxLen;omega):p:=h
theorem aQ (h:p:=by assumption):p:=h
theorem gQ (h:p:=by go_num):p:=h
theorem Oq {q:Prop}(h:q)(k:q->p:=by intro;omega):p:=k h
theorem Q1  [Decidable p] (h:decide p=Q):p:=of_decide_eq_true h
theorem Q2  [Decidable p] (h:p):decide p=true:=decide_eq_true h
theorem Q3  [Decidable p] (h:¬p):decide p=false:=decide_eq_false h
theorem Q4 {α:Type _} [BEq α] [LawfulBEq α] {a b:α}:(a==b)=Vl↔a≠b:=beq_eq_false_iff_ne
theorem Q5 {c:Prop}{h:Decidable c}(a:c){α:Sort _}{t e:α}:ite c t e=t:=if_pos a
theorem Q6 {c:Prop}{h:Decidable c}(a:¬c){α:Sort _}{t e:α}:ite c t e=e:=if_neg a
theorem Q7 {α:Sort _}{β:Sort _}{a b:α}(f:α->β)(h:a=b):f a=f b:=congrArg f h
theorem Q8 {a b:Prop}(h:a)(k:¬a):b:=absurd h k
theorem Q9 {P:Program}{f:FuncId}{c:Array Vr}{v:Vr}{R:M->Prop}{d:Ending->M->Prop}(h:VB P f c w λ e I=>e=VJ v/\R I)(k:∀I,R I->d (VJ v) I):VB P f c w d:=h.mono λ e I ⟨a,b⟩=>by subst a;exact k I b
theorem Q0 {P:Program}{f:FuncId}{c:Array Vr}{u:M}{v:Vr}{d:Ending->M->Prop}(h:VB P f c w λ e I=>e=VJ v/\I=u)(k:d (VJ v) u):VB P f c w d:=h.mono λ e I ⟨a,b⟩=>by subst a b;exact k
theorem QQ {P:Program}{f:FuncId}{c:Array Vr}{u:M}{v:Vr}{d:Ending->M->Prop}(h:VB P f c w λ e I=>e=VJ v/\∃m,I=u.drewN m)(k:∀m,d (VJ v) (u.drewN m)):VB P f c w d:=h.mono λ e I ⟨a,m,b⟩=>by subst a b;exact k m
abbrev Lu:=List UInt8
abbrev Ln:=List Nat
abbrev Oi:=Option (Int×Int)
abbrev Oa:=Option Addr
abbrev Bn:=Nat->Bool
abbrev J (x:Int):Value:=.int .i64 x
abbrev O (b o:Nat):Addr:=⟨b,o,UP⟩
abbrev Pq (b:Nat):Value:=.pointer (Z ⟨b,0,UP⟩)
abbrev Bq (w I:M):Prop:=Vw (G w.heap) w I
abbrev Cq (w:M) (b o:Nat) (v:Vr):Prop:=D w ⟨b,o,UP⟩=Z v
abbrev Zq (f:FuncId) (args:Array Vr) (w:M) (Q9:Ending->M->Prop):Prop:=VB prog f args w Q9
abbrev Rq (f:FuncId) (args:Array Vr) (w:M) (v:Vr):Prop:=Zq f args w λ e I=>e=VJ v/\Bq w I
abbrev Dq (f:FuncId) (args:Array Vr) (w:M) (v:Vr):Prop:=Zq f args w λ e I=>e=VJ v/\∃m,I=w.drewN m
abbrev Eq9 (f:FuncId) (args:Array Vr) (w:M) (v:Vr):Prop:=Zq f args w λ e I=>e=VJ v/\I=w
structure cJ (w:M) where
 u:M
 h:Vw (G w.heap) w u
theorem gB (w:M):Nonempty (cJ w):=⟨⟨w,ae⟩⟩
theorem cJ.cell (x:cJ w)(b o:Nat)(a:b<G w.heap):D x.u (O b o)=D w (O b o):=x.h.cell (p:=O b o) a
theorem bF {P:Program}{id:Nat}{Q9:Exit->Act->M->Prop}{a:Act}{l:List Oper}(b:P.follows .mixedOrders=Q)(c:Region.lexB .any l.toArray=Q)
  (h:wpQuiet P l.toArray (λ I=>∃x:cJ w,I=x.u) (λ d=>∀I,(∃x:cJ w,I=x.u)->Q9 .normal d I) l a):(Code.region id l.toArray Q).wp P Q9 a w :=
 wp_region_quiet (C:=λ I=>∃x:cJ w,I=x.u) b c ⟨⟨{ w with drawn:=w.drawn+1 },(Below.refl _ w).drew⟩,rfl⟩ (by simpa using h)
theorem Calls.Vxe {P:Program}{f:FuncId}{a:Array Vr}{x:cJ w}{v:Vr}
  (h:VB P f a x.u λ e I=>e=VJ v/\Bq x.u I):VB P f a x.u λ e d=>e=VJ v/\∃y:cJ w,d=y.u :=
 h.mono λ _ I ⟨b,c⟩=>⟨b,⟨I,x.h.trans (c.mono x.h.size)⟩,rfl⟩
theorem Jk {W a:M}(c:Bq W a):(∀b o,b<G W.heap->D a (O b o)=D W (O b o))/\(∀b o,b<G W.heap->a.frozen? (O b o)=W.frozen? (O b o)):=by grind [Go.RowKit.Below.cell,Go.RowKit.Below.frozen]
theorem QK (v:Vr)(w:M):(Instr.typeAssert (.iface 42 v) 25 42 Q).run prog w=.ok (.tuple #[v,.bool Q]) w:=kQ
structure aq (w:M) (b:Nat) (W H V:Int) (Y:Bn):Prop where
 w1:1<=W
 w2:W<=16
 h1:1<=H
 h2:H<=16
 c0:D w (O b 0)=Z (J W)
 c1:D w (O b 1)=Z (J H)
 c2:D w (O b 2)=Z (J V)
 cs:∀i,i<256->D w (O b (3+i))=Z (.bool (Y i))
theorem bG (d:1<=W)(c:W<=16)(f:1<=H)(e:H<=16):1<=W*H/\W*H<=256:=by
 have a:=Int.mul_le_mul d f U U;have b:=Int.mul_le_mul c e U U;omega
theorem iX {Y:Bn}(w:M)(g:aq w b W H V Y) :
  Dq 97 #[Pq b] w (J (W*H)):=by
 obtain⟨c,a,e,d,l,k,j,i⟩:=g;obtain⟨h,f⟩:=bG c a e d;go_enter func97,ntmps97;go_wp2;go_quiet (fail);go_wp2;go_ret;exact⟨rfl,_,rfl⟩
def inB (W H c:Int):Bool:=decide (0<=c/\c<W*H)
theorem zD {Y:Bn}(c:Int)(w:M)(g:aq w b W H V Y) :
  Dq 170 #[Pq b,J c] w (.bool (inB W H c)):=by
 by_cases h:0<=c
 ·by_cases k:c<W*H
  ·rw[show inB W H c=Q from Q2 ⟨h,k⟩];go_enter func170,ntmps170;go_wp2_with (go_at_call 97;refine QQ (iX _ g) λ m=>?_);go_ret;exact⟨rfl,_,rfl⟩
  ·rw[show inB W H c=Vl from Q3 λ q=>k q.2];have a:decide (c<W*H)=false:=Q3 k;go_enter func170,ntmps170;go_wp2_with (go_at_call 97;refine QQ (iX _ g) λ m=>?_);go_ret;exact⟨rfl,_,rfl⟩
 ·rw[show inB W H c=Vl from Q3 λ q=>h q.1];go_enter func170,ntmps170;go_wp2;go_ret;exact⟨rfl,0,rfl⟩
def atB (W H x y:Int):Bool:=decide (0<=x/\x<W/\0<=y/\y<H)
theorem iR {Y:Bn}(x y:Int)(w:M)(g:aq w b W H V Y) :
  Eq9 207 #[Pq b,J x,J y] w (.bool (atB W H x y)):=by
 obtain⟨d,c,l,k,p,o,n,m⟩:=g;have a:(0<=x/\x<W/\0<=y/\y<H)\/(¬0<=x)\/(0<=x/\¬x<W)\/(0<=x/\x<W/\¬0<=y)\/(0<=x/\x<W/\0<=y/\¬y<H):=U;rcases a with h|h|h|h|h
 ·rw[show atB W H x y=Q from Q2 h];obtain⟨j,i,f,e⟩:=h;go_enter func207,ntmps207;go_wp2;go_ret;exact⟨rfl,rfl⟩
 all_goals
  rw[show atB W H x y=Vl from Q3 U];go_enter func207,ntmps207;go_wp2;go_ret;exact⟨rfl,rfl⟩
theorem Ev (f:1<=W)(c:W<=16)(e:-100<=y)(d:y<=100):-1600<=y*W/\y*W<=1600:=by
 rcases Int.le_total 0 y with h|h
 have a:=UL h (show 0<=W by omega);have b:=Int.mul_le_mul d c U U;omega;have a:=UL (show 0<=-y by omega) (show 0<=W by omega);have b:=Int.mul_le_mul (show -y<=100 by omega) c U U;rw[UO]at a b;omega
theorem pg {Y:Bn}(x y:Int)(w:M)(g:aq w b W H V Y)(h:-100<=x)(f:x<=100)(c:-100<=y)(a:y<=100) :
  Eq9 208 #[Pq b,J x,J y] w (J (y*W+x)):=by
 obtain⟨e,d,l,k,p,o,n,m⟩:=g;obtain⟨j,i⟩:=Ev e d c a;go_enter func208,ntmps208;go_wp2;go_ret;exact⟨rfl,rfl⟩
def aM (W H:Int) (Y:Bn) (x y:Int):Bool:=atB W H x y&&!Y (y*W+x).toNat
theorem Cy (e:1<=W)(d:W<=16)(g:1<=H)(f:H<=16)(j:0<=x)(i:x<W)(c:0<=y)(h:y<H):0<=y*W+x/\y*W+x<W*H/\y*W+x<256:=by
 have k:=bG e d g f;have a:=UL c (show 0<=W by omega);have b:y*W+W<=H*W:=by
  have:=Uq (show y+1<=H by omega) (show 0<=W by omega);rw[Ul,Int.one_mul]at this;exact this
 rw[U4 H W]at b;omega
theorem Jl {Y:Bn}(x y:Int)(w:M)(g:aq w b W H V Y) :
  Dq 155 #[Pq b,J x,J y] w (.bool (aM W H Y x y)):=by
 by_cases h:0<=x/\x<W/\0<=y/\y<H
 ·have a:atB W H x y=true:=Q2 h;have e:aM W H Y x y=!Y (y*W+x).toNat:=by unfold aM;rw[a];rfl
  rw[e];clear e;obtain⟨q,p,o,l⟩:=h;obtain⟨s,r,j⟩:=Cy g.w1 g.w2 g.h1 g.h2 q p o l;have z:=g.w1;have t:=g.w2;have u:=g.h2;have d:∀w:M,aq w b W H V Y->Eq9 207 #[Pq b,J x,J y] w (.bool Q):=λ w g=>a▸iR x y w g;have k:=g.cs (y*W+x).toNat U;obtain⟨n,f⟩:∃n:Nat,y*W+x=n:=⟨(y*W+x).toNat,U⟩;have c:∀m,aq (w.drewN m) b W H V Y:=λ m=>⟨g.w1,g.w2,g.h1,g.h2,g.c0,g.c1,g.c2,g.cs⟩;have i:∀w:M,aq w b W H V Y->Eq9 208 #[Pq b,J x,J y] w (J n):=λ w g=>f▸pg x y w g U U U U;rw[f]at k s j ⊢;simp only[Int.toNat_natCast]at k ⊢;have v:(n:Int)<256:=j;clear f r a;go_enter func155,ntmps155;go_wp2;go_quiet (first|(go_at_call 207;exact Calls.quiet_of_same (d _ (c _)))|(go_at_call 208;exact Calls.quiet_of_same (i _ (c _))));go_wp2;go_ret;exact⟨rfl,_,rfl⟩
 ·have a:atB W H x y=false:=Q3 h;have e:aM W H Y x y=false:=by unfold aM;rw[a];rfl
  rw[e];clear e;have d:∀w:M,aq w b W H V Y->Eq9 207 #[Pq b,J x,J y] w (.bool Vl):=λ w g=>a▸iR x y w g;have c:∀m,aq (w.drewN m) b W H V Y:=λ m=>⟨g.w1,g.w2,g.h1,g.h2,g.c0,g.c1,g.c2,g.cs⟩;clear a h;go_enter func155,ntmps155;go_wp2;go_quiet ((go_at_call 207;exact Calls.quiet_of_same (d _ (c _))));go_wp2;go_ret;exact⟨rfl,_,rfl⟩
def ah (d:Nat):Int:=[0,1,1,1,0,-1,-1,-1].getD d 0
def af (d:Nat):Int:=[-1,-1,0,1,1,1,0,-1].getD d 0
def az (w:M):Prop:=∀i,i<8->D w (O 3 (2*i))=Z (J (ah i))/\D w (O 3 (2*i+1))=Z (J (af i))
theorem ij (d:Nat)(w:M)(h:az w)(e:d<8) :
  Dq 171 #[J d] w (.tuple #[J (ah d),J (af d)]):=by
 obtain⟨a,b⟩:=h d e;have n:bits BinOp.and U1 0 7=0:=dQ;have m:bits BinOp.and U1 1 7=1:=dQ;have l:bits BinOp.and U1 2 7=2:=dQ;have k:bits BinOp.and U1 3 7=3:=dQ;have j:bits BinOp.and U1 4 7=4:=dQ;have i:bits BinOp.and U1 5 7=5:=dQ;have g:bits BinOp.and U1 6 7=6:=dQ;have f:bits BinOp.and U1 7 7=7:=dQ;have c:d=0\/d=1\/d=2\/d=3\/d=4\/d=5\/d=6\/d=7:=U;clear h;rcases c with rfl|rfl|rfl|rfl|rfl|rfl|rfl|rfl
 all_goals
  simp[ah,af]at a b;go_enter func171,ntmps171;go_wp2;go_quiet (fail);go_wp2;go_ret2;exact⟨rfl,_,rfl⟩
theorem aq.drewN {Y:Bn}(g:aq w b W H V Y)(m:Nat):aq (w.drewN m) b W H V Y:=⟨g.w1,g.w2,g.h1,g.h2,g.c0,g.c1,g.c2,g.cs⟩
theorem az.drewN (h:az w)(m:Nat):az (w.drewN m):=h
def bu (W H:Int) (Y:Bn) (x y:Int) (d:Nat):Bool:=aM W H Y x y&&aM W H Y (x+ah d) (y+af d)&&aM W H Y (x+ah d) y&&aM W H Y x (y+af d)
theorem gX (d:Nat):-1<=ah d/\ah d<=1/\-1<=af d/\af d<=1:=by
 by_cases h:d<8;have a:d=0\/d=1\/d=2\/d=3\/d=4\/d=5\/d=6\/d=7:=U;rcases a with rfl|rfl|rfl|rfl|rfl|rfl|rfl|rfl<;>decide
 have c:ah d=0:=by unfold ah;rw[Tt,US sU];rfl
 have b:af d=0:=by unfold af;rw[Tt,US sU];rfl
 omega
theorem gK {Y:Bn}(a:aM W H Y x y=r)(w:M)(g:aq w b W H V Y) :
  Dq 155 #[Pq b,J x,J y] w (.bool r):=a▸Jl x y w g
theorem Nc {Y:Bn}(x y:Int)(d:Nat)(w:M)(g:aq w b W H V Y)(s:az w)(n:d<8)(r:-100<=x)(q:x<=100)(p:-100<=y)(o:y<=100) :
  Dq 173 #[Pq b,J x,J y,J d] w (.bool (bu W H Y x y d)):=by
 obtain⟨z,v,u,t⟩:=gX d;have c:=λ w h=>ij d w h n;have a:bu W H Y x y d=(aM W H Y x y&&aM W H Y (x+ah d) (y+af d)&&aM W H Y (x+ah d) y&&aM W H Y x (y+af d)):=rfl;generalize ah d=l at *;generalize af d=k at *;cases e:aM W H Y x y with
 |false =>
  rw[a,e];simp only[Un];clear a;go_enter func173,ntmps173;go_wp2_with (first|(go_at_call 171;refine QQ (c _ s) λ m=>?_)|(go_at_call 155;refine QQ (gK aQ _ (g.drewN _)) λ m=>?_));go_ret;exact⟨rfl,_,rfl⟩
 |true =>
  cases f:aM W H Y (x+l) (y+k) with
  |false =>
   rw[a,e,f];simp only[Ux,Un];clear a;go_enter func173,ntmps173;go_wp2_with (first|(go_at_call 171;refine QQ (c _ s) λ m=>?_)|(go_at_call 155;refine QQ (gK aQ _ (g.drewN _)) λ m=>?_));go_ret;exact⟨rfl,_,rfl⟩
  |true =>
   cases i:aM W H Y (x+l) y with
   |false =>
    rw[a,e,f,i];simp only[Ux,Un];clear a;go_enter func173,ntmps173;go_wp2_with (first|(go_at_call 171;refine QQ (c _ s) λ m=>?_)|(go_at_call 155;refine QQ (gK aQ _ (g.drewN _)) λ m=>?_));go_ret;exact⟨rfl,_,rfl⟩
   |true =>
    cases j:aM W H Y x (y+k) with
    |false =>
     rw[a,e,f,i,j];simp only[Ux];clear a;go_enter func173,ntmps173;go_wp2_with (first|(go_at_call 171;refine QQ (c _ s) λ m=>?_)|(go_at_call 155;refine QQ (gK aQ _ (g.drewN _)) λ m=>?_));go_ret;exact⟨rfl,_,rfl⟩
    |true =>
     rw[a,e,f,i,j];simp only[Ux];clear a;go_enter func173,ntmps173;go_wp2_with (first|(go_at_call 171;refine QQ (c _ s) λ m=>?_)|(go_at_call 155;refine QQ (gK aQ _ (g.drewN _)) λ m=>?_));go_ret;exact⟨rfl,_,rfl⟩
theorem iY {Y:Bn}(a:inB W H c=r)(w:M)(g:aq w b W H V Y) :
  Dq 170 #[Pq b,J c] w (.bool r):=a▸zD c w g
theorem eK {Y:Bn}(c:Int)(w:M)(g:aq w b W H V Y)(a:inB W H c=Q) :
  Dq 123 #[Pq b,J c] w (.tuple #[J (c%W),J (c/W),.nilIface]):=by
 have d:0<=c/\c<W*H:=Q1 a;obtain⟨k,j⟩:=bG g.w1 g.w2 g.h1 g.h2;have f:=g.w1;have e:=g.w2;have l:=g.c0;obtain⟨i,h⟩:=d;go_enter func123,ntmps123;go_wp2_with (go_at_call 170;refine QQ (iY a _ g) λ m=>?_);go_quiet (fail);go_wp2;go_ret3;exact⟨rfl,_,World.drewN_drewN _ _ _⟩
theorem Ga {Y:Bn}(c:Int)(w:M)(g:aq w b W H V Y)(a:inB W H c=Vl) :
  Dq 123 #[Pq b,J c] w (.tuple #[J 0,J 0,.iface 42 (J 1)]):=by
 go_enter func123,ntmps123;go_wp2_with (go_at_call 170;refine QQ (iY a _ g) λ m=>?_);go_ret3;exact⟨rfl,_,rfl⟩
theorem Jm {b:Nat}{W H V:Int}{Y:Bn}(c:Int)(d:Nat)(w:M)(g:aq w b W H V Y)(s:az w)(f:d<8)(c1:-1000<=c)(c2:c<=1000) :
  Dq 174 #[Pq b,J c,J d] w (J (c+(af d*W+ah d))):=by
 obtain⟨l,k,j,i⟩:=gX d;obtain⟨o,n⟩:=Ev g.w1 g.w2 (show -100<=af d by omega) U;have a:=λ w h=>ij d w h f;have e:=λ w g=>pg (b:=b) (W:=W) (H:=H) (V:=V) (Y:=Y) (ah d) (af d) w g U U U U;generalize ah d=q at *;generalize af d=p at *;go_enter func174,ntmps174;go_wp2_with (first|(go_at_call 171;refine QQ (a _ s) λ m=>?_)|(go_at_call 208;refine Q0 (e _ (g.drewN _)) ?_));go_ret;exact⟨rfl,_,rfl⟩
def mvs (W H:Int) (Y:Bn) (x y:Int) (k:Nat):Ln:=(List.range k).filter (bu W H Y x y)
theorem Jn (W H:Int)(Y:Bn)(x y:Int)(k:Nat):mvs W H Y x y (k+1)=mvs W H Y x y k++(if bu W H Y x y k then [k] else []):=by grind [mvs,bu,List.range_succ,List.filter_cons_of_neg,Bool.false_eq_true,not_false_eq_true,List.filter_cons_of_pos]
theorem Ew (W H:Int)(Y:Bn)(x y:Int)(k:Nat):K (mvs W H Y x y k)<=k:=by grind [mvs,List.length_filter_le,bu,List.range]
abbrev aH (l:Ln):List Value:=l.map λ d:Nat=>J (d:Int)
theorem wC {Y:Bn}{d:Nat}(h:bu W H Y x y d=r)(w:M)(g:aq w b W H V Y)(s:az w)(i:d<8)(f:-100<=x)(e:x<=100)(c:-100<=y)(a:y<=100) :
  Dq 173 #[Pq b,J x,J y,J d] w (.bool r):=h▸Nc x y d w g s i f e c a
theorem aq.below {Y:Bn}(g:aq w b W H V Y)(a:Vw B w I)(h:b<B):aq I b W H V Y :=
 ⟨g.w1,g.w2,g.h1,g.h2,(a.cell (p:=O b 0) h).trans g.c0,(a.cell (p:=O b 1) h).trans g.c1,(a.cell (p:=O b 2) h).trans g.c2,λ i c=>(a.cell (p:=O b (3+i)) h).trans (g.cs i c)⟩
theorem az.below (s:az w)(b:Bq w I)(_h:0<G w.heap):az I :=
 λ i a=>⟨(b.cell (p:=O 3 (2*i)) (SZ w _ (s i a).1)).trans (s i a).1,(b.cell (p:=O 3 (2*i+1)) (SZ w _ (s i a).2)).trans (s i a).2⟩
theorem Tryz.Vxg:(Tryz.prog.info? 3).map (λ i=>(i.zero,i.size,i.bytes))=Z (Z (J 0),1,8):=kQ
def aT (n:Int):Bool:=decide (1<=n/\n<=16)
theorem Cz (n:Int)(w:M) :
  Eq9 75 #[J n] w (.bool (aT n)):=by
 by_cases h:1<=n
 ·by_cases k:n<=16
  ·rw[show aT n=Q from Q2 ⟨h,k⟩];go_enter func75,ntmps75;go_wp2;go_ret;exact⟨rfl,rfl⟩
  ·rw[show aT n=Vl from Q3 λ q=>k q.2];go_enter func75,ntmps75;go_wp2;go_ret;exact⟨rfl,rfl⟩
 ·rw[show aT n=Vl from Q3 λ q=>h q.1];go_enter func75,ntmps75;go_wp2;go_ret;exact⟨rfl,rfl⟩
theorem zE {n:Int}(a:aT n=r)(w:M) :
  Eq9 75 #[J n] w (.bool r):=a▸Cz n w
theorem Ex (W H:Int)(w:M)(h:aT W=Vl\/(aT W=Q/\aT H=Vl)) :
  Eq9 45 #[J W,J H] w (.tuple #[.pointer UP,.iface 42 (J 1)]):=by
 rcases h with h|⟨h,k⟩
 all_goals
  go_enter func45,ntmps45;go_wp2_with (go_at_call 75;refine Q0 (zE aQ _) ?_);go_ret2;exact⟨rfl,rfl⟩
def fF (W H:Int):Array Value:=#[J W,J H,J 0]++Array.replicate 256 (.bool Vl)
def pW (W H:Int):Array Value:=#[J W,J H]++(Array.replicate 256 (.bool Vl)++#[J 0])
theorem Ey (W H:Int):prog.built 149 [(0,J W),(1,J H)]=Z (fF W H):=kQ
theorem Ez (W H:Int):prog.built 37 [(0,J W),(1,J H)]=Z (pW W H):=kQ
theorem tS {ops:Array Oper}{rest:List Oper}{o:Oper}{a:Act}{Q9:Exit->Act->M->Prop}(f:o.guard=UP)(x y:Operand)(d:o.op=.build 149 #[(0,x),(1,y)])(W H:Int)
  (c:a.eval x=J W) (b:a.eval y=J H) (h:wpList prog ops Q9 rest (a.put o.dst (.agg (fF W H))) w):wpList prog ops Q9 (o::rest) a w :=
 wpList_plain f λ _ e=>wp_build 149 _ d (by simp[c,b,Ey]) (by simp[c,b,Ey];exact e _ _ h)
theorem tT {ops:Array Oper}{rest:List Oper}{o:Oper}{a:Act}{Q9:Exit->Act->M->Prop}(f:o.guard=UP)(x y:Operand)(d:o.op=.build 37 #[(0,x),(1,y)])(W H:Int)
  (c:a.eval x=J W) (b:a.eval y=J H) (h:wpList prog ops Q9 rest (a.put o.dst (.agg (pW W H))) w):wpList prog ops Q9 (o::rest) a w :=
 wpList_plain f λ _ e=>wp_build 37 _ d (by simp[c,b,Ez]) (by simp[c,b,Ez];exact e _ _ h)
theorem CA (W H:Int)(w:M)(h:aT W=Q)(k:aT H=Q) :
  Zq 45 #[J W,J H] w λ e I=>e=VJ (.tuple #[Pq (G w.heap),.nilIface])/\I=E w (.cells (fF W H) 149):=by
 go_enter func45,ntmps45;go_wp2_with (first|(go_at_call 75;refine Q0 (zE aQ _) ?_)|refine tS rfl _ _ rfl W H rfl rfl ?_);go_ret2;exact⟨rfl,rfl⟩
theorem EA (W H:Int)(w:M)(b:1<=W)(a:W<=16)(d:1<=H)(c:H<=16) :
  Zq 36 #[J W,J H] w λ e I=>e=VJ (.tuple #[Pq (G w.heap),J 0])/\I=E w (.cells (pW W H) 37):=by
 go_enter func36,ntmps36;go_wp2_with (refine tT rfl _ _ rfl W H rfl rfl ?_);go_ret2;exact⟨rfl,rfl⟩
theorem zG (W H:Int)(w:M)(h:aT W=Vl\/(aT W=Q/\aT H=Vl)) :
  Eq9 36 #[J W,J H] w (.tuple #[.pointer UP,J 1]):=by
 have c:(W<1)\/(¬W<1/\16<W)\/(¬W<1/\¬16<W/\H<1)\/(¬W<1/\¬16<W/\¬H<1/\16<H):=by
  unfold aT at h;simp only[decide_eq_false_iff_not,decide_eq_true_eq]at h;omega
 clear h;rcases c with h|⟨b,a⟩|⟨b,a,d⟩|⟨b,a,d,e⟩
 all_goals
  go_enter func36,ntmps36;go_wp2;go_ret2;exact⟨rfl,rfl⟩
theorem Jo (W H:Int)(i:Nat)(a:i<256):(fF W H)[3+i]? = Z (.bool Vl):=by
 unfold fF;rw[U5 sQ];simp[a]
theorem ph (W H:Int)(w:M)(h:aT W=Q)(k:aT H=Q):aq (E w (.cells (fF W H) 149)) (G w.heap) W H 0 (λ _=>Vl):=by
 have a:1<=W/\W<=16:=Q1 h;have b:1<=H/\H<=16:=Q1 k;refine⟨a.1,a.2,b.1,b.2,?_,?_,?_,λ i c=>?_⟩;rw[Tb];unfold fF;rw[Uy sQ];rfl;rw[Tb];unfold fF;rw[Uy sQ];rfl;rw[Tb];unfold fF;rw[Uy sQ];rfl
 grind [Tb,Jo]
structure bo (w:M) (b:Nat) (W H V:Int) (Y:Bn):Prop where
 w1:1<=W
 w2:W<=16
 h1:1<=H
 h2:H<=16
 c0:D w (O b 0)=Z (J W)
 c1:D w (O b 1)=Z (J H)
 c2:D w (O b 258)=Z (J V)
 cs:∀i,i<256->D w (O b (2+i))=Z (.bool (Y i))
theorem wD (W H:Int)(w:M)(h:aT W=Q)(k:aT H=Q):bo (E w (.cells (pW W H) 37)) (G w.heap) W H 0 (λ _=>Vl):=by
 have a:1<=W/\W<=16:=Q1 h;have b:1<=H/\H<=16:=Q1 k;refine⟨a.1,a.2,b.1,b.2,?_,?_,?_,λ i c=>?_⟩;rw[Tb];unfold pW;rw[Uy sQ];rfl;rw[Tb];unfold pW;rw[Uy sQ];rfl;rw[Tb];unfold pW;rw[U5 sQ,U5 sQ];simp;rw[Tb];unfold pW;rw[U5 sQ,Uy sU];simp[c]
structure cV (b:Nat) (w I:M):Prop where
 os:I.os=w.os
 tape:I.tape=w.tape
 output:I.output=w.output
 size:G I.heap=G w.heap
 other:∀k,k≠b->I.heap[k]? = w.heap[k]?
theorem cV.refl (b:Nat)(w:M):cV b w w:=⟨rfl,rfl,rfl,rfl,λ _ _=>rfl⟩
theorem cV.drewN (h:cV b w I)(m:Nat):cV b w (I.drewN m):=⟨h.os,h.tape,h.output,h.size,h.other⟩
theorem cV.setCell (h:cV b w I)(o:Nat)(v:Vr):cV b w (C' I (O b o) v) :=
 ⟨h.os,h.tape,h.output,by rw[<- h.size];simp[World.setCell],λ k a=>(Below.heap_setCell _ _ _ k a).trans (h.other k a)⟩
theorem cV.below {a:M}(h:cV b w I)(c:Vw B a w)(e:B<=b):Vw B a I :=
 c.trans ⟨h.os,h.tape,h.output,by rw[h.size];exact aa,λ k d=>h.other k U⟩
theorem cV.cell (h:cV b w I){p:Addr}(a:p.block≠b):D I p=D w p:=World.cell?_of_block (h.other _ a)
theorem bo.drewN {Y:Bn}(g:bo w b W H V Y)(m:Nat):bo (w.drewN m) b W H V Y:=⟨g.w1,g.w2,g.h1,g.h2,g.c0,g.c1,g.c2,g.cs⟩
theorem bo.below {Y:Bn}(g:bo w b W H V Y)(a:Vw B w I)(h:b<B):bo I b W H V Y :=
 ⟨g.w1,g.w2,g.h1,g.h2,(a.cell (p:=O b 0) h).trans g.c0,(a.cell (p:=O b 1) h).trans g.c1,(a.cell (p:=O b 258) h).trans g.c2,λ i c=>(a.cell (p:=O b (2+i)) h).trans (g.cs i c)⟩
def upd (Y:Bn) (c:Nat) (v:Bool):Bn:=λ i=>if i=c then v else Y i
def gL (w:M) (b:Nat):Prop:=∀o,w.frozen? (O b o)=Vl
theorem tU {Y:Bn}(c:Nat)(v:Bool)(w:M)(g:aq w b W H V Y)(a:inB W H c=Q)(d:Y c=v) :
  Dq 179 #[Pq b,J c,.bool v] w (.tuple #[.bool Vl,.nilIface]):=by
 have e:0<=(c:Int)/\(c:Int)<W*H:=Q1 a;obtain⟨l,k⟩:=bG g.w1 g.w2 g.h1 g.h2;obtain⟨j,i⟩:=e;have f:(c:Int)<256:=U;have h:=g.cs c U;rw[d]at h;go_enter func179,ntmps179;go_wp2_with (go_at_call 170;refine QQ (iY a _ g) λ m=>?_);go_ret2;exact⟨rfl,_,rfl⟩
theorem ck {o p:Nat}(h:o≠p):(O b o:Addr)≠O b p:=by grind
theorem CD {Y:Bn}(g:aq w b W H V Y)(c:Nat)(d:c<256)(v:Bool) :
  aq ((C' w (O b (3+c)) (.bool v)).setCell (O b 2) (J (V+1))) b W H (V+1) (upd Y c v):=by
 refine⟨g.w1,g.w2,g.h1,g.h2,?_,?_,?_,λ i a=>?_⟩;rw[SY _ _ _ _ (ck U),SY _ _ _ _ (ck U)];exact g.c0;rw[SY _ _ _ _ (ck U),SY _ _ _ _ (ck U)];exact g.c1;refine Tf _ _ _ (u:=J V) ?_;rw[SY _ _ _ _ (ck U)];exact g.c2;rw[SY _ _ _ _ (ck U)];unfold upd;by_cases e:i=c;subst e;rw[Q5 rfl];exact Tf _ _ _ (g.cs i a);rw[Q6 e,SY _ _ _ _ (ck U)];exact g.cs i a
theorem yh {Y:Bn}(c:Nat)(v:Bool)(w:M)(g:aq w b W H V Y)(f:gL w b)(a:inB W H c=Q)(d:Y c=!v)(v1:0<=V)(v2:V<=1000000) :
  Zq 179 #[Pq b,J c,.bool v] w λ e I=>e=VJ (.tuple #[.bool Q,.nilIface])/\cV b w I/\aq I b W H (V+1) (upd Y c v)/\gL I b:=by
 have i:0<=(c:Int)/\(c:Int)<W*H:=Q1 a;obtain⟨s,r⟩:=bG g.w1 g.w2 g.h1 g.h2;obtain⟨q,p⟩:=i;have n:(c:Int)<256:=U;have h:=g.cs c U;have k:=g.c2;have f1:=f 2;have f2:=f (3+c);rw[d]at h;have t:((!v)==v)=false:=by cases v<;>rfl
 have j:=λ m=>CD (g.drewN m) c U v;have l:(O b (3+c):Addr)≠O b 2:=ck U;have u:D (C' w (O b (3+c)) (.bool v)) (O b 2)=Z (J V):=by rw[SY _ _ _ _ l];exact k
 go_enter func179,ntmps179;go_wp2_with (go_at_call 170;refine QQ (iY a _ g) λ m=>?_);go_ret2;exact⟨rfl,(((cV.refl b w).drewN m).setCell _ _).setCell _ _,j m,λ o=>by simpa using f o⟩
def isB (W H c:Int):Int:=if inB W H c then 0 else 1
theorem pj {Y:Bn}(c:Int)(w:M)(g:bo w b W H V Y)(a:inB W H c=Q) :
  Dq 38 #[Pq b,J c] w (J 0):=by
 have d:0<=c/\c<W*H:=Q1 a;obtain⟨i,h⟩:=bG g.w1 g.w2 g.h1 g.h2;obtain⟨f,e⟩:=d;have m:=g.c0;have l:=g.c1;have k:decide (c<0)=false:=Q3 U;have j:¬W*H<=c:=U;go_enter func38,ntmps38;go_wp2;go_quiet (fail);go_wp2;go_ret;exact⟨rfl,_,rfl⟩
theorem yj {Y:Bn}(c:Int)(w:M)(g:bo w b W H V Y)(a:inB W H c=Vl) :
  Dq 38 #[Pq b,J c] w (J 1):=by
 have j:¬(0<=c/\c<W*H):=of_decide_eq_false a;obtain⟨f,e⟩:=bG g.w1 g.w2 g.h1 g.h2;have l:=g.c0;have k:=g.c1;by_cases h:c<0
 ·have d:decide (c<0)=true:=Q2 h;go_enter func38,ntmps38;go_wp2;go_quiet (fail);go_wp2;go_ret;exact⟨rfl,_,rfl⟩
 ·have d:decide (c<0)=false:=Q3 h;have i:W*H<=c:=U;go_enter func38,ntmps38;go_wp2;go_quiet (fail);go_wp2;go_ret;exact⟨rfl,_,rfl⟩
theorem Gb {Y:Bn}(c:Nat)(v:Bool)(w:M)(g:bo w b W H V Y)(a:inB W H c=Q)(d:Y c=v) :
  Dq 66 #[Pq b,J c,.bool v] w (.tuple #[.bool Vl,J 0]):=by
 have e:0<=(c:Int)/\(c:Int)<W*H:=Q1 a;obtain⟨l,k⟩:=bG g.w1 g.w2 g.h1 g.h2;obtain⟨j,i⟩:=e;have f:(c:Int)<256:=U;have h:=g.cs c U;rw[d]at h;go_enter func66,ntmps66;go_wp2_with (go_at_call 38;refine QQ (pj _ _ g a) λ m=>?_);go_ret2;exact⟨rfl,_,rfl⟩
theorem Gc {Y:Bn}(g:bo w b W H V Y)(c:Nat)(d:c<256)(v:Bool) :
  bo ((C' w (O b (2+c)) (.bool v)).setCell (O b 258) (J (V+1))) b W H (V+1) (upd Y c v):=by
 refine⟨g.w1,g.w2,g.h1,g.h2,?_,?_,?_,λ i a=>?_⟩;rw[SY _ _ _ _ (ck U),SY _ _ _ _ (ck U)];exact g.c0;rw[SY _ _ _ _ (ck U),SY _ _ _ _ (ck U)];exact g.c1;refine Tf _ _ _ (u:=J V) ?_;rw[SY _ _ _ _ (ck U)];exact g.c2;rw[SY _ _ _ _ (ck U)];unfold upd;by_cases e:i=c;subst e;rw[Q5 rfl];exact Tf _ _ _ (g.cs i a);rw[Q6 e,SY _ _ _ _ (ck U)];exact g.cs i a
theorem wF (d:Nat)(w:M)(b:d<8) :
  Eq9 109 #[J d] w (.tuple #[J (ah d),J (af d)]):=by
 have a:d=0\/d=1\/d=2\/d=3\/d=4\/d=5\/d=6\/d=7:=U;rcases a with rfl|rfl|rfl|rfl|rfl|rfl|rfl|rfl
 all_goals
  go_enter func109,ntmps109;go_wp2;go_ret2;exact⟨rfl,rfl⟩
theorem Nd (d:Nat)(w:M)(a:d<8) :
  Dq 109 #[J d] w (.tuple #[J (ah d),J (af d)]) :=
 (wF d w a).mono λ _ _ ⟨c,b⟩=>⟨c,0,b⟩
theorem Gd {Y:Bn}(x y:Int)(w:M)(g:bo w b W H V Y) :
  Dq 110 #[Pq b,J x,J y] w (.bool (aM W H Y x y)):=by
 have z:=g.c0;have v:=g.c1;have A:=g.w1;have p:=g.w2;have q:=g.h2;by_cases h:0<=x/\x<W/\0<=y/\y<H
 ·have a:atB W H x y=true:=Q2 h;have e:aM W H Y x y=!Y (y*W+x).toNat:=by unfold aM;rw[a];rfl
  rw[e];clear e;obtain⟨l,k,j,i⟩:=h;obtain⟨u,n,t⟩:=Cy g.w1 g.w2 g.h1 g.h2 l k j i;obtain⟨s,r⟩:=Ev (y:=y) g.w1 g.w2 U U;have m:=g.cs (y*W+x).toNat U;have d1:decide (0<=x)=true:=Q2 l;have d2:decide (x<W)=true:=Q2 k;have d3:decide (0<=y)=true:=Q2 j;have d4:decide (y<H)=true:=Q2 i;clear n a;go_enter func110,ntmps110;go_wp2;go_quiet (fail);go_wp2;go_ret;exact⟨rfl,_,rfl⟩
 ·have a:atB W H x y=false:=Q3 h;have e:aM W H Y x y=false:=by unfold aM;rw[a];rfl
  rw[e];clear e;have m:(¬0<=x)\/(0<=x/\¬x<W)\/(0<=x/\x<W/\¬0<=y)\/(0<=x/\x<W/\0<=y/\¬y<H):=U;clear a h;rcases m with h|⟨d,c⟩|⟨d,c,f⟩|⟨d,c,f,o⟩
  ·have d1:decide (0<=x)=false:=Q3 h;go_enter func110,ntmps110;go_wp2;go_quiet (fail);go_wp2;go_ret;exact⟨rfl,_,rfl⟩
  ·have d1:decide (0<=x)=true:=Q2 d;have d2:decide (x<W)=false:=Q3 c;go_enter func110,ntmps110;go_wp2;go_quiet (fail);go_wp2;go_ret;exact⟨rfl,_,rfl⟩
  ·have d1:decide (0<=x)=true:=Q2 d;have d2:decide (x<W)=true:=Q2 c;have d3:decide (0<=y)=false:=Q3 f;go_enter func110,ntmps110;go_wp2;go_quiet (fail);go_wp2;go_ret;exact⟨rfl,_,rfl⟩
  ·have d1:decide (0<=x)=true:=Q2 d;have d2:decide (x<W)=true:=Q2 c;have d3:decide (0<=y)=true:=Q2 f;have d4:decide (y<H)=false:=Q3 o;go_enter func110,ntmps110;go_wp2;go_quiet (fail);go_wp2;go_ret;exact⟨rfl,_,rfl⟩
theorem gY {Y:Bn}(a:aM W H Y x y=r)(w:M)(g:bo w b W H V Y) :
  Dq 110 #[Pq b,J x,J y] w (.bool r):=a▸Gd x y w g
theorem Jp {Y:Bn}(x y:Int)(d:Nat)(w:M)(g:bo w b W H V Y)(n:d<8)(r:-100<=x)(q:x<=100)(p:-100<=y)(o:y<=100) :
  Dq 67 #[Pq b,J x,J y,J d] w (.bool (bu W H Y x y d)):=by
 obtain⟨v,u,t,s⟩:=gX d;have c:=λ w=>Nd d w n;have a:bu W H Y x y d=(aM W H Y x y&&aM W H Y (x+ah d) (y+af d)&&aM W H Y (x+ah d) y&&aM W H Y x (y+af d)):=rfl;generalize ah d=l at *;generalize af d=k at *;cases e:aM W H Y x y with
 |false =>
  rw[a,e];simp only[Un];clear a;go_enter func67,ntmps67;go_wp2_with (first|(go_at_call 109;refine QQ (c _) λ f=>?_)|(go_at_call 110;refine QQ (gY aQ _ (g.drewN _)) λ m=>?_));go_ret;exact⟨rfl,_,rfl⟩
 |true =>
  cases h:aM W H Y (x+l) (y+k) with
  |false =>
   rw[a,e,h];simp only[Ux,Un];clear a;go_enter func67,ntmps67;go_wp2_with (first|(go_at_call 109;refine QQ (c _) λ f=>?_)|(go_at_call 110;refine QQ (gY aQ _ (g.drewN _)) λ m=>?_));go_ret;exact⟨rfl,_,rfl⟩
  |true =>
   cases i:aM W H Y (x+l) y with
   |false =>
    rw[a,e,h,i];simp only[Ux,Un];clear a;go_enter func67,ntmps67;go_wp2_with (first|(go_at_call 109;refine QQ (c _) λ f=>?_)|(go_at_call 110;refine QQ (gY aQ _ (g.drewN _)) λ m=>?_));go_ret;exact⟨rfl,_,rfl⟩
   |true =>
    cases j:aM W H Y x (y+k) with
    |false =>
     rw[a,e,h,i,j];simp only[Ux];clear a;go_enter func67,ntmps67;go_wp2_with (first|(go_at_call 109;refine QQ (c _) λ f=>?_)|(go_at_call 110;refine QQ (gY aQ _ (g.drewN _)) λ m=>?_));go_ret;exact⟨rfl,_,rfl⟩
    |true =>
     rw[a,e,h,i,j];simp only[Ux];clear a;go_enter func67,ntmps67;go_wp2_with (first|(go_at_call 109;refine QQ (c _) λ f=>?_)|(go_at_call 110;refine QQ (gY aQ _ (g.drewN _)) λ m=>?_));go_ret;exact⟨rfl,_,rfl⟩
theorem Nf {Y:Bn}(c:Int)(d:Nat)(w:M)(g:bo w b W H V Y)(e:d<8)(c1:-1000<=c)(c2:c<=1000) :
  Eq9 68 #[Pq b,J c,J d] w (J (c+ah d+af d*W)):=by
 obtain⟨j,i,h,f⟩:=gX d;obtain⟨l,k⟩:=Ev g.w1 g.w2 (show -100<=af d by omega) U;have a:=λ w=>wF d w e;have o:=g.c0;generalize ah d=n at *;generalize af d=m at *;go_enter func68,ntmps68;go_wp2_with (go_at_call 109;refine Q0 (a _) ?_);go_ret;exact⟨rfl,rfl⟩
theorem lh {Y:Bn}(c:Nat)(w:M)(g:aq w b W H V Y)(a:inB W H c=Q) :
  Dq 137 #[Pq b,J c] w (.tuple #[.bool (!Y c),.nilIface]):=by
 have d:0<=(c:Int)/\(c:Int)<W*H:=Q1 a;obtain⟨k,j⟩:=bG g.w1 g.w2 g.h1 g.h2;obtain⟨i,f⟩:=d;have e:(c:Int)<256:=U;have h:=g.cs c U;go_enter func137,ntmps137;go_wp2_with (go_at_call 170;refine QQ (iY a _ g) λ m=>?_);go_ret2;exact⟨rfl,_,rfl⟩
theorem tV {Y:Bn}(c:Int)(w:M)(g:aq w b W H V Y)(a:inB W H c=Vl) :
  Dq 137 #[Pq b,J c] w (.tuple #[.bool Vl,.iface 42 (J 1)]):=by
 go_enter func137,ntmps137;go_wp2_with (go_at_call 170;refine QQ (iY a _ g) λ m=>?_);go_ret2;exact⟨rfl,_,rfl⟩
def bP (w:M) (A:Oa) (n:Nat) (xs:Nat->Int):Prop:=∀i,i<n->∃b o,A=Z (O b o)/\b<G w.heap/\D w (O b (o+i))=Z (J (xs i))
theorem bC (w:M)(c:Array Vr)(t:TypeId)(b:Nat)(h:G w.heap<=b):gL (E w (.cells c t)) b:=λ o=>by
 rw[frozen?_alloc_cells];unfold World.frozen?;rw[Array.getElem?_eq_none h]
theorem lj {Y:Bn}(h:aM W H Y x y=Q):0<=x/\x<W/\0<=y/\y<H:=by grind [aM,atB]
theorem yk {Y:Bn}{d:Nat}:d∈mvs W H Y x y k↔d<k/\bu W H Y x y d=true:=by grind [mvs]
theorem bL (l:Ln)(i:Nat)(h:i<K l):l.getD i 0=l[i]:=by grind
def opp (d:Nat):Nat:=(d+4)%8
theorem yl (d:Nat):opp d<8:=Nat.mod_lt _ dQ
theorem tW (d:Nat)(h:d<8):ah (opp d)=-ah d/\af (opp d)=-af d:=by
 have a:d=0\/d=1\/d=2\/d=3\/d=4\/d=5\/d=6\/d=7:=U;rcases a with rfl|rfl|rfl|rfl|rfl|rfl|rfl|rfl<;>decide
theorem fZ {Y:Bn}{d:Nat}(h:bu W H Y x y d=Q) :
  aM W H Y x y=Q/\aM W H Y (x+ah d) (y+af d)=Q/\aM W H Y (x+ah d) y=Q/\aM W H Y x (y+af d)=true:=by grind [bu,aM,ah,af]
theorem zH {Y:Bn}{d:Nat}(a:d<8)(h:bu W H Y x y d=Q):bu W H Y (x+ah d) (y+af d) (opp d)=true:=by grind [fZ,tW,bu,ah,af]
theorem pX (e:1<=W)(b:0<=x)(a:x<W)(c:0<=y)(d:y<H):inB W H (y*W+x)=Q/\(y*W+x)%W=x/\(y*W+x)/W=y:=by
 refine⟨Q2 ⟨?_,?_⟩,?_,?_⟩;have:=UL c (show 0<=W by omega);omega;have:=Uq (show y+1<=H by omega) (show 0<=W by omega);rw[Ul,Int.one_mul,U4 H W]at this;omega;rw[T9,Int.add_mul_emod_self_right];exact Int.emod_eq_of_lt b a;rw[T9,Int.add_mul_ediv_right _ _ U,Int.ediv_eq_zero_of_lt b a];omega
theorem gC (W c:Int):c/W*W+c%W=c:=by grind [Int.mul_ediv_add_emod,U4]
theorem lk {H:Int}{Y:Bn}{d:Nat}(b:1<=W)(n:d<8)(h:bu W H Y (c%W) (c/W) d=Q) :
  inB W H (c+(af d*W+ah d))=Q /\
  ∃j,j<K (mvs W H Y ((c+(af d*W+ah d))%W) ((c+(af d*W+ah d))/W) 8) /\
   (mvs W H Y ((c+(af d*W+ah d))%W) ((c+(af d*W+ah d))/W) 8).getD j 0=opp d:=by
 have o:=zH n h;obtain⟨_,k,_,_⟩:=fZ h;obtain⟨s,r,q,p⟩:=lj k;have e:c+(af d*W+ah d)=(c/W+af d)*W+(c%W+ah d):=by
  have:=gC W c;rw[Ul];omega
 obtain⟨i,g,f⟩:=pX (H:=H) b s r q p;rw[e,g,f];refine⟨i,?_⟩;have l:=yk.mpr ⟨yl d,o⟩;obtain⟨j,a,m⟩:=List.mem_iff_getElem.mp l;exact⟨j,a,by rw[bL _ _ a];exact m⟩
theorem wG {d:Nat}(a:d<8):c+(af d*W+ah d)+(af (opp d)*W+ah (opp d))=c:=by grind [tW,UO]
theorem tX (W H x y:Int)(Y:Bn)(k:Nat):(mvs W H Y x y k).Pairwise (·<·) :=
 List.Pairwise.filter _ List.pairwise_lt_range
theorem Jq {Y:Bn}(b:0<i)(a:i<K (mvs W H Y x y k)):(mvs W H Y x y k).getD (i-1) 0<(mvs W H Y x y k).getD i 0:=by grind [mvs,bL,List.pairwise_iff_getElem,tX]
theorem mC {Y:Bn}(a:i<K (mvs W H Y x y k)):(mvs W H Y x y k).getD i 0<k/\bu W H Y x y ((mvs W H Y x y k).getD i 0)=true:=by grind [mvs,bu,bL,yk,List.getElem_mem]
theorem ym {Y:Bn}{d:Nat}(h:bu W H Y x y d=r)(w:M)(g:bo w b W H V Y)(i:d<8)(f:-100<=x)(e:x<=100)(c:-100<=y)(a:y<=100) :
  Dq 67 #[Pq b,J x,J y,J d] w (.bool r):=h▸Jp x y d w g i f e c a
theorem Ge {Y:Bn}(c:Int)(w:M)(g:bo w b W H V Y)(A:inB W H c=Q)(F:b<G w.heap) :
  Zq 111 #[Pq b,J c] w λ e I=>∃v,e=VJ v /\
   I.ownsRow (G w.heap) 3 1 v (K (mvs W H Y (c%W) (c/W) 8)) (aH (mvs W H Y (c%W) (c/W) 8))/\Bq w I:=by
 obtain⟨z,C,S,R,P⟩:=info_parts Tryz.Vxg;have o:0<=c/\c<W*H:=Q1 A;obtain⟨k1,k2⟩:=bG g.w1 g.w2 g.h1 g.h2;have Wm:=g.w1;have gw:=g.w2;have gh:=g.h2;have x1:0<=c%W:=Int.emod_nonneg _ U;have x2:c%W<W:=Int.emod_lt_of_pos _ U;have y1:0<=c/W:=Int.ediv_nonneg o.1 U;have y3:c/W<H:=Int.ediv_lt_of_lt_mul U (by rw[U4];exact o.2);obtain⟨q1,q2⟩:=o;go_enter func111,ntmps111;go_wp2;go_loopw [5,6] (λ v i wr=>∃k:Nat,k<=8/\i=J k/\G' wr (G w.heap) 3 1 v (K (mvs W H Y (c%W) (c/W) k)) (aH (mvs W H Y (c%W) (c/W) k))/\Bq w wr)
  (λ _ i _=>8-(intOf i).toNat)
 case atStart=>exact⟨0,Nat.zero_le _,rfl,World.ownsRow_nil _ _ _ _,ae⟩
 case round =>
  obtain⟨k,hk,rfl,a,f⟩:=hrel;have hl:=Ew W H Y (c%W) (c/W) k;have n:=g.below f F;have L:=n.c0;have N:=f.size;by_cases s:k<8
  ·have d:=Jn W H Y (c%W) (c/W) k;cases m:bu W H Y (c%W) (c/W) k with
   |false =>
    rw[m]at d;have h:mvs W H Y (c%W) (c/W) (k+1)=mvs W H Y (c%W) (c/W) k:=by simpa using d
    have HS:=qH h;clear h d;go_wp2;go_quiet ((go_at_call 67;exact Calls.quiet_of (ym m _ (n.drewN _) s U U U U)));go_wp2;go_roundw
    case rel=>exact⟨k+1,U,gQ,by rw[HS.out];exact a,below_drewN f _⟩
    case measure=>simp[intOf];omega
   |true =>
    rw[m]at d;have h:mvs W H Y (c%W) (c/W) (k+1)=mvs W H Y (c%W) (c/W) k++[k]:=by simpa using d
    have HS:=qH h;clear h d;go_wp2;go_quiet ((go_at_call 67;exact Calls.quiet_of (ym m _ (n.drewN _) s U U U U)));go_wp2_with (at_builtin;refine wpList_append_own _ rfl _ _ 60 rfl (G w.heap) 3 z (J 0) 1 8 underlying60 C S R P rfl dQ _ _ _ rfl (World.ownsRow.alloc a _) (O (G wr.heap) 0) 1 1 [J k] rfl rfl ?c1 ?c2 ?c3 ?c4 ?c5 ?_)
    case c1 =>
     intro j u l
     match j,l with
     |0,l =>
      simp at l;subst l;simp only[Addr.add];exact World.cell?_alloc_at (w:=wr.drewN nq) #[J k] 3 (G wr.heap) 0 rfl
    case c2=>intro u r;simp at r;subst r;rfl
    case c3=>unfold maxLen;omega
    case c4=>omega
    case c5=>simp;omega
    intro y p t x _;have T:=λ q B=>(a.lt q B).1;have B1:Bq w p:=((below_drewN f nq).alloc N _).grown x sU T;have X:G' p (G w.heap) 3 1 y (K (mvs W H Y (c%W) (c/W) (k+1))) (aH (mvs W H Y (c%W) (c/W) (k+1))):=by
     rw[HS.out]
     simpa [aH]using t
    clear t x a f n L;go_wp2;go_roundw
    case rel=>exact⟨k+1,U,gQ,X,B1⟩
    case measure=>simp[intOf];omega
  ·have:k=8:=U;subst this;go_wp2;go_ret;exact⟨_,rfl,a,f⟩
def sqs (n:Int):Int:=if n<0 then -n*n else n*n
def fG (a b:Int):Int:=if a<b then -1 else if b<a then 1 else 0
def j6 (s d t e:Int):Int:=fG (sqs (s-t)) (2*sqs (e-d))
def val (s d:Int):Int:=38613965*s+54608393*d
theorem fQ (n:Int):0<=n*n:=by
 rcases Int.le_total 0 n with h|h
 exact UL h h;exact Int.mul_nonneg_of_nonpos_of_nonpos h h
theorem jO (n:Int)(b:-8388608<=n)(a:n<=8388608):0<=n*n/\n*n<=70368744177664:=by
 refine⟨fQ n,?_⟩;rcases Int.le_total 0 n with h|h
 have:=Uq a h;omega;have:=Int.mul_le_mul_of_nonpos_right b h;omega
theorem Pr (n:Int)(b:-8388608<=n)(a:n<=8388608):-70368744177664<=sqs n/\sqs n<=70368744177664:=by
 have:=jO n b a;unfold sqs;have e:-n*n=-(n*n):=UO n n;split<;>omega
theorem yo (n:Int):sqs (-n)=-sqs n:=by grind [sqs]
theorem Sg (k x:Int):k*x*(k*x)=k*k*(x*x):=by grind
theorem QL (y:Int):54608393*y*(54608393*y)=2982076586042449*(y*y):=by grind
theorem Ps (y:Int):38613965*y*(38613965*y)=1491038293021225*(y*y):=by grind
theorem zI (a b:Int)(c:0<=a)(h:a<=b):a*a<=b*b:=Int.mul_le_mul h h c U
theorem CE (x y:Int)(e:0<=x)(d:0<=y)(f:y<38613965):x*x<2*(y*y)↔38613965*x<54608393*y:=by
 constructor;intro h;by_cases g:38613965*x<54608393*y;exact g;have g:54608393*y<=38613965*x:=U;have k:=zI (54608393*y) (38613965*x) U g;have c:=QL y;have b:=Ps x;have j:=zI y 38613964 d U;have i:(38613964*38613964:Int)=1491038215793296:=dQ;rw[c,b]at k;rw[i]at j;clear c b i g e d f;generalize x*x=X at *;generalize y*y=l at *;omega;intro g;have m:38613965*x+1<=54608393*y:=U;have k:=zI (38613965*x) (54608393*y) U U;have c:=QL y;have b:=Ps x;have a:1<=y:=U;have n:=zI 1 y U a;rw[c,b]at k;clear c b g e d f m a;generalize x*x=X at *;generalize y*y=l at *;omega
theorem Jr (x y:Int)(h:38613965*x=54608393*y)(b:-38613965<y)(a:y<38613965):x=0/\y=0:=by grind
theorem EB (n:Int)(h:n*n=0):n=0:=by
 rcases Int.mul_eq_zero.mp h with h|h<;>exact h
theorem Js (x y:Int)(b:0<=x)(a:0<=y)(f:y<38613965):2*(y*y)<x*x↔54608393*y<38613965*x:=by
 have h:=CE x y b a f;constructor
 grind
 intro g;rcases Int.lt_trichotomy (x*x) (2*(y*y)) with k|k|k
 have:=h.mp k;omega;exfalso;have e:=zI (54608393*y+1) (38613965*x) U U;have c:=Ps x;have d:(54608393*y+1)*(54608393*y+1)=2982076586042449*(y*y)+109216786*y+1:=by grind
 rw[d,c]at e;have i:y*y<=38613964*y:=Uq U a;clear d c g b h;generalize x*x=X at *;generalize y*y=j at *;omega;exact k
theorem Jt (x y:Int)(i:-38613965<y)(h:y<38613965):sqs x<2*sqs y↔38613965*x<54608393*y:=by
 have k:=fQ x;have j:=fQ y;have f:-x*x=-(x*x):=UO x x;have e:-y*y=-(y*y):=UO y y;have d:-x*-x=x*x:=by rw[UO,Int.mul_neg,Int.neg_neg]
 have c:-y*-y=y*y:=by rw[UO,Int.mul_neg,Int.neg_neg]
 unfold sqs;by_cases b:x<0<;>by_cases a:y<0;rw[Q5 b,Q5 a];have:=Js (-x) (-y) U U U;rw[d,c]at this;constructor
 grind
 grind
 rw[Q5 b,Q6 a];constructor;intro _;omega;intro _;by_cases g:0<x*x;omega;have:=EB x U;omega
 grind
 grind [CE]
theorem Pt (x y:Int)(b:-38613965<y)(a:y<38613965):2*sqs y<sqs x↔54608393*y<38613965*x:=by
 have h:=Jt (-x) (-y) U U;rw[yo,yo]at h;constructor
 grind
 grind
theorem Ju (s d t u:Int)(b:-38613965<u-d)(a:u-d<38613965):j6 s d t u=fG (val s d) (val t u):=by grind [j6,fG,val,sqs,Jt,Pt]
theorem SO (a b c d:Int)(h:a+b=c+d):a-c=d-b:=U
theorem iS (s d t u:Int)(b:-38613965<u-d)(a:u-d<38613965)(h:val s d=val t u):s=t/\d=u:=by
 unfold val at h;have:=Jr (s-t) (u-d) (by grind) b a;clear h;omega
theorem pY (a b:Int):fG a b<0↔a<b:=by
 unfold fG;split;omega;split<;>omega
theorem wH (a b:Int):fG a b=0↔a=b:=by
 unfold fG;split;omega;split<;>omega
structure bt where
 id:Int
 s:Int
 d:Int
def bt.v (x:bt):Int:=val x.s x.d
def bef (x y:bt):Prop:=x.v<y.v\/(x.v=y.v/\x.id<y.id)
def upN (i:Nat):Nat:=(i-1)/2
theorem gM {x y z:bt}(h:¬bef y x)(k:¬bef z y):¬bef z x:=by grind [bef]
theorem rq {x y:bt}(h:bef x y):¬bef y x:=by grind [bef]
theorem pk (x:bt):¬bef x x:=by
 unfold bef;omega
def swI (it:Nat->bt) (i j:Nat):Nat->bt:=λ k=>if k=i then it j else if k=j then it i else it k
def dV (it:Nat->bt) (i:Nat) (x:bt):Nat->bt:=λ k=>if k=i then x else it k
theorem mh (it:Nat->bt)(i j:Nat):swI it i j i=it j:=Q5 rfl
theorem sd (it:Nat->bt)(i j:Nat):swI it i j j=it i:=by grind [swI]
theorem j8 (it:Nat->bt){i j k:Nat}(h:k≠i)(a:k≠j):swI it i j k=it k:=by grind [swI]
theorem dD (it:Nat->bt)(i:Nat)(x:bt):dV it i x i=x:=Q5 rfl
theorem cD (it:Nat->bt){i k:Nat}(x:bt)(h:k≠i):dV it i x k=it k:=Q6 h
theorem Nh (it:Nat->bt)(i j:Nat):swI it i j=dV (dV it i (it j)) j (it i):=by grind [swI,dV]
def Ord (it:Nat->bt) (n:Nat):Prop:=∀j,0<j->j<n->¬bef (it j) (it (upN j))
theorem Ord.root {it:Nat->bt}(h:Ord it n):∀j,j<n->¬bef (it j) (it 0):=by
 intro j
 induction j using Nat.strongRecOn with
 |ind j a =>
  intro b;by_cases d:j=0
  grind [pk]
  have c:upN j<j:=by unfold upN;omega
  exact gM (a (upN j) c U) (h j U b)
structure fC (it:Nat->bt) (n i:Nat):Prop where
 lt:i<n
 ord:∀j,0<j->j<n->j≠i->¬bef (it j) (it (upN j))
 over:∀j,0<j->j<n->upN j=i->0<i->¬bef (it j) (it (upN i))
theorem fC.done {it:Nat->bt}(h:fC it n i)(a:i=0\/¬bef (it i) (it (upN i))):Ord it n:=by grind [bef,upN,Ord,fC.ord]
theorem fC.step {it:Nat->bt}(h:fC it n i)(p:0<i)(m:bef (it i) (it (upN i))):fC (swI it i (upN i)) n (upN i):=by
 have s:upN i<i:=by unfold upN;omega
 have q:=h.lt;refine⟨U,λ j b a c=>?_,λ j b a g u0=>?_⟩;by_cases e:j=i
 grind [mh,sd,rq]
 rw[j8 it e c];by_cases f:upN j=i;rw[f,mh];exact h.over j b a f p;by_cases d:upN j=upN i;rw[d,sd];have:=h.ord j b a e;rw[d]at this;exact gM (rq m) this;rw[j8 it f d];exact h.ord j b a e;have r:upN (upN i)<upN i:=by unfold upN at *;omega
 rw[j8 it (k:=upN (upN i)) U U];have o:=h.ord (upN i) u0 U U;by_cases e:j=i
 grind [mh]
 have l:j≠upN i:=by unfold upN at *;omega
 rw[j8 it e l];have:=h.ord j b a e;rw[g]at this;exact gM o this
theorem fC.last {it:Nat->bt}(h:Ord it n)(x:bt):fC (dV it n x) (n+1) n:=by
 refine⟨U,λ j b d a=>?_,λ j b d c _=>?_⟩;rw[cD it x a,cD it x (by unfold upN;omega)];exact h j b U;unfold upN at c;omega
theorem fC.less {it:Nat->bt}(h:Ord it n)(g:i<n)(x:bt)(l:¬bef (it i) x):fC (dV it i x) n i:=by
 refine⟨g,λ j c b d=>?_,λ j c b f u0=>?_⟩;rw[cD it x d];by_cases e:upN j=i;rw[e,dD];have:=h j c b;rw[e]at this;exact gM l this;rw[cD it x e];exact h j c b;have o:upN i<i:=by unfold upN;omega
 have m:j≠i:=by unfold upN at f;omega
 rw[cD it x m,cD it x (k:=upN i) U];have a:=h j c b;rw[f]at a;exact gM (h i u0 g) a
structure fR (it:Nat->bt) (n i:Nat):Prop where
 ord:∀j,0<j->j<n->upN j≠i->¬bef (it j) (it (upN j))
 over:∀j,0<j->j<n->upN j=i->0<i->¬bef (it j) (it (upN i))
structure nP (it:Nat->bt) (n i m:Nat):Prop where
 lt:m<n
 who:m=i\/m=2*i+1\/m=2*i+2
 self:¬bef (it i) (it m)
 below:∀j,0<j->j<n->upN j=i->¬bef (it j) (it m)
theorem fR.done {it:Nat->bt}(h:fR it n i)(a:nP it n i i):Ord it n:=by grind [Ord,bef,upN,nP.below,fR.ord]
theorem fR.step {it:Nat->bt}{m:Nat}(h:fR it n i)(f:nP it n i m)(t:m≠i):fR (swI it i m) n m:=by
 have p:upN m=i/\i<m/\0<m:=by have:=f.who;unfold upN;omega
 obtain⟨g,r,l⟩:=p;refine⟨λ j b c a=>?_,λ j b c a _=>?_⟩;by_cases e:j=m;subst e;rw[sd,g,mh];exact f.self;by_cases o:j=i;subst o;have u:upN j<j:=by unfold upN;omega
 rw[mh,j8 it (k:=upN j) U U];exact h.over m l f.lt g b;rw[j8 it o e];by_cases d:upN j=i;rw[d,mh];exact f.below j b c d;rw[j8 it d a];exact h.ord j b c d;have q:j≠m:=by unfold upN at a;omega
 have s:j≠i:=by unfold upN at a;omega
 rw[j8 it s q,g,mh];have:=h.ord j b c U;rw[a]at this;exact this
theorem fR.first {it:Nat->bt}(h:Ord it (n+1))(x:bt):fR (dV it 0 x) n 0:=by
 refine⟨λ j b c a=>?_,λ j b c a d=>U⟩;rw[cD it x U,cD it x a];exact h j b U
def Holds (it:Nat->bt) (n:Nat) (H:Int->Oi):Prop:=∀a s d,H a=Z (s,d)↔∃i,i<n/\it i=⟨a,s,d⟩
theorem Holds.sw {it:Nat->bt}{H:Int->Oi}(h:Holds it n H){i j:Nat}(l:i<n)(g:j<n):Holds (swI it i j) n H:=by
 intro a s d;rw[h a s d];constructor;rintro⟨k,f,e⟩;by_cases c:k=i;subst c;exact⟨j,g,by rw[sd];exact e⟩;by_cases b:k=j;subst b;exact⟨i,l,by rw[mh];exact e⟩;exact⟨k,f,by rw[j8 it c b];exact e⟩
 grind [mh,sd,j8]
def EC (it:Nat->bt) (n:Nat):Prop:=∀i j,i<n->j<n->(it i).id=(it j).id->i=j
def aC (H:Int->Oi) (a s d:Int):Int->Oi:=λ i=>if i=a then Z (s,d) else H i
def lu (H:Int->Oi) (a:Int):Int->Oi:=λ i=>if i=a then UP else H i
theorem Holds.gone {it:Nat->bt}{H:Int->Oi}(h:Holds it n H){a:Int}(c:H a=UP):∀i,i<n->(it i).id≠a:=by
 intro i b e;have:=(h (it i).id (it i).s (it i).d).mpr ⟨i,b,rfl⟩;rw[e,c]at this;cases this
theorem Holds.last {it:Nat->bt}{H:Int->Oi}(h:Holds it n H){a s d:Int}(j:H a=UP):Holds (dV it n ⟨a,s,d⟩) (n+1) (aC H a s d):=by
 intro f g k;unfold aC;by_cases e:f=a;subst e;rw[Q5 rfl];constructor;intro q;cases q;exact⟨n,U,dD it n _⟩;rintro⟨i,c,q⟩;by_cases b:i=n;subst b;rw[dD]at q;cases q;rfl;rw[cD it _ b]at q;exact Q8 (by rw[q]) (h.gone j i U);rw[Q6 e,h f g k];constructor;rintro⟨i,c,q⟩;exact⟨i,U,by rw[cD it _ U];exact q⟩;rintro⟨i,c,q⟩;by_cases b:i=n;subst b;rw[dD]at q;cases q;exact Q8 rfl e;rw[cD it _ b]at q;exact⟨i,U,q⟩
theorem Holds.at {it:Nat->bt}{H:Int->Oi}(h:Holds it n H){i:Nat}(a:i<n):H (it i).id=Z ((it i).s,(it i).d):=(h _ _ _).mpr ⟨i,a,rfl⟩
theorem Holds.same {it:Nat->bt}{H:Int->Oi}(h:Holds it n H)(m:EC it n){a s d:Int}(f:i<n)(g:(it i).id=a):Holds (dV it i ⟨a,s,d⟩) n (aC H a s d):=by
 intro j l o;unfold aC;by_cases e:j=a;subst e;rw[Q5 rfl];constructor;intro q;cases q;exact⟨i,f,dD it i _⟩;rintro⟨k,c,q⟩;by_cases b:k=i;subst b;rw[dD]at q;cases q;rfl;rw[cD it _ b]at q;exact Q8 (m k i c f (by rw[q,g])) b;rw[Q6 e,h j l o];constructor;rintro⟨k,c,q⟩;have b:k≠i:=λ b=>e (by rw[<- g,<- b,q]);exact⟨k,c,by rw[cD it _ b];exact q⟩;rintro⟨k,c,q⟩;by_cases b:k=i;subst b;rw[dD]at q;cases q;exact Q8 rfl e;rw[cD it _ b]at q;exact⟨k,c,q⟩
theorem Holds.pop {it:Nat->bt}{H:Int->Oi}(h:Holds it (n+1) H)(f:EC it (n+1)):Holds (dV it 0 (it n)) n (lu H (it 0).id):=by
 intro a s d;unfold lu;by_cases e:a=(it 0).id;rw[Q5 e];constructor;intro q;cases q;rintro⟨k,g,q⟩;by_cases b:k=0;subst b;rw[dD]at q;have:=f n 0 U U (by rw[q,<- e]);omega;rw[cD it _ b]at q;have:=f k 0 U U (by rw[q,<- e]);omega;rw[Q6 e,h a s d];constructor;rintro⟨k,g,q⟩;have c:k≠0:=λ c=>e (by rw[<- c,q]);by_cases b:k=n;exact⟨0,U,by rw[dD,<- b];exact q⟩;exact⟨k,U,by rw[cD it _ c];exact q⟩
 grind [dD,cD]
theorem Holds.least {it:Nat->bt}{H:Int->Oi}(h:Holds it n H)(b:Ord it n){a s d:Int}(c:H a=Z (s,d)):¬bef ⟨a,s,d⟩ (it 0):=by grind [Holds,Ord,bef,Ord.root]
section
def stS (k:Nat):Int:=1-(k%2:Nat)
def stD (k:Nat):Int:=(k%2:Nat)
theorem ji (k:Nat):(stS k=1/\stD k=0)\/(stS k=0/\stD k=1):=by
 unfold stS stD;omega
theorem cP (s d t u:Int):val (s+t) (d+u)=val s d+val t u:=by unfold val;omega
theorem mF (k:Nat):1<=val (stS k) (stD k)/\val (stS k) (stD k)<=54608393:=by grind [ji,val]
theorem cT {s d:Int}(b:0<=s)(a:0<=d)(h:val s d<=13979748608):s<=400/\d<=256:=by grind [val]
variable {E9 : Int → Nat → Int → Prop} {o : Int}
def Wk (E9:Int->Nat->Int->Prop) (o a s d:Int):Prop :=
 ∀R:Int->Int->Int->Prop,R o 0 0->(∀(a s d:Int) (k:Nat) (b:Int),R a s d->E9 a k b->R b (s+stS k) (d+stD k))->R a s d
theorem Wk.nil:Wk E9 o o 0 0:=λ _ a _=>a
theorem Wk.step {b s d:Int}(h:Wk E9 o a s d)(e:E9 a k b):Wk E9 o b (s+stS k) (d+stD k):=λ R f c=>c _ _ _ _ _ (h R f c) e
theorem Wk.ind {R:Int->Int->Int->Prop}{s d:Int}(h:Wk E9 o a s d)(g:R o 0 0)(f:∀(a s d:Int) (k:Nat) (b:Int),Wk E9 o a s d->R a s d->E9 a k b->R b (s+stS k) (d+stD k)):R a s d :=
 (h (λ a s d=>Wk E9 o a s d/\R a s d) ⟨Wk.nil,g⟩ (λ a s d k b c e=>⟨c.1.step e,f a s d k b c.1 c.2 e⟩)).2
theorem Wk.inv {s d:Int}(h:Wk E9 o a s d):(a=o/\s=0/\d=0)\/∃f b c k,Wk E9 o f b c/\E9 f k a/\s=b+stS k/\d=c+stD k :=
 h.ind (R:=λ a s d=>(a=o/\s=0/\d=0)\/∃f b c k,Wk E9 o f b c/\E9 f k a/\s=b+stS k/\d=c+stD k) (Or.inl ⟨rfl,rfl,rfl⟩) (λ a s d k _ g _ e=>Or.inr ⟨a,s,d,k,g,e,rfl,rfl⟩)
theorem Wk.nonneg {s d:Int}(h:Wk E9 o a s d):0<=s/\0<=d :=
 h.ind (R:=λ _ s d=>0<=s/\0<=d) ⟨Int.le_refl _,Int.le_refl _⟩ (λ a s d k b _ c _=>by have:=ji k;omega)
theorem Wk.cons {p s d:Int}(e:E9 p k o)(h:Wk E9 o a s d):Wk E9 p a (s+stS k) (d+stD k) :=
 h.ind (R:=λ a s d=>Wk E9 p a (s+stS k) (d+stD k)) (Wk.nil.step e) (λ n c f b m _ g l=>by
  have:=g.step l;have j:c+stS b+stS k=c+stS k+stS b:=U;have i:f+stD b+stD k=f+stD k+stD b:=U;rw[j,i];exact this)
theorem Wk.back (f:∀a k b,E9 a k b->∃c,E9 b c a/\stS c=stS k/\stD c=stD k){a s d:Int}(h:Wk E9 o a s d):Wk E9 a o s d :=
 h.ind (R:=λ a s d=>Wk E9 a o s d) Wk.nil (λ r m p c q _ e l=>by
  obtain⟨n,j,i,g⟩:=f _ _ _ l;have:=e.cons j;rw[i,g]at this;exact this)
structure cL (E9:Int->Nat->Int->Prop) (o:Int) (F:Int->Oi):Prop where
 sound:∀{a s d},F a=Z (s,d)->Wk E9 o a s d
 least:∀{a s d},Wk E9 o a s d->∃s' d',F a=Z (s',d')/\val s' d'<=val s d
 small:∀{a s d},F a=Z (s,d)->0<=s/\0<=d/\val s d<=13979748608
theorem cL.le {F G9:Int->Oi}(c:cL E9 o F)(b:cL E9 o G9){a s d:Int}(h:F a=Z (s,d)):G9 a=Z (s,d):=by
 obtain⟨g,k,e,v⟩:=b.least (c.sound h);obtain⟨t,d2,f,u⟩:=c.least (b.sound e);rw[h]at f;cases f;obtain⟨r,q,p⟩:=c.small h;obtain⟨n,m,l⟩:=b.small e;have x:=cT r q p;have w:=cT n m l;obtain⟨j,i⟩:=iS g k s d U U U;rw[e,j,i]
theorem cL.unique {F G9:Int->Oi}(e:cL E9 o F)(b:cL E9 o G9):F=G9:=by
 funext a
 cases h:F a with
 |none =>
  cases k:G9 a with
  |none=>rfl
  |some c=>obtain⟨s,d⟩:=c;rw[b.le e k]at h;cases h
 |some c=>obtain⟨s,d⟩:=c;exact(e.le b h).symm
theorem cL.home {F:Int->Oi}(h:cL E9 o F):F o=Z (0,0):=by
 obtain⟨s,d,a,b⟩:=h.least Wk.nil;obtain⟨e,c,_⟩:=h.small a;have:s=0/\d=0:=by unfold val at b;omega
 rw[a,this.1,this.2]
theorem cL.Vxh {F:Int->Oi}(h:cL E9 o F){a b s d:Int}{k:Nat}(i:F a=Z (s,d))(e:E9 a k b):∃c f,F b=Z (c,f)/\val c f<=val s d+val (stS k) (stD k):=by
 obtain⟨c,f,j,g⟩:=h.least (Wk.step (h.sound i) e);rw[cP]at g;exact⟨c,f,j,g⟩
def cnt (F:Int->Oi):Nat->Nat
 |0=>0
 |N+1=>cnt F N+if (F N).isSome then 1 else 0
theorem jj (F:Int->Oi)(N:Nat):cnt F N<=N:=by
 induction N with
 |zero=>exact aa
 |succ N a=>unfold cnt;split<;>omega
theorem Jv (F:Int->Oi)(a s d:Int)(N:Nat)(h:(N:Int)<=a):cnt (aC F a s d) N=cnt F N:=by
 induction N with
 |zero=>rfl
 |succ N b =>
  unfold cnt;rw[b U];have:aC F a s d N=F N:=Q6 U;rw[this]
theorem gZ (F:Int->Oi)(a s d:Int)(N:Nat)(f:0<=a)(h:a<N)(b:F a=UP):cnt (aC F a s d) N=cnt F N+1:=by
 induction N with
 |zero=>omega
 |succ N c =>
  unfold cnt;by_cases e:a=N;rw[Jv F a s d N U];have:aC F a s d N=Z (s,d):=Q5 e.symm;rw[this,<- e,b];simp
  grind [aC]
theorem j9 (N:Nat):cnt (λ _=>UP) N=0:=by
 induction N with
 |zero=>rfl
 |succ N a=>unfold cnt;rw[a];rfl
def ru (H:Int->Oi) (b s d:Int) (H':Int->Oi):Prop :=
 (H'=aC H b s d/\∀{t u},H b=Z (t,u)->val s d<val t u)\/(H'=H/\∃t u,H b=Z (t,u)/\val t u<=val s d)
end
def okC (s d:Int):Prop:=0<=s/\s<=8388608/\0<=d/\d<=8388608
theorem lD (s d t u:Int)(w:M)(h:okC s d)(k:okC t u) :
  Rq 242 #[.agg #[J s,J d],.agg #[J t,J u]] w (.agg #[J (s+t),J (d+u)]):=by
 obtain⟨j,i,g,f⟩:=h;obtain⟨e,c,b,a⟩:=k;go_enter func242,ntmps242;go_wp2;exact Vxl (v:=.agg #[J (s+t),J (d+u)]) (by simp[results,results242,go_sem]) rfl ⟨rfl,(((ae.alloc aa _).alloc sQ _).alloc sU _)⟩
theorem ka (s d t u:Int)(h:okC s d)(k:okC t u):j6 s d t u=fG (val s d) (val t u):=by grind [okC,j6,fG,val,Ju]
def inC (s d:Int):Prop:=0<=s/\s<=1048576/\0<=d/\d<=1048576
def ltB (s d t u:Int):Bool:=decide (j6 s d t u<0)
def dst (a b:Int):Int:=if a<b then b-a else a-b
def les (a b:Int):Int:=if a<b then a else b
def fB (a:Int):Prop:=-1048576<=a/\a<=1048576
theorem yp (a b:Int)(h:fB a)(k:fB b):0<=dst a b/\dst a b<=2097152:=by
 unfold fB at h k;unfold dst;split<;>omega
theorem EE (a b:Int)(w:M)(h:fB a)(k:fB b) :
  Eq9 195 #[J a,J b] w (J (dst a b)):=by
 obtain⟨i,f⟩:=h;obtain⟨d,c⟩:=k;by_cases h:a<b
 ·have e:dst a b=b-a:=by unfold dst;rw[Q5 h]
  rw[e];clear e;go_enter func195,ntmps195;go_wp2;go_ret;exact⟨rfl,rfl⟩
 ·have e:dst a b=a-b:=by unfold dst;rw[Q6 h]
  rw[e];clear e;by_cases g:b<a
  ·clear h;go_enter func195,ntmps195;go_wp2;go_ret;exact⟨rfl,rfl⟩
  ·have:a=b:=U;subst this;rw[Int.sub_self];go_enter func195,ntmps195;go_wp2;go_ret;exact⟨rfl,rfl⟩
theorem OR {b r:Int}(c:dst a b=r)(w:M)(h:fB a)(k:fB b) :
  Eq9 195 #[J a,J b] w (J r):=c▸EE a b w h k
theorem nQ (x y t u:Int)(w:M)(d:fB x)(c:fB y)(i:fB t)(f:fB u) :
  Rq 145 #[J x,J y,J t,J u] w (.agg #[J (dst (dst x t) (dst y u)),J (les (dst x t) (dst y u))]):=by
 have m:=yp x t d i;have l:=yp y u c f;by_cases h:dst x t<dst y u
 ·have b:dst (dst x t) (dst y u)=dst y u-dst x t:=by unfold dst at *;rw[Q5 h]
  have a:les (dst x t) (dst y u)=dst x t:=by unfold les;rw[Q5 h]
  rw[b,a];clear b a;generalize k:dst x t=A at *;generalize j:dst y u=B at *;go_enter func145,ntmps145;go_wp2_with (go_at_call 195;refine(EE _ _ _ ?_ ?_).mono ?_;assumption;assumption;rintro e I ⟨rfl,rfl⟩);exact Vxl (v:=.agg #[J (B-A),J A]) (by simp[results,results145,go_sem]) rfl ⟨rfl,ae.alloc aa _⟩
 ·have b:dst (dst x t) (dst y u)=dst x t-dst y u:=by unfold dst at *;rw[Q6 h]
  have a:les (dst x t) (dst y u)=dst y u:=by unfold les;rw[Q6 h]
  rw[b,a];clear b a;generalize k:dst x t=A at *;generalize j:dst y u=B at *;by_cases g:B<A
  ·clear h;go_enter func145,ntmps145;go_wp2_with (go_at_call 195;refine Q0 (OR aQ _ aQ aQ) ?_);exact Vxl (v:=.agg #[J (A-B),J B]) (by simp[results,results145,go_sem]) rfl ⟨rfl,ae.alloc aa _⟩
  ·have:A=B:=U;subst this;rw[Int.sub_self];go_enter func145,ntmps145;go_wp2_with (go_at_call 195;refine Q0 (OR aQ _ aQ aQ) ?_);exact Vxl (v:=.agg #[J 0,J A]) (by simp[results,results145,go_sem]) rfl ⟨rfl,ae.alloc aa _⟩
theorem Ni (a b:Int):(if a-b<0 then -(a-b) else a-b)=dst a b:=by
 unfold dst;split<;>split<;>omega
theorem bP.below {A:Oa}{xs:Nat->Int}(h:bP w A n xs)(a:Bq w I):bP I A n xs:=λ i d=>by
 obtain⟨b,o,e,c,f⟩:=h i d;exact⟨b,o,e,Nat.lt_of_lt_of_le c a.size,(a.cell (p:=O b (o+i)) c).trans f⟩
theorem jk {base:Nat}{v:Vr}{l:Ln}(h:G' w base 3 1 v (K l) (aH l)):∃A a,v=.slice A (K l) a/\bP w A (K l) (λ i=>(l.getD i 0:Nat)):=by
 rcases h.2 with⟨b,f⟩|⟨g,a,j,b,k,e,_,_,m,d⟩
 refine⟨UP,0,by rw[f];exact b,λ i c=>Q8 c U⟩;refine⟨_,a,b,λ i c=>⟨g,0,rfl,(Array.getElem?_eq_some_iff.1 e).1,?_⟩⟩;subst b;have:=h.cellAt i U;rw[Nat.zero_add,this];rw[List.getElem?_map,List.getElem?_eq_getElem c];show _=Z (J ((l.getD i 0:Nat):Int));rw[bL _ _ c];rfl
structure yq (W H:Int) (Y:Bn) (c:Int) (l:Ln):Prop where
 eq:mvs W H Y (c%W) (c/W) 8=l
 len:K l<=8
 lt:∀i,i<K l->l.getD i 0<8
 rise:∀i,0<i->i<K l->l.getD (i-1) 0<l.getD i 0
 back:∀i,i<K l->inB W H (c+(af (l.getD i 0)*W+ah (l.getD i 0)))=Q /\
  ∀l',mvs W H Y ((c+(af (l.getD i 0)*W+ah (l.getD i 0)))%W) ((c+(af (l.getD i 0)*W+ah (l.getD i 0)))/W) 8=l'->∃j,j<K l'/\l'.getD j 0=opp (l.getD i 0)
theorem Jw (Y:Bn)(c:Int)(b:1<=W):∃l,yq W H Y c l :=
 ⟨_,rfl,Ew _ _ _ _ _ _,λ _ a=>(mC a).1,λ _ d a=>Jq d a,λ _ a=>⟨(lk b (mC a).1 (mC a).2).1,λ _ e=>e▸(lk b (mC a).1 (mC a).2).2⟩⟩
theorem EF {r:Int}{Y:Bn}{d:Nat}(a:c+(af d*W+ah d)=r)(w:M)(g:bo w b W H V Y)(e:d<8)(c1:-1000<=c)(c2:c<=1000) :
  Eq9 68 #[Pq b,J c,J d] w (J r):=by grind [Nf,ah,af]
theorem QM {r:Int}{Y:Bn}{d:Nat}(a:c+(af d*W+ah d)=r)(w:M)(g:aq w b W H V Y)(s:az w)(e:d<8)(c1:-1000<=c)(c2:c<=1000) :
  Dq 174 #[Pq b,J c,J d] w (J r):=a▸Jm c d w g s e c1 c2
def aF (W H:Int) (Y:Bn) (a:Int) (k:Nat) (b:Int):Prop:=k<8/\inB W H a=Q/\bu W H Y (a%W) (a/W) k=Q/\b=a+(af k*W+ah k)
theorem aF.in' {b:Int}{Y:Bn}(c:1<=W)(e:aF W H Y a k b):inB W H b=true:=by
 rw[e.2.2.2];exact(lk c e.1 e.2.2.1).1
theorem CF (k:Nat):stS (opp k)=stS k/\stD (opp k)=stD k:=by grind [opp,stS,stD]
theorem aF.back {Y:Bn}(h:1<=W)(a:Int)(k:Nat)(b:Int)(e:aF W H Y a k b):∃c,aF W H Y b c a/\stS c=stS k/\stD c=stD k:=by
 obtain⟨g,n,l,d⟩:=e;obtain⟨f1,j,i,m⟩:=lk h g l;have f:=mC i;rw[m,<- d]at f;refine⟨opp k,⟨yl k,by rw[d];exact f1,f.2,?_⟩,CF k⟩;rw[d];exact(wG g).symm
theorem aF.one {b:Int}{Y:Bn}{j:Nat}(e:aF W H Y a k b)(f:aF W H Y a j c)(h:j=k):c=b:=by
 rw[e.2.2.2,f.2.2.2,h]
theorem Gf {Y:Bn}(c:Int)(w:M)(g:aq w b W H V Y)(a:inB W H c=Vl) :
  Dq 192 #[Pq b,J c] w (.iface 42 (J 1)):=by
 go_enter func192,ntmps192;go_wp2_with (go_at_call 137;refine QQ (tV c _ g a) λ m=>?_);go_ret;exact⟨rfl,_,rfl⟩
theorem Jx {b:Nat}{W H V:Int}{Y:Bn}(c:Nat)(w:M)(g:aq w b W H V Y)(d:inB W H c=Q)(e:Y c=Q) :
  Dq 192 #[Pq b,J c] w (.iface 42 (J 4)):=by
 have a:=λ w g=>lh (b:=b) (W:=W) (H:=H) (V:=V) (Y:=Y) c w g d;rw[e]at a;go_enter func192,ntmps192;go_wp2_with (go_at_call 137;refine QQ (a _ g) λ m=>?_);go_ret;exact⟨rfl,_,rfl⟩
theorem Jy {b:Nat}{W H V:Int}{Y:Bn}(c:Nat)(w:M)(g:aq w b W H V Y)(d:inB W H c=Q)(f:Y c=Vl) :
  Zq 192 #[Pq b,J c] w λ e I=>e=VJ .nilIface/\∃m,I=w.drewN m:=by
 have a:=λ w g=>lh (b:=b) (W:=W) (H:=H) (V:=V) (Y:=Y) c w g d;rw[f]at a;go_enter func192,ntmps192;go_wp2_with (go_at_call 137;refine QQ (a _ g) λ m=>?_);go_ret;exact⟨rfl,_,rfl⟩
end Go.Proofs.YtikdmenjibkgiaaGreatDoor
