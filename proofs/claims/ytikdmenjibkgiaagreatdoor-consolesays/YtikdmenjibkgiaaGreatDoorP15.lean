/- Texts laid together. -/
import Derived.Test.YtikdmenjibkgiaaGreatDoorP14
import Derived.Great.BuildSlice
import Derived.Deep.AppendLies
namespace Go.Proofs.YtikdmenjibkgiaaGreatDoor
open Go.Proofs.Tryz renaming prog->Vyj
open _root_.Array renaming size->G
open _root_.List renaming length_append->Td,append_nil->TU,not_mem_nil->Uf,mem_append->Tn,mem_singleton->Tv,getElem_of_mem->TR,flatMap_cons->Vt,getElem?_eq_some_iff->Th,pairwise_iff_getElem->Ua,getElem_mem->TY,setIfInBounds_toArray->Tr,take_length->Tl,set_cons_zero->TI,set_cons_succ->TJ,getElem?_eq_getElem->SU,length->K
open _root_.Nat renaming mul_comm->U8,lt_of_lt_of_le->Tc,not_lt_zero->TW,zero_add->Tm,zero_le->Te
open _root_.Int renaming toNat_natCast->Ta,add_comm->T9,natCast_add->VH,add_mul->Ul,toNat_of_nonneg->TE
open _root_.Or renaming inl->SQ,inr->SP
open Go.World renaming block_lt_of_cell?->SZ,cell?_setCell_other->SY,ownsRow_nil->To,cell?_alloc_at->SR,cell?->D,alloc->E,setCell->C',ownsRow->G'
open Go.Value renaming int->VN
open Go.IntKind renaming i64->VO
open Go.Proofs.Tryz
open _root_.Option renaming some->Z,none->UP
open _root_.Bool renaming true->Q,false->Vl
open Go renaming World->M,Value->Vr,below_drewN->Vxj,wpList_append_own->Vxk,bodyPost_ret->Vxl,wpAnyH_take->Vyb,maxLen->Vyf
open Go.RowKit renaming Hid->Vy
open Go.Ending renaming returned->VJ
open Go.Obj renaming cells->VP
variable {n b d k c tb pb o M9 cap a i mb:Nat}{W H V x y px py:Int}{T T' T0:Nat->Nat->Nat}{t:Bool}{D9 P F:Nat->Prop}{w I:M}{RA:List Vr}{R:Nat->List Vr}{f:Int->Option Vr}
set_option maxHeartbeats 8000000
set_option maxRecDepth 1000000
open Go.RowKit
def prL (Y:Bn) (W:Nat):Nat->Lu
 |0=>[]
 |c+1=>prL Y W c++([o8 (Y c)]++if c%W=W-1 then [10] else [])
theorem Fb (Y:Bn)(W:Nat):∀c,K (prL Y W c)<=2*c
 |0=>by simp[prL]
 |c+1=>by
  have:=Fb Y W c;unfold prL;rw[Td,Td];split<;>simp<;>omega
theorem Fc (Y:Bn){W y:Nat}(h:prL Y W (y*W)=iq Y W y):∀x,x<W->prL Y W (y*W+x)=iq Y W y++mJ Y (y*W) x
 |0,_=>by simp[h,mJ]
 |x+1,a=>by
  rw[show y*W+(x+1)=(y*W+x)+1 by omega];unfold prL;rw[Fc Y h x U];have e:(y*W+x)%W=x:=by rw[U8,Nat.mul_add_mod,Nat.mod_eq_of_lt U]
  rw[e,Q6 U,rH];simp
theorem Aw (Y:Bn){W:Nat}(c:1<=W):∀y,prL Y W (y*W)=iq Y W y
 |0=>by simp[prL,iq]
 |y+1=>by
  have a:=Aw Y c y;have b:=Fc Y a (W-1) U;rw[Nat.succ_mul,show y*W+W=(y*W+(W-1))+1 by omega];unfold prL iq;rw[b];have e:(y*W+(W-1))%W=W-1:=by rw[U8,Nat.mul_add_mod,Nat.mod_eq_of_lt U]
  rw[e,Q5 rfl];have d:mJ Y (y*W) W=mJ Y (y*W) (W-1)++[o8 (Y (y*W+(W-1)))]:=by
   conv=>lhs;rw[show W=(W-1)+1 by omega]
   rw[rH,show W-1+1=W by omega]
  rw[d];simp
theorem Kc (W H:Nat):str [116,121,112,101,32,111,99,116,105,108,101,10,104,101,105,103,104,116,32]++str (Lib.decDigits H)++str [10,119,105,100,116,104,32]++str (Lib.decDigits W)++str [10,109,97,112,10]=str (jQ W H):=by
 rw[bV,bV,bV,bV]
 congr 1
 unfold jQ Lib.itoa;rw[Q6 U,Q6 U,Ta,Ta];simp[eL,aZ,bR,iG]
theorem Fe (h:n<=16):(str (Lib.decDigits n)).size<=20:=by
 rw[ar];have:=gO (n:Int) U U;unfold Lib.itoa at this;rw[Q6 U,Ta]at this;exact this
theorem Dk {W H:Nat}{Y:Bn}(w:M)(g:bo w b W H V Y)(d:b<G w.heap) :
  Rq 44 #[Pq b] w (.string (str (eu Y W H))):=by
 have w1:=g.w1;have w2:=g.w2;have h1:=g.h1;have h2:=g.h2;have A:=Aw Y (W:=W) U H;unfold eu;rw[<- A];have v:=Kc W H;have s1:=Fe (n:=H) U;have s2:=Fe (n:=W) U;have R:=qH v;have S0:∀x:cJ w,Cq x.u b 0 (J W):=λ x=>(x.cell _ _ d).trans g.c0;have X:∀x:cJ w,Cq x.u b 1 (J H):=λ x=>(x.cell _ _ d).trans g.c1;have T:Nonempty (cJ w):=⟨⟨w,ae⟩⟩;clear v A;have HG:=qH g;clear g;go_enter func44,ntmps44;go_wp2;refine bF kQ kQ ?_
 repeat (go_big_quiet_step (first|(go_at_call 34;exact Calls.Vxe (OX rfl U _))))
 refine wpQuiet_nil ?_;rintro _ ⟨x,rfl⟩;have q:=HG.out.below x.h d;have HB:Bq w x.u:=x.h;clear S0 X T;generalize x.u=y at *;have c0:=q.c0;have c1:=q.c1;have C:W*H<=16*16:=Nat.mul_le_mul U U;obtain⟨N,i⟩:∃N,W*H=N:=⟨_,rfl⟩;have P:(W:Int)*(H:Int)=(N:Int):=by rw[<- i,Int.natCast_mul]
 have HN:=qH i;rw[i]at C;clear i;have L:K (jQ W H)<=100:=by
  have i1:=js W U U;have i2:=js H U U;unfold jQ;simp[eL,aZ,bR,iG];omega
 go_wp2;go_loopw [3,4] (λ s c wr=>∃(j:Nat),j<=N/\c=J j/\s=.string (str (jQ W H++prL Y W j))/\∃m,wr=y.drewN m)
  (λ _ c _=>N-(intOf c).toNat)
 case atStart=>exact⟨0,U,rfl,by rw[prL,TU,<- R.out];rfl,0,rfl⟩
 case round =>
  obtain⟨j,hj,rfl,rfl,m,rfl⟩:=hrel;have XG:=Fb Y W j;have sx:(str (jQ W H++prL Y W j)).size<=2000:=by rw[ar,Td];omega
  by_cases VS:j<N
  ·have j1:(0:Int)<=(j:Int)/\(j:Int)<(N:Int)/\(j:Int)<256:=U;have k:=q.cs j U;have tm:(j:Int).tmod (W:Int)=((j%W:Nat):Int):=(by rw[Int.ofNat_tmod]);have t:str (jQ W H++prL Y W (j+1))=str (jQ W H++prL Y W j)++str [o8 (Y j)]++str (if j%W=W-1 then [10] else []):=by
    rw[bV,bV,prL];simp
   have HS:=qH t;clear t;have F:((W:Int)==0)=false:=(by rw[Q4];omega);have I:j%W<16:=Tc (Nat.mod_lt j U) U;generalize p:str (jQ W H++prL Y W j)=SX at *;clear p;by_cases f:j%W=W-1
   ·have l:(((j%W:Nat):Int)==(W:Int)-1)=true:=(by rw[beq_iff_eq];omega);have e:=qH f;clear f;generalize j%W=z at *;cases a:Y j with
    |true =>
     rw[a]at k;go_wp2;go_quiet (fail);go_wp2;go_quiet (fail);go_wp2;go_roundw
     case rel=>exact⟨j+1,U,gQ,by rw[HS.out,Q5 e.out,a];rfl,_,rfl⟩
     case measure=>simp[intOf];omega
    |false =>
     rw[a]at k;go_wp2;go_quiet (fail);go_wp2;go_quiet (fail);go_wp2;go_roundw
     case rel=>exact⟨j+1,U,gQ,by rw[HS.out,Q5 e.out,a];rfl,_,rfl⟩
     case measure=>simp[intOf];omega
   ·have l:(((j%W:Nat):Int)==(W:Int)-1)=false:=(by rw[Q4];omega);have e:=qH f;clear f;generalize j%W=z at *;have r:∀S:ByteArray,S++str []=S:=λ S=>by
     apply ByteArray.ext;rw[ByteArray.data_append];simp[str]
    have B:=qH r;clear r;cases a:Y j with
    |true =>
     rw[a]at k;go_wp2;go_quiet (fail);go_wp2;go_quiet (fail);go_wp2;go_roundw
     case rel=>exact⟨j+1,U,gQ,by rw[HS.out,Q6 e.out,a,B.out];rfl,_,rfl⟩
     case measure=>simp[intOf];omega
    |false =>
     rw[a]at k;go_wp2;go_quiet (fail);go_wp2;go_quiet (fail);go_wp2;go_roundw
     case rel=>exact⟨j+1,U,gQ,by rw[HS.out,Q6 e.out,a,B.out];rfl,_,rfl⟩
     case measure=>simp[intOf];omega
  ·have o:j=N:=U;subst o;have HM:Vy (H*W=j):=(by show H*W=j;rw[U8];exact HN.out);have j2:¬(j:Int)<(j:Int):=U;go_wp2;go_quiet (fail);go_wp2;go_ret;exact⟨by rw[HM.out];rfl,Vxj (Vxj HB _) _⟩
def rL (W H:Int) (Y:Bn) (d:Nat):Nat->Int->Int->Nat
 |0,_,_=>0
 |n+1,x,y=>if bu W H Y x y d then rL W H Y d n (x+ah d) (y+af d)+1 else 0
def clr (W H:Int) (Y:Bn) (x y:Int) (d:Nat):Nat:=rL W H Y d 16 x y
theorem Ff (W H:Int)(Y:Bn)(d:Nat):∀(n:Nat) (x y:Int),rL W H Y d n x y<=n
 |0,_,_=>aa
 |n+1,x,y=>by
  unfold rL;split;have:=Ff W H Y d n (x+ah d) (y+af d);omega;omega
theorem yM (W H:Int)(Y:Bn)(x y:Int)(d:Nat):clr W H Y x y d<=16:=Ff W H Y d 16 x y
theorem iH :atB W H x y=Q↔(0<=x/\x<W/\0<=y/\y<H):=by unfold atB;exact decide_eq_true_iff
theorem Nx {Y:Bn}(h:aM W H Y x y=Q):atB W H x y=true:=by grind [aM]
theorem gR {Y:Bn}(h:bu W H Y x y d=Q):atB W H x y=Q/\atB W H (x+ah d) (y+af d)=true:=by grind [bu,atB,ah,af,Nx,aM]
theorem dO (b:d<8):(ah d=0/\af d=-1)\/(ah d=1/\af d=-1)\/(ah d=1/\af d=0)\/(ah d=1/\af d=1)\/(ah d=0/\af d=1)\/(ah d=-1/\af d=1)\/(ah d=-1/\af d=0)\/(ah d=-1/\af d=-1):=by
 have a:d=0\/d=1\/d=2\/d=3\/d=4\/d=5\/d=6\/d=7:=U;rcases a with rfl|rfl|rfl|rfl|rfl|rfl|rfl|rfl<;>decide
def room (dx dy x y:Int):Int:=if dx=1 then 15-x else if dx=-1 then x else if dy=1 then 15-y else y
theorem lK (a:W<=16)(c:H<=16)(b:d<8)(h:atB W H x y=Q):0<=room (ah d) (af d) x y/\room (ah d) (af d) x y<=15/\room (ah d) (af d) (x+ah d) (y+af d)=room (ah d) (af d) x y-1:=by grind [atB,room,ah,af,iH,dO,eq_false_of_decide]
theorem xj {Y:Bn}(c:W<=16)(f:H<=16)(e:d<8):∀(n:Nat) (x y:Int),room (ah d) (af d) x y<=n->rL W H Y d (n+1) x y=rL W H Y d n x y
 |0,x,y,i=>by
  show (if bu W H Y x y d then _ else 0)=0;cases g:bu W H Y x y d with
  |false=>rfl
  |true =>
   obtain⟨a,b⟩:=gR g;have h:=lK c f e a;have j:=lK c f e b;omega
 |n+1,x,y,i=>by
  show (if bu W H Y x y d then rL W H Y d (n+1) (x+ah d) (y+af d)+1 else 0)=(if bu W H Y x y d then rL W H Y d n (x+ah d) (y+af d)+1 else 0);cases g:bu W H Y x y d with
  |false=>rfl
  |true =>
   obtain⟨a,b⟩:=gR g;have h:=lK c f e a;rw[xj c f e n _ _ U]
theorem Fg {Y:Bn}(c:W<=16)(g:H<=16)(f:d<8)(h:bu W H Y x y d=Q):clr W H Y x y d=clr W H Y (x+ah d) (y+af d) d+1:=by
 obtain⟨a,b⟩:=gR h;have i:=lK c g f a;have e:rL W H Y d 16 (x+ah d) (y+af d)=rL W H Y d 15 (x+ah d) (y+af d):=xj c g f 15 _ _ U;unfold clr;rw[e];show (if bu W H Y x y d then _ else 0)=_;rw[h];rfl
theorem Fh {Y:Bn}(h:bu W H Y x y d=Vl):clr W H Y x y d=0:=by grind [bu,clr,rL,ah,af]
def CBk (dx dy x y u v:Int):Prop:=∃k:Nat,u=x-k*dx/\v=y-k*dy
theorem CBk.more {b a u v:Int}(h:CBk b a x y (u+b) (v+a)):CBk b a x y u v:=by
 obtain⟨k,d,c⟩:=h;refine⟨k+1,?_,?_⟩
 grind
 grind
def idx (W x y:Int):Nat:=(y*W+x).toNat
theorem gS (h:atB W H x y=Q):((idx W x y:Nat):Int)=y*W+x/\(idx W x y:Int)%W=x/\(idx W x y:Int)/W=y:=by
 obtain⟨b,a,c,f⟩:=iH.1 h;have d:0<=y*W:=Int.mul_nonneg c U;have e:((idx W x y:Nat):Int)=y*W+x:=by unfold idx;omega
 refine⟨e,?_,?_⟩;rw[e,T9,Int.add_mul_emod_self_right];exact Int.emod_eq_of_lt b a;rw[e,T9,Int.add_mul_ediv_right _ _ U,Int.ediv_eq_zero_of_lt b a];omega
theorem yN (b:1<=W)(a:W<=16)(d:1<=H)(c:H<=16)(h:atB W H x y=Q):idx W x y<256/\(idx W x y:Int)<W*H:=by
 obtain⟨e,_⟩:=gS h;obtain⟨j,i,g,f⟩:=iH.1 h;obtain⟨m,l,k⟩:=Cy b a d c j i g f;omega
theorem qq {u v:Int}(h:atB W H x y=Q)(k:atB W H u v=Q)(e:idx W x y=idx W u v):x=u/\y=v:=by grind [gS]
theorem qt (a:1<=W){c:Int}(h:inB W H c=Q):atB W H (c%W) (c/W)=Q/\(idx W (c%W) (c/W):Int)=c:=by grind [inB,atB,idx,Int.emod_nonneg,Int.emod_lt_of_pos,Int.ediv_nonneg,Int.ediv_lt_of_lt_mul,Int.mul_comm,iH,gS,Int.mul_ediv_add_emod]
def jR (W H:Int) (Y:Bn) (T:Nat->Nat->Nat) (d:Nat):Prop:=∀u v,atB W H u v=Q->T (idx W u v) d=clr W H Y u v d
def qu (T:Nat->Nat->Nat) (c d n:Nat):Nat->Nat->Nat:=λ i e=>if i=c/\e=d then n else T i e
def ff (W H:Int) (Y:Bn) (d:Nat) (T T':Nat->Nat->Nat):Prop:=∀u v e,atB W H u v=Q->T' (idx W u v) e=T (idx W u v) e\/(e=d/\T' (idx W u v) d=clr W H Y u v d)
theorem ff.refl (W H:Int)(Y:Bn)(d:Nat)(T:Nat->Nat->Nat):ff W H Y d T T:=λ _ _ _ _=>SQ rfl
theorem ff.trans {Y:Bn}{a:Nat->Nat->Nat}(h:ff W H Y d T T')(k:ff W H Y d T' a):ff W H Y d T a:=by grind [ff]
theorem ff.X' {Y:Bn}(h:ff W H Y d T T'){u v:Int}(b:atB W H u v=Q){e:Nat}(a:T (idx W u v) e=clr W H Y u v e):T' (idx W u v) e=clr W H Y u v e:=by grind [ff,atB,idx,clr]
theorem ff.other {Y:Bn}(h:ff W H Y d T T'){u v:Int}(b:atB W H u v=Q){e:Nat}(a:e≠d):T' (idx W u v) e=T (idx W u v) e:=by grind [ff,atB,idx]
theorem ff.set {Y:Bn}(b:atB W H x y=Q){n:Nat}(a:n=clr W H Y x y d):ff W H Y d T (qu T (idx W x y) d n):=by grind [atB,clr,ff,qu,idx,qq]
theorem xk (T:Nat->Nat->Nat)(c d n m:Nat):qu (qu T c d n) c d m=qu T c d m:=by
 funext i e
 unfold qu;split<;>rfl
theorem Ny (f:d<8){j k:Nat}(c:k<=j)(h:atB W H x y=Q)(e:atB W H (x-j*ah d) (y-j*af d)=Q):atB W H (x-k*ah d) (y-k*af d)=true:=by
 rw[iH]at *;rcases dO f with⟨b,a⟩|⟨b,a⟩|⟨b,a⟩|⟨b,a⟩|⟨b,a⟩|⟨b,a⟩|⟨b,a⟩|⟨b,a⟩<;>(rw[b,a]at e ⊢;omega)
theorem Dl (a:W<=16)(e:H<=16)(c:d<8){k:Nat}(h:atB W H x y=Q)(b:atB W H (x-k*ah d) (y-k*af d)=Q):k<=15:=by grind [atB,ah,af,dO,iH]
theorem Kd (a:W<=16)(f:H<=16)(c:d<8):∀(n:Nat) (u v:Int),room (ah d) (af d) u v<=n->atB W H u v=Q->∃x y,atB W H x y=Q/\atB W H (x+ah d) (y+af d)=Vl/\CBk (ah d) (af d) x y u v
 |n,u,v,b,g=>by
  cases e:atB W H (u+ah d) (v+af d) with
  |false=>exact⟨u,v,g,e,0,by simp,by simp⟩
  |true =>
   have l:=lK a f c g;have k:=lK a f c e
   match n,b with
   |0,b=>omega
   |n+1,b =>
    obtain⟨x,y,j,i,h⟩:=Kd a f c n (u+ah d) (v+af d) U e;exact⟨x,y,j,i,h.more⟩
theorem Ke {Y:Bn}(a:atB W H px py=Q)(b:¬(x=px/\y=py)):aM W H (upd Y (idx W px py) t) x y=aM W H Y x y:=by grind [atB,aM,upd,idx,qq]
theorem Ax {Y:Bn}(e:atB W H px py=Q):∀(n:Nat) (u v:Int),¬CBk (ah d) (af d) px py u v->¬CBk (ah d) (af d) (px-ah d) py u v->¬CBk (ah d) (af d) px (py-af d) u v ->
  rL W H (upd Y (idx W px py) t) d n u v=rL W H Y d n u v
 |0,_,_,_,_,_=>rfl
 |n+1,u,v,i,h,g=>by
  have c:∀{x y u v:Int},u=x->v=y->CBk (ah d) (af d) x y u v:=λ b a=>⟨0,by simp[b],by simp[a]⟩;have j:∀{x y u v:Int},u+ah d=x->v+af d=y->CBk (ah d) (af d) x y u v:=λ b a=>CBk.more (c b a);have f:bu W H (upd Y (idx W px py) t) u v d=bu W H Y u v d:=by grind [bu,Ke]
  show (if bu W H _ u v d then _ else 0)=(if bu W H Y u v d then _ else 0);rw[f,Ax e n _ _ (λ q=>i q.more) (λ q=>h q.more) (λ q=>g q.more)]
theorem qv {Y:Bn}(a:atB W H px py=Q){u v:Int}(e:¬CBk (ah d) (af d) px py u v)(c:¬CBk (ah d) (af d) (px-ah d) py u v)(b:¬CBk (ah d) (af d) px (py-af d) u v) :
  clr W H (upd Y (idx W px py) t) u v d=clr W H Y u v d:=Ax a 16 u v e c b
structure Cnt (W H:Int) (Y:Bn) (d:Nat) (x y:Int) (k:Nat) (T0 T:Nat->Nat->Nat):Prop where
 turn:ff W H Y d T0 T
 done:∀j:Nat,j<k->atB W H (x-j*ah d) (y-j*af d)=Q/\T (idx W (x-j*ah d) (y-j*af d)) d=clr W H Y (x-j*ah d) (y-j*af d) d
theorem Cnt.start (W H:Int)(Y:Bn)(d:Nat)(x y:Int)(T:Nat->Nat->Nat):Cnt W H Y d x y 0 T T:=⟨ff.refl _ _ _ _ _,λ _ h=>Q8 h (TW _)⟩
theorem Cnt.ahead {Y:Bn}(h:Cnt W H Y d x y k T0 T)
  (g:bu W H Y x y d=Q->T0 (idx W (x+ah d) (y+af d)) d=clr W H Y (x+ah d) (y+af d) d) {px py:Int}(f:px=x-k*ah d) (e:py=y-k*af d) (c:bu W H Y px py d=Q) :
  T (idx W (px+ah d) (py+af d)) d=clr W H Y (px+ah d) (py+af d) d:=by
 cases k with
 |zero =>
  have b:px=x:=by simpa using f
  have a:py=y:=by simpa using e
  subst b a;exact h.turn.X' (gR c).2 (g c)
 |succ j =>
  have:=(h.done j (Nat.lt_succ_self j)).2;rw[VH,Ul]at f e;have b:px+ah d=x-j*ah d:=U;have a:py+af d=y-j*af d:=U;rw[b,a];exact this
theorem Cnt.next {Y:Bn}(h:Cnt W H Y d x y k T0 T){px py:Int}(i:px=x-k*ah d)(g:py=y-k*af d)(f:atB W H px py=Q)
  (e:n=clr W H Y px py d):Cnt W H Y d x y (k+1) T0 (qu T (idx W px py) d n):=by
 have c:ff W H Y d T (qu T (idx W px py) d n):=ff.set f e;refine⟨h.turn.trans c,λ j l=>?_⟩;by_cases q:j<k
 ·obtain⟨a,b⟩:=h.done j q;exact⟨a,c.X' a b⟩
 ·have:j=k:=U;subst this;rw[<- i,<- g];exact⟨f,(Q5 ⟨rfl,rfl⟩).trans e⟩
theorem Cnt.short {Y:Bn}(c:W<=16)(f:H<=16)(e:d<8)(h:Cnt W H Y d x y k T0 T):k<=16:=by
 cases k with
 |zero=>omega
 |succ j =>
  have a:=(h.done 0 U).1;have b:=(h.done j U).1;simp only[Int.natCast_zero,Int.zero_mul,Int.sub_zero]at a;have:=Dl c f e a b;omega
structure jS (W H:Int) (Y:Bn) (d:Nat) (x y:Int) (T T':Nat->Nat->Nat):Prop where
 turn:ff W H Y d T T'
 right:∀u v,atB W H x y=Q->CBk (ah d) (af d) x y u v->atB W H u v=Q->T' (idx W u v) d=clr W H Y u v d
theorem Cnt.over {Y:Bn}(e:d<8)(h:Cnt W H Y d x y k T0 T)(c:atB W H (x-k*ah d) (y-k*af d)=Vl):jS W H Y d x y T0 T:=by
 refine⟨h.turn,λ u v g ⟨j,b,a⟩ f=>?_⟩;subst b a;by_cases q:j<k
 ·exact(h.done j q).2
 ·grind [Ny,Nat.le_of_not_lt]
def left (x y px py:Int):Nat:=20-max (x-px).natAbs (y-py).natAbs
def mN (W H:Int) (Y:Bn) (T:Nat->Nat->Nat) (c e:Nat):Prop:=∀x y d,atB W H x y=Q->d<8->atB W H (x+ah d) (y+af d)=Vl->(idx W x y<c\/(idx W x y=c/\d<e)) ->
 ∀u v,CBk (ah d) (af d) x y u v->atB W H u v=Q->T (idx W u v) d=clr W H Y u v d
theorem mN.start (W H:Int)(Y:Bn)(T:Nat->Nat->Nat):mN W H Y T 0 0:=λ _ _ _ _ _ _ h=>Q8 h U
theorem mN.pass {Y:Bn}{e:Nat}(h:mN W H Y T c e){px py:Int}(a:atB W H px py=Q)(d:idx W px py=c)(b:atB W H (px+ah e) (py+af e)=Q):mN W H Y T c (e+1):=by grind [mN,atB,idx,ah,af,CBk,clr,qq]
theorem mN.count {Y:Bn}{e:Nat}(h:mN W H Y T c e){px py:Int}(j:atB W H px py=Q)(l:idx W px py=c)(f:jS W H Y e px py T T'):mN W H Y T' c (e+1):=λ x y d b k m n u v g a=>by
 by_cases q:idx W x y=c/\d=e;obtain⟨i,rfl⟩:=q;obtain⟨rfl,rfl⟩:=qq j b (l.trans i.symm);exact f.right u v b g a;exact f.turn.X' a (h x y d b k m U u v g a)
theorem mN.next {Y:Bn}(h:mN W H Y T c 8):mN W H Y T (c+1) 0:=λ x y d e a b f=>h x y d e a b U
theorem mN.all {Y:Bn}(i:1<=W)(a:W<=16)(l:1<=H)(f:H<=16)(m:W*H<=c)(h:mN W H Y T c 0){d:Nat}(e:d<8):jR W H Y T d:=λ u v b=>by
 have r:=lK a f e b;obtain⟨x,y,g,k,j⟩:=Kd a f e 15 u v r.2.1 b;have:=yN i a l f g;exact h x y d g e k (SQ U) u v j b
theorem Nz {Y:Bn}(h:atB W H (x+ah d) (y+af d)=Vl):bu W H Y x y d=false:=by
 cases a:bu W H Y x y d with
 |false=>rfl
 |true=>rw[(gR a).2]at h;cases h
theorem QV {Y:Bn}(f:d<8)(c:atB W H px py=Q)(g:jR W H Y T d)(e:bu W H (upd Y (idx W px py) t) px py d=Q) :
  T (idx W (px+ah d) (py+af d)) d=clr W H (upd Y (idx W px py) t) (px+ah d) (py+af d) d:=by
 rw[g _ _ (gR e).2,qv c]
 all_goals
  rintro⟨k,i,h⟩;rcases dO f with⟨b,a⟩|⟨b,a⟩|⟨b,a⟩|⟨b,a⟩|⟨b,a⟩|⟨b,a⟩|⟨b,a⟩|⟨b,a⟩<;>(rw[b]at i;rw[a]at h;omega)
theorem QW {Y:Bn}(g:d<8)(f:atB W H px py=Q)(i:jR W H Y T d)(h:ff W H (upd Y (idx W px py) t) d T T')(_hx:ah d≠0)(e:af d≠0)(c:bu W H (upd Y (idx W px py) t) (px-ah d) py d=Q) :
  T' (idx W (px-ah d+ah d) (py+af d)) d=clr W H (upd Y (idx W px py) t) (px-ah d+ah d) (py+af d) d:=by
 refine h.X' (gR c).2 ?_;rw[i _ _ (gR c).2,qv f]
 all_goals
  rintro⟨k,l,j⟩;rcases dO g with⟨b,a⟩|⟨b,a⟩|⟨b,a⟩|⟨b,a⟩|⟨b,a⟩|⟨b,a⟩|⟨b,a⟩|⟨b,a⟩<;>(rw[b]at l _hx;rw[a]at j e;omega)
theorem QX {Y:Bn}(h:d<8)(g:atB W H px py=Q)(j:jR W H Y T d)(i:ff W H (upd Y (idx W px py) t) d T T')(f:ah d≠0)(e:af d≠0)(c:bu W H (upd Y (idx W px py) t) px (py-af d) d=Q) :
  T' (idx W (px+ah d) (py-af d+af d)) d=clr W H (upd Y (idx W px py) t) (px+ah d) (py-af d+af d) d:=by
 refine i.X' (gR c).2 ?_;rw[j _ _ (gR c).2,qv g]
 all_goals
  rintro⟨k,m,l⟩;rcases dO h with⟨b,a⟩|⟨b,a⟩|⟨b,a⟩|⟨b,a⟩|⟨b,a⟩|⟨b,a⟩|⟨b,a⟩|⟨b,a⟩<;>(rw[b]at m f;rw[a]at l e;omega)
theorem qw {Y:Bn}(j:d<8)(i:atB W H px py=Q)(l:jR W H Y T d)(h:jS W H (upd Y (idx W px py) t) d px py T T')(c:ah d=0\/af d=0):jR W H (upd Y (idx W px py) t) T' d:=λ u v e=>by
 by_cases q:CBk (ah d) (af d) px py u v;exact h.right u v i q e;refine h.turn.X' e ?_;rw[l u v e,qv i q];rintro⟨k,g,f⟩;refine q ?_;rcases dO j with⟨b,a⟩|⟨b,a⟩|⟨b,a⟩|⟨b,a⟩|⟨b,a⟩|⟨b,a⟩|⟨b,a⟩|⟨b,a⟩<;>(rw[b]at g c;rw[a]at f c;rw[b,a])<;>first|(exfalso;omega)|exact⟨k,U,U⟩|exact⟨k+1,U,U⟩
 rintro⟨k,g,f⟩;refine q ?_;rcases dO j with⟨b,a⟩|⟨b,a⟩|⟨b,a⟩|⟨b,a⟩|⟨b,a⟩|⟨b,a⟩|⟨b,a⟩|⟨b,a⟩<;>(rw[b]at g c;rw[a]at f c;rw[b,a])<;>first|(exfalso;omega)|exact⟨k,U,U⟩|exact⟨k+1,U,U⟩
theorem Kf {Y:Bn}{r q p:Nat->Nat->Nat}(n:d<8)(e:atB W H px py=Q)(s:jR W H Y T d)(o:jS W H (upd Y (idx W px py) t) d px py T r)
  (i:jS W H (upd Y (idx W px py) t) d (px-ah d) py r q) (f:jS W H (upd Y (idx W px py) t) d px (py-af d) q p) (_hx:ah d≠0) (_hy:af d≠0):jR W H (upd Y (idx W px py) t) p d:=λ u v c=>by
 by_cases m:CBk (ah d) (af d) px py u v;exact f.turn.X' c (i.turn.X' c (o.right u v e m c));by_cases h:CBk (ah d) (af d) (px-ah d) py u v;refine f.turn.X' c (i.right u v ?_ h c);obtain⟨k,l,j⟩:=h;rw[iH]at c e ⊢;rcases dO n with⟨b,a⟩|⟨b,a⟩|⟨b,a⟩|⟨b,a⟩|⟨b,a⟩|⟨b,a⟩|⟨b,a⟩|⟨b,a⟩<;>(rw[b]at l _hx;rw[a]at j _hy;rw[b];omega)
 by_cases g:CBk (ah d) (af d) px (py-af d) u v;refine f.right u v ?_ g c;obtain⟨k,l,j⟩:=g;rw[iH]at c e ⊢;rcases dO n with⟨b,a⟩|⟨b,a⟩|⟨b,a⟩|⟨b,a⟩|⟨b,a⟩|⟨b,a⟩|⟨b,a⟩|⟨b,a⟩<;>(rw[b]at l _hx;rw[a]at j _hy;rw[a];omega)
 refine f.turn.X' c (i.turn.X' c (o.turn.X' c ?_));rw[s u v c,qv e m h g]
theorem gL.X' (f:gL w b)(a:b<G w.heap)(c:ai D9 w I)(h:¬D9 b):gL I b:=by grind [gL,ai.frozen]
structure ew (w:M) (tb pb:Nat) (W H V:Int) (Y:Bn) (T:Nat->Nat->Nat):Prop where
 p0:D w (O tb 0)=Z (Pq pb)
 ts:∀c d,c<256->d<8->D w (O tb (1+c*8+d))=Z (J (T c d:Nat))
 fr:gL w tb
 ga:aq w pb W H V Y
 gf:gL w pb
 st:az w
 ne:tb≠pb
 n0:3≠tb
 n1:3≠pb
theorem ew.blocks {Y:Bn}(t:ew w tb pb W H V Y T):tb<G w.heap/\pb<G w.heap:=⟨SZ w _ t.p0,SZ w _ t.ga.c0⟩
theorem ew.X' {Y:Bn}(t:ew w tb pb W H V Y T)(a:ai D9 w I)(b:¬D9 tb)(e:¬D9 pb)(h:¬D9 3):ew I tb pb W H V Y T :=
 ⟨a.cellOf t.p0 b,λ c d g f=>a.cellOf (t.ts c d g f) b,t.fr.X' t.blocks.1 a b,t.ga.X' a e,t.gf.X' t.blocks.2 a e,t.st.X' a h,t.ne,t.n0,t.n1⟩
theorem ew.drewN {Y:Bn}(t:ew w tb pb W H V Y T)(m:Nat):ew (w.drewN m) tb pb W H V Y T :=
 ⟨t.p0,t.ts,t.fr,t.ga.drewN m,t.gf,t.st.drewN m,t.ne,t.n0,t.n1⟩
theorem PH {b a:Nat}(f:d<8)(e:a<8)(h:¬(b=c/\a=d)):1+b*8+a≠1+c*8+d:=U
theorem ew.set {Y:Bn}(t:ew w tb pb W H V Y T){c d:Nat}(i:c<256)(f:d<8)(n:Nat):ew (C' w (O tb (1+c*8+d)) (J n)) tb pb W H V Y (qu T c d n):=by
 have e:ai (λ k=>k=tb) w (C' w (O tb (1+c*8+d)) (J n)):=(ai.refl (λ k=>k=tb) w).setCell (p:=O tb (1+c*8+d)) (λ _=>rfl) _;refine⟨?_,λ h g b a=>?_,λ o=>by simpa using t.fr o,t.ga.X' e (λ q=>t.ne q.symm),t.gf.X' t.blocks.2 e (λ q=>t.ne q.symm),t.st.X' e t.n0,t.ne,t.n0,t.n1⟩;rw[SY _ _ _ _ (ck U)];exact t.p0;unfold qu;by_cases q:h=c/\g=d;rw[Q5 q,q.1,q.2];exact World.cell?_setCell_same _ _ _ (t.ts c d i f);rw[Q6 q,SY _ _ _ _ (ck (PH f a q).symm)];exact t.ts h g b a
theorem PI {Y:Bn}(d:idx W x y=c)(w:M)(g:aq w b W H V Y)(a:atB W H x y=Q) :
  Eq9 172 #[Pq b,J x,J y] w (.tuple #[J (c:Int),.nilIface]):=by grind [zu,gS]
theorem GN {W H V:Int}{Y:Bn}(x y:Int)(d:Nat)(w:M)(t:ew w tb pb W H V Y T)(j:d<8)(o:-50<=x)(n:x<=50)(l:-50<=y)(k:y<=50) :
  Dq 124 #[Pq tb,J x,J y,J d] w (.bool (!atB W H (x+ah d) (y+af d))):=by
 obtain⟨s,r,q,p⟩:=gX d;have f:=λ w h=>ij d w h j;have u:=t.p0;generalize ah d=e at *;generalize af d=c at *;cases i:atB W H (x+e) (y+c) with
 |true =>
  have a:=λ w g=>zu (b:=pb) (W:=W) (H:=H) (V:=V) (Y:=Y) (x+e) (y+c) w g i;go_enter func124,ntmps124;go_wp2_with (first|(go_at_call 171;refine QQ (f _ t.st) λ m=>?_)|(go_at_call 172;refine Q0 (a _ (t.ga.drewN _)) ?_));go_ret;exact⟨rfl,_,rfl⟩
 |false =>
  have a:=λ w g=>vJ (b:=pb) (W:=W) (H:=H) (V:=V) (Y:=Y) (x+e) (y+c) w g i;go_enter func124,ntmps124;go_wp2_with (first|(go_at_call 171;refine QQ (f _ t.st) λ m=>?_)|(go_at_call 172;refine Q0 (a _ (t.ga.drewN _)) ?_));go_ret;exact⟨rfl,_,rfl⟩
theorem Ay {n:Int}(b:-1000000<=n)(a:n<=1000000):IntKind.i64.wrap n=n:=by
 unfold IntKind.wrap;simp[IntKind.bits,IntKind.signed];omega
def GO (w I:M) (e:Ending) (tb pb:Nat) (W H V:Int) (Y:Bn) (d:Nat) (x y:Int) (T:Nat->Nat->Nat):Prop :=
 e=VJ (.tuple #[])/\∃T',ew I tb pb W H V Y T'/\jS W H Y d x y T T'/\ai (λ k=>k=tb) w I
theorem Kg {Y:Bn}(c:bu W H Y px py d=Q):((idx W px py:Nat):Int)+(af d*W+ah d)=(idx W (px+ah d) (py+af d):Nat):=by
 obtain⟨a,b⟩:=gR c;rw[(gS a).1,(gS b).1,Ul];omega
theorem QY {c r:Int}{Y:Bn}(a:c+(af d*W+ah d)=r)(w:M)(g:aq w b W H V Y)(s:az w)(e:d<8)(c1:-1000<=c)(c2:c<=1000) :
  Dq 174 #[Pq b,J c,J d] w (J r):=a▸Jm c d w g s e c1 c2
theorem og {W H V:Int}{Y:Nat->Bool}(x y:Int)(d:Nat)(w:M)(t:ew w tb pb W H V Y T)(a:d<8)(x1:-50<=x)(x2:x<=50)(y1:-50<=y)(y2:y<=50)
  (h0:bu W H Y x y d=Q->T (idx W (x+ah d) (y+af d)) d=clr W H Y (x+ah d) (y+af d) d) :
  Calls Vyj 125 #[.pointer (Z ⟨tb,0,UP⟩),VN VO x,VN VO y,VN VO d] w λ e I=>GO w I e tb pb W H V Y d x y T:=by
 obtain⟨s1,s2,s3,s4⟩:=gX d;have hs:=λ w h=>ij d w h a;have X:=t.ga.w1;have i:=t.ga.w2;have ag:=t.ga.h1;have l:=t.ga.h2;have d0:(0:Int)<=(d:Int):=U;have d8:(d:Int)<8:=U;go_enter func125,ntmps125;go_wp2_with (go_at_call 171;refine(hs _ t.st).mono ?_;rintro e I ⟨rfl,m,rfl⟩);go_loopg [1,2] 17 (λ gk xv yv wr=>∃(k:Nat) (px py:Int) (T':Nat->Nat->Nat),gk=17-k/\xv=VN VO px/\yv=VN VO py/\px=x-k*ah d/\py=y-k*af d/\-100<=px/\px<=100/\-100<=py/\py<=100/\ew wr tb pb W H V Y T'/\Cnt W H Y d x y k T T'/\ai (λ k=>k=tb) w wr)
 case atStart=>exact⟨0,x,y,T,rfl,rfl,rfl,by simp,by simp,U,U,U,U,t.drewN m,Cnt.start W H Y d x y T,(ai.refl _ w).drewN m⟩
 case round =>
  obtain⟨k,px,py,T',WV,rfl,rfl,ex,ey,b1,b2,b3,b4,j,C,K9⟩:=hrel;have HG:=qH WV;have HX:=qH ex;have HY:=qH ey;have hk:=C.short i l a;clear WV ex ey hs;have hp:=j.p0;cases o:atB W H px py with
  |false =>
   have R:=vJ (b:=pb) (W:=W) (H:=H) (V:=V) (Y:=Y) px py wr j.ga o;go_wp2_with (go_at_call 172;refine R.mono ?_;rintro e I ⟨rfl,rfl⟩);have CO:jS W H Y d x y T T':=C.over a (by rw[<- HX.out,<- HY.out];exact o);exact Vxl (v:=.tuple #[]) (by simp[results,results125,go_sem]) rfl ⟨rfl,T',j,CO,K9⟩
  |true =>
   obtain⟨c,S⟩:∃c,idx W px py=c:=⟨_,rfl⟩;have R:=PI S wr j.ga o;have P:=(yN X i ag l o).1;rw[S]at P;have aN:(c:Int)<256:=U;have ac:=j.ts c d P a;have YG:=j.fr (1+c*8+d);have u:ew (wr.setCell ⟨tb,1+c*8+d,UP⟩ (VN VO 0)) tb pb W H V Y (qu T' c d 0):=j.set P a 0;have K1:ai (λ k=>k=tb) w (wr.setCell ⟨tb,1+c*8+d,UP⟩ (VN VO 0)):=K9.setCell (p:=⟨tb,1+c*8+d,UP⟩) (λ _=>rfl) _;have nx:px-ah d=x-((k+1:Nat):Int)*ah d:=(by rw[HX.out,VH,Ul];omega);have ny:py-af d=y-((k+1:Nat):Int)*af d:=(by rw[HY.out,VH,Ul];omega);have an:=qH nx;have am:=qH ny;clear nx ny;obtain⟨i1,i2,i3,i4⟩:=iH.1 o;cases B:bu W H Y px py d with
   |false =>
    have C1:=C.next HX.out HY.out o (Fh B).symm
    rw[S]at C1;go_wp2_with (first|(go_at_call 172;refine R.mono ?_;rintro e I ⟨rfl,rfl⟩));clear j K9 R ac YG hp;generalize I.setCell ⟨tb,1+c*8+d,UP⟩ (VN VO 0)=W1 at *;refine(wC B W1 u.ga u.st a b1 b2 b3 b4).mono ?_;rintro e w2 ⟨rfl,z,rfl⟩;go_wp2;go_roundg (17-(k+1))
    case measure=>have:=HG.out;omega
    case rel=>exact⟨k+1,px-ah d,py-af d,_,rfl,rfl,rfl,an.out,am.out,U,U,U,U,u.drewN z,C1,K1.drewN z⟩
   |true =>
    have ad:=C.ahead h0 HX.out HY.out B;have XV:=Kg B;have Yg:=Fg i l a B;have N:=(gR B).2;have ab:=(yN X i ag l N).1;rw[S]at XV;have VY:idx W (px+ah d) (py+af d)≠c:=by
     intro q;obtain⟨q1,q2⟩:=qq N o (q.trans S.symm);rcases dO a with⟨L,F⟩|⟨L,F⟩|⟨L,F⟩|⟨L,F⟩|⟨L,F⟩|⟨L,F⟩|⟨L,F⟩|⟨L,F⟩<;>omega
    have C1:=C.next HX.out HY.out o Yg.symm
    rw[S]at C1;have Zs:qu T' c d 0 (idx W (px+ah d) (py+af d)) d=clr W H Y (px+ah d) (py+af d) d:=by
     rw[<- ad];exact if_neg (λ q=>VY q.1)
    have aL:=yM W H Y (px+ah d) (py+af d) d;have T2:=λ m=>(u.drewN m).set P a (clr W H Y (px+ah d) (py+af d) d+1);simp only[xk]at T2;generalize hr:idx W (px+ah d) (py+af d)=r at *;generalize clr W H Y (px+ah d) (py+af d) d=n at *;have au:(r:Int)<256:=U;have aw:(0:Int)<=(r:Int):=U;clear ad Yg N;go_wp2_with (first|(go_at_call 172;refine R.mono ?_;rintro e I ⟨rfl,rfl⟩));clear j K9 R ac YG hp;generalize I.setCell ⟨tb,1+c*8+d,UP⟩ (VN VO 0)=W1 at *;refine(wC B W1 u.ga u.st a b1 b2 b3 b4).mono ?_;rintro e w2 ⟨rfl,z,rfl⟩;have f:ew (W1.drewN z).drew tb pb W H V Y (qu T' c d 0):=u.drewN (z+1);have K3:=(K1.drewN z).drew;have ap:=λ w g s=>QY (b:=pb) (H:=H) (V:=V) (Y:=Y) XV w g s a U U;clear u K1 T2;generalize W1.drewN z=W4 at *;have p1:=f.p0;have l1:=f.ts r d ab a;rw[Zs]at l1;have l2:=f.ts c d P a;have fr:=f.fr (1+c*8+d);have ay:(0:Int)<=(n:Int):=U;have ax:(n:Int)<=16:=U;go_wp2;go_region_with (go_at_call 174;refine(ap _ f.ga f.st).mono ?_;rintro e w3 ⟨rfl,m3,A⟩;have f:ew w3 tb pb W H V Y (qu T' c d 0):=(by rw[A];exact f.drewN m3);have K3:ai (λ k=>k=tb) w w3:=(by rw[A];exact K3.drewN m3);clear A;have p1:=f.p0;have l1:=f.ts r d ab a;rw[Zs]at l1;have l2:=f.ts c d P a;have fr:=f.fr (1+c*8+d))
    all_goals
     have ao:IntKind.i64.wrap ((n:Int)+1)=((n+1:Nat):Int):=(by rw[Ay U U];rfl);have T5:=f.set P a (n+1);have K5:ai (λ k=>k=tb) w (w3.setCell ⟨tb,1+c*8+d,UP⟩ (VN VO ((n+1:Nat):Int))):=K3.setCell (p:=⟨tb,1+c*8+d,UP⟩) (λ _=>rfl) _;rw[xk]at T5;rw[ao];clear f K3 p1 l1 l2 fr;go_wp2;go_roundg (17-(k+1))
     case measure=>have:=HG.out;omega
     case rel=>exact⟨k+1,px-ah d,py-af d,_,rfl,rfl,rfl,an.out,am.out,U,U,U,U,T5,C1,K5⟩
def Fj (w I:M) (e:Ending) (tb pb:Nat) (W H V:Int) (Y:Bn) (d:Nat) (T:Nat->Nat->Nat):Prop :=
 e=VJ (.tuple #[])/\∃T',ew I tb pb W H V Y T'/\jR W H Y T' d/\ff W H Y d T T'/\ai (λ k=>k=tb) w I
theorem Az {Y:Bn}{v:Bool}(x y:Int)(d:Nat)(w:M)(t:ew w tb pb W H V (upd Y (idx W x y) v) T)(c:atB W H x y=Q)(f:jR W H Y T d)(a:d<8) :
  Zq 186 #[Pq tb,J x,J y,J d] w λ e I=>Fj w I e tb pb W H V (upd Y (idx W x y) v) d T:=by
 obtain⟨s1,X,S,R⟩:=gX d;have o:=λ w h=>ij d w h a;have z:=t.ga.w2;have B:=t.ga.h2;obtain⟨i1,i2,i3,i4⟩:=iH.1 c;have k:=og x y d w t a U U U U (QV a c f);by_cases j:ah d=0
 ·go_enter func186,ntmps186;go_wp2_with (first|(go_at_call 125;refine k.mono ?_;rintro e n ⟨rfl,l,t1,b,g⟩)|(go_at_call 171;refine QQ (o _ t1.st) λ m=>?_));exact Vxl (v:=.tuple #[]) (by simp[results,results186,go_sem]) rfl ⟨rfl,l,t1.drewN m,qw a c f b (SQ j),b.turn,g.drewN m⟩
 ·by_cases i:af d=0
  ·go_enter func186,ntmps186;go_wp2_with (first|(go_at_call 125;refine k.mono ?_;rintro e n ⟨rfl,l,t1,b,g⟩)|(go_at_call 171;refine QQ (o _ t1.st) λ m=>?_));exact Vxl (v:=.tuple #[]) (by simp[results,results186,go_sem]) rfl ⟨rfl,l,t1.drewN m,qw a c f b (SP i),b.turn,g.drewN m⟩
  ·have ex:(ah d==0)=false:=by simpa using j
   have ey:(af d==0)=false:=by simpa using i
   go_enter func186,ntmps186;go_wp2_with (first|(go_at_call 125;refine k.mono ?_;rintro e n ⟨rfl,l,t1,b,g⟩));refine QQ (o _ t1.st) λ m=>?_;have t2:=t1.drewN m;have N:=g.drewN m;clear t1 g k;generalize n.drewN m=A at *;have r:=og (x-ah d) y d A t2 a U U U U (QW a c f b.turn j i);go_wp2_with fail;refine r.mono ?_;rintro e u ⟨rfl,T2,t3,p,L⟩;have q:=og x (y-af d) d u t3 a U U U U (QX a c f (b.turn.trans p.turn) j i);clear r;go_wp2_with fail;refine q.mono ?_;rintro e P ⟨rfl,C,t4,s,F⟩;clear q;go_wp2;go_end0;exact⟨rfl,C,t4,Kf a c f b p s j i,(b.turn.trans p.turn).trans s.turn,(N.trans L (λ _ _ h=>h)).trans F (λ _ _ h=>h)⟩
structure iQ (w:M) (tb pb:Nat) (W H V:Int) (Y:Bn):Prop where
 ok:∃T,ew w tb pb W H V Y T/\∀d,d<8->jR W H Y T d
theorem iQ.X' {Y:Bn}(t:iQ w tb pb W H V Y)(f:ai D9 w I)(e:¬D9 tb)(d:¬D9 pb)(c:¬D9 3):iQ I tb pb W H V Y:=by
 obtain⟨T,a,b⟩:=t.ok;exact⟨T,a.X' f e d c,b⟩
theorem iQ.below {Y:Bn}(t:iQ w tb pb W H V Y)(a:Bq w I):iQ I tb pb W H V Y :=
 t.X' (ai.Y' (F:=λ _=>False) a) id id id
theorem GP {Y:Bn}(c d:Int)(w:M)(t:iQ w tb pb W H V Y)(a:inB W H c=Vl) :
  Dq 91 #[Pq tb,J c,J d] w (.tuple #[J 0,.iface 42 (J 1)]):=by
 obtain⟨T,t,_⟩:=t.ok;have b:=t.p0;go_enter func91,ntmps91;go_wp2_with (go_at_call 137;refine QQ (tV c _ t.ga a) λ m=>?_);go_ret2;exact⟨rfl,_,rfl⟩
theorem GQ {Y:Bn}(c:Nat)(d:Int)(w:M)(t:iQ w tb pb W H V Y)(a:inB W H c=Q)(b:d<0\/8<=d) :
  Dq 91 #[Pq tb,J c,J d] w (.tuple #[J 0,.iface 42 (J 1)]):=by
 obtain⟨T,t,_⟩:=t.ok;have e:=t.p0;by_cases h:d<0
 ·go_enter func91,ntmps91;go_wp2_with (go_at_call 137;refine QQ (lh c _ t.ga a) λ m=>?_);go_ret2;exact⟨rfl,_,rfl⟩
 ·have f:8<=d:=U;clear b;go_enter func91,ntmps91;go_wp2_with (go_at_call 137;refine QQ (lh c _ t.ga a) λ m=>?_);go_ret2;exact⟨rfl,_,rfl⟩
theorem Kh {Y:Bn}(c d:Nat)(w:M)(t:iQ w tb pb W H V Y)(a:inB W H c=Q)(f:d<8) :
  Dq 91 #[Pq tb,J c,J d] w (.tuple #[J (clr W H Y ((c:Int)%W) ((c:Int)/W) d:Nat),.nilIface]):=by
 obtain⟨T,t,h⟩:=t.ok;have l:=t.p0;obtain⟨g,k⟩:=qt t.ga.w1 a;have b:=h d f _ _ g;rw[show idx W ((c:Int)%W) ((c:Int)/W)=c from U]at b;obtain⟨p,o⟩:=bG t.ga.w1 t.ga.w2 t.ga.h1 t.ga.h2;have j:0<=(c:Int)/\(c:Int)<W*H:=Q1 a;have e:c<256:=U;have i:=t.ts c d e f;rw[b]at i;have q:(c:Int)<256:=U;have d1:(d:Int)<8:=U;have d0:¬(d:Int)<0:=U;have d2:¬8<=(d:Int):=U;clear b h k g j;generalize clr W H Y ((c:Int)%W) ((c:Int)/W) d=n at *;go_enter func91,ntmps91;go_wp2_with (go_at_call 137;refine QQ (lh c _ t.ga a) λ m=>?_);go_ret2;exact⟨rfl,_,rfl⟩
theorem GS {Y:Bn}(c:Nat)(v:Bool)(w:M)(t:iQ w tb pb W H V Y)(b:inB W H c=Q)(a:Y c=v) :
  Dq 138 #[Pq tb,J c,.bool v] w (.tuple #[.bool Vl,.nilIface]):=by
 obtain⟨T,t,_⟩:=t.ok;have d:=t.p0;go_enter func138,ntmps138;go_wp2_with (go_at_call 179;refine QQ (tU c v _ t.ga b a) λ m=>?_);go_ret2;exact⟨rfl,_,rfl⟩
theorem GU {Y:Bn}{v:Bool}(f:idx W x y=c)(d:Nat)(w:M)(t:ew w tb pb W H V (upd Y c v) T)(a:atB W H x y=Q)(g:jR W H Y T d)(b:d<8) :
  Zq 186 #[Pq tb,J x,J y,J d] w λ e I=>Fj w I e tb pb W H V (upd Y c v) d T:=by grind [Az]
theorem Ki {Y:Bn}(c:Nat)(v:Bool)(w:M)(t:iQ w tb pb W H V Y)(r:inB W H c=Q)(hv:Y c=!v)(v1:0<=V)(v2:V<=1000000) :
  Zq 138 #[Pq tb,J c,.bool v] w λ e I=>e=VJ (.tuple #[.bool Q,.nilIface])/\iQ I tb pb W H (V+1) (upd Y c v)/\ai (λ k=>k=tb\/k=pb) w I:=by
 obtain⟨T,t,C⟩:=t.ok;have B:=t.p0;obtain⟨x,y,j,s,L⟩:∃x y,atB W H x y=Q/\idx W x y=c/\∀w (V:Int) (Y:Bn),aq w pb W H V Y->Dq 123 #[Pq pb,J (c:Int)] w (.tuple #[J x,J y,.nilIface]):=by
  obtain⟨j,s⟩:=qt t.ga.w1 r;exact⟨_,_,j,U,λ w V Y g=>eK (c:Int) w g r⟩
 have HI:=qH s;clear s;have F:=yh c v w t.ga t.gf r hv v1 v2;go_enter func138,ntmps138;go_wp2_with (go_at_call 179;refine F.mono ?_;rintro e o ⟨rfl,z,G1,F1⟩;have q0:=z.X'.cellOf B t.ne);have i:=z.X';have t1:ew o tb pb W H (V+1) (upd Y c v) T :=
  ⟨i.cellOf t.p0 t.ne,λ a d j f=>i.cellOf (t.ts a d j f) t.ne,t.fr.X' t.blocks.1 i t.ne,G1,F1,t.st.X' i t.n1,t.ne,t.n0,t.n1⟩
 have n:ai (λ k=>k=tb\/k=pb) w o:=i.mono (λ _ _ h=>SP h);clear z G1 F1 i F t B q0;refine QQ (L _ _ _ t1.ga) λ m=>?_;have t2:=t1.drewN m;have K2:=n.drewN m;clear t1 n L;generalize o.drewN m=w2 at *;go_wp2;go_loopg [41] 8 (λ gk iv wr=>∃(k:Nat) (T':Nat->Nat->Nat),k<=8/\gk=8-k/\iv=J k/\ew wr tb pb W H (V+1) (upd Y c v) T'/\(∀d,d<k->jR W H (upd Y c v) T' d)/\(∀d,k<=d->d<8->jR W H Y T' d)/\ai (λ k=>k=tb\/k=pb) w wr)
 case atStart=>exact⟨0,T,U,rfl,rfl,t2,λ d f=>Q8 f (TW d),λ d _ f=>C d f,K2⟩
 case round =>
  clear t2 K2 C;obtain⟨k,T',hk,N,rfl,A,R1,S,X⟩:=hrel;have HG:=qH N;clear N;by_cases P:k<8
  ·have ab:(k:Int)<8:=U;have p:=GU HI.out k wr A j (S k (Nat.le_refl k) P) P;go_wp2_with (go_at_call 186;refine p.mono ?_;rintro e w3 ⟨rfl,T3,t3,Rk,R,K3⟩);go_roundg (8-(k+1))
   case measure=>have:=HG.out;omega
   case rel =>
    refine⟨k+1,T3,U,rfl,gQ,t3,λ d f=>?_,λ d f u=>?_,X.trans K3 (λ _ _ h=>SQ h)⟩
    ·by_cases q:d=k
     ·rw[q];exact Rk
     ·exact λ a b l=>R.X' l (R1 d U a b l)
    ·exact λ a b l=>(R.other l U).trans (S d U u a b l)
  ·have:k=8:=U;subst this;go_wp2;go_ret2;exact⟨rfl,⟨T',A,R1⟩,X⟩
section
variable {L : List Nat} {es : Nat → List LE} {l : List IE} {B : Int → Option (Int × Int)}
structure PJ (L:Ln) (es:Nat->List LE):Prop where
 ends:∀{a e},e∈es a->a∈L/\e.to∈L
 bd:∀{a e},e∈es a->0<=e.s/\0<=e.d/\e.s<=512/\e.d<=512
 small:∀n∈L,n<256
structure RB (L:Ln) (es:Nat->List LE) (l:List IE) (B:Int->Oi):Prop where
 lab:∀{a s d},B a=Z (s,d)->0<=a/\a.toNat∈L/\0<=s/\0<=d/\val s d<=97750727262208+(cnt B 256:Int)*47729847296
 snd:∀{a s d},B a=Z (s,d)->∃o s0 d0 p q,e9 L l o s0 d0/\Wg (GrE es) o a p q/\s=s0+p/\d=d0+q
 hom:∀{o s d},e9 L l o s d->∃s' d',B o=Z (s',d')/\val s' d'<=val s d
theorem RB.big (h:RB L es l B){a s d:Int}(b:B a=Z (s,d)):0<=s/\0<=d/\s<=2847923/\d<=2847923/\val s d<=109969568169984:=by
 obtain⟨_,_,i,g,f⟩:=h.lab b;have e:=jj B 256;have c:val s d<=109969568169984:=U;unfold val at c ⊢;omega
theorem RB.start (L:Ln)(es:Nat->List LE):RB L es [] (λ _=>UP) :=
 ⟨λ h=>(by cases h),λ h=>(by cases h),λ ⟨e,h,_⟩=>Q8 h Uf⟩
def inR (L:Ln) (B:Int->Oi) (e:IE):Int->Oi:=if decide (0<=e.to/\e.to.toNat∈L)=Q/\bE B e.to e.s e.d=Q then aC B e.to e.s e.d else B
theorem RB.in (S:PJ L es)(h:RB L es l B){e:IE}(R:0<=e.s/\e.s<=1048576/\0<=e.d/\e.d<=1048576):RB L es (l++[e]) (inR L B e):=by
 have c:∀{o s d},e9 L l o s d->e9 L (l++[e]) o s d:=λ ⟨H,m,F⟩=>⟨H,Tn.2 (SQ m),F⟩;have f:∀{o s d},e9 L (l++[e]) o s d->e9 L l o s d\/(okE L e/\o=e.to/\s=e.s/\d=e.d):=λ ⟨H,m,F⟩=>by
  rcases Tn.1 m with m|m
  exact SQ ⟨H,m,F⟩
  grind
 unfold inR;by_cases n:0<=e.to/\e.to.toNat∈L;have w:okE L e:=⟨n,R⟩;cases N:bE B e.to e.s e.d with
 |false =>
  rw[Q6 (λ q=>by cases q.2)];refine⟨h.lab,λ i=>?_,λ {o s d} g=>?_⟩;obtain⟨o,r,d0,p,q,j,k⟩:=h.snd i;exact⟨o,r,d0,p,q,c j,k⟩;rcases f g with g|⟨_,rfl,rfl,rfl⟩
  exact h.hom g;exact mZ N
 |true =>
  rw[Q5 ⟨Q2 n,rfl⟩];have Y:=gy.1 N;have P:=S.small _ n.2;obtain⟨X,W⟩:=qR B (b:=e.to) (s:=e.s) (d:=e.d) n.1 U;have C:e9 L (l++[e]) e.to e.s e.d:=⟨e,Tn.2 (SP (Tv.2 rfl)),w,rfl,rfl,rfl⟩;refine⟨λ {a p q} i=>?_,λ {a p q} i=>?_,λ {o p q} g=>?_⟩;by_cases v:a=e.to
  grind [bJ,val]
  rw[aS _ _ _ v]at i;obtain⟨j,k,A,I,T⟩:=h.lab i;exact⟨j,k,A,I,U⟩;by_cases v:a=e.to;subst v;rw[bJ]at i;cases i;exact⟨e.to,e.s,e.d,0,0,C,Wg.nil,U,U⟩;rw[aS _ _ _ v]at i;obtain⟨o,r,d0,p,q,j,k⟩:=h.snd i;exact⟨o,r,d0,p,q,c j,k⟩;have z:∀{x y},B o=Z (x,y)->∃u t,aC B e.to e.s e.d o=Z (u,t)/\val u t<=val x y:=λ {x y} V=>by grind [bJ,aS]
  rcases f g with g|⟨_,rfl,rfl,rfl⟩
  obtain⟨x,y,j,k⟩:=h.hom g;obtain⟨u,t,A,I⟩:=z j;exact⟨u,t,A,U⟩
  grind [bJ]
 rw[Q6 (λ q=>n (Q1 q.1))];refine⟨h.lab,λ i=>?_,λ {o s d} g=>?_⟩;obtain⟨o,r,d0,p,q,j,k⟩:=h.snd i;exact⟨o,r,d0,p,q,c j,k⟩;rcases f g with g|⟨w,_⟩
 exact h.hom g;exact Q8 w.1 n
theorem RB.low (r:PJ L es)(h:RB L es l B){n:Nat}{s d:Int}(v:B (n:Int)=Z (s,d)){e:LE}(m:e∈es n)(R:bE B (e.to:Int) (s+e.s) (d+e.d)=Q) :
  RB L es l (aC B (e.to:Int) (s+e.s) (d+e.d))/\iV 109969568169985 (aC B (e.to:Int) (s+e.s) (d+e.d)) 256<iV 109969568169985 B 256:=by
 have w:=gy.1 R;obtain⟨_,WK,F,C,Y⟩:=h.lab v;obtain⟨b1,b2,b3,b4⟩:=r.bd m;have X:=(r.ends m).2;have N:=r.small _ X;obtain⟨c1,V⟩:=qR B (b:=(e.to:Int)) (s:=s+e.s) (d:=d+e.d) U U;have S:GrE es (n:Int) (e.to:Int) e.s e.d:=⟨e,by rw[Ta];exact m,rfl,rfl,rfl⟩;have W:val (s+e.s) (d+e.d)=val s d+val e.s e.d:=aK ..;have I:0<=val e.s e.d/\val e.s e.d<=47729847296:=by unfold val;omega
 have H:=jH F C;have Xg:val (s+e.s) (d+e.d)<=97750727262208+(cnt (aC B (e.to:Int) (s+e.s) (d+e.d)) 256:Int)*47729847296:=by
  cases j:B (e.to:Int) with
  |none =>
   rw[V j];omega
  |some c =>
   have i:=w c.1 c.2 j;obtain⟨_,_,_,_,g⟩:=h.lab (s:=c.1) (d:=c.2) j;omega
 refine⟨⟨λ {a p q} f=>?_,λ {a p q} f=>?_,λ {o p q} P=>?_⟩,?_⟩;by_cases k:a=(e.to:Int)
 grind [bJ,Ta]
 rw[aS _ _ _ k]at f;obtain⟨i,g,u,t,k5⟩:=h.lab f;exact⟨i,g,u,t,U⟩;by_cases k:a=(e.to:Int);subst k;rw[bJ]at f;cases f;obtain⟨o,z,d0,p,q,i,g,u,t⟩:=h.snd v;exact⟨o,z,d0,p+e.s,q+e.d,i,g.step S,U,U⟩;rw[aS _ _ _ k]at f;exact h.snd f;obtain⟨x,y,i,g⟩:=h.hom P;by_cases k:o=(e.to:Int)
 grind [bJ]
 grind [aS]
 have hc:=jj (aC B (e.to:Int) (s+e.s) (d+e.d)) 256;refine Bp _ _ _ 256 U U U (λ _=>U) (λ A T j=>w A T j)
def qy (es:Nat->List LE) (B:Int->Oi) (n:Nat):Prop:=∀{s d e},B (n:Int)=Z (s,d)->e∈es n->∃s' d',B (e.to:Int)=Z (s',d')/\val s' d'<=val s d+val e.s e.d
theorem RB.least (h:RB L es l B)(w:∀n∈L,qy es B n){o a f d0 p q:Int}(x:e9 L l o f d0)(v:Wg (GrE es) o a p q):∃s d,B a=Z (s,d)/\val s d<=val f d0+val p q :=
 v (λ a p q=>∃s d,B a=Z (s,d)/\val s d<=val f d0+val p q) (by
  obtain⟨s,d,c,y⟩:=h.hom x;exact⟨s,d,c,by have:val 0 0=0:=dQ;omega⟩) (λ a p q b t u ⟨s,d,c,y⟩ ⟨e,m,k,j,i⟩=>by
  obtain⟨H,C,_⟩:=h.lab c;have z:((a.toNat:Nat):Int)=a:=U;obtain⟨g,A,r,F⟩:=w a.toNat C (by rw[z];exact c) m;subst k j i;exact⟨g,A,r,by rw[aK];omega⟩)
end
theorem rM (w:M)(l:List Vr)(t:TypeId):(E w (.cells l.toArray t)).rangeAt (G w.heap) 0 l:=λ j v a=>by
 rw[Tm,World.cell?_alloc_new,List.getElem?_toArray];exact a
theorem dE {l:List Vr}(h:w.rangeAt b o l)(c:Bq w I):I.rangeAt b o l:=λ j v a=>by
 have:=h j v a;exact(c.cell (SZ w _ this)).trans this
theorem NA (a:Nat)(F:Int->Oi)(w:M):jY (E w (.cells (nN a F).toArray 198)) (G w.heap) a F:=Ck (rM w _ 198)
theorem Kj {cap:Nat}{A:Oa}{Y:Bn}{a b:Nat}{F G9:Int->Oi}{RB:List Vr}{L:Ln}(w:M)(g:bo w M9 W H V Y)(Z4:M9<G w.heap)
  (P:∀w:M,jY (E w (.cells RA.toArray 198)) (G w.heap) a F) (N:∀w:M,jY (E w (.cells RB.toArray 198)) (G w.heap) b G9) (q:cL (aF W H Y) a F) (x:cL (aF W H Y) b G9)
  (t:inB W H a=Q) (o:inB W H b=Q) (u:crs W H Y (W*H).toNat=L) (VU:bP w A (K L) (λ i=>(L.getD i 0:Nat))) :
  Zq 159 #[Pq M9,.agg RA.toArray,.agg RB.toArray,.slice A (K L) cap] w λ e I=>∃r,e=VJ (.bool r)/\(r=Q↔Dir W H Y a b)/\Bq w I:=by
 have p:=g.w1;have WS:=bG g.w1 g.w2 g.h1 g.h2;have y:=cA g.w1 g.w2 g.h1 g.h2 t o;have ZR:0<=(b:Int)/\(b:Int)<W*H:=Q1 o;have ZU:K L<=256:=by rw[<- u];have:=fx W H Y (W*H).toNat;omega
 have d:∀j,j<K L->L.getD j 0<(W*H).toNat/\aY W H Y ((L.getD j 0:Nat):Int)=true:=λ j c=>cU.1 (by grind);refine(OM (cap:=cap) (A:=A) (l:=L) w g Z4 P N (λ I S=>Cm (a:Int) b I S t o) (ML q) (ML x) U rfl ZU (λ j c=>by have:=(d j c).1;omega) VU).mono ?_;rintro e I ⟨r,rfl,z,n⟩;refine⟨r,rfl,z.trans ?_,n⟩;have m:=vw (b:=(b:Int)) p U U q;have v:=Mh (a:=(a:Int)) (b:=(b:Int)) p U U q x;unfold Dir;rw[m];refine and_congr_right λ _=>?_;constructor;intro h k C s;have f:0<=k/\k<W*H:=Q1 (aR p s);have B:k.toNat∈L:=by rw[<- u];exact cU.2 ⟨U,by rw[TE f.1];exact aI.2 s⟩
 obtain⟨j,c,e⟩:=TR B;by_cases X:k=(a:Int);exact SQ X;by_cases T:k=(b:Int);exact SP T;exfalso;have:=h j c (by grind) (by grind);rw[bL _ _ c,e,TE f.1]at this;exact this ((v k).1 C);intro h j c h1 h2 R;rcases h _ ((v _).2 R) (aI.1 (d j c).2) with e|e<;>omega
theorem Fk (R:Nat->List Vr)(a:∀n,K (R n)=769):∀(L:Ln) (i j:Nat),i<K L->j<769->(L.flatMap R)[i*769+j]? = (R (L.getD i 0))[j]?
 |[],i,_,h,_=>Q8 h (TW i)
 |n::L,0,j,_,b=>by grind
 |n::L,i+1,j,h,b=>by
  have c:=Fk R a L i j (by simpa using h) b;rw[Vt,List.getElem?_append_right (by rw[a];omega),a,show (i+1)*769+j-769=i*769+j by omega,c];rfl
def oh (w:M) (A:Oa) (R:Nat->List Vr) (L:Ln):Prop:=∀i,i<K L->∃b,A=Z (O b 0)/\b<G w.heap/\w.rangeAt b (i*769) (R (L.getD i 0))
theorem oh.below {A:Oa}{L:Ln}(h:oh w A R L)(a:Bq w I):oh I A R L:=λ i c=>by
 obtain⟨b,e,f,d⟩:=h i c;exact⟨b,e,Tc f a.size,dE d a⟩
theorem NB {base:Nat}{v:Vr}{L:Ln}(d:∀n,K (R n)=769)(h:G' w base 198 769 v (K L) (L.flatMap R)):∃A cap,v=.slice A (K L) cap/\oh w A R L:=by
 rcases h.2 with⟨rfl,f⟩|⟨g,cap,k,rfl,_,e,_⟩
 exact⟨UP,0,by rw[f],λ i c=>U⟩;refine⟨_,_,rfl,λ i c=>⟨g,rfl,(Array.getElem?_eq_some_iff.1 e).1,λ j v b=>?_⟩⟩;have a:j<769:=by have:=(Th.1 b).1;rw[d]at this;exact this
 rw[h.cellAt _ U,Fk R d L i j c a];exact b
def NC (w:M) (X Y9:Nat) (RA RB:List Vr) (o:Nat):Prop:=w.rangeAt X 0 RA/\w.rangeAt Y9 o RB
theorem NC.below {X b:Nat}{RB:List Vr}(h:NC w X b RA RB o)(a:Bq w I):NC I X b RA RB o:=⟨dE h.1 a,dE h.2 a⟩
def uF (W H:Int) (Y:Bn) (self:Bool) (a:Nat) (n:Nat):Prop:=(self=Q\/n≠a)/\Dir W H Y a n
def mO (L:Ln) (P:Nat->Prop) (i:Nat) (F:Ln):Prop:=F.Pairwise (·<·)/\∀n,n∈F↔∃j,j<i/\L.getD j 0=n/\P n
theorem mO.no {L F:Ln}(h:mO L P i F)(a:¬P (L.getD i 0)):mO L P (i+1) F:=by grind [mO]
theorem ND {L:Ln}(h:L.Pairwise (·<·)){i j:Nat}(b:i<K L)(a:j<i):L.getD j 0<L.getD i 0:=by grind [bL,Ua]
theorem mO.yes {L F:Ln}(c:L.Pairwise (·<·))(b:i<K L)(h:mO L P i F)(a:P (L.getD i 0)):mO L P (i+1) (F++[L.getD i 0]):=by grind [mO,Tv,ND]
theorem NF {cr cc a:Nat}{AR AC:Oa}{Y:Bn}{F:Int->Oi}{Fl:Int->Int->Oi}{L:Ln}{self:Bool}(w:M)(g:bo w M9 W H V Y)(Z4:M9<G w.heap)
  (hA:∀w:M,jY (E w (.cells RA.toArray 198)) (G w.heap) a F) (ax:∀w:M,(E w (.cells RA.toArray 198)).rangeAt (G w.heap) 0 RA) (lA:K RA=769) (BF:cL (aF W H Y) a F) (ha:inB W H a=Q)
  (hR:∀n,K (R n)=769) (ap:∀(n:Nat) (w:M),jY (E w (.cells (R n).toArray 198)) (G w.heap) n (Fl n)) (hB:∀c,dG W H Y c->cL (aF W H Y) c (Fl c))
  (hL:crs W H Y (W*H).toNat=L) (aN:oh w AR R L) (VU:bP w AC (K L) (λ i=>(L.getD i 0:Nat))) :
  Zq 116 #[Pq M9,.agg RA.toArray,.slice AR (K L) cr,.slice AC (K L) cc,.bool self] w λ e I=>∃v l,e=VJ v/\G' I (G w.heap) 203 4 v (K l) (ct W a l)/\mO L (uF W H Y self a) (K L) l/\Below (G w.heap) w I:=by
 have Wm:=g.w1;have WS:=bG g.w1 g.w2 g.h1 g.h2;obtain⟨i0,hi,VZ,Wa,Wc⟩:=info_parts Tryz.infoE;have ZU:K L<=256:=by rw[<- hL];have:=fx W H Y (W*H).toNat;omega
 have HC:Vy (∀i,i<K L->L.getD i 0<256/\aY W H Y ((L.getD i 0:Nat):Int)=Q):=λ i hi=>by
  have:=cU.1 (show L.getD i 0∈crs W H Y (W*H).toNat by rw[hL,bL _ _ hi];exact TY hi);exact⟨U,this.2⟩
 have a7:Vy (L.Pairwise (·<·)):=by rw[<- hL];exact iE _ _ _ _
 have b0:=mB w (.cells RA.toArray 198);have x0:=(hA w).a0;have xr:=ax w;have g0:=g.below b0 Z4;have aL:=aN.below b0;have am:=VU.below b0;have bd:G (E w (.cells RA.toArray 198)).heap=G w.heap+1:=by simp
 have HL:=qH hL;clear g aN VU hL;go_enter func116,ntmps116;go_wp2;generalize E w (.cells RA.toArray 198)=s at *;generalize hX:G w.heap=X at *;have HX:=qH hX;clear hX;go_loopg [11,12] (K L) (λ gk lv iv wr=>∃(i:Nat) (k:Ln),gk=K L-i/\iv=J i/\i<=K L/\Vy (mO L (uF W H Y self a) i k)/\G' wr (G s.heap) 203 4 lv (K k) (ct W a k)/\Below (G s.heap) s wr)
 case atStart=>exact⟨0,[],rfl,rfl,Te _,⟨List.Pairwise.nil,λ n=>⟨λ h=>(by cases h),λ ⟨j,h,_⟩=>Q8 h (TW j)⟩⟩,To _ _ _ _,ae⟩
 case round =>
  obtain⟨i,k,WV,rfl,X7,YP,f,p⟩:=hrel;by_cases VS:i<K L
  ·obtain⟨ba,oa,rfl,Zp,Wj⟩:=am i VS;obtain⟨bb,rfl,a9,t⟩:=(aL.below p) i VS;obtain⟨z,YY⟩:∃z,L.getD i 0=z:=⟨_,rfl⟩;have hc:=HC.out i VS;have XD:=λ h=>mO.yes a7.out VS YP.out h;have Wl:=λ h=>mO.no (P:=uF W H Y self a) YP.out h;have ay:D s (O ba (oa+i))=Z (J (z:Int)):=(by rw[<- YY];exact Wj);have HS:Vy (∀I,Below (G s.heap) s I->D I (O X 0)=Z (J (a:Int))/\D I (O ba (oa+i))=Z (J (z:Int))):=λ I B=>⟨al B x0,al B ay⟩;have VX:=(HS.out _ p).2;rw[YY]at hc XD Wl t;obtain⟨a4,ab⟩:=hc;have ag:=aR Wm (aI.1 ab);have xa:=(HS.out _ p).1;have xq:=dE xr p;have gr:=g0.below p U;have o:M9<G wr.heap:=(by have:=p.size;omega);have C:=am.below p;have ac:=λ (I:M) (g':bo I M9 W H V Y)=>Cm (a:Int) z I g' ha ag;have x:=λ (I:M) (g':bo I M9 W H V Y) (h:M9<G I.heap) (hr:bP I (Z (O ba oa)) (K L) (λ i=>(L.getD i 0:Nat)))=>Kj (cap:=cc) (a:=a) (b:=z) I g' h hA (ap z) BF (hB z (aI.1 ab)) ha ag HL.out hr;have aw:Vy (ct W a (k++[z])=ct W a k++[J (z:Int),J (aP W a z),J (aO W a z),J (-1)]):=vH _ _ _ _;have bc:K k<=256:=by
    have h1:=dr 256 (YP.out.1.imp (λ h e=>U)) (λ n hn=>by
     obtain⟨j,hj,e,_⟩:=(YP.out.2 n).1 hn;have:=HC.out j U;rw[e]at this;exact this.1)
    exact h1
   have y:Vy (K (k++[z])=K k+1):=(by show _=_;simp);have lB:=hR z;have H1:Vy (self=Vl->z=a->mO L (uF W H Y self a) (i+1) k):=λ h1 h2=>Wl (λ h=>h.1.elim (λ h=>by rw[h1]at h;cases h) (λ h=>h h2));have H2:Vy (¬Dir W H Y a z->mO L (uF W H Y self a) (i+1) k):=λ h1=>Wl (λ h=>h1 h.2);have H3:Vy ((self=Q\/z≠a)->Dir W H Y a z->mO L (uF W H Y self a) (i+1) (k++[z])):=λ h1 h2=>XD ⟨h1,h2⟩;have a2:(prog.info? 198).map (·.size)=Z (K RA):=(by rw[oW,lA]);have a1:(prog.info? 198).map (·.size)=Z (K (R z)):=(by rw[oW,lB]);have i1:(0:Int)<=(i:Int):=U;have i2:(i:Int)<(K L:Int):=U;clear XD Wl YY YP Wj ay hA ap hB am aL xr x0 b0 lB ax lA hR a4;generalize R z=RB at *;generalize aP W a z=es at *;generalize aO W a z=ed at *;by_cases Xz:self=Vl/\z=a
   ·have HN:=H1.out Xz.1 Xz.2;obtain⟨rfl,rfl⟩:=Xz;clear H1 H2 H3 ac x;go_wp2;go_quiet (fail);go_wp2;go_roundg (K L-(i+1))
    case measure=>omega
    case rel=>exact⟨i+1,k,rfl,gQ,U,HN,f,Vxj p _⟩
   ·have A:self=Q\/z≠a:=by
     by_cases e:z=a
     ·exact SQ (by cases self with
       |true=>rfl
       |false=>exact Q8 ⟨rfl,e⟩ Xz)
     ·exact SP e
    have H4:=qH (H3.out A);clear H1 H3 Xz;obtain⟨Fz,au⟩:∃Fz,k++[z]=Fz:=⟨_,rfl⟩;rw[au]at aw y H4;clear au;obtain⟨D9,hD⟩:∃D9:Prop,Dir W H Y a z=D9:=⟨_,rfl⟩;rw[hD]at H2 H4;rw[hD]at x;clear hD ab ag;by_cases ad:z=a;have hs:self=true:=A.elim id (λ h=>Q8 ad h);subst hs;have na:(((z:Nat):Int)==(a:Int))=true:=(by rw[beq_iff_eq];omega);have an:(((z:Nat):Int)=(a:Int))=True:=eq_true U;clear A ad
    rotate_left
    have na:(((z:Nat):Int)==(a:Int))=false:=(by rw[Q4];omega);have an:¬(((z:Nat):Int)=(a:Int)):=U;clear A ad
    all_goals
     go_wp2;go_quiet (fail);clear na an;have d:Below (G wr.heap) wr (wr.drewN nq):=Vxj ae _;have p:=aj p d;have xq:=dE xq d;have t:=dE t d;have gr:=gr.below d o;have o:=Tc o d.size;have C:=C.below d;have f:=ak f d;clear d VX xa;generalize wr.drewN nq=w1 at *;have d:=wB w1;have CC:NC w1.drew X bb RA RB (i*769):=⟨dE xq d,dE t d⟩;have BD:=aj p d;have gD:=gr.below d o;have T:=Tc o d.size;have rD:=C.below d;have oD:=ak f d;have hu:=underlying198;clear d p xq t gr o C f;go_wp2_with fail;refine wp_region_held_drew (S:=λ I=>I.rangeAt X 0 RA/\I.rangeAt bb (i*769) RB) kQ CC (λ N=>?_);refine Vyb (i:=0) (v:=Pq M9) rfl kQ kQ kQ (λ _ _ _ h=>h) (SQ ⟨by rfl,λ I _=>by go_simp⟩) N ?_;simp only[Act.put,Tr];refine Vyb (i:=1) (v:=.agg RA.toArray) rfl kQ kQ kQ (λ _ _ _ h=>h) (yieldsIf_load_mid (by rfl) 198 (.tmp 6) rfl X 0 rfl RA _ (λ _ h=>h.1) hu rfl a2) N ?_;simp only[Act.put];refine Vyb (i:=2) (v:=.slice (Z (O bb 0)) (K L) cr) rfl kQ kQ kQ (λ _ _ _ h=>h) (SQ ⟨by rfl,λ I _=>by go_simp⟩) N ?_;simp only[Act.put];refine Vyb (i:=3) (v:=J i) rfl kQ kQ kQ (λ _ _ _ h=>h) (SQ ⟨by rfl,λ I _=>by go_simp⟩) N ?_;simp only[Act.put];refine Vyb (i:=4) (v:=.pointer (Z (O bb (i*769)))) rfl kQ kQ kQ (λ _ _ _ h=>h) (SQ ⟨by rfl,λ I _=>by go_simp⟩) N ?_;simp only[Act.put];refine Vyb (i:=5) (v:=.agg RB.toArray) rfl kQ kQ kQ (λ _ _ _ h=>h) (yieldsIf_load_mid (by rfl) 198 (.tmp 35) rfl bb (i*769) rfl RB _ (λ _ h=>h.2) hu rfl a1) N ?_;simp only[Act.put];refine Vyb (i:=6) (v:=.slice (Z (O ba oa)) (K L) cc) rfl kQ kQ kQ (λ _ _ _ h=>h) (SQ ⟨by rfl,λ I _=>by go_simp⟩) N ?_;simp only[Act.put];refine wpAnyH_ready (rs:=[7]) kQ sQ ?_;refine AllReadyH.cons rfl (λ K9 hK=>?_) AllReadyH.nil;go_simp;go_at_call 159;refine(x _ gD T rD).mono ?_;rintro e w2 ⟨r,rfl,hr,m⟩;have CC:=CC.below m;have BD:=aj BD m;have gD:=gD.below m T;have T:=Tc T m.size;have rD:=rD.below m;have oD:=ak oD m;clear m x;go_wp2_with fail;refine hK.out _ _ CC (λ a6=>?_);clear N hK K9;refine wpAnyH_ready (rs:=[8]) kQ sQ ?_;refine AllReadyH.cons rfl (λ K9 hK=>?_) AllReadyH.nil;go_simp;refine hK.out _ _ CC (λ a5=>?_);refine wpAnyH_done kQ ?_ _;clear hK K9 a6 a5 CC hu;cases r with
     |false =>
      have HN:=H2.out (λ h=>by have:=hr.2 h;cases this);clear H2 H4 hr;go_wp2;go_roundg (K L-(i+1))
      case measure=>omega
      case rel=>exact⟨i+1,k,rfl,gQ,U,HN,oD,BD⟩
     |true =>
      have HN:=H4.out (hr.1 rfl);clear H2 H4 hr;go_wp2_with fail;have d:=wB w2;have BE:=aj BD d;have gE:=gD.below d T;have oE:=ak oD d;have mE:=Tc T d.size;clear BD gD oD T d rD;have h5:=ac w2.drew gE;have a8:=BE.size;clear ac gE;go_region_held3 (λ I=>D I (O X 0)=Z (J ((a:Nat):Int))/\D I (O ba (oa+i))=Z (J ((z:Nat):Int))) (first|exact HS.out _ BE|exact HS.out _ B5|exact HS.out _ B6|exact HS.out _ B7)
       (first|(go_at_call 160;refine Q9 h5 λ w5 VW=>?_;have B5:=aj BE VW;have o5:=ak oE VW;have z5:=B5.size;have B6:Below (G s.heap) s (E w5 (VP #[J ((z:Nat):Int),J es,J ed,J (-1)] 203)):=(B5.alloc z5 _);have o6:=(o5.alloc (VP #[J ((z:Nat):Int),J es,J ed,J (-1)] 203));clear VW o5)
             |(refine step_append_lies _ rfl (.tmp 40) (.tmp 54) 140 rfl (G s.heap) 203 i0 (.agg #[J 0,J 0,J 0,J 0]) 4 32 Tryz.Vxb hi VZ Wa Wc rfl dQ _ _ _ rfl o6 ⟨G w5.heap,0,UP⟩ 1 1 [J ((z:Nat):Int),J es,J ed,J (-1)] rfl rfl (bO _ _ _ _ _ _) (by intro u hu;simp at hu;rcases hu with rfl|rfl|rfl|rfl<;>rfl) dQ mQ U sU _ rfl ?_;intro g7 c7 w7 XW ao _ be;have B7:Below (G s.heap) s w7:=(B6.grown ao sU (λ q hq=>(o6.lt q hq).1))))
      have O7:=XW;rw[<- aw.out,<- y.out]at O7;clear XW ao o6 B6;go_wp2;go_roundg (K L-(i+1))
      case measure=>omega
      case rel=>exact⟨i+1,Fz,rfl,gQ,U,HN,by rw[y.out];rw[y.out]at O7;exact O7,B7⟩
  ·have a3:i=K L:=U;subst a3;go_wp2;go_ret;have hX:=HX.out;exact⟨_,k,rfl,ownsRow_base_a f U,YP.out,by rw[hX];exact b0.trans (p.mono U)⟩
theorem Dm {Y:Bn}{l:Ln}(d:crs W H Y (W*H).toNat=l)(w:M)(g:bo w b W H V Y)(j:b<G w.heap) :
  Zq 114 #[Pq b] w λ e I=>∃A cap,e=VJ (.slice A (K l) cap)/\bP I A (K l) (λ i=>(l.getD i 0:Nat))/\Bq w I/\∀b o,A=Z (O b o)->G w.heap<=b :=
 (zt w g j).mono λ e I ⟨v,f,a,n⟩=>by
  rw[d]at a;obtain⟨A,cap,rfl,p⟩:=jk a;refine⟨A,cap,f,p,n,λ b o e=>?_⟩;subst e;rcases a.2 with⟨h,_⟩|⟨g,c,m,h,k,_⟩
  cases h;cases h;exact k
theorem Tryz.und89:Tryz.prog.underlying 196=Z (.slice 198):=kQ
theorem AA:∃(a:TypeInfo) (z:Vr),prog.info? 198=Z a/\a.zero=Z z/\a.size=769/\a.bytes=4360/\z.cells.size=769:=by
 have d:(prog.info? 198).map (·.size)=Z 769:=oW;have f:(prog.info? 198).map (·.bytes)=Z 4360:=kQ;have c:((prog.info? 198).bind (·.zero)).map (·.cells.size)=Z 769:=kQ;cases b:prog.info? 198 with
 |none=>rw[b]at d;cases d
 |some a =>
  rw[b]at d f c;cases e:a.zero with
  |none=>rw[Option.bind_some,e]at c;cases c
  |some z =>
   rw[Option.bind_some,e]at c;exact⟨a,z,rfl,e,Option.some.inj d,Option.some.inj f,Option.some.inj c⟩
theorem rN {ops:Array Oper}{rest:List Oper}{o:Oper}{a:Act}{Q9:Exit->Act->M->Prop}(r:o.guard=UP)(x:Operand)(m:o.op=.buildSlice 196 1 #[(0,x)])(b:List Vr)(f:K b=769)(l:a.eval x=.agg b.toArray)
  (h:wpList Vyj ops Q9 rest (a.put o.dst (.slice (Z (O (G w.heap) 0)) 1 1)) (E w (.cells b.toArray 198))):wpList Vyj ops Q9 (o::rest) a w:=by
 obtain⟨g,z,c,k,d,n,j⟩:=AA;refine wpList_buildSlice r 196 198 1 #[(0,x)] m b.toArray g z Tryz.und89 c k (by rw[d];decide) (by rw[d];decide) ?_ h;have q:((#[(0,x)]:Array (Nat×Operand)).map λ (i,x)=>(i,a.eval x)).toList=(([a.eval x]:List Vr).zipIdx 0).map λ x=>(x.2,x.1):=by simp
 rw[q,l,d];have:=Great.fill_whole (s:=769) dQ [Value.agg b.toArray] ((Array.range (1*769)).map (z.cells[· % z.cells.size]!)) (λ v e=>by
  rw[Tv]at e;rw[e];show b.toArray.size=769;rw[List.size_toArray,f]) sQ
 have p:([Value.agg b.toArray].flatMap λ v=>v.cells.toList)=b:=by
  rw[Vt,List.flatMap_nil,TU];rfl
 rw[p]at this;exact this
theorem NG {Y:Bn}(w:M)(g:bo w b W H V Y){c:Int}(a:inB W H c=Q):∃F,cL (aF W H Y) c F:=by
 have f:0<=c/\c<W*H:=Q1 a;obtain⟨n,rfl⟩:∃n:Nat,c=n:=⟨c.toNat,U⟩;obtain⟨e,I,i,h,_⟩:=lZ n w g (aB g.c0) a [];obtain⟨F,_,d,_⟩:=h;exact⟨F,d⟩
theorem PK {Y:Bn}{F:Int->Oi}(c:Nat)(w:M)(g:bo w M9 W H V Y)(i:M9<G w.heap)(a:inB W H c=Q)(h:cL (aF W H Y) c F) :
  Rq 115 #[Pq M9,J (c:Int)] w (.agg (nN c F).toArray) :=
 (MO c w g i a).mono λ e I ⟨j,b,f,d⟩=>⟨by rw[b,h.unique f],d⟩
theorem GV {L:Ln}(h:i<K L)(R:Nat->List Vr):(L.take (i+1)).flatMap R=(L.take i).flatMap R++R (L.getD i 0):=by grind [List.take_succ_eq_append_getElem,bL]
theorem mO.all {Y:Bn}{l:Ln}(h:mO (crs W H Y (W*H).toNat) P (K (crs W H Y (W*H).toNat)) l)(n:Nat):n∈l↔n∈crs W H Y (W*H).toNat/\P n:=by
 rw[h.2 n];constructor
 grind
 rintro⟨c,b⟩;obtain⟨j,a,e⟩:=TR c;exact⟨j,a,by rw[bL _ _ a,e],b⟩
theorem PL {Y:Bn}(a:1<=W){n:Nat}:n∈crs W H Y (W*H).toNat↔aY W H Y (n:Int)=true:=by
 rw[cU];constructor;exact λ h=>h.2;intro h;have b:0<=(n:Int)/\(n:Int)<W*H:=Q1 (aR a (aI.1 h));exact⟨U,h⟩
structure RGt (w:M) (M9 rb mb:Nat) (W H V:Int) (Y:Bn) (A AR:Oa) (cap:Nat) (R:Nat->List Vr) (L:Ln) (f:Int->Option Vr):Prop where
 p0:D w (O rb 0)=Z (.slice A (K L) cap)
 p1:D w (O rb 1)=Z (.map (Z mb))
 ra:bo w M9 W H V Y
 row:bP w A (K L) (λ i=>(L.getD i 0:Nat))
 rays:oh w AR R L
 mp:bj Vyj 3 w mb f (cM (fO f) 256)
 bd:∀i,fO f i=Q->0<=i/\i<256
section
variable {w I : M} {M9 rb mb cap : Nat} {W H V : Int} {Y : Nat → Bool} {A AR : Option Addr} {R : Nat → List Vr} {L : List Nat} {f : Int → Option Vr}
theorem RGt.lts (G9:RGt w M9 rb mb W H V Y A AR cap R L f):rb<G w.heap/\M9<G w.heap/\mb<G w.heap:=⟨SZ w _ G9.p0,SZ w _ G9.ra.c0,G9.mp.lt⟩
theorem RGt.cell (G9:RGt w M9 rb mb W H V Y A AR cap R L f)(b:ai (λ k=>k=mb) w I){q o:Nat}{v:Vr}(h:Cq w q o v):Cq I q o v :=
 b.cellOf h (λ e=>by
  have a:=G9.mp.cell o;rw[<- e,h]at a;cases a)
theorem RGt.below (G9:RGt w M9 rb mb W H V Y A AR cap R L f)(a:Bq w I):RGt I M9 rb mb W H V Y A AR cap R L f :=
 ⟨(a.cell (p:=O rb 0) G9.lts.1).trans G9.p0,(a.cell (p:=O rb 1) G9.lts.1).trans G9.p1,G9.ra.below a G9.lts.2.1,G9.row.below a,G9.rays.below a,G9.mp.X' (F:=λ _=>False) (ai.Y' a) id,G9.bd⟩
theorem RGt.room (_G:RGt w M9 rb mb W H V Y A AR cap R L f):cM (fO f) 256<Vyf:=by grind [oO,fO,Vyf]
theorem RGt.put (G9:RGt w M9 rb mb W H V Y A AR cap R L f){a:Int}{v:Vr}(n:0<=a)(m:a<256)(p:bj Vyj 3 I mb (bQ f a v) (if (f a).isSome then cM (fO f) 256 else cM (fO f) 256+1))(k:w.mapTurned I mb):RGt I M9 rb mb W H V Y A AR cap R L (bQ f a v):=by
 have d:=aA k;refine⟨G9.cell d G9.p0,G9.cell d G9.p1,⟨G9.ra.w1,G9.ra.w2,G9.ra.h1,G9.ra.h2,G9.cell d G9.ra.c0,G9.cell d G9.ra.c1,G9.cell d G9.ra.c2,λ i c=>G9.cell d (G9.ra.cs i c)⟩,λ i c=>?_,λ i c=>?_,?_,λ i c=>?_⟩;obtain⟨b,o,e,h,g⟩:=G9.row i c;exact⟨b,o,e,Tc h d.size,G9.cell d g⟩;obtain⟨b,e,h,g⟩:=G9.rays i c;exact⟨b,e,Tc h d.size,λ j v l=>G9.cell d (g j v l)⟩
 grind [kY,fO,oN,jI]
 rw[kY]at c;rcases (cW _ _ _).1 c with rfl|c
 exact⟨n,m⟩;exact G9.bd i c
end
def Eds (w:M) (W H:Int) (Y:Bn) (L:Ln) (f:Int->Option Vr) (i:Nat):Prop:=(∀c:Int,(∃j,j<i/\c=((L.getD j 0:Nat):Int))->∃v l,f c=Z v/\G' w 1 203 4 v (K l) (ct W c l)/\kZ W H Y c l)/\∀c:Int,¬(∃j,j<i/\c=((L.getD j 0:Nat):Int))->f c=UP
theorem Eds.next {Y:Bn}{L l:Ln}{b:Int->Option Vr}{v:Vr}(E9:Eds w W H Y L f i)(M9:bj Vyj 3 w mb f n)(x:ai (λ k=>k=mb) w I)(q:b=bQ f ((L.getD i 0:Nat):Int) v)
  (y:G' w 1 203 4 v (K l) (ct W ((L.getD i 0:Nat):Int) l)) (z:kZ W H Y ((L.getD i 0:Nat):Int) l):Eds I W H Y L b (i+1):=by
 have m:∀{v:Vr}{l:Ln}{c:Int},G' w 1 203 4 v (K l) (ct W c l)->G' I 1 203 4 v (K l) (ct W c l):=λ h=>br h x (bK h M9);subst q;refine⟨λ c a=>?_,λ c a=>?_⟩;by_cases e:c=((L.getD i 0:Nat):Int)
 grind [bQ]
 obtain⟨j,p,h⟩:=a;have o:j≠i:=λ u=>e (by rw[h,u]);obtain⟨d,g,t,s,r⟩:=E9.1 c ⟨j,U,h⟩;exact⟨d,g,by unfold bQ;rw[Q6 e];exact t,m s,r⟩;have e:c≠((L.getD i 0:Nat):Int):=λ e=>a ⟨i,U,e⟩;unfold bQ;rw[Q6 e];exact E9.2 c (λ ⟨j,p,h⟩=>a ⟨j,U,h⟩)
theorem Eds.below {Y:Bn}{L:Ln}(E9:Eds w W H Y L f i)(b:Bq w I):Eds I W H Y L f i :=
 ⟨λ c a=>by obtain⟨v,l,g,e,d⟩:=E9.1 c a;exact⟨v,l,g,ak e b,d⟩,E9.2⟩
def Kk (w:M) (rb mb ba o bb p z n cap oa:Nat) (RZ:List Vr):Prop:=D w (O rb 1)=Z (.map (Z mb))/\D w (O rb 0)=Z (.slice (Z (O ba oa)) n cap)/\D w (O ba o)=Z (J (z:Int))/\w.rangeAt bb p RZ
theorem Kk.below {rb e d p z b:Nat}{RZ:List Vr}(h:Kk w rb mb e o d p z n cap b RZ)(c:Bq w I):Kk I rb mb e o d p z n cap b RZ:=by
 have k:∀{a:Addr}{v:Vr},D w a=Z v->D I a=Z v:=λ {a v} h=>(c.cell (SZ w a h)).trans h;exact⟨k h.1,k h.2.1,k h.2.2.1,dE h.2.2.2 c⟩
theorem NH {Y:Bn}{Fl:Int->Int->Oi}{L:Ln}(w:M)(g:bo w M9 W H V Y)(Z4:M9<G w.heap)
  (hR:∀n,K (R n)=769) (a9:∀n,∀u∈R n,u.oneCell'=Q) (ay:∀(n:Nat) (w:M),jY (E w (.cells (R n).toArray 198)) (G w.heap) n (Fl n)) (hB:∀c,dG W H Y c->cL (aF W H Y) c (Fl c))
  (hL:crs W H Y (W*H).toNat=L)
  (aw:∀(n:Nat) (I:M),dG W H Y n->bo I M9 W H V Y->M9<G I.heap->Zq 115 #[Pq M9,J (n:Int)] I λ e WX=>e=VJ (.agg (R n).toArray)/\Bq I WX) :
  Zq 72 #[Pq M9] w λ e I=>∃rb mb A AR cap f,e=VJ (Pq rb)/\RGt I M9 rb mb W H V Y A AR cap R L f/\Eds I W H Y L f (K L)/\Bq w I/\∀b o,A=Z (O b o)->G w.heap<=b:=by
 have Wm:=g.w1;have WS:=bG g.w1 g.w2 g.h1 g.h2;obtain⟨ie,zr,a6,a3,Ws,a8,a2⟩:=AA;have ZU:K L<=256:=by rw[<- hL];have:=fx W H Y (W*H).toNat;omega
 have HC:Vy (∀i,i<K L->dG W H Y ((L.getD i 0:Nat):Int)/\L.getD i 0<256):=λ i hi=>by
  have:=cU.1 (show L.getD i 0∈crs W H Y (W*H).toNat by rw[hL,bL _ _ hi];exact TY hi);exact⟨aI.1 this.2,U⟩
 have ax:=Dm hL w g Z4;have HL:=qH hL;clear hL;go_enter func72,ntmps72;go_wp2_with fail;refine ax.mono ?_;rintro e d ⟨A,cap,rfl,VU,ac,YG⟩;have bi:=qH YG;clear ax YG;have a5:=MV d;have hM:=bj.made d Vyj 3;have b2:Bq d ((E d (.map #[] 0)).alloc (VP #[.slice A (K L) cap,.map (Z (G d.heap))] 139)):=(ae.alloc aa _).alloc sQ _;have aL:bj Vyj 3 ((E d (.map #[] 0)).alloc (VP #[.slice A (K L) cap,.map (Z (G d.heap))] 139)) (G d.heap) (λ _=>UP) (cM (fO λ _=>UP) 256):=by
  rw[pT];exact hM.X' (F:=λ _=>False) ((ai.refl _ _).alloc _) id
 have q0:D ((E d (.map #[] 0)).alloc (VP #[.slice A (K L) cap,.map (Z (G d.heap))] 139)) (O (G d.heap+1) 0)=Z (.slice A (K L) cap):=SR #[.slice A (K L) cap,.map (Z (G d.heap))] 139 (G d.heap+1) 0 sQ;have q1:D ((E d (.map #[] 0)).alloc (VP #[.slice A (K L) cap,.map (Z (G d.heap))] 139)) (O (G d.heap+1) 1)=Z (.map (Z (G d.heap))):=SR #[.slice A (K L) cap,.map (Z (G d.heap))] 139 (G d.heap+1) 1 sQ;have B2:=aj ac b2;have ag:=VU.below b2;clear hM VU;go_wp2;generalize (E d (.map #[] 0)).alloc (VP #[.slice A (K L) cap,.map (Z (G d.heap))] 139)=w2 at *;have Wa:=ac.size;generalize bl:G d.heap=mb at *;generalize bk:mb+1=rb at *;have g2:=g.below B2 Z4;have ZW:=Tc Z4 B2.size;clear a5 b2 ac;go_loopg [4,5] (K L) (λ gk lv iv wr=>∃(i:Nat),gk=K L-i/\iv=J i/\i<=K L/\G' wr (G w2.heap) 198 769 lv i ((L.take i).flatMap R)/\Bq w2 wr)
 case atStart=>exact⟨0,rfl,rfl,Te _,To _ _ _ _,ae⟩
 case round =>
  obtain⟨i,WV,rfl,X7,p,r⟩:=hrel;have gr:=g2.below r ZW;have ao:=Tc ZW r.size;have p0:=al r q0;by_cases VS:i<K L
  ·obtain⟨x,s,rfl,Zp,Wj⟩:=(ag.below r) i VS;have t:=(HC.out i VS).1;have T:=GV VS R;obtain⟨z,N⟩:∃z,L.getD i 0=z:=⟨_,rfl⟩;rw[N]at t T;have VX:Cq wr x (s+i) (J (z:Int)):=(by rw[<- N];exact Wj);have hf:=aw z wr t gr ao;have Yq:=qH T;have lz:=hR z;have oz:=a9 z;have i1:(0:Int)<=(i:Int):=U;have i2:(i:Int)<(K L:Int):=U;clear Wj N T;generalize R z=RZ at *;go_wp2_with fail;refine Q9 hf λ w5 y=>?_;have WC:=ak p y;have B5:=aj r y;have ZH:=B5.size;have am:=rM w5 RZ 198;clear hf p r VX y p0;go_wp2_with (first
    |(refine rN rfl _ rfl RZ lz rfl ?_)
    |(at_builtin;refine Vxk _ rfl _ _ 196 rfl (G w2.heap) 198 ie zr 769 4360 Tryz.und89 a6 a3 Ws a8 a2 dQ _ _ _ rfl (WC.alloc _) ⟨G w5.heap,0,UP⟩ 1 1 RZ rfl (by rw[lz]) ?c2 oz ?c3 ?c4 ?c5 ?_))
   case c2 =>
    intro j u hj;have:=am j u hj;rw[Tm]at this;have WW:(O (G w5.heap) 0:Addr).add j=O (G w5.heap) j:=(by unfold Addr.add;split<;>simp_all);rw[WW];exact this
   case c3=>unfold Vyf;omega
   case c4=>omega
   case c5=>simp;omega
   intro v6 w6 YM au _;have B6:Bq w2 w6:=(B5.alloc ZH _).grown au sU (λ q hq=>(WC.lt q hq).1);rw[<- Yq.out]at YM;clear WC B5 am au;go_wp2;go_roundg (K L-(i+1))
   case measure=>omega
   case rel=>exact⟨i+1,rfl,gQ,U,YM,B6⟩
  ·have ab:i=K L:=U;subst ab;rw[Tl]at p;obtain⟨AR,cr,rfl,aN⟩:=NB hR p;have G0:RGt wr M9 rb mb W H V Y A AR cap R L (λ _=>UP):=⟨p0,al r q1,gr,ag.below r,aN,aL.X' (F:=λ _=>False) (ai.Y' r) id,λ i h=>by cases h⟩;have B0:=aj B2 r;clear aw p aN q0 q1 gr ao g2 ZW B2 ag r aL;go_wp2;clear p0;generalize wr=w3 at *;go_loopg [6] (K L) (λ gk iv wr=>∃(i:Nat) (f:Int->Option Vr),gk=K L-i/\iv=J i/\i<=K L/\RGt wr M9 rb mb W H V Y A AR cap R L f/\Vy (Eds wr W H Y L f i)/\Bq w wr)
   case atStart=>exact⟨0,_,rfl,rfl,Te _,G0,⟨λ c ⟨j,hj,_⟩=>Q8 hj (TW j),λ c _=>rfl⟩,B0⟩
   case round =>
    obtain⟨i,f,WV,rfl,X7,G9,hE,r⟩:=hrel;clear G0 B0;have p0:=G9.p0;by_cases VS:i<K L
    ·obtain⟨x,s,rfl,Zp,Wj⟩:=G9.row i VS;obtain⟨bb,rfl,bm,ad⟩:=G9.rays i VS;obtain⟨z,N⟩:∃z,L.getD i 0=z:=⟨_,rfl⟩;have hc:=HC.out i VS;have VX:Cq wr x (s+i) (J (z:Int)):=(by rw[<- N];exact Wj);rw[N]at hc ad;obtain⟨t,bn⟩:=hc;have a4:=aE (a:=(z:Int)) U U;have HZ:=qH N;have bc:=aR Wm t;have bD:Bq wr wr.drew:=⟨rfl,rfl,rfl,aa,λ _ _=>rfl⟩;have P:=G9.below bD;have ED:=hE.out.below bD;have BD:=aj r bD;have C:Kk wr.drew rb mb x (s+i) bb (i*769) z (K L) cap s (R z):=⟨P.p1,P.p0,al bD VX,dE ad bD⟩;have ZI:=NF (cr:=cr) (cc:=cap) (self:=Vl) wr.drew P.ra P.lts.2.1 (ay z) (λ w=>rM w _ 198) (hR z) (hB z t) bc hR ay hB HL.out P.rays P.row;have hu:=underlying198;have a7:(prog.info? 198).map (·.size)=Z (K (R z)):=(by rw[oW,hR z]);have i1:(0:Int)<=(i:Int):=U;have i2:(i:Int)<(K L:Int):=U;have a0:=qH ED;clear Wj N ad VX bD hE ED G9;generalize (R z)=RZ at *;go_wp2_with fail;refine wp_region_held_drew (S:=λ I=>D I (O rb 1)=Z (.map (Z mb))/\Cq I rb 0 (.slice (Z (O x s)) (K L) cap)/\Cq I x (s+i) (J (z:Int))/\I.rangeAt bb (i*769) RZ) kQ C (λ m=>?_);clear p0;refine Vyb (i := 0) (oi := { dst := Z 42, op := .move (.tmp 3), type := 135, pos := "parts.go:595", after := #[], guard := UP }) (v := Pq rb) rfl kQ kQ kQ (λ _ _ _ h => h) (SQ ⟨by rfl, λ I _ => by go_simp⟩) m ?_
     simp only[Act.put,Tr,TI,TJ];refine Vyb (i := 1) (oi := { dst := Z 43, op := .nilCheck (.tmp 42), type := 0, pos := "parts.go:595", after := #[{ on := 0, ground := .data }], guard := UP }) (v := Pq rb) rfl kQ kQ kQ (λ _ _ _ h => h) (SQ ⟨by rfl, λ I _ => by go_simp⟩) m ?_
     simp only[Act.put,Tr,TI,TJ];refine Vyb (i := 2) (oi := { dst := Z 44, op := .fieldAddr 139 (.tmp 43) 1, type := 0, pos := "parts.go:595", after := #[{ on := 1, ground := .data }], guard := UP }) (v := .pointer (Z (O rb 1))) rfl kQ kQ kQ (λ _ _ _ h => h) (SQ ⟨by rfl, λ I _ => by go_simp⟩) m ?_
     simp only[Act.put,Tr,TI,TJ];refine Vyb (i := 3) (oi := { dst := Z 45, op := .load 137 (.tmp 44), type := 137, pos := "parts.go:595", after := #[{ on := 2, ground := .data }], guard := UP }) (v := .map (Z mb)) rfl kQ kQ kQ (λ _ _ _ h => h) (SQ ⟨by rfl, λ I h => by obtain ⟨s1, s2, s3, s4⟩ := h; go_simp⟩) m ?_
     simp only[Act.put,Tr,TI,TJ];refine Vyb (i := 4) (oi := { dst := Z 46, op := .move (.tmp 3), type := 135, pos := "parts.go:595", after := #[], guard := UP }) (v := Pq rb) rfl kQ kQ kQ (λ _ _ _ h => h) (SQ ⟨by rfl, λ I _ => by go_simp⟩) m ?_
     simp only[Act.put,Tr,TI,TJ];refine Vyb (i := 5) (oi := { dst := Z 47, op := .nilCheck (.tmp 46), type := 0, pos := "parts.go:595", after := #[{ on := 4, ground := .data }], guard := UP }) (v := Pq rb) rfl kQ kQ kQ (λ _ _ _ h => h) (SQ ⟨by rfl, λ I _ => by go_simp⟩) m ?_
     simp only[Act.put,Tr,TI,TJ];refine Vyb (i := 6) (oi := { dst := Z 48, op := .fieldAddr 139 (.tmp 47) 0, type := 0, pos := "parts.go:595", after := #[{ on := 5, ground := .data }], guard := UP }) (v := Pq rb) rfl kQ kQ kQ (λ _ _ _ h => h) (SQ ⟨by rfl, λ I _ => by go_simp⟩) m ?_
     simp only[Act.put,Tr,TI,TJ];refine Vyb (i := 7) (oi := { dst := Z 49, op := .load 60 (.tmp 48), type := 60, pos := "parts.go:595", after := #[{ on := 6, ground := .data }], guard := UP }) (v := .slice (Z (O x s)) (K L) cap) rfl kQ kQ kQ (λ _ _ _ h => h) (SQ ⟨by rfl, λ I h => by obtain ⟨s1, s2, s3, s4⟩ := h; go_simp⟩) m ?_
     simp only[Act.put,Tr,TI,TJ];refine Vyb (i := 8) (oi := { dst := Z 50, op := .move (.tmp 6), type := 3, pos := "parts.go:595", after := #[], guard := UP }) (v := J i) rfl kQ kQ kQ (λ _ _ _ h => h) (SQ ⟨by rfl, λ I _ => by go_simp⟩) m ?_
     simp only[Act.put,Tr,TI,TJ];refine Vyb (i := 9) (oi := { dst := Z 51, op := .indexAddr 60 (.tmp 49) (.tmp 50), type := 0, pos := "parts.go:595", after := #[{ on := 7, ground := .data }, { on := 8, ground := .data }], guard := UP }) (v := .pointer (Z (O x (s + i)))) rfl kQ kQ kQ (λ _ _ _ h => h) (SQ ⟨by rfl, λ I _ => by go_simp⟩) m ?_
     simp only[Act.put,Tr,TI,TJ];refine Vyb (i := 10) (oi := { dst := Z 52, op := .load 3 (.tmp 51), type := 3, pos := "parts.go:595", after := #[{ on := 9, ground := .data }], guard := UP }) (v := J (z : Int)) rfl kQ kQ kQ (λ _ _ _ h => h) (SQ ⟨by rfl, λ I h => by obtain ⟨s1, s2, s3, s4⟩ := h; go_simp⟩) m ?_
     simp only[Act.put,Tr,TI,TJ];refine Vyb (i := 11) (oi := { dst := Z 53, op := .move (.tmp 0), type := 38, pos := "parts.go:595", after := #[], guard := UP }) (v := Pq M9) rfl kQ kQ kQ (λ _ _ _ h => h) (SQ ⟨by rfl, λ I _ => by go_simp⟩) m ?_
     simp only[Act.put,Tr,TI,TJ];refine Vyb (i := 12) (oi := { dst := Z 54, op := .move (.tmp 4), type := 196, pos := "parts.go:595", after := #[], guard := UP }) (v := .slice (Z (O bb 0)) (K L) cr) rfl kQ kQ kQ (λ _ _ _ h => h) (SQ ⟨by rfl, λ I _ => by go_simp⟩) m ?_
     simp only[Act.put,Tr,TI,TJ];refine Vyb (i := 13) (oi := { dst := Z 55, op := .move (.tmp 6), type := 3, pos := "parts.go:595", after := #[], guard := UP }) (v := J i) rfl kQ kQ kQ (λ _ _ _ h => h) (SQ ⟨by rfl, λ I _ => by go_simp⟩) m ?_
     simp only[Act.put,Tr,TI,TJ];refine Vyb (i := 14) (oi := { dst := Z 56, op := .indexAddr 196 (.tmp 54) (.tmp 55), type := 0, pos := "parts.go:595", after := #[{ on := 12, ground := .data }, { on := 13, ground := .data }], guard := UP }) (v := .pointer (Z (O bb (i * 769)))) rfl kQ kQ kQ (λ _ _ _ h => h) (SQ ⟨by rfl, λ I _ => by go_simp⟩) m ?_
     simp only[Act.put,Tr,TI,TJ];refine Vyb (i := 15) (oi := { dst := Z 57, op := .load 198 (.tmp 56), type := 198, pos := "parts.go:595", after := #[{ on := 14, ground := .data }], guard := UP }) (v := .agg RZ.toArray) rfl kQ kQ kQ (λ _ _ _ h => h) (yieldsIf_load_mid (by rfl) 198 (.tmp 56) rfl bb (i * 769) rfl RZ _ (λ _ h => h.2.2.2) hu rfl a7) m ?_
     simp only[Act.put,Tr,TI,TJ];refine Vyb (i := 16) (oi := { dst := Z 58, op := .move (.tmp 4), type := 196, pos := "parts.go:595", after := #[], guard := UP }) (v := .slice (Z (O bb 0)) (K L) cr) rfl kQ kQ kQ (λ _ _ _ h => h) (SQ ⟨by rfl, λ I _ => by go_simp⟩) m ?_
     simp only[Act.put,Tr,TI,TJ];refine Vyb (i := 17) (oi := { dst := Z 59, op := .move (.tmp 3), type := 135, pos := "parts.go:595", after := #[], guard := UP }) (v := Pq rb) rfl kQ kQ kQ (λ _ _ _ h => h) (SQ ⟨by rfl, λ I _ => by go_simp⟩) m ?_
     simp only[Act.put,Tr,TI,TJ];refine Vyb (i := 18) (oi := { dst := Z 60, op := .nilCheck (.tmp 59), type := 0, pos := "parts.go:595", after := #[{ on := 17, ground := .data }], guard := UP }) (v := Pq rb) rfl kQ kQ kQ (λ _ _ _ h => h) (SQ ⟨by rfl, λ I _ => by go_simp⟩) m ?_
     simp only[Act.put,Tr,TI,TJ];refine Vyb (i := 19) (oi := { dst := Z 61, op := .fieldAddr 139 (.tmp 60) 0, type := 0, pos := "parts.go:595", after := #[{ on := 18, ground := .data }], guard := UP }) (v := Pq rb) rfl kQ kQ kQ (λ _ _ _ h => h) (SQ ⟨by rfl, λ I _ => by go_simp⟩) m ?_
     simp only[Act.put,Tr,TI,TJ];refine Vyb (i := 20) (oi := { dst := Z 62, op := .load 60 (.tmp 61), type := 60, pos := "parts.go:595", after := #[{ on := 19, ground := .data }], guard := UP }) (v := .slice (Z (O x s)) (K L) cap) rfl kQ kQ kQ (λ _ _ _ h => h) (SQ ⟨by rfl, λ I h => by obtain ⟨s1, s2, s3, s4⟩ := h; go_simp⟩) m ?_
     simp only[Act.put,Tr,TI,TJ];refine wpAnyH_ready (rs:=[21]) kQ sQ ?_;refine AllReadyH.cons rfl (λ K9 hK=>?_) AllReadyH.nil;go_simp;go_at_call 116;refine ZI.mono ?_;rintro e w5 ⟨v,l,rfl,ho,YP,y⟩;have C:=C.below y;have B:=P.below y;have E5:=a0.out.below y;have B5:=aj BD y;clear ZI P a0;go_wp2_with fail;refine hK.out _ _ C (λ bf=>?_);clear m hK K9;obtain⟨w7,bd,ap,X⟩:=B.mp.store aV Tryz.Vxa B.room a4 v;have K7:=aA X;have G7:=B.put U U ap X;have an:G' w5 1 203 4 v (K l) (ct W ((L.getD i 0:Nat):Int) l):=(by rw[HZ.out];exact cu ho (Oq BD.size));have E7:Vy (Eds w7 W H Y L (bQ f (z:Int) v) (i+1)):=E5.next B.mp K7 (by rw[HZ.out]) an (by
      rw[HZ.out];rw[<- HL.out]at YP;refine⟨YP.1,λ n=>?_⟩;rw[YP.all n,PL Wm];unfold uF;rw[Bool.and_eq_true,decide_eq_true_iff];constructor
      ·rintro⟨h1,h2,h3⟩;exact⟨h3,by rcases h2 with h2|h2;cases h2;omega,h1⟩
      ·rintro⟨h1,h2,h3⟩;exact⟨h3,SP U,h1⟩)
     have B7:Bq w w7:=B5.trans (K7.Z' B5.size (λ k e=>U));have a1:Kk w7 rb mb x (s+i) bb (i*769) z (K L) cap s RZ:=⟨B.cell K7 C.1,B.cell K7 C.2.1,B.cell K7 C.2.2.1,λ j v hj=>B.cell K7 (C.2.2.2 j v hj)⟩;clear ho an YP y E5 B5 B K7 ap X;refine wpAnyH_ready (rs:=[22]) kQ sQ ?_;refine AllReadyH.cons rfl (λ K9 hK=>?_) AllReadyH.nil;go_simp;refine hK.out _ _ a1 (λ be=>?_);refine wpAnyH_done kQ ?_ _;clear hK K9 bf be C a1 hu bd;go_wp2;go_roundg (K L-(i+1))
     case measure=>omega
     case rel=>exact⟨i+1,_,rfl,gQ,U,G7,E7,B7⟩
    ·have ab:i=K L:=U;subst ab;go_wp2;go_ret;exact⟨rb,mb,A,AR,cap,f,rfl,G9,hE.out,r,bi.out⟩
structure RGm (w:M) (rb mb cap nk:Nat) (A:Oa) (L:Ln) (es:Nat->List LE) (f:Int->Option Vr):Prop where
 p0:D w (O rb 0)=Z (.slice A (K L) cap)
 p1:D w (O rb 1)=Z (.map (Z mb))
 row:bP w A (K L) (λ i=>(L.getD i 0:Nat))
 mp:bj Vyj 3 w mb f nk
 yes:∀n∈L,∃A cap,f (n:Int)=Z (.slice A (K (es n)) cap)/\dS w A (es n)
 no:∀c:Int,¬(0<=c/\c.toNat∈L)->f c=UP
theorem RGm.below {rb b:Nat}{A:Oa}{L:Ln}{es:Nat->List LE}(G9:RGm w rb mb cap b A L es f)(a:Bq w I):RGm I rb mb cap b A L es f :=
 ⟨(a.cell (aB G9.p0)).trans G9.p0,(a.cell (aB G9.p1)).trans G9.p1,G9.row.below a,G9.mp.X' (F:=λ _=>False) (ai.Y' a) id,λ n c=>by
   obtain⟨A,cap,e,d⟩:=G9.yes n c;exact⟨A,cap,e,d.below a⟩,G9.no⟩
theorem RGt.gm {rb:Nat}{Y:Bn}{A AR:Oa}{es:Nat->List LE}(G9:RGt w M9 rb mb W H V Y A AR cap R (crs W H Y (W*H).toNat) f)(E9:Eds w W H Y (crs W H Y (W*H).toNat) f (K (crs W H Y (W*H).toNat)))(r:GEs W H Y es) :
  RGm w rb mb cap (cM (fO f) 256) A (crs W H Y (W*H).toNat) es f:=by
 have d:∀{n:Nat},n∈crs W H Y (W*H).toNat->∃j,j<K (crs W H Y (W*H).toNat)/\(n:Int)=(((crs W H Y (W*H).toNat).getD j 0:Nat):Int):=λ {n} b=>by
  obtain⟨i,g,h⟩:=TR b;exact⟨i,g,by rw[bL _ _ g,h]⟩
 refine⟨G9.p0,G9.p1,G9.row,G9.mp,λ n b=>?_,λ c q=>E9.2 c (λ ⟨j,z,h⟩=>q ?_)⟩;obtain⟨v,l,t,B,s⟩:=E9.1 (n:Int) (d b);obtain⟨x,m,k⟩:=r.1 n (cU.1 b).2;have e:=s.one m;subst e;have y:K (es n)=K l:=by rw[k,List.length_map]
 have p:G' w 1 203 4 v (K (es n)) (bB (es n)):=by grind [lE]
 obtain⟨u,a,rfl,o,_⟩:=eJ p;exact⟨u,a,t,o⟩
 grind [Ta,bL,TY]
def bv (B:Int->Oi):Int->Option Value:=λ a=>(B a).map λ _=>.bool Q
theorem Kl (B:Int->Oi)(a s d:Int):bQ (bv B) a (.bool Q)=bv (aC B a s d):=by grind [bQ,bv,aC]
theorem Tryz.underBb:Tryz.prog.underlying 250=Z (.map 3 4):=kQ
theorem yO (w:M):(zeroValue 4).run Vyj w=.ok (.bool Vl) w:=kQ
structure Lbs (w:M) (N cb ib:Nat) (B:Int->Oi):Prop where
 cm:bj Vyj 3 w cb (fv B) (cnt B 256)
 im:bj Vyj 3 w ib (bv B) (cnt B 256)
 nb:N<=cb/\N<=ib/\cb≠ib
theorem Lbs.X' {N cb ib:Nat}{B:Int->Oi}(h:Lbs w N cb ib B)(a:ai F w I)(c:¬F cb)(b:¬F ib):Lbs I N cb ib B:=⟨h.cm.X' a c,h.im.X' a b,h.nb⟩
theorem Lbs.below {N cb ib:Nat}{B:Int->Oi}(h:Lbs w N cb ib B)(a:Bq w I):Lbs I N cb ib B:=h.X' (F:=λ _=>False) (ai.Y' a) id id
section
variable {w : M} {N cb ib : Nat} {B : Int → Option (Int × Int)} {a : Int}
theorem Lbs.is (h:Lbs w N cb ib B)(b:(Lit.int .i64 a).wf=Q):(Instr.lookup 250 (.map (Z ib)) (J a) Vl).run Vyj w=.ok (.bool (B a).isSome) w:=by
 cases d:B a with
 |none=>exact h.im.u6 aV Tryz.underBb (yO _) b (by grind [bv]) Vl
 |some c=>exact h.im.Ui aV Tryz.underBb (yO _) b (v:=.bool Q) (by grind [bv]) Vl
theorem Lbs.co (h:Lbs w N cb ib B)(b:(Lit.int .i64 a).wf=Q):(Instr.lookup 251 (.map (Z cb)) (J a) Vl).run Vyj w=.ok (.agg #[J ((B a).getD (0,0)).1,J ((B a).getD (0,0)).2]) w:=by
 cases e:B a with
 |none=>exact h.cm.u6 aV Tryz.Vxc (k9 _) b (lX e) Vl
 |some c =>
  obtain⟨s,d⟩:=c;exact h.cm.Ui aV Tryz.Vxc (k9 _) b (iW e) Vl
theorem oj (B:Int->Oi)(e:0<=a)(f:a<256)(s d:Int):(if (B a).isSome then cnt B 256 else cnt B 256+1)=cnt (aC B a s d) 256:=by
 cases b:B a with
 |none=>exact(gZ B a s d 256 e U b).symm
 |some c=>exact(jF B a s d 256 (by rw[b];rfl)).symm
theorem Lbs.put1 (h:Lbs w N cb ib B)(i:(Lit.int .i64 a).wf=Q)(l:0<=a)(j:a<256)(s d:Int) :
  ∃b,(Instr.mapUpdate 251 (.map (Z cb)) (J a) (.agg #[J s,J d])).run Vyj w=.ok () b/\ai (λ k=>k=cb) w b/\bj Vyj 3 b cb (fv (aC B a s d)) (cnt (aC B a s d) 256)/\bj Vyj 3 b ib (bv B) (cnt B 256):=by
 have n:=jj B 256;obtain⟨b,m,c,g⟩:=h.cm.store aV Tryz.Vxc mQ i (.agg #[J s,J d]);have f:=aA g;refine⟨b,m,f,?_,h.im.X' f (λ e=>h.nb.2.2 e.symm)⟩;rw[zk]at c;rw[<- oj B l j s d];have e:(fv B a).isSome=(B a).isSome:=by unfold fv;rw[Option.isSome_map]
 rw[e]at c;exact c
theorem Lbs.put2 {s d:Int}(nb:N<=cb/\N<=ib/\cb≠ib)(i:bj Vyj 3 w cb (fv (aC B a s d)) (cnt (aC B a s d) 256))(h:bj Vyj 3 w ib (bv B) (cnt B 256))(j:(Lit.int .i64 a).wf=Q)(m:0<=a)(l:a<256) :
  ∃b,(Instr.mapUpdate 250 (.map (Z ib)) (J a) (.bool Q)).run Vyj w=.ok () b/\ai (λ k=>k=ib) w b/\Lbs b N cb ib (aC B a s d):=by
 have o:=jj B 256;obtain⟨b,n,c,g⟩:=h.store aV Tryz.underBb mQ j (.bool Q);have f:=aA g;refine⟨b,n,f,i.X' f nb.2.2,?_,nb⟩;rw[Kl B a s d]at c;rw[<- oj B m l s d];have e:(bv B a).isSome=(B a).isSome:=by unfold bv;rw[Option.isSome_map]
 rw[e]at c;exact c
end
theorem GW {es:Nat->List LE}{B:Int->Oi}(h:B (n:Int)=UP):qy es B n:=λ {s d e} a _=>by
 rw[h]at a;cases a
theorem NI {L:Ln}{es:Nat->List LE}{B a:Int->Oi}(h:a=B/\∀j,j<K L->qy es B (L.getD j 0)):∀n∈L,qy es a n:=by grind [TR,qy,bL]
theorem lL {x:LE}:∀{p q:List LE},(∀e∈p,e.to<x.to)->cX x (p++q)=p++cX x q
 |[],_,_=>rfl
 |y::p,q,h=>by
  have b:=h y (List.mem_cons_self ..);show cX x (y::(p++q))=y::(p++cX x q);rw[show cX x (y::(p++q))=if x.to<y.to then x::y::(p++q) else if x.to=y.to then x::(p++q) else y::cX x (p++q) from by rw[cX]];rw[Q6 U,Q6 U,lL (λ e a=>h e (List.mem_cons_of_mem _ a))]
theorem AB {x y:LE}:∀{p:List LE},(∃e∈p,x.to<=e.to)->cX x (p++[y])=cX x p++[y]
 |[],⟨e,a,_⟩=>Q8 a Uf
 |z::p,⟨e,a,d⟩=>by
  show cX x (z::(p++[y]))=cX x (z::p)++[y];unfold cX;by_cases c:x.to<z.to
  grind
  rw[Q6 c,Q6 c];by_cases b:x.to=z.to
  grind
  rw[Q6 b,Q6 b];have:∃e∈p,x.to<=e.to:=by grind
  rw[AB this];rfl
theorem Km {x:LE}{p:List LE}(h:∀e∈p,e.to<x.to):cX x p=p++[x]:=by
 have:=lL (q:=[]) h;rw[TU]at this;exact this
structure ks (x:LE) (l:List LE) (i:Nat) (laid:Bool) (F:List LE):Prop where
 no:laid=Vl->F=l.take i/\∀e∈l.take i,e.to<x.to
 yes:laid=Q->F=cX x (l.take i)/\∃e∈l.take i,x.to<=e.to
theorem ks.start (x:LE)(l:List LE):ks x l 0 Vl []:=⟨λ _=>⟨rfl,λ e a=>by rw[List.take_zero]at a;exact Q8 a Uf⟩,λ h=>(by cases h)⟩
section
variable {x y : LE} {l F : List LE} {i : Nat}
theorem yP (a:l[i]? = Z y):l.take (i+1)=l.take i++[y]:=by rw[List.take_add_one,a];rfl
theorem ks.past (g:Rsg l)(h:ks x l i Q F)(d:l[i]? = Z y):x.to<y.to/\ks x l (i+1) Q (F++[y]):=by
 obtain⟨rfl,e,c,a⟩:=h.yes rfl;have n:e.to<y.to:=by
  obtain⟨j,f,b⟩:=TR c;rw[List.length_take]at f;rw[List.getElem_take]at b;obtain⟨m,k⟩:=Th.1 d;have:=Ua.1 g j i U m U;rw[b,k]at this;exact this
 refine⟨U,λ h=>(by cases h),λ _=>?_⟩;rw[yP d];exact⟨(AB ⟨e,c,a⟩).symm,e,Tn.2 (SQ c),a⟩
theorem ks.low (h:ks x l i Vl F)(b:l[i]? = Z y)(d:y.to<x.to):ks x l (i+1) Vl (F++[y]):=by
 obtain⟨rfl,c⟩:=h.no rfl;refine⟨λ _=>?_,λ h=>(by cases h)⟩;rw[yP b];refine⟨rfl,λ e a=>?_⟩;rcases Tn.1 a with a|a
 exact c e a
 grind
theorem ks.at (h:ks x l i Vl F)(a:l[i]? = Z y)(b:x.to=y.to):ks x l (i+1) Q (F++[x]):=by
 obtain⟨rfl,c⟩:=h.no rfl;refine⟨λ h=>(by cases h),λ _=>?_⟩;rw[yP a,lL c];refine⟨?_,y,Tn.2 (SP (Tv.2 rfl)),U⟩;unfold cX;rw[Q6 U,Q5 b]
theorem ks.up (h:ks x l i Vl F)(a:l[i]? = Z y)(b:x.to<y.to):ks x l (i+1) Q (F++[x]++[y]):=by
 obtain⟨rfl,c⟩:=h.no rfl;refine⟨λ h=>(by cases h),λ _=>?_⟩;rw[yP a,lL c];refine⟨?_,y,Tn.2 (SP (Tv.2 rfl)),U⟩;unfold cX;rw[Q5 b,List.append_assoc];rfl
theorem ks.fin {b:Bool}(h:ks x l (K l) b F):(b=Q->F=cX x l)/\(b=Vl->F++[x]=cX x l):=by grind [cX,ks.yes,Tl,ks.no,Km]
end
theorem AD {A:Oa}{l:List LE}{x:LE}(w:M)(VU:dS w A l)(hR:Rsg l)(hl:K l<=256) :
  Zq 162 #[.slice A (K l) cap,.agg #[J (x.to:Int),J x.s,J x.d,J x.U6]] w λ e I=>∃v,e=VJ v/\G' I (G w.heap) 203 4 v (K (cX x l)) (bB (cX x l))/\Bq w I:=by
 obtain⟨i0,hi,VZ,Wa,Wc⟩:=info_parts Tryz.infoE;have b0:Bq w (E w (VP #[J (x.to:Int),J x.s,J x.d,J x.U6] 203)):=ae.alloc aa _;have HZ:Vy (G w.heap<=G (E w (VP #[J (x.to:Int),J x.s,J x.d,J x.U6] 203)).heap):=by unfold Vy;simp
 have x0:D (E w (VP #[J (x.to:Int),J x.s,J x.d,J x.U6] 203)) (O (G w.heap) 0)=Z (J (x.to:Int)):=SR _ _ _ 0 rfl;have x1:D (E w (VP #[J (x.to:Int),J x.s,J x.d,J x.U6] 203)) (O (G w.heap) 1)=Z (J x.s):=SR _ _ _ 1 rfl;have x2:D (E w (VP #[J (x.to:Int),J x.s,J x.d,J x.U6] 203)) (O (G w.heap) 2)=Z (J x.d):=SR _ _ _ 2 rfl;have x3:D (E w (VP #[J (x.to:Int),J x.s,J x.d,J x.U6] 203)) (O (G w.heap) 3)=Z (J x.U6):=SR _ _ _ 3 rfl;have au:Vy (leV x=[J (x.to:Int),J x.s,J x.d,J x.U6]):=rfl;have a0:=qH (ks.start x l);have HR:=qH hR;have aN:=VU.below b0;have a5:Vy (∃z xs xd xm,z=(x.to:Int)/\xs=x.s/\xd=x.d/\xm=x.U6):=⟨_,_,_,_,rfl,rfl,rfl,rfl⟩;clear VU hR;clear a5;generalize ay:(x.to:Int)=z at *;have W:=qH ay;clear ay;go_enter func162,ntmps162;go_wp2;generalize E w (VP #[VN VO z,VN VO x.s,VN VO x.d,VN VO x.U6] 203)=c at *;go_loopw [5,6,7] (λ fv lv iv wr=>∃(i:Nat) (b:Bool) (F:List LE),i<=K l/\iv=J i/\lv=.bool b/\Vy (ks x l i b F)/\K F<=2*i/\G' wr (G c.heap) 203 4 fv (K F) (bB F)/\Bq c wr)
  (λ _ _ i _=>K l-(intOf i).toNat)
 case atStart=>exact⟨0,Vl,[],Te _,rfl,rfl,a0.out,aa,To _ _ _ _,ae⟩
 case round =>
  clear a0;obtain⟨i,b,F,a6,rfl,rfl,HI,hF,a,B⟩:=hrel;have kx:∀{o:Nat}{v:Vr},Cq c (G w.heap) o v->Cq wr (G w.heap) o v:=λ {o v} h=>al B h;have t:=kx x0;have y1:=kx x1;have y2:=kx x2;have y3:=kx x3;have a7:=B.size;by_cases VS:i<K l
  ·obtain⟨y,hy⟩:∃y,l[i]? = Z y:=⟨l[i],SU VS⟩;obtain⟨f,o,rfl,j,R,P,N⟩:=(aN.below B) i y hy;have HQ:Vy (f<G c.heap/\Cq c f (o+i*4) (J (y.to:Int))/\Cq c f (o+i*4+1) (J y.s)/\Cq c f (o+i*4+2) (J y.d)/\Cq c f (o+i*4+3) (J y.U6)):=by
    obtain⟨b',o',e',k0,k1,k2,k3⟩:=aN i y hy;cases e';exact⟨aB k0,k0,k1,k2,k3⟩
   have ap:Vy (leV y=[J (y.to:Int),J y.s,J y.d,J y.U6]):=rfl;have i1:(0:Int)<=(i:Int):=U;have i2:(i:Int)<(K l:Int):=U;generalize ax:(y.to:Int)=r at *;have an:=qH ax;have a1:Vy (x.to<=y.to↔z<=r):=(by have:=W.out;unfold Vy;omega);have a9:Vy (x.to=y.to↔z=r):=(by have:=W.out;unfold Vy;omega);clear kx ax;cases b with
   |true =>
    obtain⟨a2,WG⟩:=HI.out.past HR.out hy;have HN:=qH WG;have VY:(r != z)=true:=bne_iff_ne.2 (λ e=>by have:=W.out;have:=an.out;omega);clear WG HI hy a2;go_wp2_with fail;go_quiet (fail);have V:=ak a (I:=wr.drewN nq) (Vxj ae _);have n:Bq c (wr.drewN nq):=Vxj B _;have j:Cq (wr.drewN nq) f (o+i*4) (J r):=j;have R:Cq (wr.drewN nq) f (o+i*4+1) (J y.s):=R;have P:Cq (wr.drewN nq) f (o+i*4+2) (J y.d):=P;have N:Cq (wr.drewN nq) f (o+i*4+3) (J y.U6):=N;have t:Cq (wr.drewN nq) (G w.heap) 0 (J z):=t;clear a B y1 y2 y3;generalize wr.drewN nq=m at *;go_wp2_with fail;go_quiet (fail);have Xv:=ak V (I:=m.drewN nq) (Vxj ae _);have X:Bq c (m.drewN nq):=Vxj n _;have j:Cq (m.drewN nq) f (o+i*4) (J r):=j;have R:Cq (m.drewN nq) f (o+i*4+1) (J y.s):=R;have P:Cq (m.drewN nq) f (o+i*4+2) (J y.d):=P;have N:Cq (m.drewN nq) f (o+i*4+3) (J y.U6):=N;clear V n t VY;generalize m.drewN nq=k at *;go_wp2_with (at_builtin;refine Vxk _ rfl _ _ 140 rfl (G c.heap) 203 i0 (.agg #[J 0,J 0,J 0,J 0]) 4 32 Tryz.Vxb hi VZ Wa Wc rfl dQ _ _ _ rfl (Xv.alloc _) (O (G k.heap) 0) 1 1 [J r,J y.s,J y.d,J y.U6] rfl rfl (bO _ _ _ _ _ _) (by intro u C;simp at C;rcases C with rfl|rfl|rfl|rfl<;>rfl) ?c3 ?c4 ?c5 ?_)
    case c3=>unfold Vyf;omega
    case c4=>have:=X.size;omega
    case c5=>have:=X.size;simp;omega
    intro S W4 Wz Wh _;have Wn:=λ q Y=>(Xv.lt q Y).1;have T:Bq c W4:=(X.alloc X.size _).grown Wh (by simp;have:=X.size;omega) Wn;have H:G' W4 (G c.heap) 203 4 S (K (F++[y])) (bB (F++[y])):=by
     rw[fP,eQ,ap.out]
     simpa using Wz
    have am:K (F++[y])<=1000:=(by rw[Td];show _+1<=_;omega);clear Wz Wh Wn Xv X j R P N;go_wp2;go_roundw
    case rel=>exact⟨i+1,Q,_,U,gQ,rfl,HN.out,by simp;omega,H,T⟩
    case measure=>simp[intOf];omega
   |false =>
    by_cases hc:x.to<=y.to
    ·have ag:decide (z<=r)=true:=Q2 (a1.out.1 hc);by_cases he:x.to=y.to
     ·have HN:=qH (HI.out.at hy he);have VY:(r != z)=false:=bne_eq_false_iff_eq.2 (by have:=W.out;have:=an.out;omega);clear HI hy he hc;go_wp2_with fail;go_quiet (fail);have V:=ak a (I:=wr.drewN nq) (Vxj ae _);have n:Bq c (wr.drewN nq):=Vxj B _;have j:Cq (wr.drewN nq) f (o+i*4) (J r):=j;have t:Cq (wr.drewN nq) (G w.heap) 0 (J z):=t;have y1:Cq (wr.drewN nq) (G w.heap) 1 (J x.s):=y1;have y2:Cq (wr.drewN nq) (G w.heap) 2 (J x.d):=y2;have y3:Cq (wr.drewN nq) (G w.heap) 3 (J x.U6):=y3;clear a B R P N ag;generalize wr.drewN nq=m at *;go_wp2_with (at_builtin;refine Vxk _ rfl _ _ 140 rfl (G c.heap) 203 i0 (.agg #[J 0,J 0,J 0,J 0]) 4 32 Tryz.Vxb hi VZ Wa Wc rfl dQ _ _ _ rfl (V.alloc _) (O (G m.heap) 0) 1 1 [J z,J x.s,J x.d,J x.U6] rfl rfl (bO _ _ _ _ _ _) (by intro u C;simp at C;rcases C with rfl|rfl|rfl|rfl<;>rfl) ?c3 ?c4 ?c5 ?_)
      case c3=>unfold Vyf;omega
      case c4=>have:=n.size;omega
      case c5=>have:=n.size;simp;omega
      intro ao k Zt Yh _;have Yi:=λ q Y=>(V.lt q Y).1;have g:Bq c k:=(n.alloc n.size _).grown Yh (by simp;have:=n.size;omega) Yi;have ab:G' k (G c.heap) 203 4 ao (K (F++[x])) (bB (F++[x])):=by
       rw[fP,eQ,au.out]
       simpa using Zt
      have a3:K (F++[x])<=1000:=(by rw[Td];show _+1<=_;omega);clear Zt Yh Yi V n j t y1 y2 y3;have j:=(g.cell (p:=O f (o+i*4)) HQ.out.1).trans HQ.out.2.1;have t:=al g x0;go_wp2_with fail;go_quiet (fail);have Wy:=ak ab (I:=k.drewN nq) (Vxj ae _);have L:Bq c (k.drewN nq):=Vxj g _;clear ab g j t VY;generalize k.drewN nq=W3 at *;have a4:=Wy;go_wp2;go_roundw
      case rel=>exact⟨i+1,Q,_,U,gQ,rfl,HN.out,by simp;omega,a4,L⟩
      case measure=>simp[intOf];omega
     ·have HN:=qH (HI.out.up hy U);have VY:(r != z)=true:=bne_iff_ne.2 (λ e=>by have:=W.out;have:=an.out;omega);clear HI hy he hc;go_wp2_with fail;go_quiet (fail);have V:=ak a (I:=wr.drewN nq) (Vxj ae _);have n:Bq c (wr.drewN nq):=Vxj B _;have t:Cq (wr.drewN nq) (G w.heap) 0 (J z):=t;have y1:Cq (wr.drewN nq) (G w.heap) 1 (J x.s):=y1;have y2:Cq (wr.drewN nq) (G w.heap) 2 (J x.d):=y2;have y3:Cq (wr.drewN nq) (G w.heap) 3 (J x.U6):=y3;have j:Cq (wr.drewN nq) f (o+i*4) (J r):=j;clear a B R P N ag;generalize wr.drewN nq=m at *;go_wp2_with (at_builtin;refine Vxk _ rfl _ _ 140 rfl (G c.heap) 203 i0 (.agg #[J 0,J 0,J 0,J 0]) 4 32 Tryz.Vxb hi VZ Wa Wc rfl dQ _ _ _ rfl (V.alloc _) (O (G m.heap) 0) 1 1 [J z,J x.s,J x.d,J x.U6] rfl rfl (bO _ _ _ _ _ _) (by intro u C;simp at C;rcases C with rfl|rfl|rfl|rfl<;>rfl) ?c3 ?c4 ?c5 ?_)
      case c3=>unfold Vyf;omega
      case c4=>have:=n.size;omega
      case c5=>have:=n.size;simp;omega
      intro ao k Zt Yh _;have Yi:=λ q Y=>(V.lt q Y).1;have g:Bq c k:=(n.alloc n.size _).grown Yh (by simp;have:=n.size;omega) Yi;have ab:G' k (G c.heap) 203 4 ao (K (F++[x])) (bB (F++[x])):=by
       rw[fP,eQ,au.out]
       simpa using Zt
      have a3:K (F++[x])<=1000:=(by rw[Td];show _+1<=_;omega);clear Zt Yh Yi V n j t y1 y2 y3;have j:=(g.cell (p:=O f (o+i*4)) HQ.out.1).trans HQ.out.2.1;have R:=(g.cell (p:=O f (o+i*4+1)) HQ.out.1).trans HQ.out.2.2.1;have P:=(g.cell (p:=O f (o+i*4+2)) HQ.out.1).trans HQ.out.2.2.2.1;have N:=(g.cell (p:=O f (o+i*4+3)) HQ.out.1).trans HQ.out.2.2.2.2;have t:=al g x0;go_wp2_with fail;go_quiet (fail);have Wy:=ak ab (I:=k.drewN nq) (Vxj ae _);have L:Bq c (k.drewN nq):=Vxj g _;have j:Cq (k.drewN nq) f (o+i*4) (J r):=j;have R:Cq (k.drewN nq) f (o+i*4+1) (J y.s):=R;have P:Cq (k.drewN nq) f (o+i*4+2) (J y.d):=P;have N:Cq (k.drewN nq) f (o+i*4+3) (J y.U6):=N;clear ab g t VY;generalize k.drewN nq=W3 at *;have ac:Vy (K (F++[x])<=2*i+1):=(by unfold Vy;rw[Td];show _+1<=_;omega);generalize F++[x]=F1 at *;have a8:K F1<=2*i+1:=ac.out;go_wp2_with (at_builtin;refine Vxk _ rfl _ _ 140 rfl (G c.heap) 203 i0 (.agg #[J 0,J 0,J 0,J 0]) 4 32 Tryz.Vxb hi VZ Wa Wc rfl dQ _ _ _ rfl (Wy.alloc _) (O (G W3.heap) 0) 1 1 [J r,J y.s,J y.d,J y.U6] rfl rfl (bO _ _ _ _ _ _) (by intro u C;simp at C;rcases C with rfl|rfl|rfl|rfl<;>rfl) ?c3 ?c4 ?c5 ?_)
      case c3=>unfold Vyf;omega
      case c4=>have:=L.size;omega
      case c5=>have:=L.size;simp;omega
      intro S W4 Wz Wh _;have Wn:=λ q Y=>(Wy.lt q Y).1;have T:Bq c W4:=(L.alloc L.size _).grown Wh (by simp;have:=L.size;omega) Wn;have H:G' W4 (G c.heap) 203 4 S (K (F1++[y])) (bB (F1++[y])):=by
       rw[fP,eQ,ap.out]
       simpa using Wz
      have am:K (F1++[y])<=1000:=(by rw[Td];show _+1<=_;omega);clear Wz Wh Wn Wy L j R P N;go_wp2;go_roundw
      case rel=>exact⟨i+1,Q,_,U,gQ,rfl,HN.out,by simp;omega,H,T⟩
      case measure=>simp[intOf];omega
    ·have HN:=qH (HI.out.low hy U);have ag:decide (z<=r)=false:=Q3 (λ h=>hc (a1.out.2 h));have VY:(r != z)=true:=bne_iff_ne.2 (λ e=>by have:=W.out;have:=an.out;omega);clear HI hy hc;go_wp2_with fail;go_quiet (fail);have V:=ak a (I:=wr.drewN nq) (Vxj ae _);have n:Bq c (wr.drewN nq):=Vxj B _;have j:Cq (wr.drewN nq) f (o+i*4) (J r):=j;have R:Cq (wr.drewN nq) f (o+i*4+1) (J y.s):=R;have P:Cq (wr.drewN nq) f (o+i*4+2) (J y.d):=P;have N:Cq (wr.drewN nq) f (o+i*4+3) (J y.U6):=N;have t:Cq (wr.drewN nq) (G w.heap) 0 (J z):=t;clear a B y1 y2 y3 ag;generalize wr.drewN nq=m at *;go_wp2_with fail;go_quiet (fail);have Xv:=ak V (I:=m.drewN nq) (Vxj ae _);have X:Bq c (m.drewN nq):=Vxj n _;have j:Cq (m.drewN nq) f (o+i*4) (J r):=j;have R:Cq (m.drewN nq) f (o+i*4+1) (J y.s):=R;have P:Cq (m.drewN nq) f (o+i*4+2) (J y.d):=P;have N:Cq (m.drewN nq) f (o+i*4+3) (J y.U6):=N;clear V n t VY;generalize m.drewN nq=k at *;go_wp2_with (at_builtin;refine Vxk _ rfl _ _ 140 rfl (G c.heap) 203 i0 (.agg #[J 0,J 0,J 0,J 0]) 4 32 Tryz.Vxb hi VZ Wa Wc rfl dQ _ _ _ rfl (Xv.alloc _) (O (G k.heap) 0) 1 1 [J r,J y.s,J y.d,J y.U6] rfl rfl (bO _ _ _ _ _ _) (by intro u C;simp at C;rcases C with rfl|rfl|rfl|rfl<;>rfl) ?c3 ?c4 ?c5 ?_)
     case c3=>unfold Vyf;omega
     case c4=>have:=X.size;omega
     case c5=>have:=X.size;simp;omega
     intro S W4 Wz Wh _;have Wn:=λ q Y=>(Xv.lt q Y).1;have T:Bq c W4:=(X.alloc X.size _).grown Wh (by simp;have:=X.size;omega) Wn;have H:G' W4 (G c.heap) 203 4 S (K (F++[y])) (bB (F++[y])):=by
      rw[fP,eQ,ap.out]
      simpa using Wz
     have am:K (F++[y])<=1000:=(by rw[Td];show _+1<=_;omega);clear Wz Wh Wn Xv X j R P N;go_wp2;go_roundw
     case rel=>exact⟨i+1,Vl,_,U,gQ,rfl,HN.out,by simp;omega,H,T⟩
     case measure=>simp[intOf];omega
  ·have ei:i=K l:=U;subst ei;obtain⟨YK,aL⟩:=HI.out.fin;have ac:=qH YK;have aw:=qH aL;have ad:G w.heap<=G c.heap:=HZ.out;clear kx YK aL HI;cases b with
   |true =>
    have e:=ac.out rfl;subst e;clear ac aw t y1 y2 y3;go_wp2;go_ret;exact⟨_,rfl,cu a ad,b0.trans (B.mono ad)⟩
   |false =>
    have e:=aw.out rfl;clear ac aw;go_wp2_with (at_builtin;refine Vxk _ rfl _ _ 140 rfl (G c.heap) 203 i0 (.agg #[J 0,J 0,J 0,J 0]) 4 32 Tryz.Vxb hi VZ Wa Wc rfl dQ _ _ _ rfl (a.alloc _) (O (G wr.heap) 0) 1 1 [J z,J x.s,J x.d,J x.U6] rfl rfl (bO _ _ _ _ _ _) (by intro u C;simp at C;rcases C with rfl|rfl|rfl|rfl<;>rfl) ?c3 ?c4 ?c5 ?_)
    case c3=>unfold Vyf;omega
    case c4=>have:=B.size;omega
    case c5=>have:=B.size;simp;omega
    intro S W4 Wz Wh _;have Wn:=λ q Y=>(a.lt q Y).1;have T:Bq c W4:=(B.alloc B.size _).grown Wh (by simp;have:=B.size;omega) Wn;have H:G' W4 (G c.heap) 203 4 S (K (F++[x])) (bB (F++[x])):=by
     rw[fP,eQ,au.out]
     simpa using Wz
    have am:K (F++[x])<=1000:=(by rw[Td];show _+1<=_;omega);clear Wz Wh Wn a B t y1 y2 y3;rw[e]at H;clear e am;go_wp2;go_ret;exact⟨_,rfl,cu H ad,b0.trans (T.mono ad)⟩
structure iT (w:M) (b:Nat) (f:Int->Option Vr):Prop where
 mp:bj Vyj 3 w b f (cM (fO f) 256)
 bd:∀i,fO f i=Q->0<=i/\i<256
section
variable {w I : M} {b : Nat} {f : Int → Option Vr} {t e : TypeId} {a : Int}
theorem iT.X' (h:iT w b f)(c:ai F w I)(a:¬F b):iT I b f:=⟨h.mp.X' c a,h.bd⟩
theorem iT.below (h:iT w b f)(a:Bq w I):iT I b f:=h.X' (F:=λ _=>False) (ai.Y' a) id
theorem iT.lt (h:iT w b f):b<G w.heap:=h.mp.lt
theorem iT.made (w:M):iT (E w (.map #[] 0)) (G w.heap) (λ _=>UP):=by
 refine⟨?_,λ i a=>by cases a⟩;rw[pT];exact bj.made w Vyj 3
theorem iT.store (h:iT w b f)(l:prog.underlying t=Z (.map 3 e))(j:0<=a)(m:a<256)(v:Vr) :
  ∃c,(Instr.mapUpdate t (.map (Z b)) (J a) v).run Vyj w=.ok () c/\ai (λ k=>k=b) w c/\iT c b (bQ f a v):=by
 have p:=oO (fO f) 256;obtain⟨c,n,o,g⟩:=h.mp.store aV l mQ (aE j U) v;refine⟨c,n,aA g,?_,λ i d=>?_⟩
 grind [kY,fO,oN,jI]
 rw[kY]at d;rcases (cW _ _ _).1 d with rfl|d
 exact⟨j,m⟩;exact h.bd i d
end
def lzF (L:Ln) (VE:Nat->Nat):Int->Option Value:=λ i=>if 0<=i/\i.toNat∈L/\0<VE i.toNat then Z (J (VE i.toNat:Int)) else UP
theorem Fm {L:Ln}{VE:Nat->Nat}{t:Nat}(h:n∈L)(a:0<t):bQ (lzF L VE) (n:Int) (J (t:Int))=lzF L (λ k=>if k=n then t else VE k):=by grind [bQ,lzF]
structure RLv (w:M) (lb vb eb top:Nat) (L:Ln) (st:LSt) (f:Int->Option Vr):Prop where
 c0:D w (O lb 0)=Z (.map (Z vb))
 c1:D w (O lb 1)=Z (.map (Z eb))
 c2:D w (O lb 2)=Z (J (top:Int))
 fz:w.frozen? (O lb 2)=Vl
 lv:iT w vb (lzF L st.VE)
 em:iT w eb f
 yes:∀n∈L,∃A cap,f (n:Int)=Z (.slice A (K (st.es n)) cap)/\dS w A (st.es n)
 no:∀c:Int,¬(0<=c/\c.toNat∈L)->f c=UP
 ne:vb≠eb
 bd:∀n∈L,n<256
section
variable {w I : M} {lb vb eb top : Nat} {L : List Nat} {st : LSt} {f : Int → Option Vr}
theorem RLv.below (G9:RLv w lb vb eb top L st f)(a:Bq w I):RLv I lb vb eb top L st f :=
 ⟨(a.cell (aB G9.c0)).trans G9.c0,(a.cell (aB G9.c1)).trans G9.c1,(a.cell (aB G9.c2)).trans G9.c2,(a.frozen (p:=O lb 2) (aB G9.c2)).trans G9.fz,G9.lv.below a,G9.em.below a,λ n b=>by
   obtain⟨A,cap,d,c⟩:=G9.yes n b;exact⟨A,cap,d,c.below a⟩,G9.no,G9.ne,G9.bd⟩
theorem RLv.lts (G9:RLv w lb vb eb top L st f):lb<G w.heap/\vb<G w.heap/\eb<G w.heap:=⟨aB G9.c0,G9.lv.lt,G9.em.lt⟩
theorem RLv.nes (G9:RLv w lb vb eb top L st f):lb≠vb/\lb≠eb:=by
 constructor;intro e;have h:=G9.lv.mp.cell 0;rw[<- e,G9.c0]at h;cases h;intro e;have h:=G9.em.mp.cell 0;rw[<- e,G9.c0]at h;cases h
theorem RLv.X' (G9:RLv w lb vb eb top L st f)(a:ai F w I)(d:¬F lb)(v:¬F vb)(u:¬F eb)(t:∀n∈L,∀A cap,f (n:Int)=Z (.slice A (K (st.es n)) cap)->∀b o,A=Z (O b o)->0<K (st.es n)->¬F b):RLv I lb vb eb top L st f :=
 ⟨a.cellOf G9.c0 d,a.cellOf G9.c1 d,a.cellOf G9.c2 d,(a.frozen (p:=O lb 2) G9.lts.1 d).trans G9.fz,G9.lv.X' a v,G9.em.X' a u,λ n g=>by
  obtain⟨A,cap,j,x⟩:=G9.yes n g;refine⟨A,cap,j,λ i e h=>?_⟩;have s:0<K (st.es n):=Nat.lt_of_le_of_lt (Te i) (Th.1 h).1;obtain⟨b,o,k,r,q,m,l⟩:=x i e h;have c:=t n g A cap j b o k s;exact⟨b,o,k,a.cellOf r c,a.cellOf q c,a.cellOf m c,a.cellOf l c⟩,G9.no,G9.ne,G9.bd⟩
theorem RLv.off (G9:RLv w lb vb eb top L st f){m:Nat}(j:∀o,D w (O m o)=UP):∀n∈L,∀A cap,f (n:Int)=Z (.slice A (K (st.es n)) cap)->∀b o,A=Z (O b o)->0<K (st.es n)->¬b=m:=λ n i A cap h b o l k e=>by
 obtain⟨s,g,c,p⟩:=G9.yes n i;rw[h]at c;cases c;obtain⟨r,q,d,a,_⟩:=p 0 _ (SU k);rw[l]at d;cases d;rw[e,j]at a;cases a
theorem RLv.look (G9:RLv w lb vb eb top L st f){n:Nat}(c:n∈L):(Instr.lookup 144 (.map (Z vb)) (J (n:Int)) Vl).run Vyj w=.ok (J (st.VE n:Int)) w:=by
 have b:=aE (a:=(n:Int)) U (Oq (G9.bd n c));by_cases h:0<st.VE n;exact G9.lv.mp.Ui aV Tryz.Vxf (mX w) b (by grind [lzF,Ta]) Vl;have d:st.VE n=0:=U;rw[d];exact G9.lv.mp.u6 aV Tryz.Vxf (mX w) b (by grind [lzF,Ta]) Vl
theorem RLv.edges (G9:RLv w lb vb eb top L st f){n:Nat}(a:n∈L):∃A cap,(Instr.lookup 137 (.map (Z eb)) (J (n:Int)) Vl).run Vyj w=.ok (.slice A (K (st.es n)) cap) w/\dS w A (st.es n)/\f (n:Int)=Z (.slice A (K (st.es n)) cap):=by
 obtain⟨A,cap,b,c⟩:=G9.yes n a;exact⟨A,cap,G9.em.mp.Ui aV Tryz.Vxa (mm w) (aE U (Oq (G9.bd n a))) b Vl,c,b⟩
end
def apE (st:LSt) (n:Nat):Nat->List LE:=λ a=>(st.es a).filter (λ e=>decide (st.VE e.to=0/\e.to≠n))
theorem tE {st:LSt}{e:LE}:e∈apE st n a↔e∈st.es a/\st.VE e.to=0/\e.to≠n:=by grind [apE]
theorem Kn (st:LSt)(n:Nat)(a b t u:Int):GrE (apE st n) a b t u↔EdR st n a b t u:=by grind [GrE,apE,EdR]
theorem PM {L:Ln}{st:LSt}(b:Okl L 512 st)(c:∀n∈L,n<256)(n:Nat):PJ L (apE st n) :=
 ⟨λ a=>b.cor.ends (tE.1 a).1,λ a=>b.bd (tE.1 a).1,c⟩
structure Apt (L:Ln) (st:LSt) (n o:Nat) (B:Int->Oi):Prop where
 rb:RB L (apE st n) [⟨(o:Int),0,0,0⟩] B
 rl:∀x∈L,qy (apE st n) B x
theorem Apt.need {L:Ln}{st:LSt}{a b:LE}{B:Int->Oi}(h:Apt L st n a.to B)(o:a.to∈L) :
  zg st n a b↔bE B (b.to:Int) (a.s+b.s) (a.d+b.d)=true:=by
 have i:e9 L [⟨(a.to:Int),0,0,0⟩] (a.to:Int) 0 0:=⟨_,Tv.2 rfl,⟨⟨by show (0:Int)<=(a.to:Int);omega,by show ((a.to:Int)).toNat∈L;rw[Ta];exact o⟩,Int.le_refl 0,(by grind),Int.le_refl 0,(by grind)⟩,rfl,rfl,rfl⟩;have z:val 0 0=0:=dQ;rw[gy];constructor;intro r s d v;obtain⟨y,x,d0,p,q,⟨A,f,_,rfl,rfl,rfl⟩,e,k,j⟩:=h.rb.snd v;rw[Tv.1 f]at e k j;have l:s=p:=by simpa using k
 have m:d=q:=by simpa using j
 subst l m;have g:Wg (EdR st n) (a.to:Int) (b.to:Int) s d:=e.mono (λ a b t u h=>(Kn st n a b t u).1 h);by_cases c:val s d<=val (a.s+b.s) (a.d+b.d);exact Q8 ⟨s,d,g,c⟩ r;omega;rintro w ⟨p,q,g,c⟩;obtain⟨s,d,f,e⟩:=h.rb.least h.rl i (g.mono (λ a b t u h=>(Kn st n a b t u).2 h));have:=w s d f;omega
end Go.Proofs.YtikdmenjibkgiaaGreatDoor
