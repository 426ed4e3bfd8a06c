/- Texts laid together. -/
import Derived.Test.YtikdmenjibkgiaaGreatDoorP2
import Derived.Test.YtikdmenjibkgiaaGreatDoorP4
import Derived.Maps.Ext
import Derived.Maps.RangeWalk
import Derived.Laws.IdiomRangeMap
import Derived.Deep.MidRow
import Derived.Deep.RegionHeld3
namespace Go.Proofs.YtikdmenjibkgiaaGreatDoor
open Go.Proofs.Tryz renaming underlying60->Vyg,prog->Vyj
open _root_.Or renaming inl->SQ,inr->SP
open _root_.Array renaming getElem?_eq_some_iff->Tq,size->G
open Go.World renaming block_lt_of_cell?->SZ,cell?_alloc_at->SR,cell?_setCell_other->SY,cell?_setCell_same->Tf,cell?_alloc_new->Tb,rangeAt_setCells_same->TV,there_setCells->Uh,rangeAt_setCells_apart->T8,cell?->D,alloc->E,setCell->C',ownsRow->G'
open _root_.List renaming getElem?_map->Tz,getElem?_eq_getElem->SU,range->Ud,mem_map->TX,mem_filter->TS,mem_range->Up,getElem?_eq_some_iff->Th,getElem?_append_left->TO,replicate->Us,getElem?_range->UD,length_replicate->Vv,length->K
open _root_.Nat renaming lt_irrefl->UA,zero_add->Tm
open Go.Value renaming bool->Vi,ownBlock->M'
open _root_.Option renaming map_some->Vd
open Go.Value renaming int->VN
open Go.IntKind renaming i64->VO
open Go.Proofs.Tryz
open _root_.Option renaming some->Z,none->UP
open _root_.Bool renaming true->Q,false->Vl
open Go renaming World->M,Value->Vr,below_drewN->Vxj,maxLen->Vyf,TypeId->Vyk
open Go.RowKit renaming Below->Vw
open Go.Ending renaming returned->VJ
open Go.Obj renaming cells->VP
variable {I w wr:M}{x y u v r a s d W H V i c t z:Int}{k base n B b cb ib:Nat}{D9:Nat->Prop}{S:Int->Bool}{ok:Int->Nat->Prop}{tv:Vr}
set_option maxHeartbeats 8000000
set_option maxRecDepth 1000000
open Go.RowKit
section
open Go.Maps Go.RowKit
def iM (P:Program) (k:Vyk) (w:M) (b r:Nat) (f:Int->Option Vr) (n:Nat) (left:Int->Bool) (cnt:Nat):Prop :=
 ∃(D9:DataW Vr) (lf:Lit->Bool),w.ranges P k pJ b r n D9 lf cnt/\Maps.size D9=n/\(∀a:Int,Maps.has D9 (.int .i64 a)=(f a).isSome/\∀v,f a=Z v->∀z,D9.atKey (.int .i64 a) z=.held v)/\∀a:Int,lf (.int .i64 a)=left a
variable {P : Program} {k e t : Vyk} {w : M} {b r n cnt : Nat} {f : Int → Option Vr} {left : Int → Bool}
theorem iM.map (h:iM P k w b r f n left cnt):bj P k w b f n:=by
 obtain⟨D9,e,d,c,a,_⟩:=h;exact⟨D9,d.owns,c,a⟩
theorem iM.lt (h:iM P k w b r f n left cnt):r<G w.heap:=by obtain⟨D9,c,a,_⟩:=h;exact a.lt
theorem iM.kept (h:iM P k w b r f n left cnt)(g:I.heap[b]? = w.heap[b]?)(e:I.heap[r]? = w.heap[r]?):iM P k I b r f n left cnt:=by
 obtain⟨D9,d,⟨s,c,a,seen,t,q,p,o,m,l,j⟩,i⟩:=h;exact⟨D9,d,⟨s,c,a,seen,t,g.trans q,p,o,m,e.trans l,j⟩,i⟩
theorem iM.X' {F:Nat->Prop}(h:iM P k w b r f n left cnt)(a:ai F w I)(d:¬F b)(c:¬F r):iM P k I b r f n left cnt :=
 h.kept (a.block b h.map.lt d) (a.block r h.lt c)
section
variable {ops : Array Oper} {rest : List Oper} {o : Oper} {a : Act} {Q9 : Exit → Act → M → Prop}
theorem cO (s:o.guard=UP)(m:Operand)(t:Vyk)(c:o.op=Op.range t m)(k e:Vyk)(r:P.underlying k=Z (.int .i64))(p:P.underlying t=Z (.map k e))(b n:Nat)(f:Int->Option Vr)
  (q:a.eval m=.map (Z b)) (h:bj P k w b f n)
  (u:∀I,iM P k I b (G w.heap) f n (λ x=>(f x).isSome) n->w.grownBy I UP->G I.heap=G w.heap+1->wpList P ops Q9 rest (a.put o.dst (.pointer (Z ⟨G w.heap,0,UP⟩))) I) :
  wpList P ops Q9 (o::rest) a w:=by
 obtain⟨D9,v,g,d⟩:=h;refine wpList_range_own w s m t c k e (int_keyed r) p pJ b n D9 q v λ I l j i=>u I ⟨D9,_,g▸l,g,d,λ a=>(d a).1⟩ j i
theorem di (S:o.guard=UP)(it:Operand)(d:o.op=Op.next it Vl)(k:Vyk)(i:P.underlying k=Z (.int .i64))(b r n:Nat)(f:Int->Option Vr)(left:Int->Bool)(cnt:Nat)
  (hit:a.eval it=.pointer (Z ⟨r,0,UP⟩)) (h:iM P k w b r f n left cnt)
  (q:cnt=0->(∀x,left x=Vl)->wpList P ops Q9 rest (a.put o.dst (.tuple #[.bool Vl])) w)
  (p:∀(x:Int) (v:Vr) (I:M) (c:Nat),(Lit.int .i64 x).wf=Q->left x=Q->f x=Z v->iM P k I b r f n (λ z=>left z&&!decide (z=x)) c->c<cnt ->
   w.grownBy I (Z r)->G I.heap=G w.heap->(Instr.entry (.pointer (Z ⟨r,0,UP⟩))).run P I=.ok (.tuple #[VN VO x,v]) I->wpList P ops Q9 rest (a.put o.dst (.tuple #[.bool Q,VN VO x,v])) I) :
  wpList P ops Q9 (o::rest) a w:=by
 obtain⟨D9,A,W,V,C,l⟩:=h;refine wpList_next_ranges w S it d k (int_keyed i) pJ (Value.int .i64) id (λ L H s=>by obtain⟨x,rfl,_⟩:=Maps.keyOf_int_inv i s;exact⟨x,rfl⟩) (λ v y _=>⟨v,rfl⟩) b r n D9 A cnt hit W (λ X g=>q X λ x=>(l x).symm.trans (g _)) ?_;intro x v H y I c s g B t Xd VS j Ws ZG;obtain⟨x',ex,rfl,Zd⟩:=Maps.keyOf_int_inv i s;cases ex;have N:y.1=.held v:=by
  simp only[pJ,Option.some.injEq,id]at B;rw[<- B]
 rw[N]at t;have R:Maps.has D9 (.int .i64 x)=true:=has_true_of_atKey t;obtain⟨m,Y⟩:=C x;rw[R]at m;have T:f x=Z v:=by
  cases F:f x with
  |none=>rw[F]at m;cases m
  |some u =>
   have:=(Y u F (.held v)).symm.trans (t (.held v));cases this;rfl
 refine p x v I c Zd ((l x).symm.trans g) T ⟨D9,_,Xd,V,C,λ a=>?_⟩ VS j Ws ZG;show (A (.int .i64 a)&&!(Lit.int .i64 a).sameKey (.int .i64 x))=(left a&&!decide (a=x));rw[l a];by_cases e:a=x;subst e;rw[WideAt.sameKey_self (DL a),decide_eq_true rfl];rw[sameKey_ne (uZ e),decide_eq_false e]
end
end
def nA (x y u v:Int) (k:Nat):Bool:=decide (dst (dst (x+ah k) u) (dst (y+af k) v)+stS k=dst (dst x u) (dst y v))&&decide (les (dst (x+ah k) u) (dst (y+af k) v)+stD k=les (dst x u) (dst y v))
theorem jd :nA x y u v k=Q↔fY x y u v k:=by grind [nA,fY]
theorem Ml (k:Nat)(h:k<8):dst (dst 0 (ah k)) (dst 0 (af k))=stS k/\les (dst 0 (ah k)) (dst 0 (af k))=stD k:=by
 rcases k8 h with rfl|rfl|rfl|rfl|rfl|rfl|rfl|rfl<;>decide
theorem Ea {l j s1 d1 b d2 o d3:Int}{r:Bool}(w:M)
  (R:-100<=x) (P:x<=100) (N:-100<=y) (L:y<=100) (W:-1<=l) (V:l<=1) (T:-1<=j) (S:j<=1)
  (t:Dq 171 #[J k] w (.tuple #[J l,J j]))
  (g:∀w,Rq 145 #[J 0,J 0,J l,J j] w (.agg #[J s1,J d1]))
  (f:∀w,Rq 145 #[J (x+l),J (y+j),J u,J v] w (.agg #[J b,J d2]))
  (e:∀w,Rq 145 #[J x,J y,J u,J v] w (.agg #[J o,J d3]))
  (z:∀w,Rq 242 #[.agg #[J s1,J d1],.agg #[J b,J d2]] w (.agg #[J (s1+b),J (d1+d2)]))
  (c:(decide (s1+b=o)&&decide (d1+d2=d3))=r) :
  Rq 234 #[J x,J y,J k,J u,J v] w (.bool r):=by
 go_enter func234,ntmps234;go_wp2_with (go_at_call 171;refine QQ t λ m=>?_);refine Q9 (g _) λ I i=>?_;have C:Bq w I:=(Vxj ae m).trans i;clear i g t;go_wp2_with fail;refine Q9 (f _) λ s h=>?_;have n:Bq w s:=aj C h;clear h f C;go_wp2_with fail;refine Q9 (z _) λ H hb3=>?_;have a:Bq w ((E s (VP #[J s1,J d1] 90)).alloc (VP #[J b,J d2] 90)):=(n.alloc n.size _).alloc (by have:=n.size;simp;omega) _;have B:Bq w H:=a.trans (hb3.mono a.size);clear hb3 z n a;go_wp2_with fail;refine Q9 (e _) λ F A=>?_;have q:Bq w F:=aj B A;clear A e B;by_cases d:s1+b=o
 ·by_cases p:d1+d2=d3
  ·rw[Q2 d,Q2 p]at c;subst c d p;go_wp2;go_ret;exact⟨rfl,q⟩
  ·rw[Q2 d,Q3 p]at c;subst c d;go_wp2;go_ret;exact⟨rfl,q⟩
 ·rw[Q3 d]at c;subst c;go_wp2;go_ret;exact⟨rfl,q⟩
theorem bH (h:-100<=a)(k:a<=100):fB a:=by unfold fB;omega
theorem OD (d:-100<=x)(c:x<=100)(b:-100<=y)(a:y<=100)(u1:-100<=u)(u2:u<=100)(v1:-100<=v)(v2:v<=100):okC (dst (dst x u) (dst y v)) (les (dst x u) (dst y v)):=by grind [okC,dst,les]
theorem Qy (k:Nat):okC (stS k) (stD k):=by grind [ji,okC]
theorem nD {r:Bool}(C:nA x y u v k=r)(w:M)(s:az w)(e:k<8)(p:0<=x)(o:x<=50)(n:0<=y)(m:y<=50)(u1:0<=u)(u2:u<=50)(v1:0<=v)(v2:v<=50) :
  Rq 234 #[J x,J y,J k,J u,J v] w (.bool r):=by
 obtain⟨l,j,i,h⟩:=gX k;obtain⟨t,q⟩:=Ml k e;have A:=bH (show -100<=ah k by omega) U;have z:=bH (show -100<=af k by omega) U;have B:=bH (show -100<=(0:Int) by omega) U;have g:=bH (show -100<=x by omega) U;have f:=bH (show -100<=y by omega) U;have d:=bH (show -100<=u by omega) U;have c:=bH (show -100<=v by omega) U;have b:=bH (show -100<=x+ah k by omega) U;have a:=bH (show -100<=y+af k by omega) U;refine Ea (s1:=stS k) (d1:=stD k) w U U U U l j i h (ij k w s e) (λ w=>?_) (λ w=>nQ _ _ _ _ w b a d c) (λ w=>nQ _ _ _ _ w g f d c) (λ w=>lD _ _ _ _ w (Qy k) (OD U U U U U U U U)) ?_
 grind [nQ,ah,af]
 grind [nA,Int.add_comm,stS,stD]
theorem ak {e:Vyk}{v:Vr}{xs:List Vr}(h:G' w base e k v n xs)(f:Bq w I):G' I base e k v n xs:=by
 refine⟨h.1,?_⟩;rcases h.2 with j|⟨g,b,a,d,l,c,i⟩
 exact SQ j;exact SP ⟨g,b,a,d,l,(f.block g (Tq.1 c).1).trans c,i⟩
structure bz (w:M) (B:Nat) (s d:Int):Prop where
 c0:D w (O B 0)=Z (J s)
 c1:D w (O B 1)=Z (J d)
 z0:w.frozen? (O B 0)=Vl
 z1:w.frozen? (O B 1)=Vl
theorem bz.X' {F:Nat->Prop}(h:bz w B s d)(b:ai F w I)(a:¬F B):bz I B s d:=by
 have c:=SZ w _ h.c0;exact⟨b.cellOf h.c0 a,b.cellOf h.c1 a,(b.frozen (p:=O B 0) c a).trans h.z0,(b.frozen (p:=O B 1) c a).trans h.z1⟩
theorem bz.below (h:bz w B s d)(a:Bq w I):bz I B s d:=h.X' (F:=λ _=>False) (ai.Y' a) id
theorem bz.new (w:M)(s d:Int):bz (E w (VP #[J s,J d] 90)) (G w.heap) s d :=
 ⟨SR #[J s,J d] 90 (G w.heap) 0 rfl,SR #[J s,J d] 90 (G w.heap) 1 rfl,bC w #[J s,J d] 90 (G w.heap) aa 0,bC w #[J s,J d] 90 (G w.heap) aa 1⟩
theorem nF (w:M)(B:Nat)(s d:Int){x y:Vr}(b:Cq w B 0 x)(a:Cq w B 1 y) :
  ((C' w (O B 0) (J s)).setCell (O B 1) (J d)).cell? (O B 0)=Z (J s)/\Cq ((C' w (O B 0) (J s)).setCell (O B 1) (J d)) B 1 (J d):=by grind [SY,Tf]
theorem bz.set (S:bz w B x y)(s d:Int):bz ((C' w (O B 0) (J s)).setCell (O B 1) (J d)) B s d:=by
 have r:=nF w B s d S.c0 S.c1;exact⟨r.1,r.2,by simpa using S.z0,by simpa using S.z1⟩
theorem fq (w:M)(B:Nat)(s d:Int):ai (λ k=>k=B) w ((C' w (O B 0) (J s)).setCell (O B 1) (J d)):=by grind [ai.setCell,ai.refl]
theorem aq.X' {Y:Bn}(g:aq w b W H V Y)(c:ai D9 w I)(h:¬D9 b):aq I b W H V Y:=by
 have a:b<G w.heap:=SZ w _ g.c0;exact⟨g.w1,g.w2,g.h1,g.h2,(c.cell (p:=O b 0) a h).trans g.c0,(c.cell (p:=O b 1) a h).trans g.c1,(c.cell (p:=O b 2) a h).trans g.c2,λ i d=>(c.cell (p:=O b (3+i)) a h).trans (g.cs i d)⟩
theorem az.pos (s:az w):3<G w.heap:=SZ w _ (s 0 dQ).1
theorem az.X' (s:az w)(a:ai D9 w I)(h:¬D9 3):az I:=by grind [az,ah,af,ai.cell,az.pos]
def fv (F:Int->Oi):Int->Option Value:=λ a=>(F a).map λ c=>.agg #[J c.1,J c.2]
theorem iW {F:Int->Oi}(h:F a=Z (s,d)):fv F a=Z (.agg #[J s,J d]):=by unfold fv;rw[h];rfl
theorem lX {F:Int->Oi}(h:F a=UP):fv F a=none:=by unfold fv;rw[h];rfl
theorem zk (F:Int->Oi)(a s d:Int):bQ (fv F) a (.agg #[J s,J d])=fv (aC F a s d):=by grind [bQ,fv,aC]
theorem qY (l:Ln)(x i:Nat):(l++[x]).getD i 0=if i<K l then l.getD i 0 else if i=K l then x else 0:=by grind
theorem jW {g cap:Nat}{l:Ln}(h:G' w base 3 1 (.slice (Z (O g 0)) (K l) cap) (K l) (aH l))(i:Nat)(a:i<K l):D w (O g i)=Z (J ((l.getD i 0:Nat):Int)):=by
 rw[h.cellAt i U,bL _ _ a];unfold aH;rw[Tz,SU a];rfl
def qZ (S:Int->Bool):Int->Option Value:=λ i=>if S i then Z (.agg #[]) else UP
theorem kP (h:S i=Q):qZ S i=Z (.agg #[]):=Q5 h
theorem kR (h:S i=Vl):qZ S i=none:=by unfold qZ;rw[h];rfl
theorem eF (S:Int->Bool)(i:Int):(qZ S i).isSome=S i:=by grind [qZ]
theorem kT {v:Vr}(h:qZ S i=Z v):S i=Q/\v=.agg #[]:=by grind [qZ]
def eD (S:Int->Bool) (a:Int):Int->Bool:=λ i=>decide (i=a) || S i
theorem cW (S:Int->Bool)(a i:Int):eD S a i=Q↔i=a\/S i=true:=by unfold eD;rw[Bool.or_eq_true,decide_eq_true_eq]
theorem Mm (S:Int->Bool)(a:Int):bQ (qZ S) a (.agg #[])=qZ (eD S a):=by grind [bQ,qZ,eD,Q2,Q3]
theorem oN (h:S a=Q):eD S a=S:=by grind [eD,Q2,Q3]
def cM (S:Int->Bool):Nat->Nat
 |0=>0
 |N+1=>cM S N+if S N then 1 else 0
theorem oO (S:Int->Bool)(N:Nat):cM S N<=N:=by
 induction N with
 |zero=>exact aa
 |succ N a=>unfold cM;split<;>omega
theorem IA (S:Int->Bool)(a:Int)(N:Nat)(h:(N:Int)<=a):cM (eD S a) N=cM S N:=by
 induction N with
 |zero=>rfl
 |succ N b =>
  unfold cM;rw[b U];have:eD S a N=S N:=by unfold eD;rw[Q3 U];rfl
  rw[this]
theorem jI (S:Int->Bool)(a:Int)(N:Nat)(d:0<=a)(h:a<N)(b:S a=Vl):cM (eD S a) N=cM S N+1:=by
 induction N with
 |zero=>omega
 |succ N c =>
  unfold cM;by_cases e:a=N;rw[IA S a N U];have:eD S a N=true:=(cW _ _ _).2 (SQ e.symm);rw[this,<- e,b];simp
  grind [eD,Q3]
theorem Mn {N:Nat}:0<cM S N↔∃i:Int,0<=i/\i<N/\S i=true:=by
 induction N with
 |zero=>exact⟨λ h=>Q8 h (UA _),λ ⟨i,d,c,_⟩=>U⟩
 |succ N a =>
  unfold cM;cases b:S N with
  |true=>exact⟨λ _=>⟨N,U,U,b⟩,λ _=>by simp⟩
  |false =>
   simp only[Bool.false_eq_true,if_false,Nat.add_zero];rw[a];constructor
   grind
   grind
theorem oP (N:Nat):cM (λ _=>Vl) N=0:=by
 induction N with
 |zero=>rfl
 |succ N a=>unfold cM;rw[a];rfl
structure aU (w:M) (b:Nat) (S:Int->Bool):Prop where
 mp:bj Vyj 3 w b (qZ S) (cM S 256)
 bd:∀i,S i=Q->0<=i/\i<256
theorem aU.lt (h:aU w b S):b<G w.heap:=h.mp.lt
theorem aU.below (h:aU w b S)(a:Bq w I):aU I b S:=⟨h.mp.kept (a.block b h.lt),h.bd⟩
theorem aU.kept (h:aU w b S)(a:I.heap[b]? = w.heap[b]?):aU I b S:=⟨h.mp.kept a,h.bd⟩
theorem aU.grown {row:Option Nat}(h:aU w b S)(c:w.grownBy I row)(a:Z b≠row):aU I b S:=h.kept (c.block b h.lt a)
theorem aU.made (w:M):aU (E w (.map #[] 0)) (G w.heap) (λ _=>Vl) :=
 ⟨by rw[oP];exact bj.made w Vyj 3,λ i h=>by cases h⟩
theorem aU.put (h:aU w b S)(e:0<=a)(d:a<256)(f:bj Vyj 3 I b (bQ (qZ S) a (.agg #[])) (if (qZ S a).isSome then cM S 256 else cM S 256+1)):aU I b (eD S a):=by
 refine⟨?_,λ i c=>?_⟩
 grind [Mm,eF,oN,jI]
 rcases (cW _ _ _).1 c with rfl|c
 exact⟨e,d⟩;exact h.bd i c
theorem aU.room (_h:aU w b S):cM S 256<Vyf:=by grind [oO,Vyf]
theorem aU.ne_nil (h:aU w b S):0<cM S 256↔∃i,S i=true:=by
 rw[Mn];exact⟨λ ⟨i,_,_,c⟩=>⟨i,c⟩,λ ⟨i,a⟩=>⟨i,(h.bd i a).1,(h.bd i a).2,a⟩⟩
theorem aE (c:0<=a)(b:a<256):(Lit.int .i64 a).wf=true:=WalkArith.wf_i64 U
theorem Tryz.u9:Tryz.prog.underlying 230=Z (.map 3 279):=kQ
theorem sS (w:M):(zeroValue 279).run Vyj w=.ok (.agg #[]) w:=kQ
abbrev BC (w:M) (b r:Nat) (S left:Int->Bool) (cnt:Nat):Prop:=iM Vyj 3 w b r (qZ S) (cM S 256) left cnt
theorem iM.below {P:Program}{k:Vyk}{r cnt:Nat}{f:Int->Option Vr}{left:Int->Bool}(h:iM P k w b r f n left cnt)(a:Bq w I):iM P k I b r f n left cnt :=
 h.kept (a.block b h.map.lt) (a.block r h.lt)
theorem iM.grown {P:Program}{k:Vyk}{r cnt:Nat}{f:Int->Option Vr}{left:Int->Bool}{row:Option Nat}(h:iM P k w b r f n left cnt)(a:w.grownBy I row)(d:Z b≠row)(c:Z r≠row):iM P k I b r f n left cnt :=
 h.kept (a.block b h.map.lt d) (a.block r h.lt c)
section
variable {P : Program} {w : M} {ops : Array Oper} {rest : List Oper} {o : Oper} {a : Act} {Q9 : Exit → Act → M → Prop}
theorem vA (z:o.guard=UP)(m x v:Operand)(t:Vyk)(c:o.op=Op.insert t m x v)(k e:Vyk)(u:P.underlying k=Z (.int .i64))(q:P.underlying t=Z (.map k e))(b n:Nat)(f:Int->Option Vr)
  (s:a.eval m=.map (Z b)) (h:bj P k w b f n) (r:n<Vyf) (i:Int) (val:Vr) (l:a.eval x=J i) (p:a.eval v=val) (y:(Lit.int .i64 i).wf=Q)
  (A:∀I,bj P k I b (bQ f i val) (if (f i).isSome then n else n+1)->w.mapTurned I b->wpList P ops Q9 rest (a.put o.dst undef) I) :
  wpList P ops Q9 (o::rest) a w:=by
 refine wpList_plain z λ C d=>?_;obtain⟨I,B,j,g⟩:=h.store u q r y val;unfold Oper.wp;simp[execOp,c,s,l,p,B,Result.andThen];exact d _ _ (A I j g)
end
theorem IC (k:Nat)(a:k<8)(w:M):Eq9 297 #[J k] w (J ((opp k:Nat):Int)):=by
 rcases k8 a with rfl|rfl|rfl|rfl|rfl|rfl|rfl|rfl<;>(go_enter func297,ntmps297;go_wp2;go_ret;exact⟨rfl,rfl⟩)
def Eb (W H:Int) (Y:Bn) (c t:Int) (k:Nat):Bool:=bu W H Y (c%W) (c/W) k&&nA (c%W+ah k) (c/W+af k) (t%W) (t/W) (opp k)
def tgt (W c:Int) (k:Nat):Nat:=(c+(af k*W+ah k)).toNat
def jJ (W H:Int) (Y:Bn) (c t:Int) (n:Nat):Ln:=((Ud n).filter λ i=>Eb W H Y c t i).map λ i=>tgt W c i
theorem ID (W H:Int)(Y:Bn)(c t:Int)(n:Nat):jJ W H Y c t (n+1)=jJ W H Y c t n++(if Eb W H Y c t n then [tgt W c n] else []):=by grind [jJ,Eb,tgt,List.range_succ,List.filter_cons_of_neg,Bool.false_eq_true,not_false_eq_true,List.filter_cons_of_pos]
theorem BH (W H:Int)(Y:Bn)(c t:Int)(n:Nat):K (jJ W H Y c t n)<=n:=by grind [jJ]
theorem nG {Y:Bn}(d:1<=W)(h:bu W H Y (c%W) (c/W) k=Q):(tgt W c k:Int)=c+(af k*W+ah k):=by
 unfold tgt;obtain⟨_,a,_,_⟩:=fZ h;obtain⟨i,g,b,f⟩:=lj a;have e:c+(af k*W+ah k)=(c/W+af k)*W+(c%W+ah k):=by
  have:=gC W c;rw[Int.add_mul];omega
 have:=Int.mul_nonneg b (show 0<=W by omega);omega
def Og (W H:Int) (Y:Bn) (t c:Int) (k:Nat) (r:Int):Prop:=aF W H Y c k r/\fY (r%W) (r/W) (t%W) (t/W) (opp k)
theorem BI {Y:Bn}{z:Nat}(a:1<=W)(j:inB W H c=Q):z∈jJ W H Y c t 8↔∃k,Og W H Y t c k z:=by
 unfold jJ;rw[TX];constructor;rintro⟨i,f,rfl⟩;rw[TS,Up]at f;have h:=f.2;unfold Eb at h;rw[Bool.and_eq_true]at h;have e:aF W H Y c i (tgt W c i:Int):=⟨f.1,j,h.1,nG a h.1⟩;obtain⟨d,b⟩:=e.place a;exact⟨i,e,by rw[d,b];exact jd.1 h.2⟩;rintro⟨k,e,g⟩;obtain⟨d,b⟩:=e.place a;rw[d,b]at g;obtain⟨l,_,n,m⟩:=e;refine⟨k,TS.2 ⟨Up.2 l,?_⟩,?_⟩
 grind [Eb,jd]
 grind [nG]
theorem vB {Y:Bn}{l:Ln}(a:1<=W)(m:inB W H c=Q)(g:jJ W H Y c t 8=l) :
  (∃i,i<K l/\z=((l.getD i 0:Nat):Int))↔∃k,Og W H Y t c k z:=by
 constructor
 grind [bL,List.getElem_mem,BI]
 rintro⟨k,e,j⟩;have f:0<=z/\z<W*H:=Q1 (e.in' a);have b:z.toNat∈jJ W H Y c t 8:=(BI a m).2 ⟨k,by rw[Int.toNat_of_nonneg f.1];exact⟨e,j⟩⟩;rw[g]at b;obtain⟨i,d,h⟩:=List.getElem_of_mem b;refine⟨i,d,?_⟩;rw[bL _ _ d,h];omega
theorem Mo {b:Nat}{H V:Int}{Y:Bn}(w:M)(g:aq w b W H V Y)(s:az w)(hb:b<G w.heap)
  (hx:c%W=x) (hy:c/W=y) (N:t%W=u) (hv:t/W=v)
  (hP:∀w,aq w b W H V Y->Dq 123 #[Pq b,J c] w (.tuple #[J x,J y,.nilIface]))
  (hQ:∀w,aq w b W H V Y->Dq 123 #[Pq b,J t] w (.tuple #[J u,J v,.nilIface]))
  (x1:0<=x) (x2:x<=50) (y1:0<=y) (y2:y<=50) (u1:0<=u) (u2:u<=50) (v1:0<=v) (v2:v<=50) (c1:0<=c) (c2:c<=300) :
  Zq 277 #[Pq b,J c,J t] w λ e I=>∃v,e=VJ v /\
   I.ownsRow (G w.heap) 3 1 v (K (jJ W H Y c t 8)) (aH (jJ W H Y c t 8))/\Bq w I:=by
 obtain⟨i0,hi,VZ,Wa,Wc⟩:=info_parts Tryz.Vxg;go_enter func277,ntmps277;go_wp2_with fail;refine QQ (hP _ g) λ m1=>?_;go_wp2_with fail;refine QQ (hQ _ (g.drewN _)) λ m2=>?_;clear hP hQ;go_wp2;go_loopw [13,31] (λ v i wr=>∃k:Nat,k<=8/\i=J k/\G' wr (G w.heap) 3 1 v (K (jJ W H Y c t k)) (aH (jJ W H Y c t k))/\Bq w wr)
  (λ _ i _=>8-(intOf i).toNat)
 case atStart=>exact⟨0,Nat.zero_le _,rfl,World.ownsRow_nil _ _ _ _,Vxj ae _⟩
 case round =>
  obtain⟨k,hk,rfl,d,o⟩:=hrel;have hl:=BH W H Y c t k;have R:=g.below o hb;have f:=s.below o U;have Ws:=o.size;by_cases VS:k<8
  ·have B:=ID W H Y c t k;have C:Eb W H Y c t k=(bu W H Y x y k&&nA (x+ah k) (y+af k) u v (opp k)):=(by unfold Eb;rw[hx,hy,N,hv]);obtain⟨s1,s2,s3,s4⟩:=gX k;have L:=λ w h=>ij k w h VS;have P:c+(af k*W+ah k)=(tgt W c k:Int)\/bu W H Y x y k=false:=by
    cases a:bu W H Y x y k with
    |false=>exact SP rfl
    |true =>
     left;rw[<- hx,<- hy]at a;exact(nG g.w1 a).symm
   have F:=λ (z:Int) (ac:c+(af k*W+ah k)=z) w g s=>QM (b:=b) (H:=H) (V:=V) (Y:=Y) ac w g s VS U U;have XG:bu W H Y x y k=Q->(0<=x+ah k/\x+ah k<=50)/\(0<=y+af k/\y+af k<=50):=λ a=>by
    obtain⟨_,o2,_,_⟩:=fZ a;obtain⟨a1,a2,a3,a4⟩:=lj o2;have:=g.w2;have:=g.h2;omega
   have ad:=yl k;have hit:=λ (r:Bool) (hr:nA (x+ah k) (y+af k) u v (opp k)=r) w s p1 X T S=>nD hr w s ad p1 X T S u1 u2 v1 v2;have Xy:=IC k VS;have l:=λ (r:Bool) (a:bu W H Y x y k=r) w g s=>wC (b:=b) (V:=V) a w g s VS U U U U;have m:=λ (a:bu W H Y x y k=Q)=>F (tgt W c k:Int) (P.resolve_right (by rw[a];decide));generalize ah k=dx at *;generalize af k=dy at *;generalize opp k=ok at *;generalize tgt W c k=z at *;clear hx hy N hv F P;cases a:bu W H Y x y k with
   |false =>
    have HS:Hid (jJ W H Y c t (k+1)=jJ W H Y c t k):=(by rw[B,C,a];simp[Hid]);have l:=l Vl a;clear B C m hit XG;go_wp2_with fail;refine QQ (L _ f) λ m3=>?_;clear L;go_wp2_with fail;refine QQ (l _ (R.drewN _) (f.drewN _)) λ m4=>?_;clear l;go_wp2;go_roundw
    case rel=>exact⟨k+1,U,gQ,by rw[HS.out];exact d,Vxj o _⟩
    case measure=>simp[intOf];omega
   |true =>
    obtain⟨⟨p1,X⟩,T,S⟩:=XG a;have F:=m a;have l:=l Q a;cases A:nA (x+dx) (y+dy) u v ok with
    |false =>
     have HS:Hid (jJ W H Y c t (k+1)=jJ W H Y c t k):=(by rw[B,C,a,A];simp[Hid]);have hit:=λ w s=>hit Vl A w s p1 X T S;clear B C F XG m A a;go_wp2_with fail;refine QQ (L _ f) λ m3=>?_;clear L;go_wp2_with fail;refine QQ (l _ (R.drewN _) (f.drewN _)) λ m4=>?_;clear l;go_wp2_with fail;refine Q0 (Xy _) ?_;clear Xy;go_wp2_with fail;refine Q9 (hit _ (f.drewN _)) λ p WR=>?_;have n:Bq wr p:=(Vxj ae (m3+m4)).trans WR;clear hit;go_wp2;go_roundw
     case rel=>exact⟨k+1,U,gQ,by rw[HS.out];exact ak d n,o.trans (n.mono Ws)⟩
     case measure=>simp[intOf];omega
    |true =>
     have HS:Hid (jJ W H Y c t (k+1)=jJ W H Y c t k++[z]):=(by rw[B,C,a,A];simp[Hid]);have hit:=λ w s=>hit Q A w s p1 X T S;clear B C XG m A a;go_wp2_with fail;refine QQ (L _ f) λ m3=>?_;clear L;go_wp2_with fail;refine QQ (l _ (R.drewN _) (f.drewN _)) λ m4=>?_;clear l;go_wp2_with fail;refine Q0 (Xy _) ?_;clear Xy;go_wp2_with fail;refine Q9 (hit _ (f.drewN _)) λ p WR=>?_;have n:Bq wr p:=(Vxj ae (m3+m4)).trans WR;clear hit;have g4:=R.below n U;have s4:=f.below n U;have o4:=ak d n;have n4:=o.trans (n.mono Ws);clear WR n d o R f;go_wp2_with fail;refine QQ (F _ g4 s4) λ m5=>?_;clear F g4 s4;have ab:=n4.size;go_wp2_with (at_builtin;refine wpList_append_own _ rfl _ _ 60 rfl (G w.heap) 3 i0 (J 0) 1 8 Vyg hi VZ Wa Wc rfl dQ _ _ _ rfl (World.ownsRow.alloc (show G' (p.drewN m5) (G w.heap) 3 1 _ _ _ from o4) _) (O (G p.heap) 0) 1 1 [J z] rfl rfl ?c1 ?c2 ?c3 ?c4 ?c5 ?_)
     case c1 =>
      intro j u hj
      match j,hj with
      |0,hj =>
       simp at hj;subst hj;simp only[Addr.add];exact SR (w:=p.drewN m5) #[J z] 3 (G p.heap) 0 rfl
     case c2=>intro u N;simp at N;subst N;rfl
     case c3=>unfold Vyf;omega
     case c4=>omega
     case c5=>simp;omega
     intro v' w8 VR VQ _;have VV:=λ q hq=>(o4.lt q hq).1;have B1:Bq w w8:=((Vxj n4 m5).alloc ab _).grown VQ sU VV;have O1:G' w8 (G w.heap) 3 1 v' (K (jJ W H Y c t (k+1))) (aH (jJ W H Y c t (k+1))):=by
      rw[HS.out]
      simpa [aH]using VR
     clear VR VQ o4 n4;go_wp2;go_roundw
     case rel=>exact⟨k+1,U,gQ,O1,B1⟩
     case measure=>simp[intOf];omega
  ·have:k=8:=U;subst this;go_wp2;go_ret;exact⟨_,rfl,d,o⟩
theorem IF {Y:Bn}{l:Ln}(o:jJ W H Y c t 8=l)(w:M)(g:aq w b W H V Y)(s:az w)(q:b<G w.heap)(f:inB W H c=Q)(h:inB W H t=Q) :
  Zq 277 #[Pq b,J c,J t] w λ e I=>∃A d,e=VJ (.slice A (K l) d)/\bP I A (K l) (λ i=>(l.getD i 0:Nat))/\Bq w I:=by
 obtain⟨k,y,j,x⟩:=dY g.w1 f;obtain⟨u1,u2,m,z⟩:=dY g.w1 h;have C:=g.w2;have F:=g.h2;have n:0<=c/\c<W*H:=Q1 f;have B:=bG g.w1 g.w2 g.h1 g.h2;refine(Mo w g s q rfl rfl rfl rfl (λ w g=>eK c w g f) (λ w g=>eK t w g h) k U j U u1 U m U n.1 U).mono ?_;rintro e I ⟨v,p,a,r⟩;rw[o]at a;obtain⟨A,d,rfl,u⟩:=jk a;exact⟨A,d,p,u,r⟩
def cY (W a b:Int):Int:=aP W a b+aO W a b
theorem eG (W a b:Int):0<=cY W a b:=by
 have:=aJ W a b;have:=aG W a b;unfold cY;omega
theorem rY (W a:Int):cY W a a=0:=by unfold cY;rw[gz,gA];rfl
theorem OE (h:k<8):opp (opp k)=k:=by unfold opp;omega
section
variable {W H : Int} {Y : Nat → Bool} {a : Int}
theorem aF.opp (a:1<=W)(e:aF W H Y c k r):aF W H Y r (opp k) c:=by
 obtain⟨f,d⟩:=e.place a;have i:=e.in' a
 obtain⟨b,j,h,g⟩:=e;refine⟨yl k,i,?_,?_⟩;rw[f,d];exact zH b h;rw[g];exact(wG b).symm
def Nr (W H:Int) (Y:Bn) (a b:Int):Prop:=Wk (aF W H Y) a b (aP W a b) (aO W a b)
theorem Nr.self:Nr W H Y a a:=by unfold Nr;rw[gz,gA];exact Wk.nil
theorem Nr.of_on (c:1<=W){b z:Int}(d:aP W a b<=1000)(e:aO W a b<=1000)(h:On W H Y a b z):Nr W H Y a b:=(h.ends c d e).2.2
theorem Nr.on (c:1<=W){b:Int}(d:aP W a b<=1000)(e:aO W a b<=1000)(h:Nr W H Y a b):On W H Y a b b:=On.of_near c d e h
theorem Og.far (b:1<=W)(h:Og W H Y a c k r):aP W a c+stS k=aP W a r/\aO W a c+stD k=aO W a r:=by
 obtain⟨e,d⟩:=(dX b (h.1.opp b)).1 h.2;obtain⟨g,f⟩:=CF k;rw[g,aW W c a,aW W r a]at e;rw[f,aX W c a,aX W r a]at d;exact⟨e,d⟩
theorem Og.next (b:1<=W)(h:Og W H Y a c k r):cY W a c+1=cY W a r:=by
 obtain⟨e,d⟩:=h.far b;have:=ji k;unfold cY;omega
theorem Nr.out (b:1<=W)(h:Nr W H Y a c)(o:Og W H Y a c k r):Nr W H Y a r:=by
 obtain⟨e,d⟩:=o.far b;have:=h.step o.1;rw[e,d]at this;exact this
theorem Og.on (b:1<=W)(g:aP W a r<=1000)(i:aO W a r<=1000)(h:Nr W H Y a c)(o:Og W H Y a c k r):On W H Y a r c:=by
 obtain⟨l,j⟩:=o.far b;obtain⟨f,e⟩:=CF k;have d:=zj (o.1.opp b);rw[f,e]at d;exact On.of_walks b g i h d l j
theorem Og.prev {q:Int}(b:1<=W)(n:aP W a r<=1000)(o:aO W a r<=1000)(h:On W H Y a r q)(C:q≠r) :
  ∃c k,Nr W H Y a c/\Og W H Y a c k r/\On W H Y a c q:=by
 have d:aP W r a<=1000:=by rw[aW];exact n
 have e:aO W r a<=1000:=by rw[aX];exact o
 obtain⟨u,t,s,p⟩:=h.Vxd b n o;have I:=aJ W a q;have F:=aG W a q;have f:aP W r q<=1000:=U;have g:aO W r q<=1000:=U
 -- the first step back from r towards q
 have B:On W H Y r q r:=(On.of_near b f g t).ends b f g |>.1;obtain⟨j,c,l,v,m⟩:=On.next b f g B (Ne.symm C)
 obtain⟨x,w⟩:=(dX b l).1 v;obtain⟨R,A,z,y⟩:=m.Vxd b f g;rw[aW W c q,aW W r q]at x;rw[aX W c q,aX W r q]at w;rw[aW W r q]at z;rw[aX W r q]at y;have i:On W H Y r a c:=On.trans b d e h.sym m;obtain⟨d1,d2,d3,d4⟩:=i.Vxd b d e;have P:=l.1;refine⟨c,opp j,d2,⟨l.opp b,?_⟩,?_⟩
 grind [OE,dX,aW,aX]
 rw[aW W r q]at s;rw[aX W r q]at p;rw[aW W r a]at d3;rw[aX W r a]at d4;have N:=aJ W r c;have L:=aG W r c;refine On.of_walks b U U u (A.back (aF.back b)) ?_ ?_;omega;omega
theorem Nr.prev (b:1<=W)(d:aP W a r<=1000)(e:aO W a r<=1000)(h:Nr W H Y a r)(i:r≠a):∃c k,Nr W H Y a c/\Og W H Y a c k r:=by
 obtain⟨c,k,g,f,_⟩:=Og.prev b d e ((h.on b d e).ends b d e).1 (Ne.symm i);exact⟨c,k,g,f⟩
def Bhd (W H:Int) (Y:Bn) (a r:Int):Prop:=∃q,On W H Y a r q/\dG W H Y q/\q≠a/\q≠r
theorem Bhd.iff (b:1<=W)(l:aP W a r<=1000)(m:aO W a r<=1000) :
  Bhd W H Y a r↔∃c k,Nr W H Y a c/\Og W H Y a c k r/\(Bhd W H Y a c\/(dG W H Y c/\c≠a)):=by
 constructor;rintro⟨q,h,f,g,n⟩;obtain⟨c,k,j,d,i⟩:=Og.prev b l m h n;refine⟨c,k,j,d,?_⟩;by_cases e:q=c
 grind
 exact SQ ⟨q,i,f,g,e⟩;rintro⟨c,k,j,d,v⟩;have i:=d.on b l m j;have o:=d.next b
 rcases v with⟨q,h,f,g,n⟩|⟨f,g⟩
 refine⟨q,On.trans b l m i h,f,g,λ e=>?_⟩;obtain⟨x,w⟩:=d.far b;have:=ji k;obtain⟨_,_,s,p⟩:=h.Vxd b U U;have u:=aJ W c q;have t:=aG W c q;rw[e]at s p u t;unfold cY at o;omega;exact⟨c,i,f,g,λ e=>by rw[e]at o;omega⟩
theorem Bhd.not_self (b:1<=W):¬Bhd W H Y a a:=by
 rintro⟨q,c,d,f,_⟩;rcases (Dir.self (H:=H) (Y:=Y) b).2 q c d with e|e<;>exact f e
theorem Dir.iff (d:1<=W)(f:aP W a r<=1000)(g:aO W a r<=1000):Dir W H Y a r↔Nr W H Y a r/\¬Bhd W H Y a r:=by
 constructor;rintro⟨⟨z,k⟩,h⟩;refine⟨Nr.of_on d f g k,?_⟩;rintro⟨q,b,c,o,n⟩;rcases h q b c with e|e
 exact o e;exact n e;rintro⟨l,m⟩;refine⟨⟨r,l.on d f g⟩,λ q b c=>?_⟩;by_cases j:q=a;exact SQ j;by_cases i:q=r;exact SP i;exact Q8 ⟨q,b,c,j,i⟩ m
theorem Nr.in (b:1<=W)(c:inB W H a=Q){r:Int}(h:Nr W H Y a r):inB W H r=true:=Mj b c h
theorem xS (h:cY W a r=0):r=a:=by
 have d:=aJ W a r;have c:=aG W a r;unfold cY at h;exact(kO (W:=W) (a:=a) (b:=r) U U).symm
theorem Nr.U6 (d:1<=W)(p:∀r,Nr W H Y a r->aP W a r<=1000/\aO W a r<=1000):∀(n:Nat) (r:Int),Nr W H Y a r->cY W a r=n->∀i:Nat,i<=n->∃z,Nr W H Y a z/\cY W a z=i:=by
 intro n
 induction n with
 |zero=>intro r b f i j;exact⟨r,b,U⟩
 |succ n g =>
  intro r b f i j;by_cases e:i=n+1;exact⟨r,b,U⟩;have q:r≠a:=λ e=>by rw[e,rY]at f;omega
  obtain⟨o,m⟩:=p r b;obtain⟨c,k,l,h⟩:=b.prev d o m q;have:=h.next d
  exact g c l U i U
theorem Tw.in (b:1<=W)(c:inB W H a=Q)(h:Tw W H Y a t z):inB W H z=true :=
 h (λ z=>inB W H z=Q) c (λ _ _ _ _ e _=>e.in' b)
theorem On.in_b {b:Int}(d:1<=W)(f:inB W H a=Q)(h:On W H Y a b z):inB W H b=true:=by
 have q:z=b\/inB W H b=true:=h.2 (λ z=>z=b\/inB W H b=Q) (SQ rfl) (λ p k r c e _=>by
  rcases c with rfl|c
  exact SP e.2.1;exact SP c)
 rcases q with e|e
 rw[<- e];exact h.1.in d f
 exact e
theorem Dir.in {b:Int}(c:1<=W)(e:inB W H a=Q)(h:Dir W H Y a b):inB W H b=true:=by
 obtain⟨z,d⟩:=h.1;exact d.in_b c e
end
section
variable {E9 : Int → Nat → Int → Prop} {o : Int} {N : Nat}
def pot (F:Int->Oi):Nat->Int
 |0=>0
 |N+1=>pot F N+(match F N with|some c=>val c.1 c.2|none=>13979748609)
def Qz (c:Oi):Int:=match c with|some c=>val c.1 c.2|none=>13979748609
theorem kU (F:Int->Oi)(N:Nat):pot F (N+1)=pot F N+Qz (F N):=rfl
theorem Mp (F:Int->Oi)(a s d:Int)(N:Nat)(h:(N:Int)<=a):pot (aC F a s d) N=pot F N:=by
 induction N with
 |zero=>rfl
 |succ N b =>
  rw[kU,kU,b U];have:aC F a s d N=F N:=Q6 U;rw[this]
theorem FU (F:Int->Oi)(a s d:Int)(N:Nat)(c:0<=a)(h:a<N):pot (aC F a s d) N=pot F N-Qz (F a)+val s d:=by
 induction N with
 |zero=>omega
 |succ N b =>
  rw[kU,kU];by_cases e:a=N;rw[Mp F a s d N U];have:aC F a s d N=Z (s,d):=Q5 e.symm;rw[this,<- e];show _+val s d=_;omega
  grind [aC]
structure Lab (E9:Int->Nat->Int->Prop) (o:Int) (N:Nat) (F:Int->Oi) (ok:Int->Nat->Prop):Prop where
 sound:∀{a s d},F a=Z (s,d)->Wk E9 o a s d/\val s d<=cnt F N*54608393
 Vxh:∀{a b s d k},F a=Z (s,d)->E9 a k b->ok a k->∃s' d',F b=Z (s',d')/\val s' d'<=val s d+val (stS k) (stD k)
 org:∃s d,F o=Z (s,d)/\val s d<=0
 dom:∀{a c},F a=Z c->0<=a/\a<N
theorem Lab.widen {F:Int->Oi}{f:Int->Nat->Prop}(h:Lab E9 o N F ok)(g:∀{a k b s d},F a=Z (s,d)->E9 a k b->f a k->ok a k):Lab E9 o N F f :=
 ⟨λ c=>h.sound c,λ c e i=>h.Vxh c e (g c e i),h.org,λ c=>h.dom c⟩
theorem Lab.val_bd {F:Int->Oi}(h:Lab E9 o N F ok)(g:N<=256){a s d:Int}(e:F a=Z (s,d)):0<=s/\0<=d/\val s d<=13979748608:=by
 obtain⟨f,i⟩:=h.sound e;obtain⟨c,b⟩:=f.nonneg;have:=jj F N;exact⟨c,b,U⟩
theorem Ec {F:Int->Oi}(h:∀{a s d},F a=Z (s,d)->0<=val s d)(N:Nat):0<=pot F N:=by
 induction N with
 |zero=>exact Int.le_refl _
 |succ N e =>
  rw[kU];cases b:F N with
  |none=>show 0<=pot F N+13979748609;omega
  |some c=>obtain⟨s,d⟩:=c;have:=h b;show 0<=pot F N+val s d;omega
theorem Lab.pot0 {F:Int->Oi}(h:Lab E9 o N F ok):0<=pot F N :=
 Ec (λ a=>by obtain⟨c,b⟩:=(h.sound a).1.nonneg;unfold val;omega) N
theorem Lab.start (E9:Int->Nat->Int->Prop)(o:Int)(N:Nat)(i:0<=o)(g:o<N)(ok:Int->Nat->Prop)(e:∀k,¬ok o k):Lab E9 o N (aC (λ _=>UP) o 0 0) ok:=by
 refine⟨λ {a s d} h=>?_,λ {a b s d k} h _ f=>?_,⟨0,0,Q5 rfl,dQ⟩,λ {a c} h=>?_⟩;unfold aC at h;split at h
 grind [val,decide,Wk.nil]
 cases h;unfold aC at h;split at h
 grind
 cases h;unfold aC at h;split at h
 grind
 cases h
theorem IG (o:Int)(N:Nat)(d:N<=256)(c:0<=o)(b:o<N):pot (aC (λ _=>UP) o 0 0) N<=3578815643904:=by
 rw[FU _ _ _ _ _ c b];have:∀n:Nat,pot (λ _=>UP) n=n*13979748609:=by
  intro n
  induction n with
  |zero=>rfl
  |succ n a=>rw[kU,a];show _+13979748609=_;omega
 rw[this];show _-13979748609+val 0 0<=_;have:val 0 0=0:=dQ;omega
theorem Lab.nearer {F:Int->Oi}{jN:Int->Prop}{dn:Nat->Prop}{f b:Int}(hN:N<=256)(h:Lab E9 o N F (λ a j=>(¬jN a/\a≠f)\/(a=f/\dn j)))(L:F f=Z (s,d))(e:E9 f k b)
  (S:0<=b) (p:b<N) (I:∀{t u},F b=Z (t,u)->val (s+stS k) (d+stD k)<val t u) (Y:∀{y},E9 f k y->y=b) :
  Lab E9 o N (aC F b (s+stS k) (d+stD k)) (λ a j=>(¬(jN a\/a=b)/\a≠f)\/(a=f/\(dn j\/j=k)))/\pot (aC F b (s+stS k) (d+stD k)) N+1<=pot F N/\aC F b (s+stS k) (d+stD k) f=Z (s,d):=by
 have hk:=mF k;have m:=cP s d (stS k) (stD k);have VY:b≠f:=by grind
 have W:aC F b (s+stS k) (d+stD k) f=Z (s,d):=by unfold aC;rw[Q6 (λ q=>VY q.symm)];exact L
 have i:cnt F N<=cnt (aC F b (s+stS k) (d+stD k)) N/\(F b=UP->cnt (aC F b (s+stS k) (d+stD k)) N=cnt F N+1):=by
  refine⟨?_,λ q=>gZ F b _ _ N S p q⟩;cases l:F b with
  |none=>rw[gZ F b _ _ N S p l];omega
  |some c =>
   have:∀n:Nat,cnt F n<=cnt (aC F b (s+stS k) (d+stD k)) n:=by
    intro n
    induction n with
    |zero=>exact aa
    |succ n ih =>
     unfold cnt;by_cases q:(n:Int)=b;have:aC F b (s+stS k) (d+stD k) n=Z (s+stS k,d+stD k):=Q5 q;rw[this];simp;split<;>omega
     grind [aC,stS,stD]
   exact this N
 have P:=h.sound L;refine⟨⟨λ {x t u} g=>?_,λ {x y t u j} g R A=>?_,?_,λ {x c} g=>?_⟩,?_,W⟩;unfold aC at g;split at g;cases g;rename_i q;subst q;refine⟨Wk.step P.1 e,?_⟩;cases l:F x with
 |none=>rw[i.2 l,m];have:=P.2;omega
 |some c =>
  obtain⟨t,u⟩:=c;have:=I l;have:=(h.sound l).2;have:=i.1;omega
 have:=h.sound g;exact⟨this.1,by have:=this.2;have:=i.1;omega⟩;have w:∀{v d2:Int},F y=Z (v,d2)->val v d2<=val t u+val (stS j) (stD j)->∃T V,aC F b (s+stS k) (d+stD k) y=Z (T,V)/\val T V<=val t u+val (stS j) (stD j):=by grind [aC]
 rcases A with⟨z,H⟩|⟨rfl,A⟩
 have q:x≠b:=λ q=>z (SP q);have C:F x=Z (t,u):=by unfold aC at g;rw[Q6 q]at g;exact g
 obtain⟨v,d2,r,B⟩:=h.Vxh C R (SQ ⟨λ X=>z (SQ X),H⟩);exact w r B;rw[W]at g;cases g;rcases A with A|rfl
 obtain⟨v,d2,r,B⟩:=h.Vxh L R (SP ⟨rfl,A⟩);exact w r B;have:=Y R;subst this;exact⟨_,_,Q5 rfl,by rw[m];exact Int.le_refl _⟩;obtain⟨v,d2,r,B⟩:=h.org;by_cases q:o=b;subst q;have:=I r;exact⟨_,_,Q5 rfl,U⟩
 grind [aC]
 unfold aC at g;split at g
 grind
 exact h.dom g;rw[FU F b _ _ N S p];have:val (s+stS k) (d+stD k)+1<=Qz (F b):=by
  cases l:F b with
  |none =>
   show _<=13979748609;have r:=P.2;have B:=i.2 l;have h4:=jj (aC F b (s+stS k) (d+stD k)) N;rw[m];omega
  |some c=>obtain⟨t,u⟩:=c;have:=I l;show _<=val t u;omega
 omega
theorem Lab.asfar {F:Int->Oi}{jN:Int->Prop}{dn:Nat->Prop}{c b:Int}(h:Lab E9 o N F (λ a j=>(¬jN a/\a≠c)\/(a=c/\dn j)))(q:F c=Z (s,d))
  (p:F b=Z (t,u)) (i:val t u<=val (s+stS k) (d+stD k)) (n:∀{y},E9 c k y->y=b) :
  Lab E9 o N F (λ a j=>(¬jN a/\a≠c)\/(a=c/\(dn j\/j=k))):=by
 refine⟨λ e=>h.sound e,λ {x y m l j} e g f=>?_,h.org,λ e=>h.dom e⟩;rcases f with f|⟨rfl,f|rfl⟩
 exact h.Vxh e g (SQ f);exact h.Vxh e g (SP ⟨rfl,f⟩)
 grind [cP]
theorem Lab.done {F:Int->Oi}(m:N<=256)(h:Lab E9 o N F (λ _ _=>True)):cL E9 o F:=by
 refine⟨λ f=>(h.sound f).1,λ {a s d} l=>?_,λ {a s d} f=>h.val_bd m f⟩;refine l.ind (R:=λ a s d=>∃c g,F a=Z (c,g)/\val c g<=val s d) h.org (λ a s d k b _ j e=>?_);obtain⟨c,g,p,r⟩:=j;obtain⟨i,d2,n,q⟩:=h.Vxh p e trivial;exact⟨i,d2,n,by rw[cP];omega⟩
end
theorem BJ (w:M):(Instr.alloc 149 Q (.tuple #[])).run Vyj w=.ok (Pq (G w.heap)) (E w (.cells (fF 0 0) 149)):=kQ
theorem vC {ops:Array Oper}{rest:List Oper}{o:Oper}{a:Act}{Q9:Exit->Act->M->Prop}(d:o.guard=UP)(b:o.op=.alloc 149)
  (h:wpList Vyj ops Q9 rest (a.put o.dst (Pq (G w.heap))) (E w (.cells (fF 0 0) 149))):wpList Vyj ops Q9 (o::rest) a w :=
 wpList_plain d λ _ c=>by
  unfold Oper.wp execOp;simp only[b,Sem.run_bind,BJ w,Result.andThen_ok];exact c _ _ h
def iD (W H V:Int) (Y:Bn):List Value:=[J W,J H,J V]++(Ud 256).map λ i=>Vi (Y i)
theorem xT (W H V:Int)(Y:Bn):K (iD W H V Y)=259:=by unfold iD;simp
theorem BK (W H V:Int)(Y:Bn)(i:Nat)(a:i<256):(iD W H V Y)[3+i]? = Z (.bool (Y i)):=by grind [iD]
theorem II (W H V:Int)(Y:Bn):∀v∈iD W H V Y,v.oneCell'=true:=by
 intro v a;unfold iD at a;simp only[List.mem_append,List.mem_cons,TX,List.not_mem_nil,or_false]at a;rcases a with (rfl|rfl|rfl)|⟨i,_,rfl⟩<;>rfl
theorem aq.range {Y:Bn}(g:aq w b W H V Y):w.rangeAt b 0 (iD W H V Y):=by
 intro j v a;rw[Tm];have d:j<259:=by grind [Th,xT]
 by_cases h:j<3;have c:j=0\/j=1\/j=2:=U;unfold iD at a;rw[TO (by simpa using h)]at a;rcases c with rfl|rfl|rfl
 simp at a;rw[<- a];exact g.c0;simp at a;rw[<- a];exact g.c1;simp at a;rw[<- a];exact g.c2;obtain⟨i,rfl⟩:∃i,j=3+i:=⟨j-3,U⟩;rw[BK _ _ _ _ i U]at a;have:v=.bool (Y i):=(Option.some.inj a).symm;rw[this];exact g.cs i U
theorem zl {Y:Bn}(h:w.rangeAt b 0 (iD W H V Y))(c:1<=W)(a:W<=16)(g:1<=H)(f:H<=16):aq w b W H V Y:=by
 have at_:∀j v,(iD W H V Y)[j]? = Z v->Cq w b j v:=λ j v d=>by have:=h j v d;rw[Tm]at this;exact this
 refine⟨c,a,g,f,at_ 0 _ ?_,at_ 1 _ ?_,at_ 2 _ ?_,λ i e=>at_ (3+i) _ (BK W H V Y i e)⟩;unfold iD;rw[TO sQ];rfl;unfold iD;rw[TO sQ];rfl;unfold iD;rw[TO sQ];rfl
theorem Ee (W H:Int):(fF W H).size=259:=by unfold fF;simp
theorem IJ (w:M):(E w (.cells (fF 0 0) 149)).there (G w.heap) 0 259:=by
 intro j a;rw[Tm,Tb,Array.getElem?_eq_getElem (by grind [Ee])];exact⟨rfl,bC w _ _ _ aa j⟩
theorem cC {a:M}(b:Nat)(c:B<=b):∀(d:List Vr) (o:Nat) {w:M},Vw B a w->Vw B a (w.setCells b o d)
 |[],_,_,h=>h
 |v::r,o,_,h=>cC b c r (o+1) (h.setCell (p:=O b o) c v)
theorem BM {o:Nat}{v:Vr}(h:D w (O b o)=Z v):b<G w.heap:=by
 by_cases a:b<G w.heap;exact a;unfold World.cell? at h;rw[Array.getElem?_eq_none (by simpa using a)]at h;simp at h
theorem Mq:(prog.info? 149).map (·.size)=Z 259:=kQ
theorem nH {Y:Bn}(w:M)(g:aq w b W H V Y) :
  Zq 118 #[Pq b] w λ e I=>e=VJ (Pq (G w.heap))/\Bq w I/\G w.heap<G I.heap/\aq I (G w.heap) W H V Y/\gL I (G w.heap):=by
 have l:=g.range;have a:=xT W H V Y;have q:=II W H V Y;have d:=g.w1;have c:=g.w2;have j:=g.h1;have i:=g.h2;have f:=IJ w;have p:Bq w ((E w (.cells (fF 0 0) 149)).setCells (G w.heap) 0 (iD W H V Y)):=cC _ aa _ _ (ae.alloc aa _);have h:aq ((E w (.cells (fF 0 0) 149)).setCells (G w.heap) 0 (iD W H V Y)) (G w.heap) W H V Y:=zl (TV _ _ _ _ (by rw[a];exact f)) d c j i;have n:gL ((E w (.cells (fF 0 0) 149)).setCells (G w.heap) 0 (iD W H V Y)) (G w.heap):=λ o=>by rw[World.frozen?_setCells];exact bC w _ _ _ aa o
 have m:=BM h.c0;clear d c j i g;generalize iD W H V Y=k at *;go_enter func118,ntmps118;go_wp2_with (first|(refine wpList_load_mid rfl 149 _ rfl b 0 rfl k _ l underlying149 rfl (by rw[a];exact Mq) ?_)|(refine vC rfl rfl ?_)|(refine wpList_store_mid rfl 149 _ _ rfl (G w.heap) 0 k.toArray rfl rfl (by simpa [a]using f) (by simpa [a]using Mq) (all_oneCell_toArray q) ?_));go_ret;exact⟨rfl,p,m,h,n⟩
theorem nI (s d t u:Int)(w:M)(h:okC s d)(k:okC t u) :
  Rq 112 #[.agg #[J s,J d],.agg #[J t,J u]] w (.agg #[J (s+t),J (d+u)]):=by
 obtain⟨j,i,g,f⟩:=h;obtain⟨e,c,b,a⟩:=k;go_enter func112,ntmps112;go_wp2;exact bodyPost_ret (v:=.agg #[J (s+t),J (d+u)]) (by simp[results,results112,go_sem]) rfl ⟨rfl,(((ae.alloc aa _).alloc sQ _).alloc sU _)⟩
theorem Mr (x:Int):-x*-x=x*x:=by rw[Int.neg_mul,Int.mul_neg,Int.neg_neg]
theorem tL (x y:Int)(f:0<=x)(c:0<=y)(d:y<38613965)(h:x*x=2*(y*y)):x=0:=by
 have a:=CE x y f c d;have b:=Js x y f c d;have e:38613965*x=54608393*y:=by grind
 exact(Jr x y e (Int.lt_of_lt_of_le dQ c) d).1
theorem irr (x y:Int)(d:-38613965<y)(c:y<38613965)(h:x*x=2*(y*y)):x=0:=by
 by_cases b:0<=x<;>by_cases a:0<=y
 grind [tL]
 exact tL x (-y) b U U (by rw[Mr];exact h);have:=tL (-x) y U a c (by rw[Mr];exact h);omega;have:=tL (-x) (-y) U U U (by grind);omega
theorem Ms (x:Int):x=0\/0<x*x:=by
 by_cases h:x=0;left;exact h;right;have:=fQ x;by_cases g:x*x=0;exact Q8 (EB x g) h;omega
theorem OF (s d t u r:Int)(c:-38613965<d-u)(b:d-u<38613965)
  (H:∀X a:Int,(s-t=0\/0<X)->(d-u=0\/0<a)->(s-t=0->X=0)->(d-u=0->a=0)->(X=2*a->s-t=0)->X=(s-t)*(s-t)->a=(d-u)*(d-u) ->
   ∀A B:Int,(s-t<0->A=-X)->(¬s-t<0->A=X)->(d-u > 0->B=-a)->(¬d-u > 0->B=a)->(r=-1/\A<2*B)\/(r=0/\A=2*B)\/(r=1/\2*B<A)) :
  j6 s d t u=r:=by
 have h:=H _ _ (Ms (s-t)) (Ms (d-u)) (λ e=>by rw[e];rfl) (λ e=>by rw[e];rfl) (irr (s-t) (d-u) c b) rfl rfl (if s-t<0 then -((s-t)*(s-t)) else (s-t)*(s-t)) (if d-u > 0 then -((d-u)*(d-u)) else (d-u)*(d-u)) (λ e=>by rw[Q5 e]) (λ e=>by rw[Q6 e]) (λ e=>by rw[Q5 e]) (λ e=>by rw[Q6 e]);have g:sqs (s-t)=if s-t<0 then -((s-t)*(s-t)) else (s-t)*(s-t):=by unfold sqs;rw[Int.neg_mul]
 have f:sqs (u-d)=if d-u > 0 then -((d-u)*(d-u)) else (d-u)*(d-u):=by grind [yo,sqs,Int.neg_mul]
 unfold j6 fG;rw[g,f];rcases h with⟨rfl,h⟩|⟨rfl,h⟩|⟨rfl,h⟩
 rw[Q5 h]
 grind
 grind
theorem OG {k:IntKind}{b:Int}(h:a=b):Ending.returned (.int k a)=VJ (.int k b):=by rw[h]
theorem vD (s d t u:Int)(w:M)(h:okC s d)(k:okC t u) :
  Rq 113 #[.agg #[J s,J d],.agg #[J t,J u]] w (J (j6 s d t u)):=by
 obtain⟨L,I,H,F⟩:=h;obtain⟨C,z,y,x⟩:=k;have c:Bq w ((E w (VP #[J s,J d] 90)).alloc (VP #[J t,J u] 90)):=(ae.alloc aa _).alloc sQ _;have i:=jO (s-t) U U;have a:=jO (d-u) U U;have g:2*(d-u)*(d-u)=2*((d-u)*(d-u)):=Int.mul_assoc _ _ _;have b:0<=2*(d-u)*(d-u)/\2*(d-u)*(d-u)<=140737488355328:=by rw[g];omega
 go_enter func113,ntmps113;go_wp2
 all_goals
  go_ret;refine⟨OG (Eq.symm (OF s d t u _ U U ?_)),c⟩;clear c i a g b;intro X N v r q p o f e A B n m l j;simp only[<- f,<- e,beq_iff_eq,Q4,ne_eq,decide_eq_decide,true_and]at *;clear f e;omega
section
open Go.RowKit Go.Maps
def zC:Array Value:=(Us 512 (J 0)).toArray
def zB:Array Value:=(Us 256 (Vi Vl)).toArray
theorem BN (w:M):(Instr.alloc 130 Q (.tuple #[])).run Vyj w=.ok (Pq (G w.heap)) (E w (.cells zC 130)):=kQ
theorem BO (w:M):(Instr.alloc 35 Q (.tuple #[])).run Vyj w=.ok (Pq (G w.heap)) (E w (.cells zB 35)):=kQ
theorem nJ {ops:Array Oper}{rest:List Oper}{o:Oper}{a:Act}{Q9:Exit->Act->M->Prop}(d:o.guard=UP)(b:o.op=.alloc 130)
  (h:wpList Vyj ops Q9 rest (a.put o.dst (Pq (G w.heap))) (E w (.cells zC 130))):wpList Vyj ops Q9 (o::rest) a w :=
 wpList_plain d λ _ c=>by
  unfold Oper.wp execOp;simp only[b,Sem.run_bind,BN w,Result.andThen_ok];exact c _ _ h
theorem nK {ops:Array Oper}{rest:List Oper}{o:Oper}{a:Act}{Q9:Exit->Act->M->Prop}(d:o.guard=UP)(b:o.op=.alloc 35)
  (h:wpList Vyj ops Q9 rest (a.put o.dst (Pq (G w.heap))) (E w (.cells zB 35))):wpList Vyj ops Q9 (o::rest) a w :=
 wpList_plain d λ _ c=>by
  unfold Oper.wp execOp;simp only[b,Sem.run_bind,BO w,Result.andThen_ok];exact c _ _ h
def kV (F:Int->Oi) (a:Int):Int:=match F a with|some c=>c.1|none=>0
def j7 (F:Int->Oi) (a:Int):Int:=match F a with|some c=>c.2|none=>0
theorem dC {F:Int->Oi}(h:F a=Z (s,d)):kV F a=s/\j7 F a=d:=by unfold kV j7;rw[h];exact⟨rfl,rfl⟩
theorem BP {F:Int->Oi}(h:F a=UP):kV F a=0/\j7 F a=0:=by unfold kV j7;rw[h];exact⟨rfl,rfl⟩
theorem gU (F:Int->Oi)(a s d:Int):aC F a s d a=Z (s,d):=Q5 rfl
theorem lY (F:Int->Oi){a i:Int}(s d:Int)(h:i≠a):aC F a s d i=F i:=Q6 h
theorem zm (F:Int->Oi)(a s d:Int):kV (aC F a s d) a=s/\j7 (aC F a s d) a=d:=dC (gU F a s d)
theorem rZ (F:Int->Oi){a i:Int}(s d:Int)(h:i≠a):kV (aC F a s d) i=kV F i/\j7 (aC F a s d) i=j7 F i:=by grind [kV,j7,lY]
structure eH (w:M) (cb ib:Nat) (F:Int->Oi):Prop where
 c0:∀a:Nat,a<256->D w (O cb (a*2))=Z (J (kV F a))
 c1:∀a:Nat,a<256->D w (O cb (a*2+1))=Z (J (j7 F a))
 i0:∀a:Nat,a<256->D w (O ib a)=Z (.bool (F a).isSome)
 zc:gL w cb
 zi:gL w ib
 ne:cb≠ib
theorem eH.lt {F:Int->Oi}(h:eH w cb ib F):cb<G w.heap/\ib<G w.heap:=⟨SZ w _ (h.c0 0 dQ),SZ w _ (h.i0 0 dQ)⟩
theorem eH.X' {F:Int->Oi}(h:eH w cb ib F)(c:ai D9 w I)(d:¬D9 cb)(e:¬D9 ib):eH I cb ib F :=
 ⟨λ a b=>c.cellOf (h.c0 a b) d,λ a b=>c.cellOf (h.c1 a b) d,λ a b=>c.cellOf (h.i0 a b) e,λ o=>(c.frozen (p:=O cb o) h.lt.1 d).trans (h.zc o),λ o=>(c.frozen (p:=O ib o) h.lt.2 e).trans (h.zi o),h.ne⟩
theorem eH.below {F:Int->Oi}(h:eH w cb ib F)(a:Bq w I):eH I cb ib F:=h.X' (ai.Y' (F:=λ _=>False) a) id id
theorem Pl (i:Nat)(a:i<512):zC[i]? = Z (J 0):=by grind [zC]
theorem RT (i:Nat)(a:i<256):zB[i]? = Z (Vi Vl):=by grind [zB]
theorem eH.new (w:M):eH ((E w (.cells zC 130)).alloc (.cells zB 35)) (G w.heap) (G w.heap+1) (λ _=>UP):=by
 have b:Bq (E w (.cells zC 130)) ((E w (.cells zC 130)).alloc (.cells zB 35)):=ae.alloc aa _;have e:G (E w (.cells zC 130)).heap=G w.heap+1:=by simp
 refine⟨λ a c=>?_,λ a c=>?_,λ a c=>?_,λ o=>?_,λ o=>?_,U⟩;rw[b.cell (p:=O (G w.heap) (a*2)) (by grind),Tb];exact Pl _ U;rw[b.cell (p:=O (G w.heap) (a*2+1)) (by grind),Tb];exact Pl _ U
 grind [Tb,RT]
 rw[b.frozen (p:=O (G w.heap) o) (by grind)];exact bC w _ _ _ aa o;rw[<- e];exact bC _ _ _ _ aa o
theorem eH.first (h:eH w cb ib (λ _=>UP))(a:Nat)(f:a<256):eH (C' w (O ib a) (.bool Q)) cb ib (aC (λ _=>UP) a 0 0):=by
 have c:ai (λ k=>k=ib) w (C' w (O ib a) (.bool Q)):=(ai.refl (λ k=>k=ib) w).setCell (p:=O ib a) (λ _=>rfl) _;have d:∀i:Int,kV (aC (λ _=>UP) a 0 0) i=0/\j7 (aC (λ _=>UP) a 0 0) i=0:=λ i=>by grind [zm,rZ,BP]
 refine⟨λ i b=>?_,λ i b=>?_,λ i b=>?_,λ o=>(c.frozen (p:=O cb o) h.lt.1 h.ne).trans (h.zc o),λ o=>by simpa using h.zi o,h.ne⟩;rw[(d i).1];exact c.cellOf (h.c0 i b) h.ne;rw[(d i).2];exact c.cellOf (h.c1 i b) h.ne;by_cases q:i=a;subst q;rw[gU];exact Tf _ _ _ (h.i0 i b);rw[lY _ _ _ U,SY _ _ _ _ (ck (λ e=>q e.symm))];exact h.i0 i b
theorem eH.put {F:Int->Oi}(h:eH w cb ib F)(a:Nat)(f:a<256)(s d:Int) :
  eH (((C' w (O cb (a*2)) (J s)).setCell (O cb (a*2+1)) (J d)).setCell (O ib a) (.bool Q)) cb ib (aC F a s d):=by
 have c:∀o p,(O ib o:Addr)≠O cb p:=λ o p e=>h.ne (by cases e;rfl);refine⟨λ i b=>?_,λ i b=>?_,λ i b=>?_,λ o=>by simpa using h.zc o,λ o=>by simpa using h.zi o,h.ne⟩;rw[SY _ _ _ _ (c _ _),SY _ _ _ _ (ck U)];by_cases q:i=a;subst q;rw[(zm F i s d).1];exact Tf _ _ _ (h.c0 i b);rw[(rZ F s d (show (i:Int)≠a by omega)).1,SY _ _ _ _ (ck U)];exact h.c0 i b;rw[SY _ _ _ _ (c _ _)];by_cases q:i=a;subst q;rw[(zm F i s d).2];refine Tf _ _ _ (u:=J (j7 F i)) ?_;rw[SY _ _ _ _ (ck U)];exact h.c1 i b;rw[(rZ F s d (show (i:Int)≠a by omega)).2,SY _ _ _ _ (ck U),SY _ _ _ _ (ck U)];exact h.c1 i b;by_cases q:i=a;subst q;rw[gU];refine Tf _ _ _ (u:=.bool (F i).isSome) ?_;rw[SY _ _ _ _ (c _ _).symm,SY _ _ _ _ (c _ _).symm];exact h.i0 i b;rw[lY F s d (show (i:Int)≠a by omega),SY _ _ _ _ (ck U),SY _ _ _ _ (c _ _).symm,SY _ _ _ _ (c _ _).symm];exact h.i0 i b
theorem vE (w:M)(cb ib a:Nat)(s d:Int):ai (λ k=>k=cb\/k=ib) w (((C' w (O cb (a*2)) (J s)).setCell (O cb (a*2+1)) (J d)).setCell (O ib a) (.bool Q)):=by grind [ai.setCell,ai.refl]
def dm (F:Int->Oi):List Value:=(Ud 512).map λ i=>J (if i%2=0 then kV F (i/2:Nat) else j7 F (i/2:Nat))
def isL (F:Int->Oi):List Value:=(Ud 256).map λ (i:Nat)=>Vi (F (i:Int)).isSome
theorem dK (F:Int->Oi):K (dm F)=512:=by unfold dm;simp
theorem oQ (F:Int->Oi):K (isL F)=256:=by unfold isL;simp
theorem eH.rangeC {F:Int->Oi}(h:eH w cb ib F):w.rangeAt cb 0 (dm F):=by
 intro j v a;rw[Tm];have b:j<512:=by have:=(Th.1 a).1;rw[dK]at this;exact this
 unfold dm at a;rw[Tz,UD b]at a;simp only[Vd,Option.some.injEq]at a;rw[<- a];by_cases q:j%2=0;rw[Q5 q];have:=h.c0 (j/2) U;rw[show j/2*2=j by omega]at this;exact this;rw[Q6 q];have:=h.c1 (j/2) U;rw[show j/2*2+1=j by omega]at this;exact this
theorem eH.rangeI {F:Int->Oi}(h:eH w cb ib F):w.rangeAt ib 0 (isL F):=by
 intro j v a;rw[Tm];have b:j<256:=by have:=(Th.1 a).1;rw[oQ]at this;exact this
 unfold isL at a;rw[Tz,UD b]at a;simp only[Vd,Option.some.injEq]at a;rw[<- a];exact h.i0 j b
theorem BQ {F:Int->Oi}(c:w.rangeAt cb 0 (dm F))(g:w.rangeAt ib 0 (isL F))(e:gL w cb)(d:gL w ib)(f:cb≠ib):eH w cb ib F:=by
 refine⟨λ a b=>?_,λ a b=>?_,λ a b=>?_,e,d,f⟩;have:=c (a*2) (J (kV F a)) (by
  unfold dm;rw[Tz,UD U];simp only[Vd,Option.some.injEq];rw[Q5 U,show a*2/2=a by omega])
 rw[Tm]at this;exact this;have:=c (a*2+1) (J (j7 F a)) (by
  unfold dm;rw[Tz,UD U];simp only[Vd,Option.some.injEq];rw[Q6 U,show (a*2+1)/2=a by omega])
 rw[Tm]at this;exact this;have:=g a (.bool (F a).isSome) (by
  unfold isL;rw[Tz,UD b];rfl)
 rw[Tm]at this;exact this
theorem Ef:(prog.info? 130).map (·.size)=Z 512:=kQ
theorem Eg:(prog.info? 35).map (·.size)=Z 256:=kQ
def jN (td:Ln) (i:Nat) (a:Int):Prop:=∃j,i<=j/\j<K td/\((td.getD j 0:Nat):Int)=a
structure FSt (w wr:M) (tv:Vr) (td:Ln) (W H:Int) (F:Int->Oi):Prop where
 own:G' wr (G w.heap+4) 3 1 tv (K td) (aH td)
 lab:eH wr (G w.heap+2) (G w.heap+3) F
 r0:wr.there (G w.heap) 0 512
 r1:wr.there (G w.heap+1) 0 256
 bel:Vw (G w.heap) w wr
 mem:∀j,j<K td->inB W H ((td.getD j 0:Nat):Int)=Q/\(F ((td.getD j 0:Nat):Int)).isSome=Q
 len:(K td:Int)+pot F (W*H).toNat<=3578815643905
theorem cZ {o:Nat}(h:w.there b o n)(c:b<G w.heap)(d:ai D9 w I)(a:¬D9 b):I.there b o n:=λ j e=>by
 obtain⟨g,f⟩:=h j e;rw[d.cell (p:=O b (o+j)) c a,d.frozen (p:=O b (o+j)) c a];exact⟨g,f⟩
theorem IK {e:Vyk}{v:Vr}{xs:List Vr}(h:G' w base e k v n xs)(m:ai D9 w I)(i:∀g,base<=g->¬D9 g):G' I base e k v n xs:=by
 refine⟨h.1,?_⟩;rcases h.2 with l|⟨g,b,a,f,d,c,j⟩
 exact SQ l;exact SP ⟨g,b,a,f,d,(m.block g (Tq.1 c).1 (i g d)).trans c,j⟩
theorem FSt.big {a:Ln}{F:Int->Oi}(h:FSt w wr tv a W H F):G w.heap+4<=G wr.heap:=by have:=h.lab.lt.2;omega
theorem FSt.below {b:Ln}{F:Int->Oi}(h:FSt w wr tv b W H F)(a:Bq wr I):FSt w I tv b W H F:=by
 have d:=h.big;have c:ai (λ _=>False) wr I:=ai.Y' a;exact⟨ak h.own a,h.lab.below a,cZ h.r0 U c id,cZ h.r1 U c id,h.bel.trans (a.mono h.bel.size),h.mem,h.len⟩
theorem FSt.put {c:Ln}{F:Int->Oi}(h:FSt w wr tv c W H F)(a:Nat)(i:a<256)(s d:Int)(n:pot (aC F a s d) (W*H).toNat+1<=pot F (W*H).toNat) :
  FSt w (((C' wr (O (G w.heap+2) (a*2)) (J s)).setCell (O (G w.heap+2) (a*2+1)) (J d)).setCell (O (G w.heap+3) a) (.bool Q)) tv c W H (aC F a s d):=by
 have m:=h.big;have b:=vE wr (G w.heap+2) (G w.heap+3) a s d;refine⟨IK h.own b (λ g p=>U),h.lab.put a i s d,cZ h.r0 U b U,cZ h.r1 U b U,h.bel.trans (b.Z' h.bel.size (λ k o=>U)),λ j f=>?_,by have:=h.len;omega⟩;obtain⟨e,l⟩:=h.mem j f;refine⟨e,?_⟩;by_cases q:((c.getD j 0:Nat):Int)=a;rw[q,gU];rfl
 grind [lY]
theorem FSt.app {c:Vr}{b:Ln}{F:Int->Oi}{a:Nat}(h:FSt w wr tv b W H F)(f:G' I (G w.heap+4) 3 1 c (K (b++[a])) (aH (b++[a])))(g:wr.grownBy I (M' tv))(n:inB W H a=Q)(o:(F a).isSome=Q)(l:(K b:Int)+1+pot F (W*H).toNat<=3578815643905) :
  FSt w I c (b++[a]) W H F:=by
 have i:=h.big;have d:ai (λ k=>G w.heap+4<=k) wr I:=(ai.refl _ wr).grown g (λ k e _=>(h.own.lt k e).1);refine⟨f,h.lab.X' d U U,cZ h.r0 U d U,cZ h.r1 U d U,h.bel.trans (d.Z' h.bel.size (λ k e=>U)),λ j m=>?_,by simp;omega⟩;rw[qY];by_cases q:j<K b;rw[Q5 q];exact h.mem j q
 grind
theorem BR {b:Ln}{i a:Nat}(f:i<=K b):jN (b++[a]) i x↔(jN b i x\/x=a):=by
 constructor;rintro⟨j,d,e,c⟩;rw[qY]at c;by_cases q:j<K b;rw[Q5 q]at c;exact SQ ⟨j,d,q,c⟩
 grind
 rintro (⟨j,d,e,c⟩|rfl);exact⟨j,d,by simp;omega,by rw[qY,Q5 e];exact c⟩;exact⟨K b,f,by simp,by rw[qY,Q6 (UA _),Q5 rfl]⟩
def BS (w I:M) (e:Ending) (W H:Int) (Y:Bn) (o:Int):Prop :=
 ∃F,e=VJ (.tuple #[.agg (dm F).toArray,.agg (isL F).toArray])/\cL (aF W H Y) o F/\Vw (G w.heap) w I
theorem jf (w:M)(l:List Vr)(t:Vyk)(n:Nat)(a:K l=n):(E w (.cells l.toArray t)).there (G w.heap) 0 n:=by
 intro j b;rw[Tm,Tb,List.getElem?_toArray,SU U];exact⟨rfl,bC w _ _ _ aa j⟩
theorem IM (w:M)(c:Nat)(x:inB W H c=Q)(B:W*H<=256) :
  FSt w ((C' ((((E w (.cells zC 130)).alloc (.cells zB 35)).alloc (.cells zC 130)).alloc (.cells zB 35)) (O (G w.heap+1+1+1) c) (.bool Q)).alloc (VP #[J (c:Int)] 3)) (.slice (Z (O (G w.heap+1+1+1+1) 0)) 1 1) [c] W H (aC (λ _=>UP) c 0 0):=by
 have N:0<=(c:Int)/\(c:Int)<W*H:=Q1 x;have t0:(E w (.cells zC 130)).there (G w.heap) 0 512:=jf w (Us 512 (J 0)) 130 512 Vv;have t1:((E w (.cells zC 130)).alloc (.cells zB 35)).there (G w.heap+1) 0 256:=by
  have:=jf (E w (.cells zC 130)) (Us 256 (Vi Vl)) 35 256 Vv;rw[show G (E w (.cells zC 130)).heap=G w.heap+1 by simp]at this;exact this
 have v:G (E w (.cells zC 130)).heap=G w.heap+1:=by simp
 have f:G ((E w (.cells zC 130)).alloc (.cells zB 35)).heap=G w.heap+2:=by simp
 have I:Bq w (E w (.cells zC 130)):=ae.alloc aa _;have z:Bq (E w (.cells zC 130)) ((E w (.cells zC 130)).alloc (.cells zB 35)):=ae.alloc aa _;have u:=I.trans (z.mono (by rw[v];omega));have m:=cZ t0 (by rw[v];omega) (ai.Y' (F:=λ _=>False) z) id;generalize (E w (.cells zC 130)).alloc (.cells zB 35)=b at *;have y:=eH.new b;rw[f]at y;have h:G ((E b (.cells zC 130)).alloc (.cells zB 35)).heap=G w.heap+4:=by simp[f]
 have r:Bq b ((E b (.cells zC 130)).alloc (.cells zB 35)):=(ae.alloc aa _).alloc sQ _;have t:=u.trans (r.mono (by rw[f];omega));have o:=cZ m (by rw[f];omega) (ai.Y' (F:=λ _=>False) r) id;have n:=cZ t1 (by rw[f];omega) (ai.Y' (F:=λ _=>False) r) id;generalize (E b (.cells zC 130)).alloc (.cells zB 35)=a at *;have C:=y.first c U
 have q:ai (λ k=>k=G w.heap+2+1) a (C' a (O (G w.heap+2+1) c) (.bool Q)):=(ai.refl (λ k=>k=G w.heap+2+1) a).setCell (p:=O (G w.heap+2+1) c) (λ _=>rfl) _;have d:(C' a (O (G w.heap+2+1) c) (.bool Q)).heap.size=G w.heap+4:=by rw[<- h];simp
 have s:=t.trans (q.Z' (by rw[h];omega) (λ k L=>U));have u0:=cZ o (by rw[h];omega) q U;have u1:=cZ n (by rw[h];omega) q U;show FSt w (E (C' a (O (G w.heap+2+1) c) (.bool Q)) (VP #[J (c:Int)] 3)) (.slice (Z (O (G w.heap+4) 0)) 1 1) [c] W H (aC (λ _=>UP) c 0 0);generalize C' a (O (G w.heap+2+1) c) (.bool Q)=l at *;have g:=World.ownsRow_lit (base:=G w.heap+4) (e:=3) (size:=1) l #[J (c:Int)] 1 (by rw[d];omega) mQ rfl;rw[d]at g;have i:Bq l (E l (VP #[J (c:Int)] 3)):=ae.alloc aa _;refine⟨g,C.below i,cZ u0 (by rw[d];omega) (ai.Y' (F:=λ _=>False) i) id,cZ u1 (by rw[d];omega) (ai.Y' (F:=λ _=>False) i) id,s.trans (i.mono (by rw[d];omega)),λ j A=>?_,?_⟩;have:j=0:=by simp at A;omega
 subst this;exact⟨x,by show (aC _ (c:Int) 0 0 (c:Int)).isSome=Q;rw[gU];rfl⟩;have:=IG (c:Int) (W*H).toNat U U U;show ((1:Nat):Int)+_<=_;omega
end
section
open Go.RowKit Go.Maps
theorem BU {Y:Bn}{l:Ln}(k:yq W H Y c l)(w:M)(g:bo w b W H V Y)(j:inB W H c=Q)(p:b<G w.heap) :
  Zq 111 #[Pq b,J c] w λ e I=>∃A d,e=VJ (.slice A (K l) d)/\(bP I A (K l) (λ i=>(l.getD i 0:Nat))/\∀g o,A=Z (O g o)->G w.heap<=g)/\Bq w I :=
 (Ge c w g j p).mono λ e I ⟨v,n,a,r⟩=>by
  rw[k.eq]at a;obtain⟨A,d,rfl,s⟩:=jk a;refine⟨A,d,n,⟨s,λ g o e=>?_⟩,r⟩;rcases a.2 with⟨f,_⟩|⟨t,h,q,f,m,_⟩
  simp only[Value.slice.injEq]at f;rw[f.1]at e;cases e;simp only[Value.slice.injEq]at f;rw[f.1]at e;cases e;exact m
theorem jX {n:Int}(b:-1000000<=n)(a:n<=1000000):IntKind.i64.wrap n=n:=by
 unfold IntKind.wrap;simp[IntKind.bits,IntKind.signed];omega
theorem vF {l:Ln}{q a j:Nat}(b:q<K l)(c:l.getD q 0=a)(h:j∈l.take (q+1)):j∈l.take q\/j=a:=by grind [SU,List.take_add_one,bL]
theorem oS (F:Int->Oi):∀v∈dm F,v.oneCell'=true:=by
 intro v a;unfold dm at a;rw[TX]at a;obtain⟨i,_,rfl⟩:=a;rfl
theorem tM (F:Int->Oi):∀v∈isL F,v.oneCell'=true:=by
 intro v a;unfold isL at a;rw[TX]at a;obtain⟨i,_,rfl⟩:=a;rfl
theorem Mu:prog.underlying 130=Z (.array 256 90):=kQ
theorem Mv:prog.underlying 35=Z (.array 256 4):=kQ
theorem BV {P:Program}{d:Func}{c:Array Vr}{i j:Nat}{s t:Vyk}{A B:Addr}{u v:Vr}(e:d.results=#[.cell i s,.cell j t])(a:c.getD i undef=.pointer (Z A))(b:c.getD j undef=.pointer (Z B))
  (h:(loadVar s A).run P w=.ok u w) (k:(loadVar t B).run P w=.ok v w):(results d c).run P w=.ok (.tuple #[u,v]) w:=by
 unfold results;rw[e];rw[Array.getD_eq_getD_getElem?]at a b;simp[a,b,h,k,asAddr]
theorem Mw (w:M)(c:Nat) :
  ((((E w (.cells zC 130)).alloc (.cells zB 35)).alloc (.cells zC 130)).alloc (.cells zB 35)).setCell (O (G w.heap+1+1+1) c) (.bool Q)=(((E w (.cells zC 130)).alloc (.cells zB 35)).alloc (.cells zC 130)).alloc (.cells (zB.setIfInBounds c (.bool Q)) 35):=by
 simp[go_sem]
theorem lZ {b:Nat}{W H V:Int}{Y:Nat->Bool}(c:Nat)(w:M)(g:bo w b W H V Y)(hb:b<G w.heap)(hr:inB W H c=Q) :
  Calls Vyj 70 #[.pointer (Z ⟨b,0,UP⟩),VN VO (c:Int)] w λ e I=>BS w I e W H Y c:=by
 obtain⟨i0,bq,VZ,Wa,b4⟩:=info_parts Tryz.Vxg;have bn:=g.w1;obtain⟨c7,b6⟩:=bG g.w1 g.w2 g.h1 g.h2;have hc:0<=(c:Int)/\(c:Int)<W*H:=of_decide_eq_true hr;have S0:=IM w c hr b6;have L0:=Lab.start (aF W H Y) (c:Int) (W*H).toNat U U (λ a _=>¬jN [c] 0 a) (λ _ h=>h ⟨0,aa,by simp,rfl⟩);obtain⟨N,hN⟩:∃N:Nat,(W*H).toNat=N:=⟨_,rfl⟩;obtain⟨q1,q2⟩:=hc;have q3:(c:Int)<256:=U;have LN:=eH.new ((E w (.cells zC 130)).alloc (.cells zB 35));have ci:=LN.i0 c U;have cz:=LN.zi c;have es:G ((E w (.cells zC 130)).alloc (.cells zB 35)).heap+1=G w.heap+1+1+1:=by simp
 rw[es]at ci cz;clear LN es;go_enter func70,ntmps70;go_wp2_with (first|(refine nJ rfl rfl ?_)|(refine nK rfl rfl ?_));rw[Mw]at S0;generalize (((((E w (.cells zC 130)).alloc (.cells zB 35)).alloc (.cells zC 130)).alloc (.cells (zB.setIfInBounds c (.bool Q)) 35)).alloc (VP #[VN VO (c:Int)] 3))=wS at *;clear ci cz;rw[hN]at L0;have an:N<=256:=U;go_loopg [8,9] ((pot (aC (λ _=>UP) (c:Int) 0 0) N).toNat+1) (λ gk tv iv wr=>∃(td:List Nat) (i:Nat) (F:Int->Option (Int×Int)),i<=K td/\gk=(pot F N).toNat+(K td-i)/\iv=VN VO i/\FSt w wr tv td W H F/\Lab (aF W H Y) c N F (λ a _=>¬jN td i a))
 case atStart=>exact⟨[c],0,_,by simp,rfl,rfl,S0,L0⟩
 case round =>
  clear S0 L0;obtain⟨td,i,F,hi,WV,rfl,S,L⟩:=hrel;have HG:=qH WV;clear WV;have a0:=S.len;rw[hN]at a0;have YZ:=L.pot0;by_cases VS:i<K td
  ·obtain⟨aL,bD⟩:=S.mem i VS;obtain⟨⟨s,d⟩,bd⟩:=Option.isSome_iff_exists.1 bD;have dy:(i:Int)<(K td:Int):=U;have c8:(0:Int)<=(i:Int):=U;rcases S.own.2 with⟨_,h0⟩|⟨gt,cp,cn,rfl,VV,hg,_⟩
   ·omega
   ·have ca:=jW S.own i VS;have bw:gt<G wr.heap:=(Tq.1 hg).1;obtain⟨a,ha⟩:∃a,td.getD i 0=a:=⟨_,rfl⟩;have HA:=qH ha;rw[ha]at aL bd ca;clear bD ha hg;have cg:0<=(a:Int)/\(a:Int)<W*H:=of_decide_eq_true aL;obtain⟨a1,a2⟩:=cg;have bI:a<256:=U;have a3:(a:Int)<256:=U;have gr:=g.below S.bel hb;obtain⟨l,hl⟩:=Jw (W:=W) (H:=H) Y (a:Int) bn;have bA:=Nat.lt_of_lt_of_le hb S.bel.size;go_wp2_with fail;refine(BU hl wr gr aL bA).mono ?_;rintro e w2 ⟨A1,dx,rfl,⟨VU,Xg⟩,bb⟩;have S2:=S.below bb;have L2:Lab (aF W H Y) c N F (λ x j=>(¬jN td (i+1) x/\x≠a)\/(x=a/\j∈l.take 0)):=by
     refine L.widen λ {x k y s d} _ _ h=>?_;rcases h with⟨h1,h2⟩|⟨_,h2⟩
     ·rintro⟨j,j1,j2,j3⟩;by_cases e:j=i
      ·subst e;rw[HA.out]at j3;exact h2 j3.symm
      ·exact h1 ⟨j,U,j2,j3⟩
     ·simp at h2
    have Wc:=bb.size;have b9:=hl.len;obtain⟨L',bc⟩:∃L',K l=L':=⟨_,rfl⟩;have HL:=qH bc;rw[bc]at VU b9 ⊢;obtain⟨M0,bM⟩:∃M0,G wr.heap=M0:=⟨_,rfl⟩;rw[bM]at Xg bw Wc;have df:G w.heap+4<=M0:=(by have:=S.big;omega);clear S L bc gr bb bA ca bM;go_wp2;go_loopg [8,12] L' (λ gk tv kv wq=>∃(q:Nat) (T:List Nat) (r:Int->Option (Int×Int)),q<=L'/\gk=L'-q/\kv=VN VO q/\FSt w wq tv T W H r/\Lab (aF W H Y) c N r (λ x j=>(¬jN T (i+1) x/\x≠a)\/(x=a/\j∈l.take q))/\r a=Z (s,d)/\i<K T/\(pot r N).toNat+(K T-i)<=(pot F N).toNat+(K td-i)/\ai (λ k=>k<M0) w2 wq/\(∀x,M' tv=Z x->x<M0\/G w2.heap<=x))
    case atStart=>exact⟨0,td,F,U,rfl,rfl,S2,L2,bd,VS,aa,ai.refl _ _,λ x hx=>SQ (by simp[Value.ownBlock]at hx;omega)⟩
    case round =>
     clear S2 L2 bd VV bw;obtain⟨q,T,r,hq,bx,rfl,S3,L3,ad,cc,Xi,K3,ac⟩:=hrel;have bl:=qH bx;have HM:=qH Xi;clear bx Xi;by_cases aN:q<L'
     ·have ds:(q:Int)<(L':Int):=U;have c9:(0:Int)<=(q:Int):=U;have am:q<K l:=(by rw[HL.out];exact aN);obtain⟨bs,os,rfl,da,VX⟩:=VU q aN;have db:=Xg bs os rfl;have cl:D wr ⟨bs,os+q,UP⟩=Z (VN VO ((l.getD q 0:Nat):Int)):=K3.cellOf VX (by show ¬bs<M0;omega);have a9:=hl.lt q am;have Ym:bu W H Y ((a:Int)%W) ((a:Int)/W) (l.getD q 0)=true:=by
       have X7:q<K (mvs W H Y ((a:Int)%W) ((a:Int)/W) 8):=(by rw[hl.eq];exact am);have:=(mC X7).2;rw[hl.eq]at this;exact this
      obtain⟨f,a8⟩:∃f,l.getD q 0=f:=⟨_,rfl⟩;have bm:=qH a8;rw[a8]at cl a9 Ym;clear VX a8;have ZI:aF W H Y a f ((a:Int)+(af f*W+ah f)):=⟨a9,aL,Ym,rfl⟩;have au:=ZI.in' bn
      have bp:=of_decide_eq_true au;obtain⟨m,a4⟩:∃m:Nat,(a:Int)+(af f*W+ah f)=m:=⟨((a:Int)+(af f*W+ah f)).toNat,U⟩;have XV:=λ w g=>EF (b:=b) (W:=W) (H:=H) (V:=V) (Y:=Y) (c:=(a:Int)) (d:=f) a4 w g a9 U U;rw[a4]at ZI au bp;obtain⟨t1,t2⟩:=bp;have t3:(m:Int)<256:=U;have C:m<256:=U;have g3:=g.below S3.bel hb;clear a4 Ym;go_wp2_with (go_at_call 68;refine(XV _ g3).mono ?_;rintro e o ⟨rfl,rfl⟩);have dq:Int.tmod (f:Int) 2=stD f:=(by unfold stD;rw[Int.tmod_eq_emod_of_nonneg U];omega);have dp:1-stD f=stS f:=(by unfold stS stD;omega);have Wq:=ji f;obtain⟨v1,v2,v3⟩:=L3.val_bd an ad;obtain⟨v4,v5⟩:=cT v1 v2 v3;have cS:okC s d:=(by unfold okC;omega);have cN:okC (stS f) (stD f):=(by unfold okC;omega);have WW:=λ w=>nI s d (stS f) (stD f) w cS cN;have hu:IntKind.i64.wrap (stS f)=stS f:=jX U U;have S4:FSt w o.drew u8 T W H r:=S3.below (ae.drew);have K4:ai (λ k=>k<M0) w2 o.drew:=K3.drew;have cl:=mA cl;have x0:D o.drew ⟨G w.heap+1+1,a*2,UP⟩=Z (VN VO s):=(by have:=S4.lab.c0 a bI;rw[(dC ad).1]at this;exact this);have x1:D o.drew ⟨G w.heap+1+1,a*2+1,UP⟩=Z (VN VO d):=(by have:=S4.lab.c1 a bI;rw[(dC ad).2]at this;exact this);have dv:=S3.big;have e1:bs<G o.heap:=SZ o.drew _ cl;have CC:∀I,Vw (G o.drew.heap) o.drew I->D I ⟨G w.heap+1+1,a*2,UP⟩=Z (VN VO s)/\D I ⟨G w.heap+1+1,a*2+1,UP⟩=Z (VN VO d)/\D I ⟨bs,os+q,UP⟩=Z (VN VO (f:Int)) :=
       λ I X=>⟨(X.cell (aB x0)).trans x0,(X.cell (aB x1)).trans x1,(X.cell (aB cl)).trans cl⟩
      have XB:Vw (G o.drew.heap) o.drew o.drew:=ae;clear S3 K3 g3 XV;go_wp2;go_region_held3 (λ I=>D I ⟨G w.heap+1+1,a*2,UP⟩=Z (VN VO s)/\D I ⟨G w.heap+1+1,a*2+1,UP⟩=Z (VN VO d)/\D I ⟨bs,os+q,UP⟩=Z (VN VO (f:Int)))
       (first|(exact CC _ XB)|(exact CC _ (XB.alloc XB.size _))|(exact CC _ ((XB.setCell (p:=⟨G o.heap,0,UP⟩) aa _).setCell (p:=⟨G o.heap,1,UP⟩) aa _))|(exact CC _ ((XB.alloc XB.size _).setCell XB.size _))|(exact CC _ (((XB.alloc XB.size _).setCell XB.size _).setCell XB.size _))|(go_keep))
       (first|(go_at_call 112;refine(WW _).mono ?_;rintro e w5 ⟨rfl,VW⟩;have XB:Vw (G o.drew.heap) o.drew w5:=(by first|exact VW|exact(XB.alloc XB.size _).trans (VW.mono sQ));obtain⟨ba,a7⟩:=Jk VW;have ZH:=VW.size;simp at ZH))
      all_goals
       have cj:∃DB W6:Nat,True:=⟨0,0,trivial⟩;clear cj
       first
        |(have z0:D w5 ⟨G o.heap,0,UP⟩=Z (VN VO 0):=(ba _ _ sQ).trans (SR (w:=o) #[VN VO 0,VN VO 0] 90 (G o.heap) 0 rfl)
          have z1:D w5 ⟨G o.heap,1,UP⟩=Z (VN VO 0):=(ba _ _ sQ).trans (SR (w:=o) #[VN VO 0,VN VO 0] 90 (G o.heap) 1 rfl);have z2:=(a7 _ _ sQ).trans (bC o #[VN VO 0,VN VO 0] 90 (G o.heap) aa 0);have z3:=(a7 _ _ sQ).trans (bC o #[VN VO 0,VN VO 0] 90 (G o.heap) aa 1);have Sl:=(bz.mk z0 z1 z2 z3).set (s+stS f) (d+stD f);have B6:=(XB.setCell (p:=⟨G o.heap,0,UP⟩) aa (VN VO (s+stS f))).setCell (p:=⟨G o.heap,1,UP⟩) aa (VN VO (d+stD f));clear z0 z1 z2 z3;have b0:G o.heap<=G o.heap:=aa;generalize (w5.setCell ⟨G o.heap,0,UP⟩ (VN VO (s+stS f))).setCell ⟨G o.heap,1,UP⟩ (VN VO (d+stD f))=W6 at *;obtain⟨DB,ay⟩:∃DB,G o.heap=DB:=⟨_,rfl⟩;have cK:G o.heap<=DB:=U;rw[ay]at Sl ⊢)
        |(have Sl:=bz.new w5 (s+stS f) (d+stD f)
          have B6:=XB.alloc XB.size (VP #[VN VO (s+stS f),VN VO (d+stD f)] 90);have b0:G o.heap<=G w5.heap:=ZH;generalize E w5 (VP #[VN VO (s+stS f),VN VO (d+stD f)] 90)=W6 at *;obtain⟨DB,ay⟩:∃DB,G w5.heap=DB:=⟨_,rfl⟩;have cK:G o.heap<=DB:=U;rw[ay]at Sl ⊢)
       have S6:=S4.below B6;have K6:=K4.below B6;clear b0 ay S4 K4 B6 x0 x1 cl CC XB VW ba a7 ZH WW;have hI:=S6.lab.i0 m C;cases hF:r (m:Int) with
       |none =>
        have Y3:∀{t u},r (m:Int)=Z (t,u)->val (s+stS f) (d+stD f)<val t u:=λ h=>by rw[hF]at h;cases h
        rw[hF]at hI;have hI:D W6 ⟨G w.heap+1+1+1,m,UP⟩=Z (.bool Vl):=hI;go_wp2;go_quiet (fail);have S7:=S6.below (Vxj (Below.refl (G W6.heap) W6) nq);have K7:=K6.drewN nq;have ag:=Sl.below (Vxj (Below.refl (G W6.heap) W6) nq);clear S6 K6 Sl hI;generalize W6.drewN nq=A at *;have VY:∀{y},aF W H Y a f y->y=(m:Int):=λ e=>ZI.one e rfl;obtain⟨Lx,a5,bi⟩:=Lab.nearer (jN:=λ x=>jN T (i+1) x) (dn:=λ j=>j∈l.take q) an L3 ad ZI t1 U Y3 VY;have Ly:Lab (aF W H Y) c N (aC r m (s+stS f) (d+stD f)) (λ x j=>(¬jN (T++[m]) (i+1) x/\x≠a)\/(x=a/\j∈l.take (q+1))):=by
         refine Lx.widen λ {x k y s d} _ _ h=>?_;rcases h with⟨h1,h2⟩|⟨h1,h2⟩
         ·exact SQ ⟨λ h3=>h1 ((BR U).2 h3),h2⟩
         ·exact SP ⟨h1,vF am bm.out h2⟩
        have b8:=Lx.pot0;have bk:=S7.len;rw[hN]at bk;have P8:FSt w (((A.setCell ⟨G w.heap+1+1,m*2,UP⟩ (VN VO (s+stS f))).setCell ⟨G w.heap+1+1,m*2+1,UP⟩ (VN VO (d+stD f))).setCell ⟨G w.heap+1+1+1,m,UP⟩ (.bool Q)) u8 T W H (aC r m (s+stS f) (d+stD f)):=S7.put m C _ _ (by rw[hN];exact a5);have K8:ai (λ k=>k<M0) w2 (((A.setCell ⟨G w.heap+1+1,m*2,UP⟩ (VN VO (s+stS f))).setCell ⟨G w.heap+1+1,m*2+1,UP⟩ (VN VO (d+stD f))).setCell ⟨G w.heap+1+1+1,m,UP⟩ (.bool Q)):=K7.trans (vE A (G w.heap+2) (G w.heap+3) m _ _) (λ k _ hk=>U);have y0:D A ⟨G w.heap+1+1,m*2,UP⟩=Z (VN VO (kV r m)):=S7.lab.c0 m C;have y1:D A ⟨G w.heap+1+1,m*2+1,UP⟩=Z (VN VO (j7 r m)):=S7.lab.c1 m C;have y2:A.frozen? ⟨G w.heap+1+1,m*2,UP⟩=false:=S7.lab.zc _;have y3:A.frozen? ⟨G w.heap+1+1,m*2+1,UP⟩=false:=S7.lab.zc _;have y4:D A ⟨G w.heap+1+1+1,m,UP⟩=Z (.bool (r m).isSome):=S7.lab.i0 m C;have y5:A.frozen? ⟨G w.heap+1+1+1,m,UP⟩=false:=S7.lab.zi _;have y6:=ag.c0;have y7:=ag.c1;have ce:=S7.big;have n1:G w.heap+1+1+1≠G w.heap+1+1:=U;clear S7 K7 ag Lx;go_wp2_with (at_builtin;refine wpList_append_own_at _ rfl _ _ 60 rfl (G w.heap+4) 3 i0 (VN VO 0) 1 8 Vyg bq VZ Wa b4 rfl dQ _ _ _ rfl (World.ownsRow.alloc P8.own _) ⟨G A.heap,0,UP⟩ 1 1 [VN VO (m:Int)] rfl rfl ?c1 ?c2 ?c3 ?c4 ?c5 ?_)
        case c1 =>
         intro j u hj
         match j,hj with
         |0,hj =>
          simp at hj;subst hj;simp only[Addr.add];exact SR #[VN VO (m:Int)] 3 (G A.heap) 0 sQ
        case c2=>intro u hu;simp at hu;subst hu;rfl
        case c3=>unfold Vyf;omega
        case c4=>omega
        case c5=>simp;omega
        intro v' w9 VR VQ _ Y1;have ap:=P8.below (ae.alloc aa (VP #[VN VO (m:Int)] 3));have P9:FSt w w9 v' (T++[m]) W H (aC r m (s+stS f) (d+stD f)):=ap.app (by simpa [aH]using VR) VQ au (by rw[gU];rfl) (by rw[hN];omega);have K9:ai (λ k=>k<M0) w2 w9:=(K8.alloc _).grown VQ (λ k hk cb=>by rcases ac k hk with h|h<;>omega);have bf:∀x,M' v'=Z x->x<M0\/G w2.heap<=x:=λ x hx=>by
         rcases Y1 with h|h
         ·exact ac x (h.symm.trans hx)
         ·right;have:=h.symm.trans hx;have h8:=K8.size;simp at this h8;omega
        clear VR VQ Y1 P8 ap K8 ac y0 y1 y2 y3 y4 y5 y6 y7;go_wp2;go_roundg (L'-(q+1))
        case measure=>have:=bl.out;omega
        case rel=>exact⟨q+1,T++[m],_,U,rfl,gQ,P9,Ly,bi,by simp;omega,by have:=HM.out;simp;omega,K9,bf⟩
       |some p =>
        obtain⟨t,u⟩:=p;obtain⟨r1,r2,r3⟩:=L3.val_bd an hF;obtain⟨r4,r5⟩:=cT r1 r2 r3;have b5:okC t u:=(by unfold okC;omega);have b3:okC (s+stS f) (d+stD f):=(by unfold okC;omega);have aw:=λ w=>vD (s+stS f) (d+stD f) t u w b3 b5;have Yg:=ka (s+stS f) (d+stD f) t u b3 b5;rw[hF]at hI;have hI:=mA hI;have g0:D W6.drew ⟨G w.heap+1+1,m*2,UP⟩=Z (VN VO t):=(by have:=S6.lab.c0 m C;rw[(dC hF).1]at this;exact this);have g1:D W6.drew ⟨G w.heap+1+1,m*2+1,UP⟩=Z (VN VO u):=(by have:=S6.lab.c1 m C;rw[(dC hF).2]at this;exact this);have g2:D W6.drew ⟨DB,0,UP⟩=Z (VN VO (s+stS f)):=Sl.c0;have g4:D W6.drew ⟨DB,1,UP⟩=Z (VN VO (d+stD f)):=Sl.c1;have CC:∀I,Vw (G W6.drew.heap) W6.drew I->D I ⟨G w.heap+1+1+1,m,UP⟩=Z (.bool Q)/\D I ⟨G w.heap+1+1,m*2,UP⟩=Z (VN VO t)/\D I ⟨G w.heap+1+1,m*2+1,UP⟩=Z (VN VO u)/\D I ⟨DB,0,UP⟩=Z (VN VO (s+stS f))/\D I ⟨DB,1,UP⟩=Z (VN VO (d+stD f)) :=
         λ I X=>⟨(X.cell (aB hI)).trans hI,(X.cell (aB g0)).trans g0,(X.cell (aB g1)).trans g1,(X.cell (aB g2)).trans g2,(X.cell (aB g4)).trans g4⟩
        have z:Vw (G W6.drew.heap) W6.drew W6.drew:=ae;have ax:=wB W6;by_cases a6:val (s+stS f) (d+stD f)<val t u
        ·have Y3:∀{t u},r (m:Int)=Z (t,u)->val (s+stS f) (d+stD f)<val t u:=λ h=>by rw[hF]at h;cases h;exact a6
         have cd:j6 (s+stS f) (d+stD f) t u<0:=(by rw[Yg];unfold fG;rw[if_pos a6];decide);generalize j6 (s+stS f) (d+stD f) t u=cr at *;clear Yg;go_wp2;go_region_held3 (λ I=>D I ⟨G w.heap+1+1+1,m,UP⟩=Z (.bool Q)/\D I ⟨G w.heap+1+1,m*2,UP⟩=Z (VN VO t)/\D I ⟨G w.heap+1+1,m*2+1,UP⟩=Z (VN VO u)/\D I ⟨DB,0,UP⟩=Z (VN VO (s+stS f))/\D I ⟨DB,1,UP⟩=Z (VN VO (d+stD f))) (first|(exact CC _ z)) (first|(go_at_call 113;refine(aw _).mono ?_;rintro e A ⟨rfl,be⟩;have z:=z.trans (be.mono z.size)));have ab:=ax.trans (z.mono (by exact aa));have S7:=S6.below ab;have K7:=K6.below ab;have ag:=Sl.below ab;clear S6 K6 Sl hI g0 g1 g2 g4 CC z ax ab aw;have VY:∀{y},aF W H Y a f y->y=(m:Int):=λ e=>ZI.one e rfl;obtain⟨Lx,a5,bi⟩:=Lab.nearer (jN:=λ x=>jN T (i+1) x) (dn:=λ j=>j∈l.take q) an L3 ad ZI t1 U Y3 VY;have Ly:Lab (aF W H Y) c N (aC r m (s+stS f) (d+stD f)) (λ x j=>(¬jN (T++[m]) (i+1) x/\x≠a)\/(x=a/\j∈l.take (q+1))):=by
          refine Lx.widen λ {x k y s d} _ _ h=>?_;rcases h with⟨h1,h2⟩|⟨h1,h2⟩
          ·exact SQ ⟨λ h3=>h1 ((BR U).2 h3),h2⟩
          ·exact SP ⟨h1,vF am bm.out h2⟩
         have b8:=Lx.pot0;have bk:=S7.len;rw[hN]at bk;have P8:FSt w (((A.setCell ⟨G w.heap+1+1,m*2,UP⟩ (VN VO (s+stS f))).setCell ⟨G w.heap+1+1,m*2+1,UP⟩ (VN VO (d+stD f))).setCell ⟨G w.heap+1+1+1,m,UP⟩ (.bool Q)) u8 T W H (aC r m (s+stS f) (d+stD f)):=S7.put m C _ _ (by rw[hN];exact a5);have K8:ai (λ k=>k<M0) w2 (((A.setCell ⟨G w.heap+1+1,m*2,UP⟩ (VN VO (s+stS f))).setCell ⟨G w.heap+1+1,m*2+1,UP⟩ (VN VO (d+stD f))).setCell ⟨G w.heap+1+1+1,m,UP⟩ (.bool Q)):=K7.trans (vE A (G w.heap+2) (G w.heap+3) m _ _) (λ k _ hk=>U);have y0:D A ⟨G w.heap+1+1,m*2,UP⟩=Z (VN VO (kV r m)):=S7.lab.c0 m C;have y1:D A ⟨G w.heap+1+1,m*2+1,UP⟩=Z (VN VO (j7 r m)):=S7.lab.c1 m C;have y2:A.frozen? ⟨G w.heap+1+1,m*2,UP⟩=false:=S7.lab.zc _;have y3:A.frozen? ⟨G w.heap+1+1,m*2+1,UP⟩=false:=S7.lab.zc _;have y4:D A ⟨G w.heap+1+1+1,m,UP⟩=Z (.bool (r m).isSome):=S7.lab.i0 m C;have y5:A.frozen? ⟨G w.heap+1+1+1,m,UP⟩=false:=S7.lab.zi _;have y6:=ag.c0;have y7:=ag.c1;have ce:=S7.big;have n1:G w.heap+1+1+1≠G w.heap+1+1:=U;clear S7 K7 ag Lx;go_wp2_with (at_builtin;refine wpList_append_own_at _ rfl _ _ 60 rfl (G w.heap+4) 3 i0 (VN VO 0) 1 8 Vyg bq VZ Wa b4 rfl dQ _ _ _ rfl (World.ownsRow.alloc P8.own _) ⟨G A.heap,0,UP⟩ 1 1 [VN VO (m:Int)] rfl rfl ?c1 ?c2 ?c3 ?c4 ?c5 ?_)
         case c1 =>
          intro j u hj
          match j,hj with
          |0,hj =>
           simp at hj;subst hj;simp only[Addr.add];exact SR #[VN VO (m:Int)] 3 (G A.heap) 0 sQ
         case c2=>intro u hu;simp at hu;subst hu;rfl
         case c3=>unfold Vyf;omega
         case c4=>omega
         case c5=>simp;omega
         intro v' w9 VR VQ _ Y1;have ap:=P8.below (ae.alloc aa (VP #[VN VO (m:Int)] 3));have P9:FSt w w9 v' (T++[m]) W H (aC r m (s+stS f) (d+stD f)):=ap.app (by simpa [aH]using VR) VQ au (by rw[gU];rfl) (by rw[hN];omega);have K9:ai (λ k=>k<M0) w2 w9:=(K8.alloc _).grown VQ (λ k hk cb=>by rcases ac k hk with h|h<;>omega);have bf:∀x,M' v'=Z x->x<M0\/G w2.heap<=x:=λ x hx=>by
          rcases Y1 with h|h
          ·exact ac x (h.symm.trans hx)
          ·right;have:=h.symm.trans hx;have h8:=K8.size;simp at this h8;omega
         clear VR VQ Y1 P8 ap K8 ac y0 y1 y2 y3 y4 y5 y6 y7;go_wp2;go_roundg (L'-(q+1))
         case measure=>have:=bl.out;omega
         case rel=>exact⟨q+1,T++[m],_,U,rfl,gQ,P9,Ly,bi,by simp;omega,by have:=HM.out;simp;omega,K9,bf⟩
        ·have cd:¬j6 (s+stS f) (d+stD f) t u<0:=(by rw[Yg];unfold fG;rw[if_neg a6];split<;>decide);generalize j6 (s+stS f) (d+stD f) t u=cr at *;clear Yg;have VY:∀{y},aF W H Y a f y->y=(m:Int):=λ e=>ZI.one e rfl;have Lx:=Lab.asfar (jN:=λ x=>jN T (i+1) x) (dn:=λ j=>j∈l.take q) L3 ad hF U VY;have Ly:Lab (aF W H Y) c N r (λ x j=>(¬jN T (i+1) x/\x≠a)\/(x=a/\j∈l.take (q+1))):=by
          refine Lx.widen λ {x k y s d} _ _ h=>?_;rcases h with h1|⟨h1,h2⟩
          ·exact SQ h1
          ·exact SP ⟨h1,vF am bm.out h2⟩
         go_wp2;go_region_held3 (λ I=>D I ⟨G w.heap+1+1+1,m,UP⟩=Z (.bool Q)/\D I ⟨G w.heap+1+1,m*2,UP⟩=Z (VN VO t)/\D I ⟨G w.heap+1+1,m*2+1,UP⟩=Z (VN VO u)/\D I ⟨DB,0,UP⟩=Z (VN VO (s+stS f))/\D I ⟨DB,1,UP⟩=Z (VN VO (d+stD f))) (first|(exact CC _ z)) (first|(go_at_call 113;refine(aw _).mono ?_;rintro e A ⟨rfl,be⟩;have z:=z.trans (be.mono z.size)));have ab:=ax.trans (z.mono (by exact aa));have S7:=S6.below ab;have K7:=K6.below ab;clear S6 K6 Sl hI g0 g1 g2 g4 CC z ax ab aw;go_wp2;go_roundg (L'-(q+1))
         case measure=>have:=bl.out;omega
         case rel=>exact⟨q+1,T,r,U,rfl,gQ,S7,Ly,ad,cc,HM.out,K7,ac⟩
     ·have b7:q=L':=U;subst b7;have Lz:Lab (aF W H Y) c N r (λ x _=>¬jN T (i+1) x):=by
       refine L3.widen λ {x k y s d} _ e h=>?_;by_cases hx:x=a
       ·refine SP ⟨hx,?_⟩;rw[List.take_of_length_le (by rw[HL.out];exact aa),<- hl.eq,yk];obtain⟨e1,_,e3,_⟩:=e;rw[hx]at e3;exact⟨e1,e3⟩
       ·exact SQ ⟨h,hx⟩
      go_wp2;go_roundg ((pot r N).toNat+(K T-(i+1)))
      case measure=>have:=HG.out;have:=HM.out;omega
      case rel=>exact⟨T,i+1,r,U,rfl,gQ,S3,Lz⟩
  ·have XC:i=K td:=U;subst XC;have B:cL (aF W H Y) c F:=Lab.done an (L.widen λ {x k y s d} _ _ _=>by rintro⟨j,j1,j2,_⟩;omega);clear L HG VS a0 YZ;rcases S.own.2 with⟨rfl,h0⟩|⟨gt,cp,cn,rfl,VV,hg,_⟩
   all_goals
    have q0:=S.lab.rangeC;have q4:=S.lab.rangeI;have q5:=S.r0;have q6:=S.r1;have hB:=S.bel;have o1:=oS F;have o2:=tM F;have WH:=dK F;have XC:=oQ F;have cy:∀I,cL (aF W H Y) c F->Vw (G w.heap) w I->BS w I (VJ (.tuple #[.agg (dm F).toArray,.agg (isL F).toArray])) W H Y c:=λ I b h=>⟨F,rfl,b,h⟩;generalize dm F=R at *;generalize isL F=n at *;have dd:=Mu;have dc:=Mv;have b2:(prog.info? 130).map (·.size)=Z (K R):=(by rw[WH];exact Ef);have b1:(prog.info? 35).map (·.size)=Z (K n):=(by rw[XC];exact Eg);have SS:wr.drew.rangeAt (G w.heap+1+1) 0 R/\wr.drew.rangeAt (G w.heap+1+1+1) 0 n/\wr.drew.there (G w.heap) 0 512/\wr.drew.there (G w.heap+1) 0 256:=⟨q0,q4,q5,q6⟩;have e5:wr.drew.there (G w.heap) 0 512:=q5;have e6:wr.drew.there (G w.heap+1) 0 256:=q6;have e7:(wr.drew.setCells (G w.heap) 0 R).there (G w.heap+1) 0 256:=Uh e6 _ _ _;have ao:(wr.drew.setCells (G w.heap) 0 R).rangeAt (G w.heap+1+1) 0 R/\(wr.drew.setCells (G w.heap) 0 R).rangeAt (G w.heap+1+1+1) 0 n/\(wr.drew.setCells (G w.heap) 0 R).there (G w.heap) 0 512/\(wr.drew.setCells (G w.heap) 0 R).there (G w.heap+1) 0 256 :=
     ⟨T8 SS.1 _ _ _ (SQ U),T8 SS.2.1 _ _ _ (SQ U),Uh e5 _ _ _,e7⟩
    have c6:((wr.drew.setCells (G w.heap) 0 R).setCells (G w.heap+1) 0 n).rangeAt (G w.heap+1+1) 0 R/\((wr.drew.setCells (G w.heap) 0 R).setCells (G w.heap+1) 0 n).rangeAt (G w.heap+1+1+1) 0 n/\((wr.drew.setCells (G w.heap) 0 R).setCells (G w.heap+1) 0 n).there (G w.heap) 0 512/\((wr.drew.setCells (G w.heap) 0 R).setCells (G w.heap+1) 0 n).there (G w.heap+1) 0 256 :=
     ⟨T8 ao.1 _ _ _ (SQ U),T8 ao.2.1 _ _ _ (SQ U),Uh ao.2.2.1 _ _ _,Uh ao.2.2.2 _ _ _⟩
    have RC:((wr.drew.setCells (G w.heap) 0 R).setCells (G w.heap+1) 0 n).rangeAt (G w.heap) 0 R:=T8 (TV _ _ _ _ (by rw[WH];exact e5)) _ _ _ (SQ U);have RI:((wr.drew.setCells (G w.heap) 0 R).setCells (G w.heap+1) 0 n).rangeAt (G w.heap+1) 0 n:=TV _ _ _ _ (by rw[XC];exact e7);have cx:=run_loadVar_mid (P:=Vyj) _ _ 0 130 R _ RC Mu rfl b2;have cv:=run_loadVar_mid (P:=Vyj) _ _ 0 35 n _ RI Mv rfl b1;have cm:Vw (G w.heap) w ((wr.drew.setCells (G w.heap) 0 R).setCells (G w.heap+1) 0 n):=cC _ U _ _ (cC _ aa _ _ hB.drew);clear S q0 q4 q5 q6 hB;go_wp2;refine wp_region_held_drew (S:=λ I=>I.rangeAt (G w.heap+1+1) 0 R/\I.rangeAt (G w.heap+1+1+1) 0 n/\I.there (G w.heap) 0 512/\I.there (G w.heap+1) 0 256) kQ SS (λ Wf=>?_);refine wpAnyH_take (i:=0) (v:=.agg R.toArray) rfl kQ kQ kQ (λ _ _ _ h=>h) (yieldsIf_load_mid (by rfl) 130 (.tmp 6) rfl (G w.heap+1+1) 0 rfl R _ (λ _ h=>h.1) Mu rfl b2) Wf ?_;simp only[Act.put];refine wpAnyH_take (i:=1) (v:=.agg n.toArray) rfl kQ kQ kQ (λ _ _ _ h=>h) (yieldsIf_load_mid (by rfl) 35 (.tmp 7) rfl (G w.heap+1+1+1) 0 rfl n _ (λ _ h=>h.2.1) Mv rfl b1) Wf ?_;simp only[Act.put];refine wpAnyH_ready (rs:=[2]) kQ sQ ?_;refine AllReadyH.cons rfl (λ K9 hK=>?_) AllReadyH.nil;rw[if_pos (by rfl)];refine wp_store_mid 130 (.tmp 4) (.tmp 82) rfl (G w.heap) 0 R.toArray rfl rfl (by simpa [WH]using e5) (by simpa [WH]using Ef) (all_oneCell_toArray o1) ?_;refine hK.out _ _ ao (λ dz=>?_);refine wpAnyH_ready (rs:=[3]) kQ sQ ?_;refine AllReadyH.cons rfl (λ K2 bZ=>?_) AllReadyH.nil;rw[if_pos (by rfl)];refine wp_store_mid 35 (.tmp 5) (.tmp 83) rfl (G w.heap+1) 0 n.toArray rfl rfl (by simpa [XC]using e7) (by simpa [XC]using Eg) (all_oneCell_toArray o2) ?_;refine bZ.out _ _ c6 (λ dl=>?_);refine wpAnyH_done kQ ?_ _;clear hK bZ K9 K2;go_wp2;exact bodyPost_ret (v:=.tuple #[.agg R.toArray,.agg n.toArray]) (BV results70 rfl rfl cx cv) rfl (cy _ B cm)
end
end Go.Proofs.YtikdmenjibkgiaaGreatDoor
