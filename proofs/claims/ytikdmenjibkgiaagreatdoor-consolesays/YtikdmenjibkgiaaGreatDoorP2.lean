/- Texts laid together. -/
import Derived.Test.YtikdmenjibkgiaaGreatDoorP1
import Derived.Maps.OwnSet
import Derived.Maps.OwnOps
import Derived.RegionTactic
import Derived.BigRegion
import Derived.Laws.OwnMore
import Derived.Maps.AppendAt
namespace Go.Proofs.YtikdmenjibkgiaaGreatDoor
open _root_.Array renaming size->G
open _root_.List renaming length->K
open _root_.Nat renaming le_trans->Tg,lt_of_lt_of_le->Tc,lt_irrefl->UA
open Go.World renaming block_lt_of_cell?->SZ,cell?_alloc_at->SR,frozen?->Vf,cell?_setCell_same->Tf,cell?_setCell_other->SY,frozen?_setCell->TL,cell?->D,alloc->E,setCell->C',ownsRow->G'
open Go.Value renaming ownBlock->T7,slice->TQ,ownBlock->M'
open _root_.Or renaming inl->SQ,inr->SP
open Go.Value renaming int->VN
open Go.IntKind renaming i64->VO
open Go.Proofs.Tryz
open _root_.Option renaming some->Z,none->UP
open _root_.Bool renaming true->Q,false->Vl
open Go renaming World->M,Value->Vr,bodyPost_ret->Vxl,TypeId->Vyk,wpQuiet_nil->Vza
open Go.Ending renaming returned->VJ
open Go.Obj renaming cells->VP
variable {F:Nat->Prop}{a c w I:M}{b m i n g cap mb j:Nat}{v:Vr}{f:Int->Option Vr}{s d t u:Int}
set_option maxHeartbeats 8000000
set_option maxRecDepth 1000000
open Go.RowKit
section
open Go.RowKit Go.Maps
structure ai (F:Nat->Prop) (w I:M):Prop where
 os:I.os=w.os
 tape:I.tape=w.tape
 output:I.output=w.output
 size:G w.heap<=G I.heap
 block:∀k,k<G w.heap->¬F k->I.heap[k]? = w.heap[k]?
theorem ai.refl (F:Nat->Prop)(w:M):ai F w w:=⟨rfl,rfl,rfl,aa,λ _ _ _=>rfl⟩
theorem ai.trans {G9:Nat->Prop}{b:M}(h:ai F a b)(k:ai G9 b c)(f:∀i,i<G a.heap->G9 i->F i):ai F a c :=
 ⟨k.os.trans h.os,k.tape.trans h.tape,k.output.trans h.output,Tg h.size k.size,λ i d e=>(k.block i (Tc d h.size) (λ g=>e (f i d g))).trans (h.block i d e)⟩
theorem ai.mono {G9:Nat->Prop}{b:M}(h:ai F a b)(d:∀i,i<G a.heap->F i->G9 i):ai G9 a b :=
 ⟨h.os,h.tape,h.output,h.size,λ i c e=>h.block i c (λ g=>e (d i c g))⟩
theorem ai.grown {b:M}{row:Option Nat}(h:ai F a b)(d:b.grownBy c row)(j:∀k,row=Z k->k<G a.heap->F k):ai F a c :=
 ⟨d.os.trans h.os,d.tape.trans h.tape,d.output.trans h.output,Tg h.size d.size,λ i f g=>(d.block i (Tc f h.size) (λ e=>g (j i e.symm f))).trans (h.block i f g)⟩
theorem ai.alloc {b:M}(h:ai F a b)(o:Obj):ai F a (b.alloc o):=h.grown (World.grownBy_alloc b o UP) sQ
theorem ai.setCell {b:M}(h:ai F a b){p:Addr}(f:p.block<G a.heap->F p.block)(u:Vr):ai F a (b.setCell p u) :=
 ⟨h.os,h.tape,h.output,by simpa using h.size,λ i d c=>(Below.heap_setCell b p u i (λ e=>c (by grind))).trans (h.block i d c)⟩
theorem ai.drewN {b:M}(h:ai F a b)(m:Nat):ai F a (b.drewN m):=⟨h.os,h.tape,h.output,h.size,h.block⟩
theorem ai.drew {b:M}(h:ai F a b):ai F a b.drew:=⟨h.os,h.tape,h.output,h.size,h.block⟩
theorem ai.below {b:M}(h:ai F a b)(d:Bq b c):ai F a c :=
 ⟨d.os.trans h.os,d.tape.trans h.tape,d.output.trans h.output,Tg h.size d.size,λ i e f=>(d.block i (Tc e h.size)).trans (h.block i e f)⟩
theorem ai.Y' {b:M}(a:Bq b c):ai F b c:=(ai.refl F b).below a
theorem ai.Z' {B:Nat}{b:M}(h:ai F a b)(e:B<=G a.heap)(c:∀k,F k->B<=k):Below B a b :=
 ⟨h.os,h.tape,h.output,h.size,λ i d=>h.block i U (λ g=>by have:=c i g;omega)⟩
theorem ai.cell {w:M}(h:ai F w I){p:Addr}(a:p.block<G w.heap)(b:¬F p.block):D I p=D w p:=World.cell?_of_block (w:=w) (h.block p.block a b)
theorem ai.frozen {w:M}(h:ai F w I){p:Addr}(a:p.block<G w.heap)(b:¬F p.block):I.frozen? p=w.frozen? p:=World.frozen?_of_block (w:=w) (h.block p.block a b)
theorem ai.cellOf (h:ai F w I){p:Addr}{v:Vr}(a:D w p=Z v)(b:¬F p.block):D I p=Z v:=(h.cell (SZ w p a) b).trans a
def pJ (v:Vr):Option (DataW Vr×List MemPlace):=Z (.held v,[])
def bj (P:Program) (k:Vyk) (w:M) (b:Nat) (f:Int->Option Vr) (n:Nat):Prop :=
 ∃D9:DataW Vr,w.ownsMap P k pJ b n D9/\Maps.size D9=n/\∀a:Int,Maps.has D9 (.int .i64 a)=(f a).isSome/\∀v,f a=Z v->∀z,D9.atKey (.int .i64 a) z=.held v
def bQ (f:Int->Option Vr) (a:Int) (v:Vr):Int->Option Value:=λ i=>if i=a then Z v else f i
def o7 (f:Int->Option Vr) (a:Int):Int->Option Value:=λ i=>if i=a then UP else f i
theorem cF (f:Int->Option Vr)(a:Int)(v:Vr):bQ f a v a=Z v:=Q5 rfl
theorem du (f:Int->Option Vr){a i:Int}(v:Vr)(h:i≠a):bQ f a v i=f i:=Q6 h
theorem rU (f:Int->Option Vr)(a:Int):o7 f a a=none:=Q5 rfl
theorem lU (f:Int->Option Vr){a i:Int}(h:i≠a):o7 f a i=f i:=Q6 h
variable {P : Program} {k e t : Vyk} {w : M} {b n : Nat} {f : Int → Option Vr}
theorem LM {c:DataW Vr}{R:Vr->Option (DataW Vr×List MemPlace)}(h:w.ownsMap P k R b m c):w.ownsMap P k R b (Maps.size c) c:=by
 obtain⟨e,a,d,F,_,rfl⟩:=h;exact⟨e,a,d,F,by simp[Maps.size,length_sorted],rfl⟩
theorem bj.made (w:M)(P:Program)(k:Vyk):bj P k (E w (.map #[] 0)) (G w.heap) (λ _=>UP) 0 :=
 ⟨_,World.ownsMap_made w P k pJ,rfl,λ a=>⟨rfl,λ v h=>by cases h⟩⟩
theorem bj.lt (h:bj P k w b f n):b<G w.heap:=by obtain⟨a,h,_⟩:=h;exact h.lt
theorem bj.kept (h:bj P k w b f n)(c:I.heap[b]? = w.heap[b]?):bj P k I b f n:=by
 obtain⟨j,⟨i,a,g,e⟩,d⟩:=h;exact⟨j,⟨i,a,c.trans g,e⟩,d⟩
theorem bj.X' (h:bj P k w b f n)(c:ai F w I)(a:¬F b):bj P k I b f n:=h.kept (c.block b h.lt a)
theorem bj.cell (h:bj P k w b f n)(o:Nat):D w ⟨b,o,UP⟩=none:=by
 obtain⟨e,⟨d,a,c,_⟩,_⟩:=h;simp[World.cell?,c]
theorem pK (b:P.underlying k=Z (.int .i64)){a:Int}(c:(Lit.int .i64 a).wf=Q):keyOf P k (.int .i64 a)=Z (.int .i64 a):=keyOf_int_mk b c
theorem bj.Ui (h:bj P k w b f n)(i:P.underlying k=Z (.int .i64))(m:P.underlying t=Z (.map k e)){z:Vr}(l:(zeroValue e).run P w=.ok z w){a:Int}(o:(Lit.int .i64 a).wf=Q){v:Vr}(j:f a=Z v)(c:Bool) :
  (Instr.lookup t (.map (Z b)) (VN VO a) c).run P w=.ok (if c then .tuple #[v,.bool Q] else v) w:=by
 obtain⟨y,r,_,x⟩:=h;obtain⟨q,p⟩:=x a;rw[j]at q;cases c with
 |true =>
  obtain⟨s,u,g,d⟩:=r.look_ok (int_keyed i) m l (zd:=.held z) (zp:=[]) rfl (pK i o);rw[p v j]at d;simp only[pJ,Option.some.injEq,Prod.mk.injEq,DataW.held.injEq]at d;rw[q,d.1]at g;exact g
 |false =>
  obtain⟨s,u,g,d⟩:=r.lookup (int_keyed i) m l (zd:=.held z) (zp:=[]) rfl (pK i o);rw[p v j]at d;simp only[pJ,Option.some.injEq,Prod.mk.injEq,DataW.held.injEq]at d;rw[d.1]at g;exact g
theorem bj.u6 (h:bj P k w b f n)(i:P.underlying k=Z (.int .i64))(m:P.underlying t=Z (.map k e)){z:Vr}(l:(zeroValue e).run P w=.ok z w){a:Int}(o:(Lit.int .i64 a).wf=Q)(u:f a=UP)(c:Bool) :
  (Instr.lookup t (.map (Z b)) (VN VO a) c).run P w=.ok (if c then .tuple #[z,.bool Vl] else z) w:=by
 obtain⟨x,q,_,v⟩:=h;obtain⟨j,_⟩:=v a;rw[u]at j;have p:x.atKey (.int .i64 a) (.held z)=.held z:=atKey_of_not_has j _;cases c with
 |true =>
  obtain⟨r,s,g,d⟩:=q.look_ok (int_keyed i) m l (zd:=.held z) (zp:=[]) rfl (pK i o);rw[p]at d;simp only[pJ,Option.some.injEq,Prod.mk.injEq,DataW.held.injEq]at d;rw[j,d.1]at g;exact g
 |false =>
  obtain⟨r,s,g,d⟩:=q.lookup (int_keyed i) m l (zd:=.held z) (zp:=[]) rfl (pK i o);rw[p]at d;simp only[pJ,Option.some.injEq,Prod.mk.injEq,DataW.held.injEq]at d;rw[d.1]at g;exact g
theorem bj.len (h:bj P k w b f n)(c:P.underlying t=Z (.map k e))(a:Vyk):(Builtin.len_ #[t] a #[.map (Z b)]).run P w=.ok (VN VO n) w:=by
 obtain⟨i,g,d,_⟩:=h;rw[<- d];exact g.len c a
theorem uZ {a i:Int}(h:i≠a):(Lit.int .i64 i)≠.int .i64 a:=λ e=>h (by cases e;rfl)
theorem DL (a:Int):WideAt.IsKeyLit (.int .i64 a):=trivial
theorem bj.store (h:bj P k w b f n)(g:P.underlying k=Z (.int .i64))(p:P.underlying t=Z (.map k e))(r:n<maxLen){a:Int}(x:(Lit.int .i64 a).wf=Q)(v:Vr) :
  ∃I,(Instr.mapUpdate t (.map (Z b)) (VN VO a) v).run P w=.ok () I/\bj P k I b (bQ f a v) (if (f a).isSome then n else n+1)/\w.mapTurned I b:=by
 obtain⟨A,c,o,l⟩:=h;obtain⟨I,y,q,s⟩:=c.store (int_keyed g) p r (pK g x) (val:=v) (d:=.held v) (ps:=[]) rfl;refine⟨I,y,⟨A.put (.int .i64 a) (.held v),?_,?_,λ i=>?_⟩,s⟩;have:=LM q;rw[size_put (c.tidy (int_keyed g)),(l a).1,o]at this;exact this;rw[size_put (c.tidy (int_keyed g)),(l a).1,o];by_cases j:i=a;subst j;rw[cF];exact⟨has_put_same c.isMap (DL i) _,λ u m z=>by cases m;exact atKey_put_same c.isMap (DL i) _ _⟩;rw[du _ _ j,has_put_other (uZ j)];exact⟨(l i).1,λ u m z=>by rw[atKey_put_other (uZ j)];exact(l i).2 u m z⟩
theorem bj.drop (h:bj P k w b f n)(g:P.underlying k=Z (.int .i64))(s:P.underlying t=Z (.map k e)){a:Int}(y:(Lit.int .i64 a).wf=Q)(l:Vyk) :
  ∃I,(Builtin.delete_ #[t,k] l #[.map (Z b),VN VO a]).run P w=.ok (.tuple #[]) I/\bj P k I b (o7 f a) (if (f a).isSome then n-1 else n)/\w.mapTurned I b:=by
 obtain⟨q,o,A,j⟩:=h;obtain⟨I,B,v,x⟩:=o.drop (int_keyed g) s (pK g y) l;have m:=size_del (k:=.int .i64 a) (o.tidy (int_keyed g));rw[(j a).1,A]at m;have p:Maps.size (q.del (.int .i64 a))=if (f a).isSome then n-1 else n:=by
  cases r:(f a).isSome<;>simp[r]at m ⊢ <;> omega
 refine⟨I,B,⟨q.del (.int .i64 a),?_,p,λ i=>?_⟩,x⟩;rw[<- p];exact LM v;by_cases c:i=a;subst c;rw[rU];exact⟨has_del_same,λ u d=>by cases d⟩;rw[lU _ c,has_del_other (uZ c)];exact⟨(j i).1,λ u d z=>by rw[atKey_del_other (uZ c)];exact(j i).2 u d z⟩
section
variable {ops : Array Oper} {rest : List Oper} {o : Oper} {a : Act} {Q9 : Exit → Act → M → Prop}
theorem ef (z:o.guard=UP)(m x v:Operand)(t:Vyk)(c:o.op=Op.mapUpdate t m x v)(k e:Vyk)(u:P.underlying k=Z (.int .i64))(q:P.underlying t=Z (.map k e))(b n:Nat)(f:Int->Option Vr)
  (s:a.eval m=.map (Z b)) (h:bj P k w b f n) (r:n<maxLen) (i:Int) (val:Vr) (l:a.eval x=J i) (p:a.eval v=val) (y:(Lit.int .i64 i).wf=Q)
  (A:∀I,bj P k I b (bQ f i val) (if (f i).isSome then n else n+1)->w.mapTurned I b->wpList P ops Q9 rest (a.put o.dst undef) I) :
  wpList P ops Q9 (o::rest) a w:=by
 refine wpList_plain z λ C d=>?_;obtain⟨I,B,j,g⟩:=h.store u q r y val;unfold Oper.wp;simp[execOp,c,s,l,p,B,Result.andThen];exact d _ _ (A I j g)
end
end
def Row (w:M) (v:Vr) (n:Nat) (it:Nat->bt):Prop :=
 ∃xs,G' w 0 328 3 v n xs/\∀i,i<n->xs[i*3]? = Z (J (it i).id)/\xs[i*3+1]? = Z (J (it i).s)/\xs[i*3+2]? = Z (J (it i).d)
theorem Row.X' {it:Nat->bt}(h:Row w v n it)(j:ai F w I)(f:∀g,M' v=Z g->¬F g):Row I v n it:=by
 obtain⟨d,b,e⟩:=h;refine⟨d,⟨b.1,?_⟩,e⟩;rcases b.2 with i|⟨g,cap,a,rfl,k,c,rest⟩
 exact .inl i;refine .inr ⟨g,cap,a,rfl,k,?_,rest⟩;rw[j.block g (Array.getElem?_eq_some_iff.1 c).1 (f g rfl)];exact c
theorem Row.pos {it:Nat->bt}(h:Row w v n it)(e:0<n):∃g cap,v=.slice (Z (O g 0)) n cap/\n<=cap/\cap<=maxLen/\g<G w.heap:=by
 obtain⟨c,a,d⟩:=h;rcases a.2 with⟨_,k⟩|⟨g,cap,b,rfl,f,l,j,i,_⟩
 omega
 grind
theorem Row.cells {it:Nat->bt}(h:Row w (.slice (Z (O g 0)) n cap) n it){i:Nat}(a:i<n) :
  w.cell? (O g (i*3))=Z (J (it i).id)/\Cq w g (i*3+1) (J (it i).s)/\Cq w g (i*3+2) (J (it i).d):=by grind [Row,Go.World.ownsRow.cellAt]
theorem Row.free {it:Nat->bt}(h:Row w (.slice (Z (O g 0)) n cap) n it)(j:Nat):w.frozen? (O g j)=false:=by
 obtain⟨b,a,c⟩:=h;exact a.frozenAt j
theorem Row.set {it:Nat->bt}(h:Row w (.slice (Z (O g 0)) n cap) n it){i:Nat}(p:i<n)(x:bt) :
  Row (((C' w (O g (i*3)) (J x.id)).setCell (O g (i*3+1)) (J x.s)).setCell (O g (i*3+2)) (J x.d)) (.slice (Z (O g 0)) n cap) n (dV it i x):=by
 obtain⟨b,a,c⟩:=h;have o:=(a.stored (i*3) (J x.id)).1;have m:=(o.stored (i*3+1) (J x.s)).1;have l:=(m.stored (i*3+2) (J x.d)).1;refine⟨_,l,λ k j=>?_⟩;have f:K b=n*3:=a.1;by_cases e:k=i;subst e;rw[dD];simp[List.getElem?_set,f];omega;rw[cD it x e];obtain⟨t,r,q⟩:=c k j;refine⟨?_,?_,?_⟩
 grind
 grind
 grind
structure Rep (w:M) (b mb:Nat) (v:Vr) (n:Nat) (it:Nat->bt) (f:Int->Option Vr) (m:Nat):Prop where
 c0:D w (O b 0)=Z v
 c1:D w (O b 1)=Z (.map (Z mb))
 f0:w.frozen? (O b 0)=Vl
 row:Row w v n it
 map:bj prog 3 w mb f m
 nb:M' v≠Z b
theorem aV:prog.underlying 3=Z (.int .i64):=underlying3
theorem Tryz.under51:Tryz.prog.underlying 144=Z (.map 3 3):=kQ
theorem mX (w:M):(zeroValue 3).run prog w=.ok (J 0) w:=kQ
theorem Rep.blocks {it:Nat->bt}(R:Rep w b mb v n it f m):b<G w.heap/\mb<G w.heap/\b≠mb/\∀g,M' v=Z g->g<G w.heap/\g≠b/\g≠mb:=by
 have k:b<G w.heap:=SZ w _ R.c0;refine⟨k,R.map.lt,?_,λ g a=>⟨?_,?_,?_⟩⟩;intro e;have h:=R.map.cell 0;rw[<- e,R.c0]at h;cases h;obtain⟨j,c,_⟩:=R.row;exact(c.lt g a).2;intro e;exact R.nb (by rw[a,e]);intro e;obtain⟨j,c,_⟩:=R.row;obtain⟨r,⟨q,d,l,_⟩,_⟩:=R.map;rcases c.2 with⟨rfl,_⟩|⟨p,cap,o,rfl,_,i,_⟩
 cases a;simp only[T7,Option.some.injEq]at a;rw[a,e,l]at i;cases i
theorem Rep.X' {it:Nat->bt}(R:Rep w b mb v n it f m)(a:ai F w I)(d:¬F b)(h:¬F mb)(e:∀g,M' v=Z g->¬F g):Rep I b mb v n it f m:=by
 have c:=R.blocks.1;exact⟨(a.cell (p:=O b 0) c d).trans R.c0,(a.cell (p:=O b 1) c d).trans R.c1,(a.frozen (p:=O b 0) c d).trans R.f0,R.row.X' a e,R.map.X' a h,R.nb⟩
theorem Rep.below {it:Nat->bt}(R:Rep w b mb v n it f m)(a:Bq w I):Rep I b mb v n it f m :=
 R.X' (F:=λ _=>False) (ai.Y' a) id id (λ _ _=>id)
theorem aA (h:w.mapTurned I b):ai (λ k=>k=b) w I :=
 (ai.refl _ w).grown h.grown (λ k a _=>by cases a;rfl)
theorem qN {it:Nat->bt}(i:Nat)(a s d:Int)(w:M)(R:Rep w b mb (.slice (Z (O g 0)) n cap) n it f m)(B:i<n)(hm:m<=1000000)(ha:(Lit.int .i64 a).wf=Q) :
  Zq 239 #[Pq b,J i,.agg #[J a,J s,J d]] w λ e I=>e=VJ (.tuple #[])/\Rep I b mb (.slice (Z (O g 0)) n cap) n (dV it i ⟨a,s,d⟩) (bQ f a (J i)) (if (f a).isSome then m else m+1)/\ai (λ k=>k=g\/k=mb) w I:=by
 obtain⟨y,ab,o,ZJ⟩:=R.blocks;obtain⟨hg,l,u⟩:=ZJ g rfl;obtain⟨L,H,f0,c,t,z⟩:=R;obtain⟨q1,q2,Y⟩:=c.cells B;have X:=c.free (i*3);have W:=c.free (i*3+1);have V:=c.free (i*3+2);have hj:(i:Int)<(n:Int):=U;have HW:∃j:M,j=(E (((C' w (O g (i*3)) (J a)).setCell (O g (i*3+1)) (J s)).setCell (O g (i*3+2)) (J d)) (VP #[J a,J s,J d] 328)).drew /\
   ai (λ k=>k=g) w j/\Row j (.slice (Z (O g 0)) n cap) n (dV it i ⟨a,s,d⟩)/\Cq j (G w.heap) 0 (J a)/\G j.heap=G w.heap+1:=by
  have K0:ai (λ k=>k=g) w (((C' w (O g (i*3)) (J a)).setCell (O g (i*3+1)) (J s)).setCell (O g (i*3+2)) (J d)) :=
   (((ai.refl (λ k=>k=g) w).setCell (p:=O g (i*3)) (λ _=>rfl) _).setCell (p:=O g (i*3+1)) (λ _=>rfl) _).setCell (p:=O g (i*3+2)) (λ _=>rfl) _
  refine⟨_,rfl,(K0.alloc _).drew,?_,?_,?_⟩
  ·exact(c.set B ⟨a,s,d⟩).X' (F:=λ _=>False) ((ai.refl _ _).alloc _).drew (λ _ _=>id)
  ·exact SR #[J a,J s,J d] 328 (G w.heap) 0 sQ
  ·simp
 obtain⟨j,C,r,N,q0,Yy⟩:=HW;have d1:=(r.cell (p:=O b 1) y (λ e=>l e.symm)).trans H;have v:bj prog 3 j.drew mb f m:=(t.X' r (λ e=>u e.symm)).kept rfl;obtain⟨T,Wo,S,P⟩:=v.store aV Tryz.under51 mQ ha (J i);have q:=aA P;have RR:Rep T b mb (.slice (Z (O g 0)) n cap) n (dV it i ⟨a,s,d⟩) (bQ f a (J i)) (if (f a).isSome then m else m+1):=by
  refine⟨?_,?_,?_,(N.X' (F:=λ _=>False) (ai.refl _ j).drew (λ _ _=>id)).X' q (λ x A=>?_),S,z⟩
  ·exact(q.cell (p:=O b 0) (by show b<G j.heap;omega) o).trans ((r.cell (p:=O b 0) y (λ e=>l e.symm)).trans L)
  ·exact(q.cell (p:=O b 1) (by show b<G j.heap;omega) o).trans d1
  ·exact(q.frozen (p:=O b 0) (by show b<G j.heap;omega) o).trans ((r.frozen (p:=O b 0) y (λ e=>l e.symm)).trans f0)
  ·simp only[T7,Option.some.injEq]at A;rw[<- A];exact u
 have KK:=(r.mono (λ _ _ h=>SQ h)).trans ((ai.refl (λ k=>k=mb) j).drew.trans q (λ _ _ h=>h)) (λ _ _ h=>SP h);clear r N v S P q t c z;go_enter func239,ntmps239;go_wp2;go_region;go_wp2;rw[<- C];clear C q1 q2 Y X W V L H f0;go_region;go_end0;exact⟨rfl,RR,KK⟩
theorem Ob (n:Int)(w:M)(b:-8388608<=n)(a:n<=8388608) :
  Eq9 289 #[J n] w (J (sqs n)):=by
 obtain⟨i,g⟩:=jO n b a;have c:-n*n=-(n*n):=Int.neg_mul n n;have f:-70368744177664<=-n*n:=U;have d:-n*n<=0:=U;clear c;by_cases h:n<0
 ·have e:sqs n=-n*n:=by unfold sqs;rw[Q5 h]
  rw[e];clear e;go_enter func289,ntmps289;go_wp2;go_ret;exact⟨rfl,rfl⟩
 ·have e:sqs n=n*n:=by unfold sqs;rw[Q6 h]
  rw[e];clear e;go_enter func289,ntmps289;go_wp2;go_ret;exact⟨rfl,rfl⟩
theorem rV (n:Int)(w:M) :
  Eq9 300 #[J n] w (.bool Vl):=by
 go_enter func300,ntmps300;go_wp2;go_ret;exact⟨rfl,rfl⟩
theorem LO (a b:Int)(w:M) :
  Eq9 288 #[J a,J b] w (J (fG a b)):=by
 by_cases h:a<b
 ·have e:fG a b=-1:=by unfold fG;rw[Q5 h]
  rw[e];clear e;go_enter func288,ntmps288;go_wp2_with (go_at_call 300;refine Q0 (rV _ _) ?_);go_ret;exact⟨rfl,rfl⟩
 ·by_cases c:b<a
  ·have e:fG a b=1:=(by unfold fG;rw[Q6 h,Q5 c]);rw[e];clear e;go_enter func288,ntmps288;go_wp2_with (go_at_call 300;refine Q0 (rV _ _) ?_);go_ret;exact⟨rfl,rfl⟩
  ·have e:fG a b=0:=(by unfold fG;rw[Q6 h,Q6 c]);rw[e];clear e;go_enter func288,ntmps288;go_wp2_with (go_at_call 300;refine Q0 (rV _ _) ?_);go_ret;exact⟨rfl,rfl⟩
theorem sO (s d t u:Int)(w:M)(h:okC s d)(k:okC t u) :
  Rq 265 #[.agg #[J s,J d],.agg #[J t,J u]] w (J (j6 s d t u)):=by
 obtain⟨m,l,j,i⟩:=h;obtain⟨g,f,c,a⟩:=k;have b:=Pr (u-d) U U;go_enter func265,ntmps265;go_wp2_with (first|(go_at_call 289;refine(Ob _ _ ?_ ?_).mono ?_;(omega);(omega);rintro e I ⟨rfl,rfl⟩)|(go_at_call 288;refine Q0 (LO _ _ _) ?_));go_ret;exact⟨rfl,(ae.alloc aa _).alloc sQ _⟩
theorem LP (s d t u:Int)(w:M)(h:okC s d)(k:okC t u) :
  Rq 243 #[.agg #[J s,J d],.agg #[J t,J u]] w (.bool (decide (j6 s d t u<0))):=by
 go_enter func243,ntmps243;go_wp2_with (go_at_call 265;refine Q9 (sO s d t u _ h k) λ I a=>?_);go_ret;exact⟨rfl,(ae.alloc aa _).alloc sQ _ |>.trans (a.mono sU)⟩
theorem lV {r:Bool}(a:ltB s d t u=r)(w:M)(h:okC s d)(k:okC t u) :
  Rq 243 #[.agg #[J s,J d],.agg #[J t,J u]] w (.bool r):=a▸LP s d t u w h k
theorem Il {r:Int}(a:j6 s d t u=r)(w:M)(h:okC s d)(k:okC t u) :
  Rq 265 #[.agg #[J s,J d],.agg #[J t,J u]] w (J r):=a▸sO s d t u w h k
def pL (x y:bt):Bool:=decide (x.v<y.v) || (decide (x.v=y.v)&&decide (x.id<y.id))
theorem va (x y:bt):pL x y=Q↔bef x y:=by
 unfold pL bef;simp
theorem xO {x y:bt}(h:bef x y):pL x y=true:=(va x y).mpr h
theorem DM {x y:bt}(h:¬bef x y):pL x y=false:=by
 cases e:pL x y with
 |false=>rfl
 |true=>exact Q8 ((va x y).mp e) h
theorem FL {x y:bt}(h:pL x y=Q):bef x y:=(va x y).mp h
theorem pa {x y:bt}(h:pL x y=Vl):¬bef x y:=λ k=>by rw[xO k]at h;cases h
theorem LQ (i:Nat)(w:M)(h:0<i)(c:i<=1000000):Eq9 299 #[J i] w (J (upN i)):=by
 have e:((upN i:Nat):Int)=((i:Int)-1)/2:=by unfold upN;omega
 have b:(1:Int)<=(i:Int):=U;have a:(i:Int)<=1000000:=U;rw[e];go_enter func299,ntmps299;go_wp2;go_ret;exact⟨rfl,rfl⟩
theorem DN {it:Nat->bt}(i j:Nat)(w:M)(R:Rep w b mb (.slice (Z (O g 0)) n cap) n it f m)(B:i<n)(A:j<n)(p:okC (it i).s (it i).d)(o:okC (it j).s (it j).d) :
  Rq 287 #[Pq b,J i,J j] w (.bool (pL (it i) (it j))):=by
 obtain⟨hb,z,H,t⟩:=R.blocks;obtain⟨hg,F,C⟩:=t g rfl;obtain⟨c0,c1,f0,a,k,u⟩:=R;obtain⟨X,W,V⟩:=a.cells B;obtain⟨p1,p2,Y⟩:=a.cells A;have h1:(i:Int)<(n:Int):=U;have h2:(j:Int)<(n:Int):=U;have q:=ka (it i).s (it i).d (it j).s (it j).d p o;have P:(j6 (it i).s (it i).d (it j).s (it j).d=-1/\pL (it i) (it j)=Q)\/(j6 (it i).s (it i).d (it j).s (it j).d=1/\pL (it i) (it j)=Vl) \/
   (j6 (it i).s (it i).d (it j).s (it j).d=0/\pL (it i) (it j)=decide ((it i).id<(it j).id)):=by
  have N:j6 (it i).s (it i).d (it j).s (it j).d=if (it i).v<(it j).v then -1 else if (it j).v<(it i).v then 1 else 0:=q
  rw[N];by_cases h:(it i).v<(it j).v
  ·left;exact⟨Q5 h,xO (SQ h)⟩
  ·by_cases r:(it j).v<(it i).v
   ·right;left;exact⟨by rw[Q6 h,Q5 r],DM (by unfold bef;omega)⟩
   ·right;right;refine⟨by rw[Q6 h,Q6 r],?_⟩;have L:(it i).v=(it j).v:=U;unfold pL;simp[L]
 clear k a u q t;generalize (it i).id=ia at *;generalize (it i).s=T at *;generalize (it i).d=da at *;generalize (it j).id=ib at *;generalize (it j).s=S at *;generalize (it j).d=db at *;rcases P with⟨l,e⟩|⟨l,e⟩|⟨l,e⟩
 all_goals
  rw[e];clear e;go_enter func287,ntmps287;go_wp2;go_region
  all_goals
   go_wp2_with (go_at_call 265;refine Q9 (Il l _ p o) λ I c=>?_;obtain⟨y,x⟩:=Jk c);go_ret;exact⟨rfl,Below.trans (((ae.drew).alloc aa _).alloc sQ _) (c.mono sU)⟩
theorem ai.two (h:ai F w I)(n:Nat)(a:n+1+1<=G w.heap)(b:∀k,n<=k->¬F k) :
  (∀o,D I (O n o)=D w (O n o))/\(∀o,D I (O (n+1) o)=D w (O (n+1) o)):=by grind [ai.cell]
theorem LR {b mb g cap n m:Nat}{it:Nat->bt}{f:Int->Option Vr}(i j:Nat)(w:M)(R:Rep w b mb (.slice (Z (O g 0)) n cap) n it f m)(L:i<n)(H:j<n)(C:m<=1000000)
  (ki:(Lit.int .i64 (it i).id).wf=Q) (kj:(Lit.int .i64 (it j).id).wf=Q) (S:(f (it i).id).isSome=Q) (P:(f (it j).id).isSome=Q) :
  Zq 264 #[Pq b,J i,J j] w λ e I=>e=VJ (.tuple #[])/\Rep I b mb (.slice (Z (O g 0)) n cap) n (swI it i j) (bQ (bQ f (it j).id (J i)) (it i).id (J j)) m/\ai (λ k=>k=g\/k=mb) w I:=by
 obtain⟨hb,ad,an,Y⟩:=R.blocks;obtain⟨hg,am,ag⟩:=Y g rfl;have R0:=R;obtain⟨c0,c1,f0,a,q,nb⟩:=R;obtain⟨q1,q2,q3⟩:=a.cells L;obtain⟨p1,p2,p3⟩:=a.cells H;have h1:(i:Int)<(n:Int):=U;have h2:(j:Int)<(n:Int):=U;have B:=Nh it i j;rw[B];have V:(if (f (it j).id).isSome then m else m+1)=m:=Q5 P;have c:(bQ f (it j).id (J i) (it i).id).isSome=true:=by
  unfold bQ;split
  ·rfl
  ·exact S
 have T:(if (bQ f (it j).id (J i) (it i).id).isSome then m else m+1)=m:=Q5 c;have p:=λ w R=>qN (b:=b) (mb:=mb) (g:=g) (cap:=cap) (n:=n) (m:=m) (it:=it) (f:=f) i (it j).id (it j).s (it j).d w R L C kj;have o:=λ w R=>qN (b:=b) (mb:=mb) (g:=g) (cap:=cap) (n:=n) (m:=m) (it:=dV it i (it j)) (f:=bQ f (it j).id (J i)) j (it i).id (it i).s (it i).d w R H C ki;rw[V]at p;rw[T]at o;have N:∀I,Bq w I->Rep I b mb (.slice (Z (O g 0)) n cap) n it f m:=λ I h=>R0.below h;clear q a nb Y S P c V T B R0;have u:dV it i ⟨(it j).id,(it j).s,(it j).d⟩=dV it i (it j):=rfl;have t:dV (dV it i (it j)) j ⟨(it i).id,(it i).s,(it i).d⟩=dV (dV it i (it j)) j (it i):=rfl;rw[u]at p;rw[t]at o;generalize dV (dV it i (it j)) j (it i)=ab at *;generalize dV it i (it j)=ac at *;generalize (it i).id=r at *;generalize (it i).s=A at *;generalize (it i).d=X at *;generalize (it j).id=l at *;generalize (it j).s=z at *;generalize (it j).d=W at *;generalize bQ (bQ f l (VN VO i)) r (VN VO j)=f2 at *;generalize bQ f l (VN VO i)=f1 at *;go_enter func264,ntmps264;go_wp2;go_region
 all_goals
  go_wp2_with (go_at_call 239;fail);have y:Bq w (((E w (VP #[J r,J A,J X] 328)).alloc (VP #[J l,J z,J W] 328)).drew):=((ae.alloc aa _).alloc sQ _).drew;have v:Bq w (((E w (VP #[J l,J z,J W] 328)).alloc (VP #[J r,J A,J X] 328)).drew):=((ae.alloc aa _).alloc sQ _).drew;refine(p _ (N _ (by first|exact y|exact v))).mono ?_;rintro e w1 ⟨rfl,R1,x⟩;obtain⟨k1,k2⟩:=x.two (G w.heap) sQ (λ k hk=>U);have KA:=(ai.Y' (F:=λ k=>k=g\/k=mb) (show Bq w _ by first|exact y|exact v)).trans x (λ _ _ h=>h);clear x y v N p;go_wp2_with (go_at_call 239;fail);refine(o _ R1).mono ?_;rintro e w2 ⟨rfl,R2,K2⟩;have KB:=KA.trans K2 (λ _ _ h=>h);clear KA K2 R1 o k1 k2;go_wp2;go_end0;exact⟨rfl,R2,KB⟩
structure AtF (it:Nat->bt) (n:Nat) (f:Int->Option Vr):Prop where
 at':∀i,i<n->f (it i).id=Z (J i)
 of:∀a v,f a=Z v->∃i,i<n/\(it i).id=a/\v=J i
theorem AtF.apart {it:Nat->bt}(h:AtF it n f):EC it n:=by grind [EC,AtF.at',Option.some.injEq,Go.Value.int.injEq]
theorem AtF.sw {it:Nat->bt}(h:AtF it n f)(p:i<n)(o:j<n):AtF (swI it i j) n (bQ (bQ f (it j).id (J i)) (it i).id (J j)):=by
 have g:=h.apart;refine⟨λ k b=>?_,λ a v d=>?_⟩;by_cases m:k=j
 grind [sd,cF]
 by_cases c:k=i;subst c;rw[mh,du _ _ (λ e=>m (g k j b o e.symm)),cF];rw[j8 it c m,du _ _ (λ e=>c (g k i b p e)),du _ _ (λ e=>m (g k j b o e))];exact h.at' k b;unfold bQ at d;split at d
 grind [sd]
 rename_i e
 split at d
 grind [mh]
 rename_i c
 obtain⟨k,b,l,r⟩:=h.of a v d;refine⟨k,b,?_,r⟩;rw[j8 it (λ q=>e (by rw[<- l,q])) (λ q=>c (by rw[<- l,q]))];exact l
structure HS (w:M) (b mb:Nat) (v:Vr) (n:Nat) (it:Nat->bt) (f:Int->Option Vr) (H:Int->Oi):Prop where
 rep:Rep w b mb v n it f n
 atf:AtF it n f
 wf:∀i,i<n->(Lit.int .i64 (it i).id).wf=Q
 ok:∀i,i<n->okC (it i).s (it i).d
 holds:Holds it n H
 bd:n<=1000000
theorem HS.sw {it:Nat->bt}{H:Int->Oi}(S:HS w b mb v n it f H)(h:i<n)(g:j<n)
  (R:Rep I b mb v n (swI it i j) (bQ (bQ f (it j).id (J i)) (it i).id (J j)) n):HS I b mb v n (swI it i j) (bQ (bQ f (it j).id (J i)) (it i).id (J j)) H:=by
 have a:∀k,k<n->∃m,m<n/\swI it i j k=it m:=by grind [mh,sd,j8]
 refine⟨R,S.atf.sw h g,λ k d=>?_,λ k d=>?_,S.holds.sw h g,S.bd⟩;obtain⟨m,c,e⟩:=a k d;rw[e];exact S.wf m c;obtain⟨m,c,e⟩:=a k d;rw[e];exact S.ok m c
theorem HS.below {it:Nat->bt}{H:Int->Oi}(S:HS w b mb v n it f H)(a:Bq w I):HS I b mb v n it f H :=
 ⟨S.rep.below a,S.atf,S.wf,S.ok,S.holds,S.bd⟩
theorem qO {it:Nat->bt}{r:Bool}(e:pL (it i) (it j)=r)(w:M)(R:Rep w b mb (.slice (Z (O g 0)) n cap) n it f m)(k:i<n)(h:j<n)(c:okC (it i).s (it i).d)(a:okC (it j).s (it j).d) :
  Rq 287 #[Pq b,J i,J j] w (.bool r):=e▸DN i j w R k h c a
theorem HS.swap {it:Nat->bt}{H:Int->Oi}(w:M)(S:HS w b mb (.slice (Z (O g 0)) n cap) n it f H)(c:i<n)(a:j<n) :
  Zq 264 #[Pq b,J i,J j] w λ e I=>e=VJ (.tuple #[])/\(∃h,HS I b mb (.slice (Z (O g 0)) n cap) n (swI it i j) h H)/\ai (λ k=>k=g\/k=mb) w I :=
 (LR i j w S.rep c a S.bd (S.wf i c) (S.wf j a) (by rw[S.atf.at' i c];rfl) (by rw[S.atf.at' j a];rfl)).mono λ _ _ ⟨d,R,l⟩=>⟨d,⟨_,S.sw c a R⟩,l⟩
theorem Bg {it:Nat->bt}{H:Int->Oi}(w:M)(S:HS w b mb (.slice (Z (O g 0)) n cap) n it f H)(y:fC it n i) :
  Zq 286 #[Pq b,J i] w λ e I=>e=VJ (.tuple #[])/\(∃c m,HS I b mb (.slice (Z (O g 0)) n cap) n c m H/\Ord c n)/\ai (λ k=>k=g\/k=mb) w I:=by
 go_enter func286,ntmps286;go_wp2;go_loopw [1] (λ x wr=>∃(k:Nat) (c:Nat->bt) (m:Int->Option Vr),x=J k/\HS wr b mb (.slice (Z (O g 0)) n cap) n c m H/\fC c n k/\ai (λ k=>k=g\/k=mb) w wr) (λ x _=>(intOf x).toNat)
 case atStart=>exact⟨i,it,f,rfl,S,y,ai.refl _ _⟩
 case round =>
  obtain⟨k,c,m,rfl,d,j,t⟩:=hrel;have p:=j.lt;have N:=d.bd;by_cases A:k=0
  ·subst A;have s:=j.done (SQ rfl);go_wp2;go_end0;exact⟨rfl,⟨c,m,d,s⟩,t⟩
  ·have o:upN k<n:=(by unfold upN;omega);have v:upN k<k:=(by unfold upN;omega);have z:(1:Int)<=(k:Int):=U;have l:0<k:=U;cases q:pL (c k) (c (upN k)) with
   |false =>
    have s:=j.done (SP (pa q));go_wp2_with (first|(go_at_call 299;refine Q0 (LQ k _ l U) ?_)|(go_at_call 287;refine Q9 (qO q _ d.rep p o (d.ok k p) (d.ok _ o)) λ u a=>?_));go_end0;exact⟨rfl,⟨c,m,d.below a,s⟩,t.below a⟩
   |true =>
    have r:=j.step l (FL q);go_wp2_with (first|(go_at_call 299;refine Q0 (LQ k _ l U) ?_)|(go_at_call 287;refine Q9 (qO q _ d.rep p o (d.ok k p) (d.ok _ o)) λ u a=>?_)|(go_at_call 264;refine((d.below a).swap _ p o).mono ?_;rintro e L ⟨rfl,⟨f2,B⟩,F⟩));have C:=(t.below a).trans F (λ _ _ h=>h);go_roundw
    case rel=>exact⟨upN k,_,f2,rfl,B,r,C⟩
    case measure=>simp[intOf];omega
theorem vc {it:Nat->bt}{H:Int->Oi}(w:M)(S:HS w b mb (.slice (Z (O g 0)) n cap) n it f H)(R:i<n) :
  Zq 263 #[Pq b,J i] w λ e I=>(∃m,e=VJ (J (m:Nat))/\nP it n i m)/\Bq w I:=by
 have Y:=S.bd;go_enter func263,ntmps263;go_wp2;go_loopw [5,6] (λ x y wr=>∃m k:Nat,x=J m/\y=J k/\2*i+1<=k/\k<=2*i+3/\m<n/\(m=i\/(2*i+1<=m/\m<k))/\¬bef (it i) (it m)/\(∀j,2*i+1<=j->j<k->j<n->¬bef (it j) (it m))/\Bq w wr) (λ _ y _=>2*i+3-(intOf y).toNat)
 case atStart=>exact⟨i,2*i+1,rfl,gQ,U,U,R,SQ rfl,pk _,λ j _ _ _=>U,ae⟩
 case round =>
  obtain⟨m,k,rfl,rfl,L,T,a,V,p,r,l⟩:=hrel;have d:=S.below l;have X:=d.rep.c0;by_cases W:k<=2*i+2
  ·have z:(k:Int)<=2*(i:Int)+2:=U;by_cases h:k<n
   ·have v:(k:Int)<(n:Int):=U;cases q:pL (it k) (it m) with
    |false =>
     go_wp2_with (go_at_call 287;refine Q9 (qO q _ d.rep h a (d.ok k h) (d.ok m a)) λ C c=>?_);have A:=aj l c;go_roundw
     case rel =>
      refine⟨m,k+1,rfl,gQ,U,U,a,?_,p,λ j u N t=>?_,A⟩
      ·omega
      ·by_cases e:j=k
       ·subst e;exact pa q
       ·exact r j u U t
     case measure=>simp[intOf];omega
    |true =>
     have B:=rq (FL q);go_wp2_with (go_at_call 287;refine Q9 (qO q _ d.rep h a (d.ok k h) (d.ok m a)) λ C c=>?_);have A:=aj l c;go_roundw
     case rel =>
      refine⟨k,k+1,rfl,gQ,U,U,h,SP ⟨L,U⟩,gM B p,λ j u N t=>?_,A⟩;by_cases e:j=k
      ·subst e;exact pk _
      ·exact gM B (r j u U t)
     case measure=>simp[intOf];omega
   ·have v:¬(k:Int)<(n:Int):=U;have F:nP it n i m:=⟨a,U,p,λ j P s o=>r j (by unfold upN at o;omega) U s⟩;go_wp2;go_ret;exact⟨⟨m,rfl,F⟩,l⟩
  ·have z:¬(k:Int)<=2*(i:Int)+2:=U;have F:nP it n i m:=⟨a,U,p,λ j P s o=>r j (by unfold upN at o;omega) (by unfold upN at o;omega) s⟩;go_wp2;go_ret;exact⟨⟨m,rfl,F⟩,l⟩
theorem LS {it:Nat->bt}{H:Int->Oi}(w:M)(S:HS w b mb (.slice (Z (O g 0)) n cap) n it f H)(y:i<n)(u:fR it n i) :
  Zq 240 #[Pq b,J i] w λ e I=>e=VJ (.tuple #[])/\(∃a j,HS I b mb (.slice (Z (O g 0)) n cap) n a j H/\Ord a n)/\ai (λ k=>k=g\/k=mb) w I:=by
 go_enter func240,ntmps240;go_wp2;go_loopw [1] (λ x wr=>∃(k:Nat) (a:Nat->bt) (j:Int->Option Vr),x=J k/\k<n/\HS wr b mb (.slice (Z (O g 0)) n cap) n a j H/\fR a n k/\ai (λ k=>k=g\/k=mb) w wr) (λ x _=>n-(intOf x).toNat)
 case atStart=>exact⟨i,it,f,rfl,y,S,u,ai.refl _ _⟩
 case round =>
  obtain⟨k,a,j,rfl,q,o,c,s⟩:=hrel;go_wp2_with fail;refine(vc _ o q).mono ?_;rintro e P ⟨⟨m,rfl,F⟩,d⟩;have p:=F.lt;have r:=o.below d;have t:=s.below d;clear S o s;by_cases e:m=k
  ·subst e;have A:=c.done F;go_wp2;exact Vxl (v:=.tuple #[]) (by simp[results,results240,go_sem]) rfl ⟨rfl,⟨a,j,r,A⟩,t⟩
  ·have l:=c.step F e;have z:k<m:=(by have:=F.who;omega);have R:((m:Int)==(k:Int))=false:=(by simp;omega);go_wp2_with (go_at_call 264;refine(r.swap _ q p).mono ?_;rintro e N ⟨rfl,⟨f2,B⟩,L⟩);have C:=t.trans L (λ _ _ h=>h);go_roundw
   case rel=>exact⟨m,_,f2,rfl,p,B,l,C⟩
   case measure=>simp[intOf];omega
structure cq (w:M) (b mb:Nat) (v:Vr) (n:Nat) (H:Int->Oi):Prop where
 ex:∃it f,HS w b mb v n it f H/\Ord it n
theorem cq.below {H:Int->Oi}(h:cq w b mb v n H)(c:Bq w I):cq I b mb v n H:=by
 obtain⟨a,f,S,d⟩:=h.ex;exact⟨a,f,S.below c,d⟩
theorem cq.X' {H:Int->Oi}(h:cq w b mb v n H)(c:ai F w I)(i:¬F b)(e:¬F mb)(d:∀g,M' v=Z g->¬F g):cq I b mb v n H:=by
 obtain⟨a,f,S,j⟩:=h.ex;exact⟨a,f,⟨S.rep.X' c i e d,S.atf,S.wf,S.ok,S.holds,S.bd⟩,j⟩
theorem cq.blocks {H:Int->Oi}(h:cq w b mb v n H):b<G w.heap/\mb<G w.heap/\∀g,M' v=Z g->g<G w.heap:=by
 obtain⟨c,f,S,d⟩:=h.ex;have:=S.rep.blocks;exact⟨this.1,this.2.1,λ g a=>(this.2.2.2 g a).1⟩
theorem cq.empty {H:Int->Oi}(h:cq w b mb v 0 H)(a:Int):H a=none:=by
 obtain⟨g,f,S,k⟩:=h.ex;cases e:H a with
 |none=>rfl
 |some c =>
  obtain⟨s,d⟩:=c;obtain⟨i,j,_⟩:=(S.holds a s d).mp e;omega
theorem cq.fits {H:Int->Oi}(h:cq w b mb v n H){a s d:Int}(k:H a=Z (s,d)):okC s d/\(Lit.int .i64 a).wf=Q/\0<n:=by
 obtain⟨l,f,S,m⟩:=h.ex;obtain⟨i,c,e⟩:=(S.holds a s d).mp k;have j:=S.ok i c;have g:=S.wf i c;rw[e]at j g;exact⟨j,g,U⟩
theorem Row.nil (w:M)(it:Nat->bt):Row w (.slice UP 0 0) 0 it:=⟨[],World.ownsRow_nil w 0 328 3,λ i a=>U⟩
theorem FM (w:M):Zq 235 #[] w λ e I=>e=VJ (Pq (G w.heap+1))/\cq I (G w.heap+1) (G w.heap) (.slice UP 0 0) 0 (λ _=>UP)/\Bq w I/\G I.heap=G w.heap+2:=by
 have c:=@run_makeMap prog;go_enter func235,ntmps235;go_wp2;go_ret;have f:Bq w ((E w (.map #[] 0)).alloc (VP #[.slice UP 0 0,.map (Z (G w.heap))] 326)):=(ae.alloc aa _).alloc sQ _;refine⟨rfl,⟨λ _=>⟨0,0,0⟩,λ _=>UP,⟨⟨?_,?_,?_,Row.nil _ _,?_,by simp[T7]⟩,⟨λ i b=>U,λ a v h=>(by cases h)⟩,λ i b=>U,λ i b=>U,λ a s d=>⟨λ h=>(by cases h),λ ⟨i,b,_⟩=>U⟩,U⟩,λ j _ g=>U⟩,f,by simp⟩
 ·exact SR #[.slice UP 0 0,.map (Z (G w.heap))] 326 (G w.heap+1) 0 sQ
 ·exact SR #[.slice UP 0 0,.map (Z (G w.heap))] 326 (G w.heap+1) 1 sQ
 ·rw[frozen?_alloc_cells];simp[Vf]
 ·exact(bj.made w prog 3).X' (F:=λ _=>False) ((ai.refl _ _).alloc _) id
theorem HS.mem {it:Nat->bt}{H:Int->Oi}(S:HS w b mb v n it f H){a:Int}(d:H a=UP):f a=none:=by
 cases e:f a with
 |none=>rfl
 |some v =>
  obtain⟨i,c,g,_⟩:=S.atf.of a v e;exact Q8 g (S.holds.gone d i c)
theorem AtF.last {it:Nat->bt}(h:AtF it n f){x:bt}(c:f x.id=UP):AtF (dV it n x) (n+1) (bQ f x.id (J n)):=by
 refine⟨λ k d=>?_,λ a v b=>?_⟩;by_cases j:k=n
 grind [dD,cF]
 rw[cD it x j,du _ _ (λ e=>by rw[<- e,h.at' k U]at c;cases c)];exact h.at' k U;unfold bQ at b;split at b
 grind [dD]
 obtain⟨k,d,i,g⟩:=h.of a v b;exact⟨k,U,by rw[cD it x U];exact i,g⟩
theorem AtF.same {it:Nat->bt}(h:AtF it n f)(m:i<n){x:bt}(d:(it i).id=x.id):AtF (dV it i x) n (bQ f x.id (J i)):=by
 have l:=h.apart;refine⟨λ k b=>?_,λ a v c=>?_⟩;by_cases j:k=i
 grind [dD,cF]
 rw[cD it x j,du _ _ (λ e=>j (l k i b m (by rw[d];exact e)))];exact h.at' k b;unfold bQ at c;split at c
 grind [dD]
 rename_i e
 obtain⟨k,b,g,o⟩:=h.of a v c;refine⟨k,b,?_,o⟩;rw[cD it x (λ q=>e (by rw[<- g,q,d]))];exact g
theorem fg (h:okC s d)(k:okC t u):ltB s d t u=Q↔val s d<val t u:=by grind [ltB,ka,pY]
theorem Im (h:okC s d)(k:okC t u)(a:¬val s d<val t u):ltB s d t u=false:=by
 cases e:ltB s d t u with
 |false=>rfl
 |true=>exact Q8 ((fg h k).mp e) a
theorem Oc {H:Int->Oi}(a s d t u:Int)(w:M)(h:cq w b mb v n H)(A:H a=Z (t,u))(z:okC s d)(B:¬val s d<val t u) :
  Rq 262 #[Pq b,J a,.agg #[J s,J d]] w (.bool Vl):=by
 obtain⟨W,f,S,L⟩:=h.ex;obtain⟨i,k,e⟩:=(S.holds a t u).mp A;obtain⟨g,cap,rfl,_,_,r⟩:=S.rep.row.pos U;obtain⟨q,m,l⟩:=S.rep.row.cells k;have o:=S.ok i k;rw[e]at q m l o;have I:=Im z o B;have F:=S.rep.c0;have c1:=S.rep.c1;have C:=S.rep.blocks.1;have c:=S.wf i k;rw[e]at c;have y:=S.atf.at' i k;rw[e]at y;have j:Bq w (E w (VP #[J s,J d] 90)):=(Below.refl _ w).alloc aa _;have X:=((S.rep.below j).map).Ui aV Tryz.under51 (mX _) c y Q;have Y:(i:Int)<(n:Int):=U;have V:∀x:cJ (E w (VP #[J s,J d] 90)),Cq x.u (G w.heap) 0 (J s):=λ x=>(x.cell _ _ sQ).trans (SR #[J s,J d] 90 (G w.heap) 0 rfl);have T:∀x:cJ (E w (VP #[J s,J d] 90)),Cq x.u (G w.heap) 1 (J d):=λ x=>(x.cell _ _ sQ).trans (SR #[J s,J d] 90 (G w.heap) 1 rfl);have R:∀x:cJ (E w (VP #[J s,J d] 90)),Cq x.u b 0 (.slice (Z (O g 0)) n cap):=λ x=>(x.cell _ _ sU).trans ((j.cell (p:=O b 0) C).trans F);have P:∀x:cJ (E w (VP #[J s,J d] 90)),Cq x.u g (i*3+1) (J t):=λ x=>(x.cell _ _ sU).trans ((j.cell (p:=O g (i*3+1)) r).trans m);have N:∀x:cJ (E w (VP #[J s,J d] 90)),Cq x.u g (i*3+2) (J u):=λ x=>(x.cell _ _ sU).trans ((j.cell (p:=O g (i*3+2)) r).trans l);have VY:=gB (E w (VP #[J s,J d] 90));clear S L h e A q m l;go_enter func262,ntmps262;go_wp2;refine bF kQ kQ ?_
 repeat (go_big_quiet_step ((go_at_call 243;exact Calls.Vxe (lV I _ z o))))
 refine Vza ?_;rintro _ ⟨x,rfl⟩;go_wp2;go_ret;exact⟨rfl,j.trans (x.h.mono sQ)⟩
def hb3 (b mb:Nat) (v:Vr) (k:Nat):Prop:=k=b\/k=mb\/M' v=Z k
theorem Io {b mb n:Nat}{H:Int->Oi}(a s d t u:Int)(w:M)(h:cq w b mb v n H)(W:H a=Z (t,u))(B:okC s d)(hn:val s d<val t u) :
  Zq 262 #[Pq b,J a,.agg #[J s,J d]] w λ e I=>e=VJ (.bool Q)/\cq I b mb v n (aC H a s d)/\ai (hb3 b mb v) w I:=by
 obtain⟨j,f,S,O9⟩:=h.ex;obtain⟨i,l,e⟩:=(S.holds a t u).mp W;obtain⟨g,cap,rfl,_,_,V⟩:=S.rep.row.pos U;obtain⟨T,A,z⟩:=S.rep.row.cells l;have o:=S.ok i l;have XX:fC (dV j i ⟨a,s,d⟩) n i:=fC.less O9 l ⟨a,s,d⟩ (by rw[e];unfold bef bt.v;simp only;omega);rw[e]at T A z o;have VS:=(fg B o).mpr hn;have c0:=S.rep.c0;have c1:=S.rep.c1;have hb:=S.rep.blocks.1;have c:=S.wf i l;rw[e]at c;have y:=S.atf.at' i l;rw[e]at y;have q:Bq w (E w (VP #[J s,J d] 90)):=(Below.refl _ w).alloc aa _;have hl:=((S.rep.below q).map).Ui aV Tryz.under51 (mX _) c y Q;have h1:(i:Int)<(n:Int):=U;have P:∀x:cJ (E w (VP #[J s,J d] 90)),Cq x.u (G w.heap) 0 (J s):=λ x=>(x.cell _ _ sQ).trans (SR #[J s,J d] 90 (G w.heap) 0 rfl);have N:∀x:cJ (E w (VP #[J s,J d] 90)),Cq x.u (G w.heap) 1 (J d):=λ x=>(x.cell _ _ sQ).trans (SR #[J s,J d] 90 (G w.heap) 1 rfl);have s2:∀x:cJ (E w (VP #[J s,J d] 90)),Cq x.u b 0 (.slice (Z (O g 0)) n cap):=λ x=>(x.cell _ _ sU).trans ((q.cell (p:=O b 0) hb).trans c0);have s3:∀x:cJ (E w (VP #[J s,J d] 90)),Cq x.u g (i*3+1) (J t):=λ x=>(x.cell _ _ sU).trans ((q.cell (p:=O g (i*3+1)) V).trans A);have s4:∀x:cJ (E w (VP #[J s,J d] 90)),Cq x.u g (i*3+2) (J u):=λ x=>(x.cell _ _ sU).trans ((q.cell (p:=O g (i*3+2)) V).trans z);have VY:=gB (E w (VP #[J s,J d] 90));have X:(if (f a).isSome then n else n+1)=n:=by rw[y];rfl
 have L:=λ w R=>qN (b:=b) (mb:=mb) (g:=g) (cap:=cap) (n:=n) (m:=n) (it:=j) (f:=f) i a s d w R l S.bd c;rw[X]at L;have Yw:∀I,Rep I b mb (.slice (Z (O g 0)) n cap) n (dV j i ⟨a,s,d⟩) (bQ f a (J i)) n->HS I b mb (.slice (Z (O g 0)) n cap) n (dV j i ⟨a,s,d⟩) (bQ f a (J i)) (aC H a s d):=by
  intro I R;have Y:(j i).id=a:=by rw[e]
  refine⟨R,S.atf.same l (x:=⟨a,s,d⟩) Y,λ k o=>?_,λ k o=>?_,S.holds.same S.atf.apart l Y,S.bd⟩
  ·by_cases r:k=i
   ·subst r;rw[dD];exact c
   ·rw[cD j _ r];exact S.wf k o
  ·by_cases r:k=i
   ·subst r;rw[dD];exact B
   ·rw[cD j _ r];exact S.ok k o
 have RB:∀I,Bq w I->Rep I b mb (.slice (Z (O g 0)) n cap) n j f n:=λ I h=>S.rep.below h;clear S O9 h e W T A z y X;go_enter func262,ntmps262;go_wp2;refine bF kQ kQ ?_
 repeat (go_big_quiet_step ((go_at_call 243;exact Calls.Vxe (lV VS _ B o))))
 refine Vza ?_;rintro _ ⟨x,rfl⟩;have C:Bq w x.u:=q.trans (x.h.mono sQ);have t0:=P x;have t1:=N x;clear P N s2 s3 s4 VY;go_wp2_with fail;refine(L _ (RB _ C)).mono ?_;rintro e w1 ⟨rfl,R1,K1⟩;have S1:=Yw _ R1;go_wp2_with fail;refine(Bg _ S1 XX).mono ?_;rintro e w2 ⟨rfl,⟨Za,f',S2,O2⟩,K2⟩;have KK:ai (hb3 b mb (.slice (Z (O g 0)) n cap)) w w2:=by
  have k1:=(ai.Y' (F:=λ k=>k=g\/k=mb) C).trans K1 (λ _ _ h=>h);have k2:=k1.trans K2 (λ _ _ h=>h);refine k2.mono (λ i _ h=>?_);rcases h with rfl|rfl
  ·exact SP (SP rfl)
  ·exact SP (SQ rfl)
 clear K1 K2 R1 S1 C q L RB Yw;go_wp2;go_ret;exact⟨rfl,⟨Za,f',S2,O2⟩,KK⟩
theorem Tryz.info56:(Tryz.prog.info? 328).map (λ i=>(i.zero,i.size,i.bytes))=Z (Z (.agg #[J 0,J 0,J 0]),3,24):=kQ
theorem Tryz.under52:Tryz.prog.underlying 324=Z (.slice 328):=kQ
theorem vf (w:M)(x y z:Vr)(t:Vyk):∀j u,[x,y,z][j]? = Z u->D (E w (VP #[x,y,z] t)) ((O (G w.heap) 0:Addr).add j)=Z u:=by
 intro j u a
 match j,a with
 |0,a=>simp at a;subst a;simp[Addr.add]
 |1,a=>simp at a;subst a;simp[Addr.add]
 |2,a=>simp at a;subst a;simp[Addr.add]
theorem Ip {a:Vr}{it:Nat->bt}{xs:List Vr}(c:G' w 0 328 3 v n xs)(f:∀i,i<n->xs[i*3]? = Z (J (it i).id)/\xs[i*3+1]? = Z (J (it i).s)/\xs[i*3+2]? = Z (J (it i).d))
  (b:G' I 0 328 3 a (n+1) (xs++[J 0,J 0,J 0])):Row I a (n+1) (dV it n ⟨0,0,0⟩):=by
 have g:K xs=n*3:=c.1;refine⟨_,b,λ i h=>?_⟩;by_cases e:i=n;subst e;rw[dD];refine⟨?_,?_,?_⟩
 grind
 grind
 grind
 grind [cD,List.getElem?_append_left]
theorem DO (it:Nat->bt)(i:Nat)(x y:bt):dV (dV it i x) i y=dV it i y:=by
 funext k;unfold dV;split<;>rfl
theorem Bh {b mb n:Nat}{H:Int->Oi}(a s d:Int)(w:M)(h:cq w b mb v n H)(ha:H a=UP)(hc:okC s d)(B:(Lit.int .i64 a).wf=Q)(hn:n<1000000) :
  Zq 262 #[Pq b,J a,.agg #[J s,J d]] w λ e I=>e=VJ (.bool Q)/\(∃Y,cq I b mb Y (n+1) (aC H a s d)/\(M' Y=M' v\/∃g,M' Y=Z g/\G w.heap<=g))/\ai (hb3 b mb v) w I:=by
 obtain⟨i0,ab,VZ,Wa,Wc⟩:=info_parts Tryz.info56;obtain⟨z,f,S,O9⟩:=h.ex;obtain⟨V,ax,ac,ZJ⟩:=S.rep.blocks;have c0:=S.rep.c0;have c1:=S.rep.c1;have f0:=S.rep.f0;have hf:=S.mem ha;obtain⟨xs,l,P⟩:=S.rep.row;have hv:∃A cap,v=.slice A n cap:=by
  rcases l.2 with⟨rfl,rfl⟩|⟨g,cap,aL,rfl,_⟩
  ·exact⟨_,_,rfl⟩
  ·exact⟨_,_,rfl⟩
 obtain⟨A,cap,rfl⟩:=hv;have YO:Bq w (E w (VP #[J s,J d] 90)):=(Below.refl _ w).alloc aa _;have hl:=((S.rep.below YO).map).u6 aV Tryz.under51 (mX _) B hf Q;have VY:=gB (E w (VP #[J s,J d] 90));go_enter func262,ntmps262;go_wp2;refine bF kQ kQ ?_
 repeat (go_big_quiet_step (fail))
 refine Vza ?_;rintro _ ⟨x,rfl⟩;have t:Bq w x.u:=YO.trans (x.h.mono sQ);have t0:D x.u (O (G w.heap) 0)=Z (J s):=(x.cell _ _ sQ).trans (SR #[J s,J d] 90 (G w.heap) 0 rfl);have t1:D x.u (O (G w.heap) 1)=Z (J d):=(x.cell _ _ sQ).trans (SR #[J s,J d] 90 (G w.heap) 1 rfl);have T:G w.heap<G x.u.heap:=by have:=x.h.size;simp at this;omega
 have ao:=(t.cell (p:=O b 0) V).trans c0;have ag:=(t.frozen (p:=O b 0) V).trans f0;have Xb:=l.kept (row:=UP) ⟨t.os,t.tape,t.output,t.size,λ k y _=>t.block k y⟩ (by cases hq:M' (TQ A n cap)<;>simp);go_wp2_with (at_builtin;refine wpList_append_own_at _ rfl _ _ 324 rfl 0 328 i0 (.agg #[J 0,J 0,J 0]) 3 24 Tryz.under52 ab VZ Wa Wc rfl dQ _ _ _ rfl (Xb.alloc _) (O (G x.u.heap) 0) 1 1 [J 0,J 0,J 0] rfl rfl (vf _ _ _ _ _) (by intro u hu;simp at hu;subst hu;rfl) mQ U U ?_);intro Y o ho C _ L;have N:=((ai.Y' t).alloc _).grown C (λ k y _=>y);have F:=Ip Xb P ho;obtain⟨i,c,rfl,a0,aN,ay⟩:=F.pos U;have j:∀k,M' (TQ A n cap)=Z k->k<G w.heap/\k≠b/\k≠mb:=ZJ;have r:i≠b/\(M' (TQ A n cap)=Z i\/G w.heap<=i):=by
  rcases L with L|L
  ·have e:M' (TQ A n cap)=Z i:=L.symm;exact⟨(j i e).2.1,SQ e⟩
  ·simp only[T7,Option.some.injEq]at L;exact⟨U,SP U⟩
 have an:=(N.cell (p:=O b 0) V (λ e=>(j b e).2.1 rfl)).trans c0;have am:=(N.cell (p:=O b 1) V (λ e=>(j b e).2.1 rfl)).trans c1;have ad:o.frozen? (O b 0)=false:=(N.frozen (p:=O b 0) V (λ e=>(j b e).2.1 rfl)).trans f0;have X:bj prog 3 o mb f n:=S.rep.map.X' N (λ e=>(j mb e).2.2 rfl);have KX:=((ai.refl _ x.u).alloc _).grown C (λ k y _=>y);have aw:D o (O (G w.heap) 0)=Z (J s):=(KX.cell (p:=O (G w.heap) 0) T (λ e=>UA _ (j (G w.heap) e).1)).trans t0;have au:D o (O (G w.heap) 1)=Z (J d):=(KX.cell (p:=O (G w.heap) 1) T (λ e=>UA _ (j (G w.heap) e).1)).trans t1;have R2:Rep (C' o (O b 0) (.slice (Z (O i 0)) (n+1) c)) b mb (.slice (Z (O i 0)) (n+1) c) (n+1) (dV z n ⟨0,0,0⟩) f n:=by
  have kb:ai (λ k=>k=b) o (C' o (O b 0) (.slice (Z (O i 0)) (n+1) c)):=(ai.refl (λ k=>k=b) o).setCell (p:=O b 0) (λ _=>rfl) _;refine⟨Tf _ _ _ an,?_,?_,F.X' kb (λ q hq=>?_),X.X' kb (λ e=>ac e.symm),λ e=>?_⟩
  ·rw[SY _ _ _ _ (by intro e;cases e)];exact am
  ·rw[TL];exact ad
  ·simp only[T7,Option.some.injEq]at hq;rw[<- hq];exact r.1
  ·simp only[T7,Option.some.injEq]at e;exact r.1 e
 have K2:ai (hb3 b mb (.slice A n cap)) w (C' o (O b 0) (.slice (Z (O i 0)) (n+1) c)):=(N.mono (G9:=hb3 b mb (.slice A n cap)) (λ _ _ h=>SP (SP h))).setCell (p:=O b 0) (λ _=>SQ rfl) _;have em:(if (f a).isSome then n else n+1)=n+1:=by rw[hf];rfl
 have P1:=λ w R=>qN (b:=b) (mb:=mb) (g:=i) (cap:=c) (n:=n+1) (m:=n) (it:=dV z n ⟨0,0,0⟩) (f:=f) n a s d w R U U B;rw[em,DO]at P1;have Yw:∀I,Rep I b mb (.slice (Z (O i 0)) (n+1) c) (n+1) (dV z n ⟨a,s,d⟩) (bQ f a (J n)) (n+1)->HS I b mb (.slice (Z (O i 0)) (n+1) c) (n+1) (dV z n ⟨a,s,d⟩) (bQ f a (J n)) (aC H a s d):=by
  intro I R;refine⟨R,S.atf.last (x:=⟨a,s,d⟩) hf,λ k y=>?_,λ k y=>?_,S.holds.last ha,U⟩
  ·by_cases W:k=n
   ·subst W;rw[dD];exact B
   ·rw[cD z _ W];exact S.wf k U
  ·by_cases W:k=n
   ·subst W;rw[dD];exact hc
   ·rw[cD z _ W];exact S.ok k U
 have XX:fC (dV z n ⟨a,s,d⟩) (n+1) n:=fC.last O9 _;have ap:M' (TQ (Z (O i 0)) (n+1) c)=M' (TQ A n cap)\/∃g,M' (TQ (Z (O i 0)) (n+1) c)=Z g/\G w.heap<=g:=by
  rcases r.2 with e|e
  ·exact SQ e.symm
  ·exact SP ⟨i,rfl,e⟩
 clear S O9 h N KX F X Xb l C ho P YO t hl VY ao ag t0 t1 ZJ em L;go_wp2_with fail;refine(P1 _ R2).mono ?_;rintro e w3 ⟨rfl,R3,K3⟩;have S3:=Yw _ R3;go_wp2_with fail;refine(Bg _ S3 XX).mono ?_;rintro e w4 ⟨rfl,⟨Za,f',S4,O4⟩,K4⟩;have KK:ai (hb3 b mb (.slice A n cap)) w w4:=by
  have hs:∀k,k<G w.heap->(k=i\/k=mb)->hb3 b mb (.slice A n cap) k:=by
   rintro k y (rfl|rfl)
   ·rcases r.2 with e|e
    ·exact SP (SP e)
    ·omega
   ·exact SP (SQ rfl)
  exact(K2.trans K3 hs).trans K4 hs
 clear K2 K3 K4 R3 S3 P1 Yw R2;go_wp2;go_ret;exact⟨rfl,⟨_,⟨Za,f',S4,O4⟩,ap⟩,KK⟩
theorem Bi {v:Vr}{H:Int->Oi}(w:M)(h:cq w b mb v 0 H) :
  Rq 199 #[Pq b] w (.tuple #[J 0,.agg #[J 0,J 0],.bool Vl]):=by
 obtain⟨j,f,S,e⟩:=h.ex;have l:=S.rep.c0;have k:=S.rep.blocks.1;have a:∃A cap,v=.slice A 0 cap:=by
  obtain⟨i,c,_⟩:=S.rep.row;rcases c.2 with⟨rfl,_⟩|⟨g,cap,d,rfl,_⟩
  ·exact⟨_,_,rfl⟩
  ·exact⟨_,_,rfl⟩
 obtain⟨A,cap,rfl⟩:=a;clear S e h;go_enter func199,ntmps199;go_wp2;exact Vxl (v:=.tuple #[J 0,.agg #[J 0,J 0],.bool Vl]) (by simp[results,results199,go_sem]) rfl ⟨rfl,ae.alloc aa _⟩
theorem Row.shrink {it:Nat->bt}(h:Row w (.slice (Z (O g 0)) (m+1) cap) (m+1) it):Row w (.slice (Z (O g 0)) m cap) m it:=by
 obtain⟨c,d,p⟩:=h;have q:K c=(m+1)*3:=d.1;rcases d.2 with⟨a,_⟩|⟨s,e,b,a,k,j,f,n,o,l⟩
 cases a;cases a;refine⟨c.take (m*3),⟨by rw[List.length_take];omega,.inr ⟨g,cap,b,rfl,k,j,U,n,o,?_⟩⟩,λ i r=>?_⟩
 grind
 grind
theorem AtF.pop {it:Nat->bt}(h:AtF it (m+1) f)(p:0<m):AtF (dV it 0 (it m)) m (bQ (o7 f (it 0).id) (it m).id (J (0:Nat))):=by
 have d:=h.apart;refine⟨λ k j=>?_,λ a v b=>?_⟩;by_cases g:k=0
 grind [dD,cF]
 rw[cD it _ g,du _ _ (λ e=>by have:=d k m U U e;omega),lU _ (λ e=>g (d k 0 U U e))];exact h.at' k U;unfold bQ at b;split at b
 grind [dD]
 rename_i e
 unfold o7 at b;split at b;cases b
 rename_i n
 obtain⟨k,j,c,l⟩:=h.of a v b;have i:k≠0:=λ q=>n (by rw[<- c,q]);have o:k≠m:=λ q=>e (by rw[<- c,q]);exact⟨k,U,by rw[cD it _ i];exact c,l⟩
structure Fr (w:M) (N:Nat) (x y:bt):Prop where
 a0:D w (O N 0)=Z (J 0)
 a1:D w (O N 1)=Z (J 0)
 f0:w.frozen? (O N 0)=Vl
 f1:w.frozen? (O N 1)=Vl
 b0:D w (O (N+1) 0)=Z (J x.id)
 b1:D w (O (N+1) 1)=Z (J x.s)
 b2:D w (O (N+1) 2)=Z (J x.d)
 c0:D w (O (N+1+1) 0)=Z (J y.id)
 c1:D w (O (N+1+1) 1)=Z (J y.s)
 c2:D w (O (N+1+1) 2)=Z (J y.d)
theorem Fr.X' {N:Nat}{x y:bt}(h:Fr w N x y)(b:ai F w I)(g:N+3<=G w.heap)(a:∀k,N<=k->¬F k):Fr I N x y:=by
 have f:∀o,D I (O N o)=D w (O N o):=λ o=>b.cell (p:=O N o) (by show N<_;omega) (a N U);have d:∀o,D I (O (N+1) o)=D w (O (N+1) o):=λ o=>b.cell (p:=O (N+1) o) (by show N+1<_;omega) (a (N+1) U);have c:∀o,D I (O (N+1+1) o)=D w (O (N+1+1) o):=λ o=>b.cell (p:=O (N+1+1) o) (by grind) (a (N+1+1) U);have e:∀o,I.frozen? (O N o)=w.frozen? (O N o):=λ o=>b.frozen (p:=O N o) (by show N<_;omega) (a N U);exact⟨(f 0).trans h.a0,(f 1).trans h.a1,(e 0).trans h.f0,(e 1).trans h.f1,(d 0).trans h.b0,(d 1).trans h.b1,(d 2).trans h.b2,(c 0).trans h.c0,(c 1).trans h.c1,(c 2).trans h.c2⟩
theorem LU (w:M)(x y:bt){v:Vr}(f:b<G w.heap)(r:D w (O b 0)=Z v)(c1:D w (O b 1)=Z (.map (Z mb)))(f0:w.frozen? (O b 0)=Vl) :
  ∃a:M,a=(C' (((E w (VP #[J 0,J 0] 90)).alloc (VP #[J x.id,J x.s,J x.d] 328)).alloc (VP #[J y.id,J y.s,J y.d] 328)) (O b 0) (.slice (Z (O g 0)) m cap)) /\
   ai (λ k=>k=b) w a/\G a.heap=G w.heap+3/\D a (O b 0)=Z (.slice (Z (O g 0)) m cap)/\D a (O b 1)=Z (.map (Z mb))/\a.frozen? (O b 0)=Vl/\Fr a (G w.heap) x y:=by
 have i:G (E w (VP #[J 0,J 0] 90)).heap=G w.heap+1:=by simp
 have n:G ((E w (VP #[J 0,J 0] 90)).alloc (VP #[J x.id,J x.s,J x.d] 328)).heap=G w.heap+1+1:=by simp
 have c:Bq w (((E w (VP #[J 0,J 0] 90)).alloc (VP #[J x.id,J x.s,J x.d] 328)).alloc (VP #[J y.id,J y.s,J y.d] 328)):=((ae.alloc aa _).alloc sQ _).alloc sU _;have u:Fr (((E w (VP #[J 0,J 0] 90)).alloc (VP #[J x.id,J x.s,J x.d] 328)).alloc (VP #[J y.id,J y.s,J y.d] 328)) (G w.heap) x y:=by
  have q:∀o,D (((E w (VP #[J 0,J 0] 90)).alloc (VP #[J x.id,J x.s,J x.d] 328)).alloc (VP #[J y.id,J y.s,J y.d] 328)) (O (G w.heap) o)=D (E w (VP #[J 0,J 0] 90)) (O (G w.heap) o):=λ o=>by
   rw[((Below.refl _ ((E w (VP #[VN VO 0,VN VO 0] 90)).alloc (VP #[VN VO x.id,VN VO x.s,VN VO x.d] 328))).alloc aa _).cell (p:=O (G w.heap) o) (by grind),((Below.refl _ (E w (VP #[VN VO 0,VN VO 0] 90))).alloc aa _).cell (p:=O (G w.heap) o) (by grind)]
  have j:∀o,D (((E w (VP #[J 0,J 0] 90)).alloc (VP #[J x.id,J x.s,J x.d] 328)).alloc (VP #[J y.id,J y.s,J y.d] 328)) (O (G w.heap+1) o)=D ((E w (VP #[J 0,J 0] 90)).alloc (VP #[J x.id,J x.s,J x.d] 328)) (O (G w.heap+1) o):=λ o=>by
   rw[((Below.refl _ ((E w (VP #[VN VO 0,VN VO 0] 90)).alloc (VP #[VN VO x.id,VN VO x.s,VN VO x.d] 328))).alloc aa _).cell (p:=O (G w.heap+1) o) (by grind)]
  refine⟨?_,?_,?_,?_,?_,?_,?_,?_,?_,?_⟩
  grind [SR]
  rw[q];exact SR _ _ _ 1 rfl;rw[frozen?_alloc_cells,frozen?_alloc_cells,frozen?_alloc_cells];unfold Vf;rw[Array.getElem?_eq_none aa];rw[frozen?_alloc_cells,frozen?_alloc_cells,frozen?_alloc_cells];unfold Vf;rw[Array.getElem?_eq_none aa]
  grind [SR]
  rw[j];exact SR _ _ _ 1 i.symm;rw[j];exact SR _ _ _ 2 i.symm
  grind [SR]
  grind [SR]
  exact SR _ _ _ 2 n.symm
 have t:=ai.Y' (F:=λ k=>k=b) c;have l:ai (λ k=>k=b) _ _:=(ai.refl (λ k=>k=b) (((E w (VP #[J 0,J 0] 90)).alloc (VP #[J x.id,J x.s,J x.d] 328)).alloc (VP #[J y.id,J y.s,J y.d] 328))).setCell (p:=O b 0) (λ _=>rfl) (.slice (Z (O g 0)) m cap);refine⟨_,rfl,t.trans l (λ _ _ h=>h),by simp,Tf _ _ _ ((c.cell (p:=O b 0) f).trans r),?_,?_,u.X' l sQ (λ k z e=>U)⟩;rw[SY _ _ _ _ (by intro e;cases e)];exact(c.cell (p:=O b 1) f).trans c1;rw[TL];exact(c.frozen (p:=O b 0) f).trans f0
theorem vg (W:M)(N:Nat)(s d:Int)(b:Cq W N 0 (J 0))(a:Cq W N 1 (J 0)) :
  ((C' W (O N 0) (J s)).setCell (O N 1) (J d)).cell? (O N 0)=Z (J s)/\Cq ((C' W (O N 0) (J s)).setCell (O N 1) (J d)) N 1 (J d):=by grind [SY,Tf]
theorem zb {b mb m:Nat}{v:Vr}{H:Int->Oi}(w:M)(h:cq w b mb v (m+1) H) :
  Zq 199 #[Pq b] w λ e I=>∃a s d,e=VJ (.tuple #[J a,.agg #[J s,J d],.bool Q])/\H a=Z (s,d)/\(∀P F N,H P=Z (F,N)->¬bef ⟨P,F,N⟩ ⟨a,s,d⟩)/\(∃v',cq I b mb v' m (lu H a)/\M' v'=M' v)/\ai (hb3 b mb v) w I:=by
 obtain⟨c,f,S,O9⟩:=h.ex;obtain⟨g,cap,rfl,ay,ap,hg⟩:=S.rep.row.pos U;obtain⟨hb,au,r,ZJ⟩:=S.rep.blocks;obtain⟨_,ag,ad⟩:=ZJ g rfl;obtain⟨q1,q2,q3⟩:=S.rep.row.cells (show 0<m+1 by omega);obtain⟨p1,p2,p3⟩:=S.rep.row.cells (show m<m+1 by omega);have Yu:=S.bd;have c0:=S.rep.c0;have c1:=S.rep.c1;have f0:=S.rep.f0;have h0:H (c 0).id=Z ((c 0).s,(c 0).d):=S.holds.at U;have Z8:∀P F N,H P=Z (F,N)->¬bef ⟨P,F,N⟩ (c 0):=λ P F N h=>S.holds.least O9 h;have ax:((m:Nat):Int)<=(cap:Int):=U;unfold maxLen at ap;simp only[Nat.zero_mul]at q1 q2 q3;have k3:∀A B C:Obj,Bq w (((w.alloc A).alloc B).alloc C):=λ A B C=>((ae.alloc aa _).alloc sQ _).alloc sU _;have e3:∀A B C:Obj,Cq (((w.alloc A).alloc B).alloc C) b 0 (.slice (Z (O g 0)) (m+1) cap):=λ A B C=>((k3 A B C).cell (p:=O b 0) hb).trans c0;have e4:∀A B C:Obj,(((w.alloc A).alloc B).alloc C).frozen? (O b 0)=false:=λ A B C=>((k3 A B C).frozen (p:=O b 0) hb).trans f0;clear k3;have HW:=LU (g:=g) (m:=m) (cap:=cap) w (c 0) (c m) hb c0 c1 f0;obtain⟨W1,eW,K1,z1,d0,d1,df,fr⟩:=HW;have Xh:Row W1 (.slice (Z (O g 0)) m cap) m c:=S.rep.row.shrink.X' K1 (λ q o=>by simp only[T7,Option.some.injEq]at o;rw[<- o];exact ag);have ac:bj prog 3 W1.drew mb f (m+1):=(S.rep.map.X' K1 (λ e=>r e.symm)).kept rfl;have am:=S.wf 0 U;have ab:=S.wf m U;have W:=S.atf.at' 0 U;obtain⟨l,Wo,M2,T2⟩:=ac.drop (t:=144) aV Tryz.under51 am 0;have em:(if (f (c 0).id).isSome then m+1-1 else m+1)=m:=by rw[W];rfl
 rw[em]at M2;have x:ai (λ k=>k=mb) W1 l:=(ai.refl (λ k=>k=mb) W1).drew.trans (aA T2) (λ _ _ h=>h);have z2:G w.heap+3<=G l.heap:=by have:=x.size;omega
 have KA:=(K1.mono (G9:=hb3 b mb (.slice (Z (O g 0)) (m+1) cap)) (λ _ _ h=>SQ h)).trans x (λ _ _ h=>SP (SQ h));have X:=fr.X' x U (λ k hk e=>U);have R2:Rep l b mb (.slice (Z (O g 0)) m cap) m c (o7 f (c 0).id) m:=by
  refine⟨(x.cell (p:=O b 0) (by show b<_;omega) r).trans d0,(x.cell (p:=O b 1) (by show b<_;omega) r).trans d1,(x.frozen (p:=O b 0) (by show b<_;omega) r).trans df,Xh.X' x (λ q o=>?_),M2,S.rep.nb⟩;simp only[T7,Option.some.injEq]at o;rw[<- o];exact ad
 have b0:=fr.b0;clear ac M2 T2 K1 x Xh df;go_enter func199,ntmps199;go_wp2;rw[<- eW];clear eW e3 e4 c0 c1 f0 q1 q2 q3 p1 p2 p3;go_region;clear Wo b0 d0 d1;by_cases hm:m=0
 ·subst hm;obtain⟨a0,a1,g0,g1,b0,b1,b2,l0,l1,l2⟩:=X;have HF:cq ((C' l (O (G w.heap) 0) (J (c 0).s)).setCell (O (G w.heap) 1) (J (c 0).d)).drew b mb (.slice (Z (O g 0)) 0 cap) 0 (lu H (c 0).id)/\ai (hb3 b mb (.slice (Z (O g 0)) (0+1) cap)) w ((C' l (O (G w.heap) 0) (J (c 0).s)).setCell (O (G w.heap) 1) (J (c 0).d)).drew:=by
   have V:ai (λ k=>k=G w.heap) l ((C' l (O (G w.heap) 0) (J (c 0).s)).setCell (O (G w.heap) 1) (J (c 0).d)).drew:=(((ai.refl (λ k=>k=G w.heap) l).setCell (p:=O (G w.heap) 0) (λ _=>rfl) _).setCell (p:=O (G w.heap) 1) (λ _=>rfl) _).drew;refine⟨⟨c,o7 f (c 0).id,⟨R2.X' V U U (λ q o=>?_),⟨λ i z=>U,λ a v hv=>?_⟩,λ i z=>U,λ i z=>U,λ a s d=>⟨λ L=>?_,λ ⟨i,z,_⟩=>U⟩,U⟩,λ j _ hj=>U⟩,KA.trans V (λ i z e=>U)⟩
   ·simp only[T7,Option.some.injEq]at o;omega
   ·unfold o7 at hv;split at hv
    ·cases hv
    ·rename_i e
     obtain⟨i,z,ea,_⟩:=S.atf.of a v hv;have:i=0:=U;subst this;exact Q8 ea.symm e
   ·unfold lu at L;split at L
    ·cases L
    ·rename_i e
     obtain⟨i,z,ea⟩:=(S.holds a s d).mp L;have:i=0:=U;subst this;exact Q8 (by rw[ea]) (λ q:(c 0).id=a=>e q.symm)
  clear KA R2 S O9 h ZJ;have T:=vg l (G w.heap) (c 0).s (c 0).d a0 a1;go_wp2;go_region;go_wp2;exact Vxl (v:=.tuple #[J (c 0).id,.agg #[J (c 0).s,J (c 0).d],.bool Q]) (by simp[results,results199,go_sem,T.1,T.2]) rfl ⟨_,_,_,rfl,h0,Z8,⟨_,HF.1,rfl⟩,HF.2⟩
 ·have y:0<m:=U;have aw:(0:Int)<(m:Int):=U;have ao:(c m).id≠(c 0).id:=λ e=>hm (S.atf.apart m 0 U U e);have Y:(if (o7 f (c 0).id (c m).id).isSome then m else m+1)=m:=by rw[lU _ ao,S.atf.at' m U];rfl
  have P1:=λ w R=>qN (b:=b) (mb:=mb) (g:=g) (cap:=cap) (n:=m) (m:=m) (it:=c) (f:=o7 f (c 0).id) 0 (c m).id (c m).s (c m).d w R y U ab;rw[Y]at P1;have Yw:∀I,Rep I b mb (.slice (Z (O g 0)) m cap) m (dV c 0 (c m)) (bQ (o7 f (c 0).id) (c m).id (J (0:Nat))) m->HS I b mb (.slice (Z (O g 0)) m cap) m (dV c 0 (c m)) (bQ (o7 f (c 0).id) (c m).id (J (0:Nat))) (lu H (c 0).id):=by
   intro I R;refine⟨R,S.atf.pop y,λ k hk=>?_,λ k hk=>?_,S.holds.pop S.atf.apart,U⟩
   ·by_cases ek:k=0
    ·subst ek;rw[dD];exact ab
    ·rw[cD c _ ek];exact S.wf k U
   ·by_cases ek:k=0
    ·subst ek;rw[dD];exact S.ok m U
    ·rw[cD c _ ek];exact S.ok k U
  have an:fR (dV c 0 (c m)) m 0:=fR.first O9 _
  obtain⟨a0,a1,g0,g1,b0,b1,b2,l0,l1,l2⟩:=X;clear S O9 h ZJ em Y W fr;go_wp2_with fail;refine(P1 _ R2).mono ?_;rintro e W3 ⟨rfl,R3,K3⟩;have S3:=Yw _ R3;go_wp2_with fail;refine(LS _ S3 y an).mono ?_;rintro e u ⟨rfl,⟨Za,f',S4,O4⟩,K4⟩;have K5:=K3.trans K4 (λ _ _ h=>h);obtain⟨a0,a1,g0,g1,b0,b1,b2,l0,l1,l2⟩:=(Fr.mk a0 a1 g0 g1 b0 b1 b2 l0 l1 l2:Fr l (G w.heap) (c 0) (c m)).X' K5 z2 (λ k hk e=>U);have z4:G w.heap+3<=G u.heap:=by have:=K5.size;omega
  have KB:ai (hb3 b mb (.slice (Z (O g 0)) (m+1) cap)) w u:=KA.trans K5 (λ k _ e=>by
   rcases e with rfl|rfl
   ·exact SP (SP rfl)
   ·exact SP (SQ rfl))
  have HF:cq ((C' u (O (G w.heap) 0) (J (c 0).s)).setCell (O (G w.heap) 1) (J (c 0).d)).drew b mb (.slice (Z (O g 0)) m cap) m (lu H (c 0).id)/\ai (hb3 b mb (.slice (Z (O g 0)) (m+1) cap)) w ((C' u (O (G w.heap) 0) (J (c 0).s)).setCell (O (G w.heap) 1) (J (c 0).d)).drew:=by
   have V:ai (λ k=>k=G w.heap) u ((C' u (O (G w.heap) 0) (J (c 0).s)).setCell (O (G w.heap) 1) (J (c 0).d)).drew:=(((ai.refl (λ k=>k=G w.heap) u).setCell (p:=O (G w.heap) 0) (λ _=>rfl) _).setCell (p:=O (G w.heap) 1) (λ _=>rfl) _).drew;have L:cq u b mb (.slice (Z (O g 0)) m cap) m (lu H (c 0).id):=⟨Za,f',S4,O4⟩;exact⟨L.X' V U U (λ q o=>by simp only[T7,Option.some.injEq]at o;omega),KB.trans V (λ i z e=>U)⟩
  have T:=vg u (G w.heap) (c 0).s (c 0).d a0 a1;clear KA KB K3 K4 K5 R2 R3 S3 S4 P1 Yw;go_wp2;go_region;go_wp2;exact Vxl (v:=.tuple #[J (c 0).id,.agg #[J (c 0).s,J (c 0).d],.bool Q]) (by simp[results,results199,go_sem,T.1,T.2]) rfl ⟨_,_,_,rfl,h0,Z8,⟨_,HF.1,rfl⟩,HF.2⟩
def bE (H:Int->Oi) (a s d:Int):Bool:=match H a with|none=>Q|some c=>decide (val s d<val c.1 c.2)
def pushH (H:Int->Oi) (a s d:Int):Int->Oi:=if bE H a s d then aC H a s d else H
theorem Qj (H:Int->Oi)(a s d:Int):ru H a s d (pushH H a s d):=by grind [ru,pushH,aC,val,bE,decide_true,decide_false,Bool.false_eq_true]
def Qk (w I:M) (b mb:Nat) (v:Vr) (n:Nat) (H:Int->Oi):Prop :=
 ∃v' n',cq I b mb v' n' H/\n'<=n+1/\∀g,M' v'=Z g->M' v=Z g\/G w.heap<=g
theorem Bj {H:Int->Oi}(a s d:Int)(w:M)(h:cq w b mb v n H)(r:okC s d)(p:(Lit.int .i64 a).wf=Q)(B:n<1000000) :
  Zq 262 #[Pq b,J a,.agg #[J s,J d]] w λ e I=>e=VJ (.bool (bE H a s d))/\Qk w I b mb v n (pushH H a s d)/\ai (hb3 b mb v) w I:=by
 cases j:H a with
 |none =>
  have f:bE H a s d=true:=by unfold bE;rw[j]
  have l:pushH H a s d=aC H a s d:=by unfold pushH;rw[f];rfl
  rw[f,l];exact(Bh a s d w h j r p B).mono λ e I ⟨k,⟨A,x,o⟩,y⟩=>⟨k,⟨A,n+1,x,aa,λ g i=>by
   rcases o with o|⟨C,o,q⟩
   grind
   rw[o]at i;cases i;exact SP q⟩,y⟩
 |some c =>
  obtain⟨t,u⟩:=c;by_cases m:val s d<val t u;have f:bE H a s d=true:=by unfold bE;rw[j];exact Q2 m
  have l:pushH H a s d=aC H a s d:=by unfold pushH;rw[f];rfl
  rw[f,l];exact(Io a s d t u w h j r m).mono λ e I ⟨k,x,y⟩=>⟨k,⟨v,n,x,Nat.le_succ _,λ g i=>SQ i⟩,y⟩;have f:bE H a s d=false:=by unfold bE;rw[j];exact Q3 m
  have l:pushH H a s d=H:=by unfold pushH;rw[f];rfl
  rw[f,l];exact(Oc a s d t u w h j r m).mono λ e I ⟨k,z⟩=>⟨k,⟨v,n,h.below z,Nat.le_succ _,λ g i=>SQ i⟩,ai.Y' z⟩
theorem DP {H:Int->Oi}(h:cq w b mb v n H){k:Nat}(a:hb3 b mb v k):k<G w.heap:=by
 obtain⟨e,d,c⟩:=h.blocks;rcases a with rfl|rfl|a
 exact e;exact d;exact c k a
end Go.Proofs.YtikdmenjibkgiaaGreatDoor
