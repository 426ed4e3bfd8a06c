/- Texts laid together. -/
import Derived.Test.YtikdmenjibkgiaaGreatDoorP9
import Derived.WideKeyEntry
namespace Go.Proofs.YtikdmenjibkgiaaGreatDoor
open Go.Proofs.Tryz renaming prog->Vyj
open _root_.Array renaming size->G
open _root_.Int renaming toNat_of_nonneg->TE,toNat_natCast->Ta
open _root_.Or renaming inl->SQ,inr->SP
open Go.World renaming cell?_alloc_at->SR,ownsRow_nil->To,cell?_setCell_other->SY,cell?->D,alloc->E,setCell->C',ownsRow->G'
open _root_.List renaming getElem?_eq_getElem->SU,length_append->Td,length_cons->Tk,length_take->Ts,length_drop->Ue,mem_filter->TS,mem_singleton->Tv,mem_append->Tn,mem_cons_of_mem->Tj,mem_cons_self->Tp,pairwise_map->UY,mem_map->TX,take_add_one->Ty,length_filter_le->TH,getD_eq_getElem?_getD->Tt,mem_of_getElem?->Ti,getElem_of_mem->TR,getElem_take->Vg,pairwise_iff_getElem->Ua,take_length->Tl,length->K
open Go.Value renaming slice->TQ,ownBlock->M'
open _root_.Nat renaming le_trans->Tg,zero_le->Te,lt_irrefl->UA
open Go.Value renaming int->VN
open Go.IntKind renaming i64->VO
open Go.Proofs.Tryz
open _root_.Option renaming some->Z
open _root_.Bool renaming true->Q,false->Vl
open Go renaming World->M,Value->Vr,maxLen->Vyf
open Go.RowKit renaming Below->Vw,Hid->Vy
open Go.Ending renaming returned->VJ
open Go.Obj renaming cells->VP
variable {f:Int->Option Vr}{v:Vr}{w I:M}{N n lb vb eb top t:Nat}
set_option maxHeartbeats 8000000
set_option maxRecDepth 1000000
section
open Go.RowKit Go.Lib
theorem Gg {a:Int}(h:f a=Z v):bQ f a v=f:=by grind [bQ]
section
variable {w I : M} {N lb vb eb top : Nat} {L : List Nat} {st : LSt} {f : Int → Option Vr}
theorem cR.upd (V:cR w N lb vb eb top L st f){a:Nat}(T:a∈L){v q:Vr}{l':List LE}(l:f (a:Int)=Z v)(s:ai (λ k=>k=eb\/M' v=Z k) w I)(W:bj Vyj 3 I eb (bQ f (a:Int) q) (K L))(row:G' I N 203 4 q (K l') (bB l'))(y:∀g,M' q=Z g->M' v=Z g\/G w.heap<=g) :
  cR I N lb vb eb top L ⟨st.VE,fU st.es a l'⟩ (bQ f (a:Int) q)/\∀g,LvB lb vb eb (bQ f (a:Int) q) g->LvB lb vb eb f g\/G w.heap<=g:=by
 have x:¬(lb=eb\/M' v=Z lb):=λ h=>h.elim V.nes.2 (V.off _ _ l);have H:¬(vb=eb\/M' v=Z vb):=λ h=>h.elim V.ne (λ h=>by
  obtain⟨F,j,d⟩:=V.row a T;rw[l]at j;cases j;exact bK d V.lv vb h rfl)
 have o:∀{i:Int},i≠(a:Int)->bQ f (a:Int) q i=f i:=λ h=>du _ _ h;have C:∀{i u g},f i=Z u->M' u=Z g->g<G w.heap:=λ {i u g} t r=>by
  obtain⟨R,P⟩:=V.no i u t;obtain⟨F,j,d⟩:=V.row i.toNat P;rw[TE R,t]at j;cases j;exact(d.lt g r).2
 refine⟨⟨s.cellOf V.c0 x,s.cellOf V.c1 x,s.cellOf V.c2 x,(s.frozen (p:=O lb 0) V.lts.1 x).trans V.fz,V.lv.X' s H,W,λ n S=>?_,λ i u t=>?_,λ n m u X g b c A z=>?_,λ n u b c=>?_,V.nb,V.ne,V.bd,V.len⟩,λ g r=>?_⟩;by_cases e:n=a
 grind [cF,fU,bB,tJ]
 obtain⟨u,j,d⟩:=V.row n S;have B:(n:Int)≠(a:Int):=U;refine⟨u,(o B).trans j,?_⟩;show G' I N 203 4 u (K (fU st.es a l' n)) (bB (fU st.es a l' n));rw[kK _ e];exact br d s (λ g r h=>h.elim (bK d V.em g r) (λ h=>B (V.apart _ _ _ _ g j l r h)));by_cases e:i=(a:Int)
 grind
 rw[o e]at t;exact V.no i u t;by_cases j:n=(a:Int);by_cases d:m=(a:Int);rw[j,d];subst j;rw[cF]at b;cases b;rw[o d]at c;rcases y g A with h|h
 exact V.apart _ _ _ _ g l c h z;have:=C c z;omega;rw[o j]at b;by_cases d:m=(a:Int);subst d;rw[cF]at c;cases c;rcases y g z with h|h
 exact V.apart _ _ _ _ g b l A h;have:=C b A;omega;rw[o d]at c;exact V.apart _ _ _ _ g b c A z;by_cases e:n=(a:Int);subst e;rw[cF]at b;cases b;rcases y lb c with h|h
 exact V.off _ _ l h;have:=V.lts.1;omega;rw[o e]at b;exact V.off _ _ b c;rcases r with h|h|h|⟨i,u,b,c⟩
 exact SQ (SQ h);exact SQ (SP (SQ h));exact SQ (SP (SP (SQ h)));by_cases e:i=(a:Int);subst e;rw[cF]at b;cases b;rcases y g c with h|h
 exact SQ (SP (SP (SP ⟨_,v,l,h⟩)));exact SP h;rw[o e]at b;exact SQ (SP (SP (SP ⟨i,u,b,c⟩)))
end
theorem Jz {g cap p:Nat}{xs:List Vr}{a b c d:Vr}(h:G' w N 203 4 (.slice (Z (O g 0)) n cap) n xs) :
  ((((C' w (O g (p*4)) a).setCell (O g (p*4+1)) b).setCell (O g (p*4+2)) c).setCell (O g (p*4+3)) d).ownsRow N 203 4 (.slice (Z (O g 0)) n cap) n ((((xs.set (p*4) a).set (p*4+1) b).set (p*4+2) c).set (p*4+3) d):=by grind [Go.World.ownsRow.stored]
theorem EG:∀(l:List LE) (p:Nat) (x:LE),p<K l->((((bB l).set (p*4) (J (x.to:Int))).set (p*4+1) (J x.s)).set (p*4+2) (J x.d)).set (p*4+3) (J x.U6)=bB (l.take p++x::l.drop (p+1))
 |[],_,_,h=>by simp at h
 |y::l,0,x,_=>by
  rw[dU];show _=bB (x::l);rw[dU];rfl
 |y::l,p+1,x,h=>by
  have e:=EG l p x (by simpa using h);show _=bB (y::(l.take p++x::l.drop (p+1)));rw[dU y (l.take p++x::l.drop (p+1)),<- e,dU y l];have a:∀(q:Nat) (b:List Vr) (u:Vr),(leV y++b).set ((p+1)*4+q) u=leV y++b.set (p*4+q) u:=λ q b u=>by
   rw[List.set_append_right _ _ (by show K (leV y)<=_;show 4<=_;omega)]
   congr 2
   show (p+1)*4+q-4=_;omega
  have c:=a 0;rw[Nat.add_zero,Nat.add_zero]at c;rw[c,a 1,a 2,a 3];rfl
theorem CG {xb i:Nat}{l:List LE}{e:LE}(w:M)(a:G' w N 203 4 v (K l) (bB l))(m:K l<=256)(x:i<=K l)(q:N<=G w.heap)(j:M' v≠Z xb)(p:w.heap[xb]? = Z (.cells (leV e).toArray 203 (0,0))) :
  Zq 255 #[v,J (i:Int),.slice (Z (O xb 0)) 1 1] w λ r I=>∃c,r=VJ c/\G' I N 203 4 c (K l+1) (bB (l.take i++e::l.drop i))/\w.grownBy I (M' v)/\∀g,M' c=Z g->M' v=Z g\/G w.heap<=g:=by
 rw[M8];by_cases t:i=K l;subst t;refine(Eu w a m q p).mono ?_;rintro r I ⟨c,rfl,f,b,y⟩;refine⟨c,rfl,?_,b,λ g d=>?_⟩
 grind [List.take_of_length_le,Cs,List.drop_of_length_le]
 grind
 rcases a.2 with⟨_,z⟩|⟨g,n,u,rfl,_⟩
 omega;by_cases o:K l+1<=n;refine(zy w a m U o (λ h=>j (by rw[h];rfl)) p).mono ?_;rintro r I ⟨rfl,f,b⟩;exact⟨_,rfl,f,b,λ g d=>SQ d⟩;refine(Cw w a m U U q p).mono ?_;rintro r I ⟨A,rfl,f,b⟩;exact⟨_,rfl,f,⟨b.os,b.tape,b.output,b.size,λ k s _=>b.block k s⟩,λ g d=>by
  cases d;exact SP aa⟩
theorem zJ {N a:Nat}{L:Ln}{st:LSt}(w:M)(V:cR w N lb vb eb top L st f)(ha:a∈L)(hR:Rsg (st.es a))(hl:K (st.es a)<=256)(x:LE) :
  Zq 217 #[Pq lb,J (a:Int),.agg #[J (x.to:Int),J x.s,J x.d,J x.U6]] w λ r I=>r=VJ (.tuple #[])/\(∃f',cR I N lb vb eb top L ⟨st.VE,fU st.es a (cX x (st.es a))⟩ f'/\∀g,LvB lb vb eb f' g->LvB lb vb eb f g\/G w.heap<=g)/\ai (LvB lb vb eb f) w I:=by
 have bk:=V.bd a ha;have ag:=aE (a:=(a:Int)) U U;have bm:N<=G w.heap:=by have:=V.nb.1;have:=V.lts.1;omega
 obtain⟨v,B,S⟩:=V.row a ha;obtain⟨A,y,rfl,aN,hA⟩:=eJ S;have b0:Bq w (E w (VP #[J (x.to:Int),J x.s,J x.d,J x.U6] 203)):=ae.alloc aa _;have V0:=V.below b0;have c2:=V0.c2;have Xl:(Instr.lookup 137 (.map (Z eb)) (J (a:Int)) Vl).run Vyj (E w (VP #[J (x.to:Int),J x.s,J x.d,J x.U6] 203))=.ok (.slice A (K (st.es a)) y) (E w (VP #[J (x.to:Int),J x.s,J x.d,J x.U6] 203)):=V0.em.Ui aV Tryz.Vxa (mm _) ag B Vl;have XG:=yf (cap:=y) (t:=x.to) (E w (VP #[J (x.to:Int),J x.s,J x.d,J x.U6] 203)) (aN.below b0) hl hR;have y0:D (E w (VP #[J (x.to:Int),J x.s,J x.d,J x.U6] 203)) (O (G w.heap) 0)=Z (J (x.to:Int)):=SR _ _ _ 0 rfl;have y1:D (E w (VP #[J (x.to:Int),J x.s,J x.d,J x.U6] 203)) (O (G w.heap) 1)=Z (J x.s):=SR _ _ _ 1 rfl;have y2:D (E w (VP #[J (x.to:Int),J x.s,J x.d,J x.U6] 203)) (O (G w.heap) 2)=Z (J x.d):=SR _ _ _ 2 rfl;have y3:D (E w (VP #[J (x.to:Int),J x.s,J x.d,J x.U6] 203)) (O (G w.heap) 3)=Z (J x.U6):=SR _ _ _ 3 rfl;have ax:=F9 x hR;have a8:=F8 (st.es a) x.to;have a6:lg (st.es a) x.to=Q->fy (st.es a) x.to<K (st.es a):=λ h=>by
  unfold lg at h;cases he:(st.es a)[fy (st.es a) x.to]? with
  |none=>rw[he]at h;cases h
  |some e=>exact(List.getElem?_eq_some_iff.1 he).1
 have aw:=ak S b0;generalize lg (st.es a) x.to=hs at *;generalize fy (st.es a) x.to=m at *;have aL:=qH ax;have ba:Vy (leV x=[J (x.to:Int),J x.s,J x.d,J x.U6]):=rfl;have T:=EG (st.es a) m x;rw[show (x.to:Int)=(x.to:Int) from rfl]at T;have T:=bX T;clear ax S;generalize a0:(x.to:Int)=F at *;generalize a1:x.s=H at *;generalize a3:x.d=R at *;generalize a2:x.U6=P at *;clear a0 a1 a3 a2;generalize Yn:K (st.es a)=n at *;have Xt:=qH Yn;clear Yn;go_enter func217,ntmps217;go_wp2_with fail;generalize be:E w (VP #[VN VO F,VN VO H,VN VO R,VN VO P] 203)=w0 at *;refine Q9 XG λ o C=>?_;have b1:=aj b0 C;have Wb:=ak aw C;have W:=V0.below C;have z0:=al C y0;have z1:=al C y1;have z2:=al C y2;have z3:=al C y3;have an:=W.c2;have bl:G w.heap<G o.heap:=aB z0;clear XG C aw V0 y0 y1 y2 y3 b0 c2 Xl;cases hs with
 |true =>
  have VS:=a6 rfl;obtain⟨g,rfl,bi,bf⟩:∃g,A=Z ⟨g,0,none⟩/\N<=g/\g<G w.heap:=by
   rcases hA with⟨_,h⟩|⟨g,h1,_,h2,h3⟩
   ·have:=Xt.out;rw[h]at this;simp at this;omega
   ·exact⟨g,h1,h2,h3⟩
  have bn:(m:Int)<(n:Int):=U;have q:∀j,j<4->∃u,Cq o g (m*4+j) u:=λ j hj=>by
   have h1:=Wb.cellAt (m*4+j) U;have h2:m*4+j<K (bB (st.es a)):=(by rw[Cs,Xt.out];omega);rw[SU h2]at h1;exact⟨_,h1⟩
  obtain⟨u0,q0⟩:=q 0 U;obtain⟨u1,q1⟩:=q 1 U;obtain⟨u2,q2⟩:=q 2 U;obtain⟨u3,q3⟩:=q 3 U;rw[Nat.add_zero]at q0;have f0:=Wb.frozenAt (m*4);have f1:=Wb.frozenAt (m*4+1);have f2:=Wb.frozenAt (m*4+2);have f3:=Wb.frozenAt (m*4+3);clear q;go_wp2;have K4:ai (λ k=>k=eb\/M' (TQ (Z (O g 0)) n y)=Z k) o ((((C' o (O g (m*4)) (J F)).setCell (O g (m*4+1)) (J H)).setCell (O g (m*4+2)) (J R)).setCell (O g (m*4+3)) (J P)) :=
   ((((ai.refl (λ k=>k=eb\/M' (TQ (Z (O g 0)) n y)=Z k) o).setCell (p:=O g (m*4)) (λ _=>SP rfl) _).setCell (p:=O g (m*4+1)) (λ _=>SP rfl) _).setCell (p:=O g (m*4+2)) (λ _=>SP rfl) _).setCell (p:=O g (m*4+3)) (λ _=>SP rfl) _
  have K5:ai (λ k=>k=g) o ((((C' o (O g (m*4)) (J F)).setCell (O g (m*4+1)) (J H)).setCell (O g (m*4+2)) (J R)).setCell (O g (m*4+3)) (J P)) :=
   ((((ai.refl (λ k=>k=g) o).setCell (p:=O g (m*4)) (λ _=>rfl) _).setCell (p:=O g (m*4+1)) (λ _=>rfl) _).setCell (p:=O g (m*4+2)) (λ _=>rfl) _).setCell (p:=O g (m*4+3)) (λ _=>rfl) _
  have O4:=Jz (p:=m) (a:=J F) (b:=J H) (c:=J R) (d:=J P) Wb;rw[T.out VS]at O4;have e1:cX x (st.es a)=(st.es a).take m++x::(st.es a).drop (m+1):=aL.out;have e2:K ((st.es a).take m++x::(st.es a).drop (m+1))=n:=by
   have:=Xt.out;rw[Td,Tk,Ts,Ue];omega
  have YP:=W.upd (l':=(st.es a).take m++x::(st.es a).drop (m+1)) ha B K4 (by rw[Gg B];exact W.em.X' K5 (λ e=>bK Wb W.em g rfl e.symm)) (by rw[e2];exact O4) (λ g hg=>SQ hg);refine bodyPost_ret (v:=.tuple #[]) (by simp[results,results217,go_sem]) rfl ⟨rfl,⟨_,by rw[e1];exact YP.1,λ g' ac=>?_⟩,?_⟩
  ·rcases YP.2 g' ac with h|h
   ·exact SQ h
   ·exact SP U
  ·refine(ai.Y' b1).trans K4 (λ k _ h=>?_);rcases h with h|h
   ·exact SP (SP (SQ h))
   ·exact SP (SP (SP ⟨_,_,B,h⟩))
 |false =>
  have e1:cX x (st.es a)=(st.es a).take m++x::(st.es a).drop m:=aL.out;have e2:K ((st.es a).take m++x::(st.es a).drop m)=n+1:=by
   have:=Xt.out;rw[Td,Tk,Ts,Ue];omega
  have bc:Vy _:=e1;have bb:Vy _:=e2;have bD:Bq o o.drew:=ae.drew;have bI:Bq o (E o.drew (VP #[J F,J H,J R,J P] 203)):=bD.alloc bD.size _;have a5:=ak Wb bI;have ad:(E o.drew (VP #[J F,J H,J R,J P] 203)).heap[G o.heap]? = Z (.cells (leV x).toArray 203 (0,0)):=by
   rw[ba.out];exact heap_alloc_new o.drew _
  have am:∀q,M' (TQ A n y)=Z q->q<G w.heap:=λ q hq=>by
   rcases hA with⟨h,_⟩|⟨g,h1,_,_,h3⟩
   ·rw[h]at hq;cases hq
   ·rw[h1]at hq;cases hq;exact h3
  have au:=CG (N:=N) (xb:=G o.heap) (i:=m) (v:=.slice A n y) (l:=st.es a) (e:=x) (E o.drew (VP #[J F,J H,J R,J P] 203)) (by rw[Xt.out];exact a5) (by rw[Xt.out];exact hl) (by rw[Xt.out];exact a8) (Oq bI.size) (λ h=>by have:=am _ h;omega) ad;have r0:Cq o.drew (G w.heap) 0 (J F):=z0;have r1:Cq o.drew (G w.heap) 1 (J H):=z1;have r2:Cq o.drew (G w.heap) 2 (J R):=z2;have r3:Cq o.drew (G w.heap) 3 (J P):=z3;have r4:Cq o.drew lb 2 (.map (Z eb)):=an;have i0:=Lib.cell?_alloc_some (VP #[J F,J H,J R,J P] 203) r0;have i1:=Lib.cell?_alloc_some (VP #[J F,J H,J R,J P] 203) r1;have i2:=Lib.cell?_alloc_some (VP #[J F,J H,J R,J P] 203) r2;have i3:=Lib.cell?_alloc_some (VP #[J F,J H,J R,J P] 203) r3;have i4:=Lib.cell?_alloc_some (VP #[J F,J H,J R,J P] 203) r4;have VI:=W.below bI;have Y:¬M' (TQ A n y)=Z (G w.heap):=λ h=>by have:=am _ h;omega
  have a9:¬M' (TQ A n y)=Z lb:=W.off _ _ B;have ap:¬M' (TQ A n y)=Z eb:=λ h=>bK Wb W.em eb h rfl;have X:G w.heap≠eb:=by have:=V.lts.2.2;omega
  have a4:=W.nes.2;clear hA e1 e2 T z0 z1 z2 z3 an ad;go_wp2_with fail;go_region_held3 (λ I=>D I (O (G w.heap) 0)=Z (J F)/\Cq I (G w.heap) 1 (J H)/\Cq I (G w.heap) 2 (J R)/\Cq I (G w.heap) 3 (J P)/\Cq I lb 2 (.map (Z eb))) (first|(exact⟨r0,r1,r2,r3,r4⟩)|(exact⟨i0,i1,i2,i3,i4⟩)|(exact⟨j0,j1,j2,j3,j4⟩)|(exact⟨k0,k1,k2,k3,k4⟩))
   (first|(go_at_call 255;refine au.mono ?_;rintro r w3 ⟨v',rfl,Xj,Yo,ao⟩;have K3:ai (λ k=>M' (TQ A n y)=Z k) _ w3:=(ai.refl _ _).grown Yo (λ k hk _=>hk);have j0:=K3.cellOf i0 Y;have j1:=K3.cellOf i1 Y;have j2:=K3.cellOf i2 Y;have j3:=K3.cellOf i3 Y;have j4:=K3.cellOf i4 a9;obtain⟨w4,a7,ab,z⟩:=(VI.em.X' K3 ap).store aV Tryz.Vxa (by have:=W.len;unfold Vyf;omega) ag v';have k0:=(aA z).cellOf j0 X;have k1:=(aA z).cellOf j1 X;have k2:=(aA z).cellOf j2 X;have k3:=(aA z).cellOf j3 X;have k4:=(aA z).cellOf j4 a4))
  have M3:=VI.em.X' K3 ap;have K4:=((ai.Y' bI).trans K3 (λ _ _ h=>SP h)).trans (aA z) (λ _ _ h=>SQ h);have R4:G' w4 N 203 4 v' (K ((st.es a).take m++x::(st.es a).drop m)) (bB ((st.es a).take m++x::(st.es a).drop m)):=by
   rw[bb.out,<- Xt.out];exact br Xj (aA z) (bK Xj M3)
  have E4:bj Vyj 3 w4 eb (bQ f (a:Int) v') (K L):=by
   rw[B]at ab;exact ab
  have ay:Vy _:=W.upd ha B K4 E4 R4 (λ g hg=>by
   rcases ao g hg with h|h
   ·exact SQ h
   ·exact SP (by simp at h;omega))
  have HK:Vy (ai (LvB lb vb eb f) w w4):=(ai.Y' b1).trans K4 (λ k _ h=>by
   rcases h with h|h
   ·exact SP (SP (SQ h))
   ·exact SP (SP (SP ⟨_,_,B,h⟩)))
  clear au Xj Yo ao K3 M3 ab z a7 K4 R4 E4;go_end0;refine⟨rfl,⟨_,by rw[bc.out];exact ay.out.1,λ g' ac=>?_⟩,HK.out⟩;rcases ay.out.2 g' ac with h|h
  ·exact SQ h
  ·exact SP U
end
section
open Go.RowKit Go.Maps Go.Sort Go.Shelf
def gg (L:Ln) (st:LSt):Ln:=L.filter (λ n=>st.VE n==0)
theorem Gh {base:Nat}{L l:Ln}(w:M)(h:G' w base 3 1 v (K L) (aH L))(c:K l=K L)(i:(dH L).mergeSort (λ x y=>decide (x<=y))=dH l)(b:K L<=256) :
  Zq 205 #[v] w λ e I=>e=VJ (.tuple #[])/\G' I base 3 1 v (K l) (aH l)/\w.grownBy I (M' v):=by
 by_cases f:L=[];subst f;have e:l=[]:=List.length_eq_zero_iff.1 c;subst e;obtain⟨A,a,rfl⟩:∃A a,v=.slice A 0 a:=by
  rcases h.2 with⟨rfl,_⟩|⟨g,a,d,rfl,_⟩
  exact⟨_,_,rfl⟩;exact⟨_,_,rfl⟩
 refine Q0 (AnyM.slices_Sort_int_none Tryz.sortA A a w) ?_;exact⟨rfl,h,⟨rfl,rfl,rfl,aa,λ _ _ _=>rfl⟩⟩
 grind [Cc]
theorem rz {L:Ln}{st:LSt}(w:M)(V:cR w N lb vb eb top L st f)(hr:L.Pairwise (·<·)) :
  Zq 169 #[Pq lb] w λ e I=>∃v,e=VJ v/\G' I (G w.heap) 3 1 v (K (gg L st)) (aH (gg L st))/\Bq w I:=by
 obtain⟨i0,hi,VZ,Wa,Wc⟩:=info_parts Tryz.Vxg;have c1:=V.c1;have ad:Vy ((gg L st).Pairwise (·<·)):=hr.filter _;have ag:Vy (∀n,n∈gg L st↔n∈L/\st.VE n=0):=λ n=>by
  unfold gg;rw[TS];simp
 have am:Vy (∀(x:Int) (v:Vr),lvF L st.VE x=Z v->∃n:Nat,x=(n:Int)/\n∈L/\v=J (st.VE n:Int)):=λ x v h=>by
  unfold lvF at h;by_cases g:0<=x/\x.toNat∈L
  ·rw[Q5 g]at h;exact⟨x.toNat,U,g.2,(Option.some.inj h).symm⟩
  ·rw[Q6 g]at h;cases h
 have an:Vy (∀n:Nat,(lvF L st.VE (n:Int)).isSome=Q↔n∈L):=λ n=>by
  unfold lvF;by_cases g:(0:Int)<=(n:Int)/\(n:Int).toNat∈L
  ·rw[Q5 g];exact⟨λ _=>by simpa using g.2,λ _=>rfl⟩
  ·rw[Q6 g];exact⟨λ h=>(by cases h),λ h=>Q8 ⟨U,by simpa using h⟩ g⟩
 have ao:=V.len;have au:=V.lts.2.1;have z:=V.lv;have XE:=qH V.bd;clear V hr;go_enter func169,ntmps169;go_wp2_with (first|(at_range;refine cO rfl _ 144 rfl 3 3 aV Tryz.Vxf vb _ _ rfl z ?_;intro w3 Xf Yo aw)|go_in);have B3:Bq w w3:=ae.grown Yo aa sQ;have ap:vb≠G w.heap:=U;clear Yo z;go_frame;go_loopg [3] (K L) (λ gj ov wq=>∃(left:Int->Bool) (cnt:Nat) (c:Ln),gj=cnt/\iM Vyj 3 wq vb (G w.heap) (lvF L st.VE) (K L) left cnt/\G' wq (G w.heap) 3 1 ov (K c) (aH c)/\Vy c.Nodup/\Vy (∀n:Nat,n∈c↔(n∈L/\left n=Vl)/\st.VE n=0)/\Bq w wq/\G w.heap<G wq.heap)
 case atStart =>
  refine⟨_,_,[],rfl,Xf,To _ _ _ _,List.nodup_nil,λ n=>⟨λ h=>(by cases h),?_⟩,B3,U⟩;rintro⟨⟨h1,h2⟩,_⟩;have:=(an.out n).2 h1;rw[h2]at this;cases this
 case round =>
  clear Xf B3;obtain⟨left,cnt,c,ay,B,a,d,b,t,ax⟩:=hrel;have ZR:=t.size;have ab:K c<=256:=dr 256 d.out (λ n hn=>XE.out n ((b.out n).1 hn).1.1);go_wp2_with (first|(at_next;refine di rfl _ rfl 3 aV vb (G w.heap) _ _ _ _ rfl B ?_ ?_)|go_in)
  ·intro aL XN;obtain⟨l,l1,l2,l3,l4⟩:=Ei c d.out;have el:l=gg L st:=tO l1 ad.out (λ n=>by
    rw[l2 n,b.out n,ag.out n];exact⟨λ h=>⟨h.1.1,h.2⟩,λ h=>⟨⟨h.1,XN n⟩,h.2⟩⟩)
   have i:=Gh wr a l3 l4 ab;rw[el]at i;have R:=λ q r=>(a.lt q r).1;clear B a d b l1 l2 l3 l4 el XN;go_wp2_with fail;refine i.mono ?_;rintro e w5 ⟨rfl,WC,X9⟩;have B5:Bq w w5:=t.grown X9 ZR R;clear i X9 R t;go_wp2;go_ret;exact⟨_,rfl,WC,B5⟩
  ·intro x v y H Zd Yp YQ C VS P Yy ZG;obtain⟨n,W,WK,rfl⟩:=am.out x v YQ;subst W;have s:=jh a P (oU a B);have S:Bq w y:=t.grown P ZR (λ k e=>by cases e;omega);have A:G w.heap<G y.heap:=U;clear Yy;by_cases h0:st.VE n=0
   ·have Y:((st.VE n:Nat):Int)=0:=U;clear B t a P;have ZH:=S.size;go_wp2_with (at_builtin;refine wpList_append_own _ rfl _ _ 60 rfl (G w.heap) 3 i0 (J 0) 1 8 underlying60 hi VZ Wa Wc rfl dQ _ _ _ rfl (s.alloc _) (O (G y.heap) 0) 1 1 [J (n:Int)] rfl rfl ?c1 ?c2 ?c3 ?c4 ?c5 ?_)
    case c1 =>
     intro j u F
     match j,F with
     |0,F =>
      simp at F;subst F;simp only[Addr.add];exact SR (w:=y) #[J (n:Int)] 3 (G y.heap) 0 rfl
    case c2=>intro u hu;simp at hu;subst hu;rfl
    case c3=>unfold Vyf;omega
    case c4=>omega
    case c5=>simp;omega
    intro v' T VR VQ _;have R:=λ q r=>(s.lt q r).1;have B6:Bq w T:=(S.alloc ZH _).grown VQ sU R;have O6:G' T (G w.heap) 3 1 v' (K (c++[n])) (aH (c++[n])):=by
     simpa [aH]using VR
    have K6:=((ai.refl _ _).alloc _).grown VQ (λ k hk _=>hk);have ac:=C.X' K6 (λ h=>bK s C.map _ h rfl) (λ h=>oU s C _ h rfl);have X:G w.heap<G T.heap:=Nat.lt_of_lt_of_le A K6.size;have HN:Vy (c++[n]).Nodup:=by
     have ZS:n∉c:=λ hm=>by
      have:=((b.out n).1 hm).1.2;rw[Yp]at this;cases this
     unfold Vy List.Nodup;rw[List.pairwise_append];exact⟨d.out,List.pairwise_singleton _ _,λ p hp q r e=>by
      rw[Tv]at r;rw[e,r]at hp;exact ZS hp⟩
    have o:Vy (∀m:Nat,m∈c++[n]↔(m∈L/\(left m&&!decide ((m:Int)=(n:Int)))=Vl)/\st.VE m=0):=λ m=>by
     rw[Tn,Tv,b.out m];by_cases e:m=n
     ·subst e;simp[WK,h0]
     ·have e':¬(m:Int)=(n:Int):=U;simp[e,e']
    clear VR VQ s S K6 C d b;go_wp2;go_roundg H
    case measure=>omega
    case rel=>exact⟨_,H,c++[n],rfl,ac,O6,HN.out,o.out,B6,X⟩
   ·have Y:¬((st.VE n:Nat):Int)=0:=U;have o:Vy (∀m:Nat,m∈c↔(m∈L/\(left m&&!decide ((m:Int)=(n:Int)))=Vl)/\st.VE m=0):=λ m=>by
     rw[b.out m];by_cases e:m=n
     ·subst e;simp[h0]
     ·have e':¬(m:Int)=(n:Int):=U;simp[e']
    clear B t a P b;go_wp2;go_roundg H
    case measure=>omega
    case rel=>exact⟨_,H,c,rfl,C,s,d.out,o.out,S,A⟩
end
section
open Go.RowKit Go.Maps Go.ChangeMaps Go.MapKept
theorem Gi (w:M)(b:Nat)(o:Obj)(k:Nat)(h:k≠b):(setBlock w b o).heap[k]? = w.heap[k]? := by
 unfold setBlock;show (w.heap.setIfInBounds b o)[k]? = _;rw[Array.getElem?_setIfInBounds_ne U]
theorem zK (w:M)(b:Nat)(o:Obj):ai (λ k=>k=b) w (setBlock w b o) :=
 ⟨rfl,rfl,rfl,by unfold setBlock;simp,λ k _ h=>Gi w b o k h⟩
theorem bj.entry {P:Program}{k e t:TypeId}{b:Nat}(h:bj P k w b f n)(r:P.underlying k=Z (.int .i64))(p:P.underlying t=Z (.map k e)){z:Vr}(N:(zeroValue e).run P w=.ok z w)(hn:n<Vyf){a:Int}(B:(Lit.int .i64 a).wf=Q)(V:(f a).isSome=Q)(val:Vr) :
  ∃(v0:Vr) (st:Nat) (y x:M),(Instr.mapEntry t (.map (Z b)) (VN VO a)).run P w=.ok (.tuple #[v0,goInt st]) y/\ai (λ k=>k=b) w y/\(Instr.entryStore t (.map (Z b)) (goInt st) val).run P y=.ok () x/\bj P k x b (bQ f a val) n/\ai (λ k=>k=b) w x:=by
 obtain⟨I,Wo,S,_⟩:=h.store r p hn B val;rw[V]at S;have o:=int_keyed r;have m:=pK r B;obtain⟨D9,⟨es,c,i,F,h5,h6⟩,h7,h8⟩:=h;have W:b<G w.heap:=(Array.getElem?_eq_some_iff.1 i).1;obtain⟨s1,Y,_⟩:=F.stamped;rcases o.find w m es.toList F.keys with⟨u,l⟩|⟨j,d,u,l,s⟩
 exfalso;obtain⟨v,hv⟩:=Option.isSome_iff_exists.1 V;have hl:=bj.Ui ⟨D9,⟨es,c,i,F,h5,h6⟩,h7,h8⟩ r p N B hv Q;simp[Instr.lookup,run_underlying p,MapKept.run_getObj_map i,o.check w es.isEmpty m,u,N,Result.andThen]at hl;have T:es[j]? = Z d:=by simpa using l
 have H:es.findIdx? (λ e=>((e.born:Nat):Int)==((d.born:Nat):Int))=Z j:=by
  rw[WideElems.findIdx_arr];exact WideElems.findIdx_born Y l
 have Ze:es.modify j (λ e=>{ e with key:=VN VO a })=es:=by
  apply Array.ext';rw[Array.toList_modify,modify_eq_set _ _ _ _ l];have:({ d with key:=VN VO a }:MapEntry)=d:=by rw[<- s]
  rw[this];exact WideElems.set_self _ _ _ l
 have C:es.modify j (λ e=>{ e with val:=val })=es.modify j (λ q=>{ q with key:=VN VO a,val:=val }):=by
  apply Array.ext';rw[Array.toList_modify,Array.toList_modify,modify_eq_set _ _ _ _ l,modify_eq_set _ _ _ _ l,<- s]
 have R:(Instr.mapUpdate t (.map (Z b)) (VN VO a) val).run P w=.ok () (setBlock w b (.map (es.modify j (λ q=>{ q with key:=VN VO a,val:=val })) c)):=by
  simp[Instr.mapUpdate,run_underlying p,MapKept.run_getObj_map i,o.check w Vl m,u,T,s,o.stays w m,MapKept.run_setObj_map _ i,Result.andThen,setBlock]
 rw[Wo]at R;cases R;have g:(setBlock w b (.map es c)).heap[b]? = Z (.map es c):=by
  unfold setBlock;show (w.heap.setIfInBounds b _)[b]? = _;simp[W]
 have A:(Instr.mapEntry t (.map (Z b)) (VN VO a)).run P w=.ok (.tuple #[d.val,goInt d.born]) (setBlock w b (.map es c)):=by
  simp[Instr.mapEntry,run_underlying p,MapKept.run_getObj_map i,o.check w Vl m,u,T,s,o.stays w m,Ze,MapKept.run_setObj_map _ i,Result.andThen,setBlock]
 have X:=zK w b (.map es c);generalize setBlock w b (.map es c)=L at *;refine⟨d.val,d.born,L,setBlock L b (.map (es.modify j (λ q=>{ q with key:=VN VO a,val:=val })) c),A,X,?_,S.kept ?_,X.trans (zK _ _ _) (λ _ _ h=>h)⟩;simp[Instr.entryStore,MapKept.run_getObj_map g,asInt,asIntOf,goInt,H,C,MapKept.run_setObj_map _ g,Result.andThen,setBlock];unfold setBlock;show (L.heap.setIfInBounds b _)[b]? = (w.heap.setIfInBounds b _)[b]?;simp[W,(Array.getElem?_eq_some_iff.1 g).1]
end
section
open Go.RowKit Go.Maps
theorem Rnd.filter (c:0<t){q:Bn}:∀{L:Ln}{st VT:LSt}{nr i:Bn}{g:Bool},(∀n∈L,q n=Vl->0<st.VE n)->Rnd t (L.filter q) st nr VT i g->Rnd t L st nr VT i g
 |[],_,_,_,_,_,_,h=>h
 |n::L,st,VT,nr,i,g,d,h=>by
  cases j:q n with
  |true =>
   rw[List.filter_cons_of_pos j]at h;obtain⟨u,b,s,r,k,o,l⟩:=h;refine⟨u,b,s,r,k,Rnd.filter c (λ m f a=>?_) o,l⟩;have:=d m (Tj _ f) a;rcases k.VE m with e|⟨_,e⟩
   rw[e];exact this;rw[e];exact c
  |false =>
   rw[List.filter_cons_of_neg (by grind)]at h;have p:=d n (Tp ..) j;exact⟨st,nr,Vl,g,SQ ⟨SQ p,rfl,rfl,rfl⟩,Rnd.filter c (λ m f a=>d m (Tj _ f) a) h,(Bool.false_or g).symm⟩
theorem Rnd.VE :∀{L:Ln}{st VT:LSt}{nr d:Bn}{g:Bool},Rnd t L st nr VT d g->∀{n:Nat},n∉L->VT.VE n=st.VE n
 |[],_,_,_,_,_,⟨h,_⟩,_,_=>by rw[h]
 |m::L,_,_,_,_,_,⟨_,_,_,_,c,b,_⟩,n,a=>by
  rw[Rnd.VE b (λ h=>a (Tj _ h))];rcases c.VE n with e|⟨e,_⟩
  exact e
  grind
def nS (nr:Bn):Int->Bool:=λ i=>decide (0<=i)&&nr i.toNat
theorem OS (nr:Bn)(n:Nat):nS nr (n:Int)=nr n:=by grind [nS,Q2,Ta]
theorem Pu (nr:Bn)(t:Nat):eD (nS nr) (t:Int)=nS (λ k=>nr k || t==k):=by grind [eD,nS]
theorem QN:nS (λ _=>Vl)=λ _=>false:=by
 funext i
 unfold nS;simp
def gF (L:Ln) (es:Nat->List LE):Prop:=∀a,Rsg (es a)/\∀e∈es a,e.to∈L
theorem gF.put {L:Ln}{es:Nat->List LE}(h:gF L es){a:Nat}{x:LE}(b:x.to∈L):gF L (fU es a (cX x (es a))):=by grind [gF,fU,cX,Rsg,tJ,qP,mY,kK]
theorem gF.len {L:Ln}{es:Nat->List LE}(h:gF L es)(d:∀n∈L,n<256)(a:Nat):K (es a)<=256:=by
 have f:((es a).map (·.to)).Nodup:=by
  unfold List.Nodup;rw[UY];exact(h a).1.imp (λ h=>Nat.ne_of_lt h)
 have:=dr 256 f (λ n b=>by
  obtain⟨e,c,rfl⟩:=TX.1 b;exact d _ ((h a).2 e c))
 simpa using this
theorem se {es:Nat->List LE}{l:List (Nat×LE)}{j:Nat}{x:Nat×LE}(h:l[j]? = Z x):bW es (l.take (j+1))=lay2 (bW es (l.take j)) x:=by grind [bW,Ty]
theorem pn {p:LE->LE->Bool}:∀{l:List LE}{x:Nat×LE},x∈cG p n l->(∃a∈l,x.1=a.to)/\(∃b∈l,x.2.to=b.to)/\x.2.U6=(n:Int)
 |[],_,h=>by cases h
 |a::l,x,h=>by
  rcases Tn.1 h with h|h
  grind
  obtain⟨⟨j,g,f⟩,⟨i,e,d⟩,c⟩:=pn h;exact⟨⟨j,Tj _ g,f⟩,⟨i,Tj _ e,d⟩,c⟩
theorem EH:∀(l:List (Nat×LE)) (i:Nat) (x:Nat×LE),l[i]? = Z x->(iO l)[i*4]? = Z (J (x.1:Int))/\(iO l)[i*4+1]? = Z (J (x.2.to:Int))/\(iO l)[i*4+2]? = Z (J x.2.s)/\(iO l)[i*4+3]? = Z (J x.2.d)
 |[],i,e,h=>by simp at h
 |x::l,0,e,h=>by
  simp at h;subst h;exact⟨rfl,rfl,rfl,rfl⟩
 |x::l,i+1,e,h=>by
  have b:=EH l i e (by simpa using h);have c:K (lkV x)=4:=rfl;have a:∀k,(iO (x::l))[(i+1)*4+k]? = (iO l)[i*4+k]? := λ k=>by
   show (lkV x++iO l)[(i+1)*4+k]? = _;rw[List.getElem?_append_right (by rw[c];omega),c]
   congr 1;omega
  exact⟨(a 0).trans b.1,(a 1).trans b.2.1,(a 2).trans b.2.2.1,(a 3).trans b.2.2.2⟩
section
variable {w I : M} {N lb vb eb top : Nat} {L : List Nat} {st : LSt} {f : Int → Option Vr}
theorem cR.blt (V:cR w N lb vb eb top L st f){g:Nat}(h:LvB lb vb eb f g):g<G w.heap:=by
 rcases h with rfl|rfl|rfl|⟨i,v,a,e⟩
 exact V.lts.1;exact V.lts.2.1;exact V.lts.2.2;obtain⟨d,c⟩:=V.no i v a;obtain⟨k,b,j⟩:=V.row i.toNat c;rw[TE d,a]at b;cases b;exact(j.lt g e).2
theorem cR.level (V:cR w N lb vb eb top L st f){n t:Nat}(g:n∈L)(a:ai (λ k=>k=vb) w I)(c:bj Vyj 3 I vb (bQ (lvF L st.VE) (n:Int) (J (t:Int))) (K L)):cR I N lb vb eb top L ⟨λ k=>if k=n then t else st.VE k,st.es⟩ f:=by
 rw[ON g]at c;have b:=V.nes.1;refine⟨a.cellOf V.c0 b,a.cellOf V.c1 b,a.cellOf V.c2 b,(a.frozen (p:=O lb 0) V.lts.1 b).trans V.fz,c,V.em.X' a (λ e=>V.ne e.symm),λ m c=>?_,V.no,V.apart,V.off,V.nb,V.ne,V.bd,V.len⟩;obtain⟨v,h,d⟩:=V.row m c;exact⟨v,h,br d a (bK d V.lv)⟩
end
theorem Tryz.underN:Tryz.prog.underlying 229=Z (.map 3 279):=kQ
theorem OT (w:M):(zeroValue 279).run Vyj w=.ok (.agg #[]) w:=kQ
theorem zL (w:M)(n:Int):Eq9 216 #[Pq lb,J n,.slice none 0 0] w (.slice none 0 0):=by
 go_enter func216,ntmps216;go_wp2;go_loopw [7,19] (λ a iv wr=>a=.slice none 0 0/\iv=J 0/\wr=w) (λ _ _ _=>0)
 case atStart=>exact⟨rfl,rfl,rfl⟩
 case round =>
  obtain⟨rfl,rfl,rfl⟩:=hrel;go_wp2;go_ret;exact⟨rfl,rfl⟩
theorem CH {cap:Nat}{A:Oa}{L:Ln}{st:LSt}{l:List LE}{p:LE->LE->Bool}{base:Nat}(w:M)(V:cR w N lb vb eb top L st f)(u:Okl L 512 st)(d:G' w base 203 4 (.slice A (K l) cap) (K l) (bB l))(q:K l<=256)(t:∀e∈l,e∈st.es n)(o:∀a b,p a b=Q↔zg st n a b) :
  Zq 216 #[Pq lb,J (n:Int),.slice A (K l) cap] w λ e I=>∃v,e=VJ v/\G' I (G w.heap) 300 4 v (K (cG p n l)) (iO (cG p n l))/\Bq w I:=by
 obtain⟨y,k,m,i,h⟩:=eJ d;cases m;rcases h with⟨rfl,rfl⟩|⟨g,rfl,_⟩
 rcases d.2 with⟨h,_⟩|⟨g,c,j,h,_⟩
 cases h;refine Q0 (zL w (n:Int)) ?_;exact⟨_,rfl,To _ _ _ _,ae⟩;cases h;rcases d.2 with⟨h,_⟩|⟨x,c,j,h,_,_,s,r,_⟩
 cases h;cases h;exact Ep w V u i q s r t o
end
section
open Go.RowKit Go.Maps
structure RSt (w wr:M) (N lb vb eb t:Nat) (L M9:Ln) (vM:Vr) (f f':Int->Option Vr) (VT:LSt) (nr:Bn):Prop where
 lv:cR wr N lb vb eb t L VT f'
 bx:D wr (O (G w.heap) 0)=Z (Pq lb)
 sk:aU wr (G w.heap+1) (nS nr)
 rw:G' wr (G w.heap+2) 3 1 vM (K M9) (aH M9)
 off:∀g,LvB lb vb eb f' g->g≠G w.heap/\g≠G w.heap+1/\M' vM≠Z g
 new:∀g,LvB lb vb eb f' g->LvB lb vb eb f g\/G w.heap<=g
 kp:ai (LvB lb vb eb f) w wr
section
variable {w wr wq : M} {N lb vb eb t : Nat} {L M9 : List Nat} {vM : Vr} {f f' : Int → Option Vr} {VT st2 : LSt} {nr : Nat → Bool}
theorem RSt.below (R:RSt w wr N lb vb eb t L M9 vM f f' VT nr)(a:Bq wr wq):RSt w wq N lb vb eb t L M9 vM f f' VT nr :=
 ⟨R.lv.below a,(a.cell (aB R.bx)).trans R.bx,R.sk.below a,ak R.rw a,R.off,R.new,R.kp.below a⟩
theorem RSt.turn (R:RSt w wr N lb vb eb t L M9 vM f f' VT nr){f2:Int->Option Vr}(V:cR wq N lb vb eb t L st2 f2)(b:ai (LvB lb vb eb f') wr wq)(c:∀g,LvB lb vb eb f2 g->LvB lb vb eb f' g\/G wr.heap<=g):RSt w wq N lb vb eb t L M9 vM f f2 st2 nr:=by
 have j:G w.heap<G wr.heap:=aB R.bx;have d:=R.sk.lt;refine⟨V,b.cellOf R.bx (λ h=>(R.off _ h).1 rfl),R.sk.kept (b.block _ d (λ h=>(R.off _ h).2.1 rfl)),br R.rw b (λ g a h=>(R.off g h).2.2 a),λ g a=>?_,λ g a=>?_,R.kp.trans b (λ i k h=>(R.new i h).elim id (λ h=>U))⟩;rcases c g a with h|h
 exact R.off g h;refine⟨U,U,λ e=>?_⟩;have:=(R.rw.lt g e).2;omega;rcases c g a with h|h
 exact R.new g h;exact SP U
theorem RSt.skip (R:RSt w wr N lb vb eb t L M9 vM f f' VT nr){b:Bn}(a:ai (λ k=>k=G w.heap+1) wr wq)(c:aU wq (G w.heap+1) (nS b)):RSt w wq N lb vb eb t L M9 vM f f' VT b:=by
 refine⟨R.lv.X' a (λ g d=>(R.off g d).2.1),a.cellOf R.bx (by grind),c,br R.rw a (bK R.rw R.sk.mp),R.off,R.new,R.kp.trans a (λ i h e=>U)⟩
end
theorem Gj {L:Ln}{st:LSt}{S:Int}(w:M)(V:cR w N lb vb eb t L st f)(hr:L.Pairwise (·<·))(hA:All L t S st (λ _=>Vl))(cn:0<=S)(hK:S<=256)(ht:0<t) :
  Zq 168 #[Pq lb] w λ e I=>∃VT WD v f',e=VJ (.bool v)/\Rnd t L st (λ _=>Vl) VT WD v/\cR I N lb vb eb t L VT f'/\(∀g,LvB lb vb eb f' g->LvB lb vb eb f g\/G w.heap<=g)/\ai (LvB lb vb eb f) w I:=by
 have dy:=@run_makeMap Vyj;obtain⟨W0,XT⟩:∃W0,W0=(E w (VP #[Pq lb] 152)).alloc (.map #[] 0):=⟨_,rfl⟩;have BW:Bq w W0:=by
  rw[XT];exact(ae.alloc aa _).alloc sQ _
 have VZ:G W0.heap=G w.heap+2:=by rw[XT];simp
 have k0:Cq W0 (G w.heap) 0 (Pq lb):=by
  rw[XT];exact Lib.cell?_alloc_some _ (SR _ _ _ 0 rfl)
 have k1:aU W0 (G w.heap+1) (nS λ _=>Vl):=by
  have q:=aU.made (E w (VP #[Pq lb] 152));have e:G (E w (VP #[Pq lb] 152)).heap=G w.heap+1:=by simp
  rw[e]at q;rw[XT,QN];exact q
 have V0:=V.below BW;have bl:=rz W0 V0 hr;have HM:Vy (gg L st=L.filter (λ n=>st.VE n==0)):=rfl;have dk:Vy ((gg L st).Pairwise (·<·)):=hr.filter _;have dl:Vy (∀n,n∈gg L st↔n∈L/\st.VE n=0):=λ n=>by
  unfold gg;rw[TS];simp
 have bs:=V.len;have XE:=qH V.bd;have b4:=λ g (h:LvB lb vb eb f g)=>V.blt h;have cN:Vy _:=b4;clear b4;have ea:K (gg L st)<=256:=Tg (TH _ _) bs;go_enter func168,ntmps168;go_wp2_with fail;rw[<- XT];refine bl.mono ?_;rintro e w1 ⟨vM,rfl,Xb,T⟩;rw[VZ]at Xb;generalize cm:gg L st=M9 at *;clear cm;have RS:RSt w w1 N lb vb eb t L M9 vM f f st (λ _=>Vl):=by
  refine⟨V0.below T,al T k0,k1.below T,Xb,λ g B=>?_,λ g B=>SQ B,(ai.Y' BW).below T⟩;have z:=cN.out g B;refine⟨U,U,λ h=>?_⟩;have:=(Xb.lt g h).1;omega
 obtain⟨AM,Zg,rfl,_⟩:=jk Xb;clear bl T k0 k1 V0 BW XT Xb VZ;go_wp2;go_loopw [4,19] (λ gv iv wr=>∃(k:Nat) (VT:LSt) (nr:Bn) (f':Int->Option Vr) (v:Bool),k<=K M9/\iv=J k/\gv=.bool v/\RSt w wr N lb vb eb t L M9 (.slice AM (K M9) Zg) f f' VT nr/\Vy (Rnd t (M9.take k) st (λ _=>Vl) VT nr v)/\Vy (All L t S VT nr)/\Vy (∀n,nr n=Q->n∈L))
  (λ _ i _=>K M9-(intOf i).toNat)
 case atStart=>exact⟨0,st,λ _=>Vl,f,Vl,Te _,rfl,rfl,RS,⟨rfl,rfl,rfl⟩,hA,λ n h=>(by cases h)⟩
 case round =>
  clear RS;obtain⟨k,VT,nr,f',v,hk,rfl,rfl,RS,HR,HA,aL⟩:=hrel;by_cases VS:k<K M9
  ·obtain⟨g0,cr⟩:∃g0,AM=Z (O g0 0):=by
    rcases RS.rw.2 with⟨_,h0⟩|⟨g0,_,_,hv,_⟩
    ·omega
    ·exact⟨g0,by cases hv;rfl⟩
   subst cr;have VX:=jW RS.rw k VS;obtain⟨n,hn⟩:∃n,M9[k]? = Z n:=⟨M9[k],SU VS⟩;have Zh:M9.getD k 0=n:=by
    rw[Tt,hn];rfl
   rw[Zh]at VX;clear Zh;have bm:=Ti hn;obtain⟨WK,bn⟩:=(dl.out n).1 bm;have dx:=XE.out n WK;have Y2:=aE (a:=(n:Int)) U U;have Yq:Vy (M9.take (k+1)=M9.take k++[n]):=by
    rw[Ty,hn];rfl
   have a0:Vy (VT.VE n=0):=by
    refine(HR.out.VE (λ hm=>?_)).trans bn;obtain⟨i,hi,h⟩:=TR hm;have cj:i<k:=(by rw[Ts]at hi;omega);have h2:M9[i]? = Z n:=by
     rw[Vg]at h;rw[SU U,h]
    have h3:=Ua.1 dk.out i k U VS cj;rw[SU VS]at hn;rw[SU U]at h2;have e1:=Option.some.inj hn;have e2:=Option.some.inj h2;omega
   have i1:(0:Int)<=(k:Int):=U;have i2:(k:Int)<(K M9:Int):=U;have b2:Bq wr (E wr (VP #[] 279)):=ae.alloc aa _;have Y:=RS.below b2;have Wc:=b2.size;clear hn bm bn b2;cases Y3:nr n with
   |true =>
    have Xl:(Instr.lookup 229 (.map (Z (G w.heap+1))) (J (n:Int)) Q).run Vyj wr=.ok (.tuple #[.agg #[],.bool Q]) wr:=RS.sk.mp.Ui aV Tryz.underN (OT _) Y2 (kP (by rw[OS];exact Y3)) Q;have ac:Vy (Rnd t (M9.take (k+1)) st (λ _=>Vl) VT nr v):=by
     rw[Yq.out];have z:=HR.out.snoc (n:=n) (st2:=VT) (nr2:=nr) (g2:=Vl) (SQ ⟨SP Y3,rfl,rfl,rfl⟩);rw[Bool.or_false]at z;exact z
    clear HR a0 Yq Y3 RS;go_wp2;go_roundw
    case rel=>exact⟨k+1,VT,nr,f',v,U,gQ,rfl,Y,ac.out,HA.out,aL.out⟩
    case measure=>simp[intOf];omega
   |false =>
    have Xl:(Instr.lookup 229 (.map (Z (G w.heap+1))) (J (n:Int)) Q).run Vyj wr=.ok (.tuple #[.agg #[],.bool Vl]) wr:=RS.sk.mp.u6 aV Tryz.underN (OT _) Y2 (kR (by rw[OS];exact Y3)) Q;have O9:Okl L 512 VT:=⟨HA.out.lin.esy,HA.out.cor,λ C=>by
     obtain⟨p1,p2⟩:=HA.out.bdd.pos C;obtain⟨p3,p4⟩:=HA.out.bdd.new C;exact⟨p1,p2,U,U⟩⟩
    obtain⟨p,hp⟩:∃p:LE->LE->Bool,∀a b,p a b=Q↔zg VT n a b:=⟨λ a b=>@decide (zg VT n a b) (Classical.propDecidable _),λ a b=>@decide_eq_true_iff _ (Classical.propDecidable _)⟩;have HP:=qH hp;have V2:=Y.lv;obtain⟨A,cs,Xp,b6,_⟩:=V2.edges WK;have c2:=V2.c2;have a3:=Y.bx;have WL:=Jd (xb:=G w.heap) (cap:=cs) (p:=λ e=>VT.VE e.to==0) (E wr (VP #[] 279)) b6 (O9.len XE.out n) (λ I e YE C=>MX I (V2.below YE) ((YE.cell (aB a3)).trans a3) e (O9.cor.ends C).2);have b3:¬(0<VT.VE n\/nr n=Q):=λ h=>by
     rcases h with h|h
     ·rw[a0.out]at h;exact UA _ h
     ·rw[Y3]at h;cases h
    have ax:Vy _:=b3;have ag:Vy (feF VT n=(VT.es n).filter (λ e=>VT.VE e.to==0)):=rfl;have Yr:Vy (∀e∈(VT.es n).filter (λ e=>VT.VE e.to==0),e∈VT.es n):=λ e C=>(TS.1 C).1;have XY:K ((VT.es n).filter (λ e=>VT.VE e.to==0))<=256:=Tg (TH _ _) (O9.len XE.out n);clear Y3 hp b3 V2 b6;generalize (VT.es n).filter (λ e=>VT.VE e.to==0)=l at *;go_wp2_with fail;refine WL.mono ?_;rintro e w3 ⟨v3,rfl,Wy,hb3⟩;obtain⟨A3,XZ,rfl,Xq,cp⟩:=eJ Wy;have X:=Y.below hb3;have cy:=X.bx;have b5:=CH w3 X.lv O9 Wy XY Yr.out HP.out;clear WL Y Xp c2 a3 Xl RS cp;go_wp2_with fail;refine b5.mono ?_;rintro e w4 ⟨v4,rfl,WN,Ww⟩;obtain⟨A4,XH,ce⟩:∃A4 XH,v4=.slice A4 (K (cG p n l)) XH:=by
     rcases WN.2 with⟨h,h0⟩|⟨g,c,ei,h,_⟩
     ·exact⟨none,0,by rw[h,h0]⟩
     ·exact⟨_,_,h⟩
    subst ce;have a8:=X.below Ww;have Yz:=Xq.below Ww;have aw:=ak Wy Ww;have HE:Vy (∀x∈cG p n l,(∃a∈l,x.1=a.to)/\(∃b∈l,x.2.to=b.to)/\x.2.U6=(n:Int)):=λ x hx=>pn hx;have HQ:Vy (cG p n l=cG p n (feF VT n)):=(by unfold Vy;rw[ag.out]);have dT:K (cG p n l)<=256*256:=by
     rw[<- rj];exact Tg (rk p n l (K l)) (Nat.mul_le_mul XY XY)
    have ee:G w3.heap<=G w4.heap:=Ww.size;have cS:=λ q (hq:M' (TQ A4 (K (cG p n l)) XH)=Z q)=>WN.lt q hq;have dq:Vy (∀g,LvB lb vb eb f' g->g<G w3.heap):=λ g B=>X.lv.blt B;clear b5 X Wy Xq cy Ww;generalize cG p n l=Q9 at *;by_cases bw:K l<Q9.length
    ·have c3:(K l:Int)<(Q9.length:Int):=U;have ac:Vy (Rnd t (M9.take (k+1)) st (λ _=>Vl) VT nr v):=by
      rw[Yq.out];have z:=HR.out.snoc (n:=n) (st2:=VT) (nr2:=nr) (g2:=Vl) (SP ⟨ax.out,p,HP.out,SQ ⟨by rw[<- HQ.out,ag.out];exact bw,rfl,rfl,rfl⟩⟩);rw[Bool.or_false]at z;exact z
     clear HR a0 Yq ax HP HE HQ ag Yr WN aw Yz;go_wp2;go_roundw
     case rel=>exact⟨k+1,VT,nr,f',v,U,gQ,rfl,a8,ac.out,HA.out,aL.out⟩
     case measure=>simp[intOf];omega
    ·have c3:¬(K l:Int)<(Q9.length:Int):=U;have bD:Bq w4 w4.drew:=ae.drew;have y:=a8.below bD;have YR:(lvF L VT.VE (n:Int)).isSome=true:=(by rw[vO WK];rfl);obtain⟨v0,cb,W5,W6,ci,KE,bk,bp,KS⟩:=y.lv.lv.entry aV Tryz.Vxf (mX _) (by have:=y.lv.len;unfold Vyf;omega) Y2 YR (J (t:Int));have cK:(Instr.entryStore 144 (.map (Z vb)) (J (cb:Int)) (J (t:Int))).run Vyj W5=.ok () W6:=bk;clear bk;have r0:=y.bx;have r1:=y.lv.c0;have r2:=y.lv.c1;have bM:G w.heap≠vb:=λ h=>(y.off vb (SP (SQ rfl))).1 h.symm;have ap:=y.lv.nes.1;have s0:=KE.cellOf r0 bM;have s1:=KE.cellOf r1 ap;have s2:=KE.cellOf r2 ap;have u0:=KS.cellOf r0 bM;have u1:=KS.cellOf r1 ap;have u2:=KS.cellOf r2 ap;go_wp2_with fail;go_region_held3 (λ I=>D I (O (G w.heap) 0)=Z (Pq lb)/\Cq I lb 0 (J (t:Int))/\Cq I lb 1 (.map (Z vb))) (first|(exact⟨r0,r1,r2⟩)|(exact⟨s0,s1,s2⟩)|(exact⟨u0,u1,u2⟩)) (first|(fail));have V6:=y.lv.level WK KS bp;have P:=y.turn V6 (KS.mono (λ _ _ h=>SP (SQ h))) (λ g B=>SQ B);have Wu:=br (cu (ak aw bD) (Te _)) KS (bK (ak aw bD) y.lv.lv);have H:=br (ak WN bD) KS (bK (ak WN bD) y.lv.lv);have R:Vy (∀g,LvB lb vb eb f' g->M' (TQ A4 Q9.length XH)≠Z g):=λ g B h=>by
      have z:=dq.out g B;have h2:=(cS g h).1;omega
     have b9:Vy (gF L VT.es):=λ a=>⟨HA.out.lin.esy.ord a,λ e C=>(HA.out.cor.ends C).2⟩;have ab:Vy (∀e∈l,e.to∈L):=λ e C=>(HA.out.cor.ends (Yr.out e C)).2;clear y a8 bD ci KE cK bp KS r0 r1 r2 s0 s1 s2 u0 u1 u2 WN aw Yz V6 YR;go_wp2;go_loopw [60] (λ iv wr=>∃j:Nat,j<=K l/\iv=J j/\RSt w wr N lb vb eb t L M9 (.slice (Z (O g0 0)) (K M9) Zg) f f' ⟨λ k=>if k=n then t else VT.VE k,VT.es⟩ (λ k=>nr k || (l.take j).any (λ e=>e.to==k))/\G' wr 0 203 4 (.slice A3 (K l) XZ) (K l) (bB l)/\G' wr (G w3.heap) 300 4 (.slice A4 Q9.length XH) Q9.length (iO Q9))
      (λ i _=>K l-(intOf i).toNat)
     case atStart =>
      refine⟨0,Te _,rfl,?_,Wu,H⟩;have e:(λ k=>nr k || (l.take 0).any (λ e=>e.to==k))=nr:=by
       funext k
       simp
      rw[e];exact P
     case round =>
      clear P Wu H;obtain⟨j,hj,rfl,P,Wu,H⟩:=hrel;by_cases WY:j<K l
      ·obtain⟨e,C⟩:∃e,l[j]? = Z e:=⟨l[j],SU WY⟩;obtain⟨A',c',cg,YS,_⟩:=eJ Wu;cases cg;obtain⟨b,o,rfl,q1,q2,q3,q4⟩:=YS j e C;have cl:=ab.out e (Ti C);have dz:=XE.out _ cl;have cd:=aE (a:=(e.to:Int)) U U;have j1:(0:Int)<=(j:Int):=U;have j2:(j:Int)<(K l:Int):=U;have b7:Bq wr (E wr (VP #[J (e.to:Int),J e.s,J e.d,J e.U6] 203)):=ae.alloc aa _;have u:=P.below b7;have a6:=ak Wu b7;have a5:=ak H b7;obtain⟨w8,Ya,bq,an⟩:=u.sk.mp.store aV Tryz.underN u.sk.room cd (.agg #[]);have a1:=u.sk.put U U bq;rw[Pu]at a1;have F:=u.skip (aA an) a1;have c5:=br a6 (aA an) (bK a6 u.sk.mp);have W:=br a5 (aA an) (bK a5 u.sk.mp);have df:Vy ((λ k=>(nr k || (l.take j).any (λ e=>e.to==k)) || e.to==k)=λ k=>nr k || (l.take (j+1)).any (λ e=>e.to==k)):=by
        unfold Vy
        funext k
        rw[Ty,C,List.any_append,Bool.or_assoc];simp
       clear P u Wu a6 H a5 bq an a1 b7 YS C;generalize (e.to:Int)=et at *;generalize e.s=es at *;generalize e.d=ed at *;generalize e.U6=em at *;go_wp2;go_roundw
       case rel=>exact⟨j+1,U,gQ,by rw[<- df.out];exact F,c5,W⟩
       case measure=>simp[intOf];omega
      ·have e:j=K l:=U;subst e;have u:RSt w wr N lb vb eb t L M9 (.slice (Z (O g0 0)) (K M9) Zg) f f' ⟨λ k=>if k=n then t else VT.VE k,VT.es⟩ (λ k=>nr k || l.any (λ e=>e.to==k)):=by
        have:=P;rw[Tl]at this;exact this
       clear P Wu;go_wp2;go_loopw [71] (λ iv wr=>∃(j:Nat) (f2:Int->Option Vr),j<=Q9.length/\iv=J j/\RSt w wr N lb vb eb t L M9 (.slice (Z (O g0 0)) (K M9) Zg) f f2 ⟨λ k=>if k=n then t else VT.VE k,bW VT.es (Q9.take j)⟩ (λ k=>nr k || l.any (λ e=>e.to==k))/\G' wr (G w3.heap) 300 4 (.slice A4 Q9.length XH) Q9.length (iO Q9)/\Vy (∀g,LvB lb vb eb f2 g->M' (TQ A4 Q9.length XH)≠Z g)/\Vy (gF L (bW VT.es (Q9.take j))))
        (λ i _=>Q9.length-(intOf i).toNat)
       case atStart=>exact⟨0,f',Te _,rfl,u,H,R,b9⟩
       case round =>
        clear u H R;obtain⟨j,f2,hj,rfl,u,H,R,ad⟩:=hrel;by_cases c4:j<Q9.length
        ·obtain⟨x,hx⟩:∃x,Q9[j]? = Z x:=⟨Q9[j],SU c4⟩;obtain⟨⟨a,bI,YF⟩,⟨b,bA,bi⟩,am⟩:=HE.out x (Ti hx);have b1:x.1∈L:=(by rw[YF];exact ab.out a bI);have b0:x.2.to∈L:=(by rw[bi];exact ab.out b bA);obtain⟨g4,rfl⟩:∃g4,A4=Z ⟨g4,0,none⟩:=by
          rcases H.2 with⟨_,h0⟩|⟨g4,_,_,hv,_⟩
          ·omega
          ·exact⟨g4,by cases hv;rfl⟩
         obtain⟨e0,e1,e2,e3⟩:=EH Q9 j x hx;have q0:=(H.cellAt _ U).trans e0;have q1:=(H.cellAt _ U).trans e1;have q2:=(H.cellAt _ U).trans e2;have q3:=(H.cellAt _ U).trans e3;have j1:(0:Int)<=(j:Int):=U;have j2:(j:Int)<(Q9.length:Int):=U;have Xm:Vy (bW VT.es (Q9.take (j+1))=lay2 (bW VT.es (Q9.take j)) x):=se hx;have b7:Bq wr (E wr (VP #[J (x.1:Int),J (x.2.to:Int),J x.2.s,J x.2.d] 300)):=ae.alloc aa _;have F:=u.below b7;have W:=ak H b7;have y0:D (E wr (VP #[J (x.1:Int),J (x.2.to:Int),J x.2.s,J x.2.d] 300)) (O (G wr.heap) 0)=Z (J (x.1:Int)):=SR _ _ _ 0 rfl;have y1:D (E wr (VP #[J (x.1:Int),J (x.2.to:Int),J x.2.s,J x.2.d] 300)) (O (G wr.heap) 1)=Z (J (x.2.to:Int)):=SR _ _ _ 1 rfl;have y2:D (E wr (VP #[J (x.1:Int),J (x.2.to:Int),J x.2.s,J x.2.d] 300)) (O (G wr.heap) 2)=Z (J x.2.s):=SR _ _ _ 2 rfl;have y3:D (E wr (VP #[J (x.1:Int),J (x.2.to:Int),J x.2.s,J x.2.d] 300)) (O (G wr.heap) 3)=Z (J x.2.d):=SR _ _ _ 3 rfl;have a7:=zJ (E wr (VP #[J (x.1:Int),J (x.2.to:Int),J x.2.s,J x.2.d] 300)) F.lv b1 (ad.out x.1).1 (ad.out.len XE.out x.1) x.2;rw[am]at a7;have cx:=F.bx;have bZ:∀g,LvB lb vb eb f2 g->g<G wr.heap:=λ g B=>u.lv.blt B;have dp:Vy _:=bZ;have ec:G wr.heap<G (E wr (VP #[J (x.1:Int),J (x.2.to:Int),J x.2.s,J x.2.d] 300)).heap:=(by simp);have HX:Vy (x=(x.1,⟨x.2.to,x.2.s,x.2.d,(n:Int)⟩)):=by
          unfold Vy;rw[<- am]
         have c8:=qH am;clear bZ e0 e1 e2 e3 b7 hx YF bi bI bA am u H;generalize bf:(x.1:Int)=xa at *;generalize X8:(x.2.to:Int)=xb at *;generalize bc:x.2.s=xs at *;generalize be:x.2.d=xd at *;have db:=qH bf;have da:=qH X8;have c7:=qH bc;have c9:=qH be;clear bf X8 bc be;go_wp2_with fail;generalize E wr (VP #[VN VO xa,VN VO xb,VN VO xs,VN VO xd] 300)=w8 at *;refine a7.mono ?_;rintro r w9 ⟨rfl,⟨f9,V9,ao⟩,S⟩;have nE:¬LvB lb vb eb f2 (G wr.heap):=λ h=>UA _ (dp.out _ h);have ay:=F.turn V9 S ao;have z0:=S.cellOf y0 nE;have z1:=S.cellOf y1 nE;have z2:=S.cellOf y2 nE;have z3:=S.cellOf y3 nE;have a4:=br W S (λ g B h=>R.out g h B);have ba:Vy (∀g,LvB lb vb eb f9 g->M' (TQ (Z (O g4 0)) Q9.length XH)≠Z g):=λ g B h=>by
          rcases ao g B with z|z
          ·exact R.out g z h
          ·have:=(W.lt g h).2;omega
         have dv:¬LvB lb vb eb f9 (G wr.heap):=λ h=>by
          rcases ao _ h with z|z
          ·exact nE z
          ·omega
         have aN:Vy (gF L (fU (bW VT.es (Q9.take j)) x.1 (cX x.2 (bW VT.es (Q9.take j) x.1)))):=ad.out.put b0;have au:=zJ w9 ay.lv b0 (aN.out x.2.to).1 (aN.out.len XE.out x.2.to) ⟨x.1,xs,xd,(n:Int)⟩;rw[da.out]at au;simp only[db.out]at au;have cv:=ay.bx;clear a7 F W y0 y1 y2 y3 cx S V9 ao R;go_wp2_with fail;refine au.mono ?_;rintro r wA ⟨rfl,⟨fA,VA,a2⟩,KA⟩;have b8:=ay.turn VA KA a2;have cz:=br a4 KA (λ g B h=>ba.out g h B);have dd:Vy (∀g,LvB lb vb eb fA g->M' (TQ (Z (O g4 0)) Q9.length XH)≠Z g):=λ g B h=>by
          rcases a2 g B with z|z
          ·exact ba.out g z h
          ·have:=(a4.lt g h).2;omega
         have bb:Vy (fU (fU (bW VT.es (Q9.take j)) x.1 (cX x.2 (bW VT.es (Q9.take j) x.1))) x.2.to (cX ⟨x.1,xs,xd,(n:Int)⟩ (fU (bW VT.es (Q9.take j)) x.1 (cX x.2 (bW VT.es (Q9.take j) x.1)) x.2.to))=bW VT.es (Q9.take (j+1))):=by
          rw[Xm.out];unfold lay2;rw[c7.out,c9.out,c8.out];exact rfl
         have dn:Vy (gF L (bW VT.es (Q9.take (j+1)))):=by
          rw[<- bb.out];exact aN.out.put b1
         have c6:RSt w wA N lb vb eb t L M9 (.slice (Z (O g0 0)) (K M9) Zg) f fA ⟨λ k=>if k=n then t else VT.VE k,bW VT.es (Q9.take (j+1))⟩ (λ k=>nr k || l.any (λ e=>e.to==k)):=by
          rw[<- bb.out];exact b8
         clear au ay a4 z0 z1 z2 z3 cv KA VA a2 ba b8 bb Xm ad aN;go_wp2;go_roundw
         case rel=>exact⟨j+1,fA,U,gQ,c6,cz,dd.out,dn.out⟩
         case measure=>simp[intOf];omega
        ·have e:j=Q9.length:=U;subst e;have F:RSt w wr N lb vb eb t L M9 (.slice (Z (O g0 0)) (K M9) Zg) f f2 ⟨λ k=>if k=n then t else VT.VE k,bW VT.es Q9⟩ (λ k=>nr k || l.any (λ e=>e.to==k)):=by
          have:=u;rw[Tl]at this;exact this
         have a9:Vy (eg t n VT nr ⟨λ k=>if k=n then t else VT.VE k,bW VT.es Q9⟩ (λ k=>nr k || l.any (λ e=>e.to==k)) Q):=by
          refine SP ⟨ax.out,p,HP.out,SP ?_⟩;rw[<- HQ.out,ag.out];exact⟨bw,rfl,rfl,rfl⟩
         have ac:Vy (Rnd t (M9.take (k+1)) st (λ _=>Vl) ⟨λ k=>if k=n then t else VT.VE k,bW VT.es Q9⟩ (λ k=>nr k || l.any (λ e=>e.to==k)) Q):=by
          rw[Yq.out];have z:=HR.out.snoc a9.out;rw[Bool.or_true]at z;exact z
         have ds:Vy _:=HA.out.turn cn WK a9.out;have Yb:Vy (∀m,(nr m || l.any (λ e=>e.to==m))=Q->m∈L):=λ m hm=>by
          rcases Bool.or_eq_true .. ▸ hm with h|h
          ·exact aL.out m h
          ·obtain⟨e,C,h2⟩:=List.any_eq_true.1 h;have:e.to=m:=beq_iff_eq.1 h2;rw[<- this];exact ab.out e C
         clear u H R ad a9 HR HA aL ax HP HE HQ ag Yr b9 ab a0;go_wp2;go_roundw
         case rel=>exact⟨k+1,_,_,f2,Q,U,gQ,rfl,F,ac.out,ds.out,Yb.out⟩
         case measure=>simp[intOf];omega
  ·have e:k=K M9:=U;subst e;have dc:Vy (Rnd t L st (λ _=>Vl) VT nr v):=by
    have z:=HR.out;rw[Tl]at z;exact Rnd.filter ht (λ n hn hq=>by
     have:st.VE n≠0:=by simpa using hq
     omega) (HM.out▸z)
   have lv:=RS.lv;have cc:=RS.new;have kp:=RS.kp;clear HR RS;go_wp2;go_ret;exact⟨VT,nr,v,f',rfl,dc.out,lv,cc,kp⟩
end
section
open Go.RowKit Go.Maps
structure tY (w:M) (N eb:Nat) (L:Ln) (es:Nat->List LE) (f:Int->Option Vr):Prop where
 em:bj Vyj 3 w eb f (K L)
 row:∀n∈L,∃v,f (n:Int)=Z v/\G' w N 203 4 v (K (es n)) (bB (es n))
 no:∀i v,f i=Z v->0<=i/\i.toNat∈L
 apart:∀n m v v' g,f n=Z v->f m=Z v'->M' v=Z g->M' v'=Z g->n=m
 nb:N<=eb
 bd:∀n∈L,n<256
 len:K L<=256
def dI (L:Ln):Int->Bool:=λ i=>decide (0<=i/\i.toNat∈L)
theorem tg {L:Ln}:dI L (n:Int)=Q↔n∈L:=by grind [dI,Ta]
theorem Gk (n:Nat)(L:Ln):dI (n::L)=eD (dI L) (n:Int):=by grind [dI,eD]
theorem zM:∀{L:Ln},L.Nodup->(∀n∈L,n<256)->cM (dI L) 256=K L
 |[],_,_=>by
  have:dI []=λ _=>false:=by funext i;unfold dI;simp
  rw[this];exact oP 256
 |n::L,d,b=>by
  have c:=List.pairwise_cons.1 d;have a:dI L (n:Int)=false:=by
   cases h:dI L (n:Int) with
   |false=>rfl
   |true=>exact Q8 rfl (c.1 n (tg.1 h))
  rw[Gk,jI _ _ 256 U (Oq (b n (Tp ..))) a,zM c.2 (λ m e=>b m (Tj _ e)),Tk]
def zvF (S:Int->Bool):Int->Option Value:=λ i=>if S i then Z (J 0) else none
theorem Nj (S:Int->Bool)(a:Int):bQ (zvF S) a (J 0)=zvF (eD S a):=by grind [bQ,zvF,eD,Q2,Q3]
theorem JA (S:Int->Bool)(a:Int):(zvF S a).isSome=S a:=by grind [zvF]
theorem Nk (L:Ln):zvF (dI L)=lvF L (λ _=>0):=by grind [zvF,lvF,dI,Q2,Q3]
section
variable {w I : M} {N lb vb eb top : Nat} {L : List Nat} {st : LSt} {f : Int → Option Vr}
theorem cR.congr (V:cR w N lb vb eb top L st f){VE:Nat->Nat}(h:∀n∈L,VE n=st.VE n):cR w N lb vb eb top L ⟨VE,st.es⟩ f:=by
 have e:lvF L VE=lvF L st.VE:=by grind [lvF]
 exact⟨V.c0,V.c1,V.c2,V.fz,by rw[e];exact V.lv,V.em,V.row,V.no,V.apart,V.off,V.nb,V.ne,V.bd,V.len⟩
theorem cR.up (V:cR w N lb vb eb top L st f)(t:Nat):cR (C' w (O lb 0) (J (t:Int))) N lb vb eb t L st f/\ai (λ k=>k=lb) w (C' w (O lb 0) (J (t:Int))):=by
 have a:ai (λ k=>k=lb) w (C' w (O lb 0) (J (t:Int))):=(ai.refl (λ k=>k=lb) w).setCell (p:=O lb 0) (λ _=>rfl) _;refine⟨⟨World.cell?_setCell_same _ _ _ V.c0,?_,?_,?_,V.lv.X' a (λ e=>V.nes.1 e.symm),V.em.X' a (λ e=>V.nes.2 e.symm),λ n c=>?_,V.no,V.apart,V.off,V.nb,V.ne,V.bd,V.len⟩,a⟩;rw[SY _ _ _ _ sQ];exact V.c1;rw[SY _ _ _ _ sQ];exact V.c2;rw[World.frozen?_setCell];exact V.fz;obtain⟨v,b,i⟩:=V.row n c;exact⟨v,b,br i a (λ g d h=>V.off _ _ b (by rw[<- h];exact d))⟩
theorem cR.base (V:cR w N lb vb eb top L st f){g:Nat}(h:LvB lb vb eb f g):N<=g:=by
 rcases h with rfl|rfl|rfl|⟨i,v,a,e⟩
 exact V.nb.1;exact V.nb.2.1;exact V.nb.2.2;obtain⟨d,c⟩:=V.no i v a;obtain⟨k,b,j⟩:=V.row i.toNat c;rw[TE d,a]at b;cases b;exact(j.lt g e).1
end
theorem tY.X' {F:Nat->Prop}{L:Ln}{es:Nat->List LE}(E9:tY w N eb L es f)(b:ai F w I)(h:¬F eb)(e:∀g i v,f i=Z v->M' v=Z g->¬F g):tY I N eb L es f :=
 ⟨E9.em.X' b h,λ n c=>by
  obtain⟨v,a,j⟩:=E9.row n c;exact⟨v,a,br j b (λ g d=>e g _ v a d)⟩,E9.no,E9.apart,E9.nb,E9.bd,E9.len⟩
structure Hd (w:M) (lb vb eb top:Nat):Prop where
 c0:D w (O lb 0)=Z (J (top:Int))
 c1:D w (O lb 1)=Z (.map (Z vb))
 c2:D w (O lb 2)=Z (.map (Z eb))
 fz:w.frozen? (O lb 0)=Vl
theorem Hd.X' {F:Nat->Prop}(H:Hd w lb vb eb top)(a:ai F w I)(h:¬F lb):Hd I lb vb eb top :=
 ⟨a.cellOf H.c0 h,a.cellOf H.c1 h,a.cellOf H.c2 h,(a.frozen (p:=O lb 0) (aB H.c0) h).trans H.fz⟩
def CI (w:M) (N lb vb eb N':Nat) (L:Ln) (es:Nat->List LE):Prop:=∃k VT f',Rds N' L ⟨λ _=>0,es⟩ k VT/\mz N' L k VT/\cR w N lb vb eb (k+1) L ⟨dP (k+1) VT,VT.es⟩ f'
theorem JB {N':Nat}{L:Ln}{es:Nat->List LE}(w:M)(E9:tY w N eb L es f)(hN:N<=G w.heap)(hr:L.Pairwise (·<·))(B:Btw L 0 16 ⟨λ _=>0,es⟩)(m1:1<=N')(m6:N'<=6) :
  Zq 122 #[.map (Z eb),J (N':Int)] w λ e I=>e=VJ (Pq (G w.heap+1))/\CI I N (G w.heap+1) (G w.heap) eb N' L es/\Vw N w I:=by
 have bw:=@run_makeMap Vyj;have bM:=E9.em.lt;obtain⟨y,XT⟩:∃y,y=(E w (.map #[] 0)).alloc (VP #[J 1,.map (Z (G w.heap)),.map (Z eb)] 242):=⟨_,rfl⟩;have BW:Bq w y:=by
  rw[XT];exact(ae.alloc aa _).alloc sQ _
 have VZ:G y.heap=G w.heap+2:=by rw[XT];simp
 have c0:Cq y (G w.heap+1) 0 (J 1):=by rw[XT];exact SR _ _ _ 0 sQ
 have c1:Cq y (G w.heap+1) 1 (.map (Z (G w.heap))):=by rw[XT];exact SR _ _ _ 1 sQ
 have c2:Cq y (G w.heap+1) 2 (.map (Z eb)):=by rw[XT];exact SR _ _ _ 2 sQ
 have fz:y.frozen? (O (G w.heap+1) 0)=false:=by
  rw[XT,frozen?_alloc_cells];simp[World.frozen?]
 have lm:bj Vyj 3 y (G w.heap) (zvF λ _=>Vl) (cM (λ _=>Vl) 256):=by
  have e:zvF (λ _=>Vl)=λ _=>none:=rfl;rw[XT,oP,e];exact(bj.made w Vyj 3).X' (F:=λ _=>False) ((ai.refl _ _).alloc _) id
 have a3:=E9.em.X' (F:=λ _=>False) (ai.Y' BW) id;have E0:tY y N eb L es f:=⟨a3,λ n d=>by
  obtain⟨v,e1,e2⟩:=E9.row n d;exact⟨v,e1,ak e2 BW⟩,E9.no,E9.apart,E9.nb,E9.bd,E9.len⟩
 have a5:Vy (∀(x:Int) (v:Vr),f x=Z v->∃n:Nat,x=(n:Int)/\n∈L):=λ x v h=>by
  obtain⟨h1,T⟩:=E9.no x v h;exact⟨x.toNat,U,T⟩
 have a6:Vy (∀n∈L,(f (n:Int)).isSome=Q):=λ n d=>by
  obtain⟨v,e1,_⟩:=E9.row n d;rw[e1];rfl
 have ab:=E9.len;have XE:=qH E9.bd;have ba:=E9.nb;have bs:Vy L.Nodup:=hr.imp (λ h e=>U);have ap:Vy (∀g i v,f i=Z v->M' v=Z g->g<G w.heap):=λ g i v hi hg=>by
  obtain⟨h1,T⟩:=E9.no i v hi;obtain⟨v2,e1,e2⟩:=E9.row i.toNat T;rw[TE h1,hi]at e1;cases e1;exact(e2.lt g hg).2
 clear E9 a3;go_enter func122,ntmps122;go_wp2_with (first|(at_range;rw[<- XT];refine cO rfl _ 137 rfl 3 140 aV Tryz.Vxa eb _ _ rfl E0.em ?_;intro w3 Xf Yo a9)|go_in);have H0:Hd y (G w.heap+1) (G w.heap) eb 1:=⟨c0,c1,c2,fz⟩;have K3:ai (λ _=>False) y w3:=(ai.refl _ _).grown Yo (λ k hk _=>by cases hk);have H3:=H0.X' K3 id;have E3:=E0.X' K3 id (λ _ _ _ _ _=>id);have ax:=lm.X' K3 id;have B3:Bq w w3:=BW.grown Yo BW.size (λ k hk=>by cases hk);have a1:G w.heap+2<G w3.heap:=U;rw[VZ]at Xf;clear Yo a9 K3 H0 E0 lm BW c0 c1 c2 fz XT VZ;go_loopg [6] (K L) (λ gj nv wq=>∃(left:Int->Bool) (cnt:Nat) (S:Int->Bool),gj=cnt/\iM Vyj 3 wq eb (G w.heap+2) f (K L) left cnt/\bj Vyj 3 wq (G w.heap) (zvF S) (cM S 256)/\Vy (∀i:Int,S i=Q↔(f i).isSome=Q/\left i=Vl)/\Hd wq (G w.heap+1) (G w.heap) eb 1/\tY wq N eb L es f/\Bq w wq/\G w.heap+2<G wq.heap)
 case atStart=>exact⟨_,_,λ _=>Vl,rfl,Xf,ax,λ i=>⟨λ h=>(by cases h),λ ⟨h1,T⟩=>by rw[h1]at T;cases T⟩,H3,E3,B3,a1⟩
 case round =>
  clear Xf ax H3 E3 B3 a1;obtain⟨left,cnt,S,bx,Xd,lm,hS,H,E9,hB,hR⟩:=hrel;go_wp2_with (first|(at_next;refine di rfl _ rfl 3 aV eb (G w.heap+2) _ _ _ _ rfl Xd ?_ ?_)|go_in)
  ·intro bA XN;have eS:S=dI L:=by
    funext i
    cases h:S i with
    |true =>
     obtain⟨h1,_⟩:=(hS.out i).1 h;obtain⟨v,hv⟩:=Option.isSome_iff_exists.1 h1;obtain⟨n,rfl,d⟩:=a5.out i v hv;exact(tg.2 d).symm
    |false =>
     cases T:dI L i with
     |false=>rfl
     |true =>
      have h3:0<=i/\i.toNat∈L:=Q1 T;have h4:=a6.out i.toNat h3.2;rw[TE h3.1]at h4;rw[(hS.out i).2 ⟨h4,XN i⟩]at h;cases h
   have ay:bj Vyj 3 wr (G w.heap) (lvF L λ _=>0) (K L):=by
    have:=lm;rw[eS,Nk,zM bs.out XE.out]at this;exact this
   have W:cR wr N (G w.heap+1) (G w.heap) eb 1 L ⟨λ _=>0,es⟩ f:=⟨H.c0,H.c1,H.c2,H.fz,ay,E9.em,E9.row,E9.no,E9.apart,λ n v h1 T=>by have:=ap.out _ _ _ h1 T;omega,⟨U,U,ba⟩,U,E9.bd,E9.len⟩;have B1:Vw N w wr:=hB.mono hN;have a4:Vy (Rds N' L ⟨λ _=>0,es⟩ 0 ⟨λ _=>0,es⟩):=rfl;clear Xd lm hS H E9 hB hR eS ay XN;go_wp2;go_loopg [33] N' (λ gj pv wq=>∃(k:Nat) (VT:LSt) (f':Int->Option Vr),gj=N'-k/\k+1<=N'/\cR wq N (G w.heap+1) (G w.heap) eb (k+1) L VT f'/\Vy (Rds N' L ⟨λ _=>0,es⟩ k VT)/\Vw N w wq)
   case atStart=>exact⟨0,_,f,rfl,m1,W,a4,B1⟩
   case round =>
    clear W a4 B1;obtain⟨k,VT,f',WV,hk,W,u,B1⟩:=hrel;have q0:=W.c0;have be:N<=G wr.heap:=(by have:=B1.size;omega);by_cases VS:k+1<N'
    ·have bp:((k+1:Nat):Int)<(N':Int):=U;have a2:=fV (show (0:Int)<=16 by omega) k;have bi:dbl 16 k<=256:=by
      have:k=0\/k=1\/k=2\/k=3\/k=4:=U;rcases this with rfl|rfl|rfl|rfl|rfl<;>decide
     have hA:=(Btw.rds (show (0:Int)<=16 by omega) B u.out).all a2;have aN:=Gj wr W hr hA a2 bi (Nat.succ_pos k);go_wp2_with fail;refine aN.mono ?_;rintro e w5 ⟨st2,au,bk,f2,rfl,R,V5,bb,K5⟩;have B5:Vw N w w5:=B1.trans (K5.Z' be (λ q hq=>W.base hq));clear aN hA K5 bb B1;cases bk with
     |true =>
      have am:Vy (Rds N' L ⟨λ _=>0,es⟩ (k+1) st2):=⟨VT,au,u.out,VS,R⟩;have p0:=V5.c0;have pz:=V5.fz;have YP:=V5.up (k+1+1);have b:Vw N w (C' w5 (O (G w.heap+1) 0) (J ((k+1+1:Nat):Int))):=B5.trans (YP.2.Z' (Oq B5.size) (λ q e=>U));have bm:=YP.1;clear YP V5 B5 W R u q0;go_wp2;go_roundg (N'-(k+1))
      case measure=>omega
      case rel=>exact⟨k+1,st2,f2,rfl,U,bm,am,b⟩
     |false =>
      have e2:=R.none;have ao:Vy (mz N' L k st2):=SP ⟨st2,au,by
       have:=R;rw[<- e2]at this;exact this⟩
      have am:Vy (Rds N' L ⟨λ _=>0,es⟩ k st2):=(by rw[e2];exact u.out);clear R W u q0 e2;have A:=rz w5 V5 hr;have r:Vy (∀n,n∈gg L st2↔n∈L/\(st2).VE n=0):=λ n=>by
       unfold gg;rw[TS];simp
      have bf:K (gg L st2)<=256:=Tg (TH _ _) ab;go_wp2_with fail;refine A.mono ?_;rintro e w6 ⟨vM,rfl,Zi,WR⟩;generalize gg L st2=M9 at *;obtain⟨AM,Zg,rfl,_⟩:=jk Zi;have s:=(V5).below WR;have b:Vw N w w6:=(B5).trans (WR.mono (Oq (B5).size));have c:=cu Zi (Te _);clear A WR Zi;go_wp2;go_loopw [44] (λ iv wr=>∃j:Nat,j<=K M9/\iv=J j/\cR wr N (G w.heap+1) (G w.heap) eb (k+1) L ⟨λ q=>if q∈M9.take j then k+1 else (st2).VE q,(st2).es⟩ f2/\G' wr 0 3 1 (.slice AM (K M9) Zg) (K M9) (aH M9)/\Vw N w wr)
       (λ i _=>K M9-(intOf i).toNat)
      case atStart=>exact⟨0,Te _,rfl,s.congr (λ n _=>by simp),c,b⟩
      case round =>
       clear s c b;obtain⟨j,hj,rfl,s,c,b⟩:=hrel;by_cases WY:j<K M9
       ·obtain⟨X,ad⟩:∃X,AM=Z (O X 0):=by
         rcases c.2 with⟨_,P⟩|⟨X,_,_,hv,_⟩
         ·omega
         ·exact⟨X,by cases hv;rfl⟩
        subst ad;have VX:=jW c j WY;obtain⟨n,d⟩:∃n,M9[j]? = Z n:=⟨M9[j],SU WY⟩;have Zh:M9.getD j 0=n:=by
         rw[Tt,d];rfl
        rw[Zh]at VX;obtain⟨V,_⟩:=(r.out n).1 (Ti d);have bl:=XE.out n V;have Y2:=aE (a:=(n:Int)) U U;have Yq:Vy (M9.take (j+1)=M9.take j++[n]):=by
         rw[Ty,d];rfl
        have i1:(0:Int)<=(j:Int):=U;have i2:(j:Int)<(K M9:Int):=U;have Y:Bq wr wr.drew:=ae.drew;have p:=s.below Y;have o:=ak c Y;obtain⟨w8,Ya,l,z⟩:=p.lv.store aV Tryz.Vxf mQ Y2 (J ((k+1:Nat):Int));rw[vO V]at l;have t:=aA z;have V8:=(p.level V t l).congr (VE:=λ q=>if q∈M9.take (j+1) then k+1 else (st2).VE q) (λ m _=>by
         rw[Yq.out];by_cases e:m=n
         ·subst e;simp
         ·simp[e])
        have an:=br o t (bK o p.lv);have B8:Vw N w w8:=((b.trans (Y.mono (Oq b.size)))).trans (t.Z' (by have:=b.size;have h:G wr.drew.heap=G wr.heap:=rfl;omega) (λ q e=>U));have ag:(Instr.mapUpdate 144 (.map (Z (G w.heap))) (J (n:Int)) (J ((k:Int)+1))).run Vyj wr.drew=.ok () w8:=Ya;have r0:D wr.drew (O (G w.heap+1) 0)=Z (J ((k:Int)+1)):=p.c0;have r1:=p.c1;have C:=p.nes.1;have s0:=t.cellOf r0 C;have s1:=t.cellOf r1 C;clear d Zh c b Y o l z t p Ya;go_wp2_with fail;go_region_held3 (λ I=>D I (O (G w.heap+1) 0)=Z (J ((k:Int)+1))/\Cq I (G w.heap+1) 1 (.map (Z (G w.heap)))) (first|(exact⟨r0,r1⟩)|(exact⟨s0,s1⟩)) (first|(fail));clear r0 r1 s0 s1 ag VX;go_wp2;go_roundw
        case rel=>exact⟨j+1,U,gQ,V8,an,B8⟩
        case measure=>simp[intOf];omega
       ·have e:j=K M9:=U;subst e;have V7:=s.congr (VE:=dP (k+1) st2) (λ m hm=>by
         rw[Tl];unfold dP;by_cases P:(st2).VE m=0
         ·rw[Q5 P];show _=if m∈M9 then _ else _
          rw[Q5 ((r.out m).2 ⟨hm,P⟩)]
         ·rw[Q6 P];show _=if m∈M9 then _ else _
          rw[Q6 (λ h=>P ((r.out m).1 h).2)])
        clear s c;go_wp2;go_ret;exact⟨rfl,⟨k,st2,f2,am.out,ao.out,V7⟩,b⟩
    ·have bp:¬((k+1:Nat):Int)<(N':Int):=U;have ao:Vy (mz N' L k VT):=SQ U;have A:=rz wr W hr;have r:Vy (∀n,n∈gg L VT↔n∈L/\(VT).VE n=0):=λ n=>by
      unfold gg;rw[TS];simp
     have bf:K (gg L VT)<=256:=Tg (TH _ _) ab;go_wp2_with fail;refine A.mono ?_;rintro e w6 ⟨vM,rfl,Zi,WR⟩;generalize gg L VT=M9 at *;obtain⟨AM,Zg,rfl,_⟩:=jk Zi;have s:=(W).below WR;have b:Vw N w w6:=(B1).trans (WR.mono (Oq (B1).size));have c:=cu Zi (Te _);clear A WR Zi;go_wp2;go_loopw [44] (λ iv wr=>∃j:Nat,j<=K M9/\iv=J j/\cR wr N (G w.heap+1) (G w.heap) eb (k+1) L ⟨λ q=>if q∈M9.take j then k+1 else (VT).VE q,(VT).es⟩ f'/\G' wr 0 3 1 (.slice AM (K M9) Zg) (K M9) (aH M9)/\Vw N w wr)
      (λ i _=>K M9-(intOf i).toNat)
     case atStart=>exact⟨0,Te _,rfl,s.congr (λ n _=>by simp),c,b⟩
     case round =>
      clear s c b;obtain⟨j,hj,rfl,s,c,b⟩:=hrel;by_cases WY:j<K M9
      ·obtain⟨X,ad⟩:∃X,AM=Z (O X 0):=by
        rcases c.2 with⟨_,P⟩|⟨X,_,_,hv,_⟩
        ·omega
        ·exact⟨X,by cases hv;rfl⟩
       subst ad;have VX:=jW c j WY;obtain⟨n,d⟩:∃n,M9[j]? = Z n:=⟨M9[j],SU WY⟩;have Zh:M9.getD j 0=n:=by
        rw[Tt,d];rfl
       rw[Zh]at VX;obtain⟨V,_⟩:=(r.out n).1 (Ti d);have bl:=XE.out n V;have Y2:=aE (a:=(n:Int)) U U;have Yq:Vy (M9.take (j+1)=M9.take j++[n]):=by
        rw[Ty,d];rfl
       have i1:(0:Int)<=(j:Int):=U;have i2:(j:Int)<(K M9:Int):=U;have Y:Bq wr wr.drew:=ae.drew;have p:=s.below Y;have o:=ak c Y;obtain⟨w8,Ya,l,z⟩:=p.lv.store aV Tryz.Vxf mQ Y2 (J ((k+1:Nat):Int));rw[vO V]at l;have t:=aA z;have V8:=(p.level V t l).congr (VE:=λ q=>if q∈M9.take (j+1) then k+1 else (VT).VE q) (λ m _=>by
        rw[Yq.out];by_cases e:m=n
        ·subst e;simp
        ·simp[e])
       have an:=br o t (bK o p.lv);have B8:Vw N w w8:=((b.trans (Y.mono (Oq b.size)))).trans (t.Z' (by have:=b.size;have h:G wr.drew.heap=G wr.heap:=rfl;omega) (λ q e=>U));have ag:(Instr.mapUpdate 144 (.map (Z (G w.heap))) (J (n:Int)) (J ((k:Int)+1))).run Vyj wr.drew=.ok () w8:=Ya;have r0:D wr.drew (O (G w.heap+1) 0)=Z (J ((k:Int)+1)):=p.c0;have r1:=p.c1;have C:=p.nes.1;have s0:=t.cellOf r0 C;have s1:=t.cellOf r1 C;clear d Zh c b Y o l z t p Ya;go_wp2_with fail;go_region_held3 (λ I=>D I (O (G w.heap+1) 0)=Z (J ((k:Int)+1))/\Cq I (G w.heap+1) 1 (.map (Z (G w.heap)))) (first|(exact⟨r0,r1⟩)|(exact⟨s0,s1⟩)) (first|(fail));clear r0 r1 s0 s1 ag VX;go_wp2;go_roundw
       case rel=>exact⟨j+1,U,gQ,V8,an,B8⟩
       case measure=>simp[intOf];omega
      ·have e:j=K M9:=U;subst e;have V7:=s.congr (VE:=dP (k+1) VT) (λ m hm=>by
        rw[Tl];unfold dP;by_cases P:(VT).VE m=0
        ·rw[Q5 P];show _=if m∈M9 then _ else _
         rw[Q5 ((r.out m).2 ⟨hm,P⟩)]
        ·rw[Q6 P];show _=if m∈M9 then _ else _
         rw[Q6 (λ h=>P ((r.out m).1 h).2)])
       clear s c;go_wp2;go_ret;exact⟨rfl,⟨k,VT,f',u.out,ao.out,V7⟩,b⟩
  ·intro x v w4 Wt Zd Yp YQ WU VS W9 Yy ZG;obtain⟨n,a8,V⟩:=a5.out x v YQ;subst a8;have bI:=XE.out n V;have K4:ai (λ k=>k=G w.heap+2) wr w4:=(ai.refl _ _).grown W9 (λ k hk _=>by cases hk;rfl);have H4:=H.X' K4 U;have E4:=E9.X' K4 U (λ g i v hi hg=>by have:=ap.out g i v hi hg;omega);have aw:=lm.X' K4 U;have B4:Bq w w4:=hB.grown W9 hB.size (λ k e=>by cases e;omega);obtain⟨w5,bZ,ac,aL⟩:=aw.store aV Tryz.Vxf (by have:=oO S 256;unfold Vyf;omega) Zd (J 0);have K5:=aA aL;have H5:=H4.X' K5 U;have E5:=E4.X' K5 U (λ g i v hi hg=>by have:=ap.out g i v hi hg;omega);have a0:S (n:Int)=false:=by
    cases h:S (n:Int) with
    |false=>rfl
    |true=>have:=((hS.out _).1 h).2;rw[Yp]at this;cases this
   rw[Nj,JA,a0]at ac;have a7:bj Vyj 3 w5 (G w.heap) (zvF (eD S (n:Int))) (cM (eD S (n:Int)) 256):=by
    rw[jI S _ 256 U U a0];exact ac
   have bn:=WU.X' K5 U U;have B5:Bq w w5:=B4.trans (K5.Z' B4.size (λ k e=>U));have bc:G w.heap+2<G w5.heap:=(by have:=K5.size;omega);have bq:Vy (∀i:Int,eD S (n:Int) i=Q↔(f i).isSome=Q/\(left i&&!decide (i=(n:Int)))=Vl):=λ i=>by
    rw[cW,hS.out i];by_cases e:i=(n:Int)
    ·subst e;rw[a6.out n V];simp
    ·simp[e]
   have q1:=H4.c1;clear Xd W9 Yy K4 H E9 lm hB K5 ac aL E4 aw B4 WU;go_wp2;go_roundg Wt
   case measure=>omega
   case rel=>exact⟨_,Wt,_,rfl,bn,a7,bq.out,H5,E5,B5,bc⟩
end
section
open Go.RowKit Go.Maps
def GEs (W H:Int) (Y:Bn) (es:Nat->List LE):Prop :=
 (∀n:Nat,aY W H Y n=Q->∃l:Ln,kZ W H Y n l/\es n=l.map (λ m=>⟨m,aP W n m,aO W n m,-1⟩))/\∀n:Nat,aY W H Y n=Vl->es n=[]
theorem lE (W:Int)(n:Nat):∀l:Ln,bB (l.map (λ m=>(⟨m,aP W n m,aO W n m,-1⟩:LE)))=ct W (n:Int) l
 |[]=>rfl
 |m::l=>by
  rw[List.map_cons,dU,lE W n l];rfl
theorem kZ.one {W H c:Int}{Y:Bn}{l l':Ln}(h:kZ W H Y c l)(a:kZ W H Y c l'):l=l':=tO h.1 a.1 (λ n=>by rw[h.2 n,a.2 n])
theorem Pv (W H:Int)(Y:Bn)(d:1<=W):∃es,GEs W H Y es:=by
 have h:∀n:Nat,∃e:List LE,(aY W H Y n=Q->∃l:Ln,kZ W H Y n l/\e=l.map (λ m=>⟨m,aP W n m,aO W n m,-1⟩))/\(aY W H Y n=Vl->e=[]):=λ n=>by
  cases i:aY W H Y n with
  |false=>exact⟨[],λ h=>(by cases h),λ _=>rfl⟩
  |true =>
   refine⟨_,λ _=>⟨(crs W H Y (W*H).toNat).filter (λ m:Nat=>@decide (Dir W H Y n m/\(m:Int)≠n) (Classical.propDecidable _)),⟨(iE W H Y _).filter _,λ m=>?_⟩,rfl⟩,λ h=>(by cases h)⟩;rw[TS,cU,@decide_eq_true_iff _ (Classical.propDecidable _),Bool.and_eq_true,decide_eq_true_eq];constructor
   grind
   rintro⟨g,f,c⟩;have j:0<=(m:Int)/\(m:Int)<W*H:=Q1 (aR d (aI.1 c));exact⟨⟨U,c⟩,g,f⟩
 obtain⟨es,b⟩:=Classical.axiomOfChoice h;exact⟨es,λ n a=>(b n).1 a,λ n a=>(b n).2 a⟩
section
variable {W H : Int} {Y : Nat → Bool} {es : Nat → List LE}
theorem GEs.mem (G9:GEs W H Y es){a:Nat}{e:LE}(h:e∈es a):aY W H Y a=Q/\aY W H Y e.to=Q/\Dir W H Y a e.to/\e.to≠a/\e.s=aP W a e.to/\e.d=aO W a e.to/\e.U6=-1:=by
 cases c:aY W H Y a with
 |false=>rw[G9.2 a c]at h;cases h
 |true =>
  obtain⟨l,j,i⟩:=G9.1 a c;rw[i]at h;obtain⟨m,f,rfl⟩:=TX.1 h;obtain⟨g,b⟩:=(j.2 m).1 f;rw[Bool.and_eq_true,decide_eq_true_eq]at b;exact⟨rfl,b.2,g,λ e=>b.1 (by grind),rfl,rfl,rfl⟩
theorem GEs.in (G9:GEs W H Y es){a m:Nat}(d:aY W H Y a=Q)(b:aY W H Y m=Q)(c:Dir W H Y a m)(e:m≠a):(⟨m,aP W a m,aO W a m,-1⟩:LE)∈es a:=by grind [GEs,aY,Dir,aP,aO,kZ]
theorem GEs.esy (G9:GEs W H Y es):Esy es:=by
 refine⟨λ n=>?_,λ {a e} b=>?_,λ {a e} b=>(G9.mem b).2.2.2.1⟩;cases f:aY W H Y n with
 |false=>rw[G9.2 n f];exact List.Pairwise.nil
 |true =>
  obtain⟨l,d,c⟩:=G9.1 n f;rw[c];unfold Rsg;rw[UY];exact d.1
 obtain⟨d,c,k,j,i,h,g⟩:=G9.mem b;have:=G9.in c d k.sym (λ e=>j e.symm)
 rw[aW W e.to a,aX W e.to a,<- i,<- h,<- g]at this;exact this
theorem GEs.btw (G9:GEs W H Y es)(c:1<=W)(i:W<=16)(p:1<=H)(o:H<=16):Btw (crs W H Y (W*H).toNat) 0 16 ⟨λ _=>0,es⟩:=by
 have g:∀{n:Nat},aY W H Y n=Q->n∈crs W H Y (W*H).toNat:=λ {n} f=>by
  have q:0<=(n:Int)/\(n:Int)<W*H:=Q1 (aR c (aI.1 f));exact cU.2 ⟨U,f⟩
 refine⟨Lrd.start G9.esy (λ _=>rfl) (λ {a e} b=>by rw[(G9.mem b).2.2.2.2.2.2];decide),⟨λ {a e} b=>⟨g (G9.mem b).1,g (G9.mem b).2.1⟩,λ h=>Q8 h (UA _)⟩,λ {a e} b=>?_⟩;obtain⟨m,l,_,_,k,j,_⟩:=G9.mem b;have d:=cA c i p o (aR c (aI.1 m)) (aR c (aI.1 l));rw[k,j];exact⟨aJ _ _ _,aG _ _ _,d.1,d.2⟩
end
theorem tY.add {P:Ln}{es:Nat->List LE}(E9:tY w N eb P es f)(B:n<256)(L:K P<256)(F:ai (λ k=>k=eb) w I)(C:bj Vyj 3 I eb (bQ f (n:Int) v) (K P+1))(row:G' I N 203 4 v (K (es n)) (bB (es n)))(A:n∉P)(x:∀g,M' v=Z g->∀i u,f i=Z u->M' u≠Z g) :
  tY I N eb (P++[n]) es (bQ f (n:Int) v):=by
 have o:∀{i:Int},i≠(n:Int)->bQ f (n:Int) v i=f i:=λ h=>du _ _ h;refine⟨by rw[Td];exact C,λ m q=>?_,λ i u t=>?_,λ a b u H g j d s r=>?_,E9.nb,λ m q=>?_,by rw[Td];show K P+1<=256;omega⟩;by_cases e:m=n;subst e;exact⟨v,cF _ _ _,row⟩;have p:m∈P:=by
  rcases Tn.1 q with h|h
  exact h;exact Q8 (Tv.1 h) e
 obtain⟨u,l,c⟩:=E9.row m p;exact⟨u,(o U).trans l,br c F (bK c E9.em)⟩;by_cases e:i=(n:Int);subst e;exact⟨U,by simp⟩;rw[o e]at t;obtain⟨z,y⟩:=E9.no i u t;exact⟨z,Tn.2 (SQ y)⟩;by_cases l:a=(n:Int);by_cases c:b=(n:Int);rw[l,c];subst l;rw[cF]at j;cases j;rw[o c]at d;exact Q8 r (x g s _ _ d);rw[o l]at j;by_cases c:b=(n:Int);subst c;rw[cF]at d;cases d;exact Q8 s (x g r _ _ j);rw[o c]at d;exact E9.apart _ _ _ _ g j d s r;rcases Tn.1 q with h|h
 exact E9.bd m h;rw[Tv.1 h];exact B
theorem Nl {rb:Nat}{N':Int}(w:M)(a:N'<1\/6<N'):Eq9 77 #[Pq rb,J N'] w (.tuple #[.pointer none,.iface 42 (J 1)]):=by
 rcases Decidable.em (N'<1) with h|h
 ·go_enter func77,ntmps77;go_wp2;go_ret2;exact⟨rfl,rfl⟩
 ·have b:6<N':=U;go_enter func77,ntmps77;go_wp2;go_ret2;exact⟨rfl,rfl⟩
end
section
open Go.RowKit Go.Maps
def Lvd (w:M) (N lb N':Nat) (W H:Int) (Y:Bn) (es:Nat->List LE):Prop:=∃vb eb,CI w N lb vb eb N' (crs W H Y (W*H).toNat) es
theorem tZ {rb pb mb N':Nat}{W H V:Int}{Y:Bn}{es:Nat->List LE}(w:M)(G9:eh w rb pb mb W H V Y)(hG:GEs W H Y es)(m1:1<=N')(m6:N'<=6) :
  Zq 77 #[Pq rb,J (N':Int)] w λ e I=>∃lb,e=VJ (.tuple #[Pq lb,.nilIface])/\Lvd I (G w.heap) lb N' W H Y es/\Bq w I:=by
 obtain⟨w1,w2,S,r⟩:1<=W/\W<=16/\1<=H/\H<=16:=by
  obtain⟨f,G9,_⟩:=G9;exact⟨G9.ga.w1,G9.ga.w2,G9.ga.h1,G9.ga.h2⟩
 have WS:=bG w1 w2 S r;have ap:=@run_makeMap Vyj;have b0:Bq w (E w (.map #[] 0)):=ae.alloc aa _;have M0:=bj.made w Vyj 3;have VZ:G w.heap<G (E w (.map #[] 0)).heap:=by simp
 have G0:=G9.below b0;have B:=r9 _ G0;have HB:=qH (hG.btw w1 w2 S r);have HR:Vy ((crs W H Y (W*H).toNat).Pairwise (·<·)):=iE _ _ _ _;have HC:Vy (∀n∈crs W H Y (W*H).toNat,aY W H Y n=Q/\n<256):=λ n b=>by
  have:=cU.1 b;exact⟨this.2,U⟩
 have ZU:K (crs W H Y (W*H).toNat)<=256:=by have:=fx W H Y (W*H).toNat;omega
 have am:Vy (∀I lb vb eb,CI I (G w.heap) lb vb eb N' (crs W H Y (W*H).toNat) es->Lvd I (G w.heap) lb N' W H Y es):=λ _ _ vb eb h=>⟨vb,eb,h⟩;have an:=qH G9;clear G9;go_enter func77,ntmps77;go_wp2_with fail;generalize E w (.map #[] 0)=wa at *;refine B.mono ?_;rintro e wb ⟨vL,rfl,X,d⟩;generalize crs W H Y (W*H).toNat=L at *;obtain⟨AL,A,rfl,_⟩:=jk X;have B1:=aj b0 d;have G1:=G0.below d;have E1:tY wb (G w.heap) (G w.heap) [] es (λ _=>none):=⟨M0.X' (F:=λ _=>False) (ai.Y' d) id,λ n b=>(by cases b),λ i v h=>(by cases h),λ n m v v' g h=>(by cases h),aa,λ n b=>(by cases b),Te _⟩;have Wb:=cu X (Te _);have W9:∀q,M' (TQ AL (K L) A)=Z q->G wa.heap<=q:=λ q hq=>(X.lt q hq).1;have aw:Vy _:=W9;clear B d X G0 M0 b0 W9;go_wp2;go_loopw [20] (λ iv wr=>∃(k:Nat) (f:Int->Option Vr),k<=K L/\iv=J k/\tY wr (G w.heap) (G w.heap) (L.take k) es f/\eh wr rb pb mb W H V Y/\G' wr 0 3 1 (.slice AL (K L) A) (K L) (aH L)/\Bq w wr)
  (λ i _=>K L-(intOf i).toNat)
 case atStart=>exact⟨0,_,Te _,rfl,E1,G1,Wb,B1⟩
 case round =>
  clear E1 G1 Wb B1;obtain⟨k,f,hk,rfl,o,G9,c,z⟩:=hrel;by_cases VS:k<K L
  ·obtain⟨T,ag⟩:∃T,AL=Z (O T 0):=by
    rcases c.2 with⟨_,h0⟩|⟨T,_,_,hv,_⟩
    ·omega
    ·exact⟨T,by cases hv;rfl⟩
   subst ag;have VX:=jW c k VS;obtain⟨n,b⟩:∃n,L[k]? = Z n:=⟨L[k],SU VS⟩;have Zh:L.getD k 0=n:=by
    rw[Tt,b];rfl
   rw[Zh]at VX;have WK:=Ti b;obtain⟨x,ab⟩:=HC.out n WK;have Y2:=aE (a:=(n:Int)) U U;have Yq:Vy (L.take (k+1)=L.take k++[n]):=by
    rw[Ty,b];rfl
   have N:Vy (n∉L.take k):=λ hm=>by
    obtain⟨i,hi,h⟩:=TR hm;have ac:i<k:=(by rw[Ts]at hi;omega);have r:L[i]? = Z n:=by
     rw[Vg]at h;rw[SU U,h]
    have h3:=Ua.1 HR.out i k U VS ac;rw[SU VS]at b;rw[SU U]at r;have e1:=Option.some.inj b;have e2:=Option.some.inj r;omega
   have i1:(0:Int)<=(k:Int):=U;have i2:(k:Int)<(K L:Int):=U;have Xl:K (L.take k)=k:=(by rw[Ts];omega);have ZI:=xZ wr G9 x Y2;have ao:Vy (∀l,kZ W H Y (n:Int) l->ct W (n:Int) l=bB (es n)/\K l=K (es n)):=λ l hl=>by
    obtain⟨l',S,r⟩:=hG.1 n x;have e:=hl.one S;subst e;rw[r,lE,List.length_map];exact⟨rfl,rfl⟩
   clear b Zh WK;go_wp2_with fail;refine ZI.mono ?_;rintro e w5 ⟨v5,l,rfl,WC,y,j⟩;have G5:=G9.below j;have WA:=ak c j;have P:=o.X' (F:=λ _=>False) (ai.Y' j) id (λ _ _ _ _ _=>id);have R:=aj z j;obtain⟨w6,au,p,s⟩:=P.em.store aV Tryz.Vxa (by rw[Xl];unfold Vyf;omega) Y2 v5;have C:=aA s;have ad:f (n:Int)=none:=by
    cases hf:f (n:Int) with
    |none=>rfl
    |some u=>exact Q8 (by simpa using (o.no _ _ hf).2) N.out
   rw[ad]at p;obtain⟨q1,q2⟩:=ao.out l y;have YS:G' w6 (G w.heap) 203 4 v5 (K (es n)) (bB (es n)):=by
    rw[<- q1,<- q2];exact br (cu WC z.size) C (bK WC P.em)
   have E6:=P.add ab (by rw[Xl];omega) C p YS N.out (λ g hg i u hu h=>by
    obtain⟨k1,k2⟩:=o.no i u hu;obtain⟨u',e1,e2⟩:=o.row i.toNat k2;rw[TE k1,hu]at e1;cases e1;have:=(e2.lt g h).2;have:=(WC.lt g hg).1;omega)
   rw[<- Yq.out]at E6;have Wu:=br WA C (bK WA P.em);have B6:Bq w w6:=R.trans (C.Z' R.size (λ q e=>U));have G6:=an.out.below B6;clear ZI WC y j G9 G5 c WA o P z R p s C YS q1 q2;go_wp2;go_roundw
   case rel=>exact⟨k+1,_,U,gQ,E6,G6,Wu,B6⟩
   case measure=>simp[intOf];omega
  ·have e:k=K L:=U;subst e;rw[Tl]at o;have t:=JB wr o z.size HR.out HB.out m1 m6;clear c G9 o;go_wp2_with fail;refine t.mono ?_;rintro e w5 ⟨rfl,hO,j⟩;have R:=z.trans j;have HL:=am.out _ _ _ _ hO;clear t hO j;go_wp2;go_ret2;exact⟨_,rfl,HL,R⟩
end
end Go.Proofs.YtikdmenjibkgiaaGreatDoor
