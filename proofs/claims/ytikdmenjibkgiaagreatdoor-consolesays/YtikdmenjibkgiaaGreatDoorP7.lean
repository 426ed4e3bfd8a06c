/- Texts laid together. -/
import Derived.Test.YtikdmenjibkgiaaGreatDoorP6
namespace Go.Proofs.YtikdmenjibkgiaaGreatDoor
open Go.Proofs.Tryz renaming prog->Vyj
open Go.Value renaming ownBlock->M'
open _root_.Array renaming size->G
open _root_.Nat renaming zero_le->Te,lt_of_lt_of_le->Tc,le_trans->Tg,zero_add->Tm
open _root_.Or renaming inl->SQ,inr->SP
open _root_.List renaming take_succ_eq_append_getElem->Tx,take_length->Tl,getElem_mem->TY,mem_filter->TS,mem_range->Up,append_assoc->TC,replicate->Us,length_replicate->Vv,size_toArray->UC,mem_cons->TD,mem_append->Tn,getElem?_map->Tz,getElem?_range->UD,getElem?_append_left->TO,getElem?_append_right->TG,length->K
open Go.World renaming block_lt_of_cell?->SZ,cell?_alloc_at->SR,there_setCells->Uh,rangeAt_setCells_apart->T8,rangeAt_setCells_same->TV,frozen?_setCells->U3,cell?->D,alloc->E,ownsRow->G'
open _root_.Int renaming toNat_of_nonneg->TE,tmod_eq_emod_of_nonneg->UR,tdiv_eq_ediv_of_nonneg->UB
open Go.Proofs.Tryz
open _root_.Option renaming some->Z
open _root_.Bool renaming true->Q,false->Vl
open Go renaming World->M,Value->Vr,below_drewN->Vxj,bodyPost_ret->Vxl
open Go.Ending renaming returned->VJ
open Go.Obj renaming cells->VP
variable {b k n rb o M9:Nat}{W H V c t a:Int}{S p:Int->Bool}{w I:M}{l:List Vr}
set_option maxHeartbeats 8000000
set_option maxRecDepth 1000000
open Go.RowKit
theorem IY {n:Nat}{Y:Bn}{l:Ln}(r:onw W H Y c t 8=l)(w:M)(g:aq w b W H V Y)(s:az w)(d:ch w)(hb:b<G w.heap)(C:aU w n S)(T:inB W H c=Q)(ht:inB W H t=Q) :
  Zq 143 #[Pq b,.map (Z n),J c,J t] w λ e I=>Bq w I /\
   ((∃i,i<K l/\S ((l.getD i 0:Nat):Int)=Q/\(∀j,j<i->S ((l.getD j 0:Nat):Int)=Vl)/\e=VJ (.tuple #[J ((l.getD i 0:Nat):Int),.bool Q])) \/
    ((∀i,i<K l->S ((l.getD i 0:Nat):Int)=Vl)/\e=VJ (.tuple #[J 0,.bool Vl]))):=by
 have Wm:=g.w1;have WS:=bG g.w1 g.w2 g.h1 g.h2;have ab:=C.lt;have Yn:K l<=8:=by rw[<- r];exact zn _ _ _ _ _ _
 have HZ:Hid (∀j,j<K l->(0:Int)<=((l.getD j 0:Nat):Int)/\((l.getD j 0:Nat):Int)<256):=λ j P=>by
  obtain⟨k,e,_⟩:=(rf (z:=((l.getD j 0:Nat):Int)) Wm T r).1 ⟨j,P,rfl⟩;have:0<=((l.getD j 0:Nat):Int)/\((l.getD j 0:Nat):Int)<W*H:=Q1 (e.in' Wm);omega
 have Xc:=BY r w g s d hb T ht;clear r;go_enter func143,ntmps143;go_wp2_with fail;refine Xc.mono ?_;rintro e w1 ⟨A,ad,rfl,VU,o⟩;have B:=C.below o;clear Xc C;go_wp2;go_loopg [19] (K l) (λ gj iv wr=>∃j:Nat,gj=K l-j/\iv=J j/\j<=K l/\aU wr n S/\Hid (∀i,i<j->S ((l.getD i 0:Nat):Int)=Vl)/\bP wr A (K l) (λ i=>(l.getD i 0:Nat))/\Bq w wr)
 case atStart=>exact⟨0,rfl,rfl,Te _,B,λ i R=>Q8 R U,VU,o⟩
 case round =>
  obtain⟨j,ac,rfl,P,p,N,v,u⟩:=hrel;by_cases f:j<K l
  ·obtain⟨ba,oa,rfl,Zp,VX⟩:=v j f;obtain⟨y,x⟩:=HZ.out j f;have W8:Cq wr ba (oa+j) (J ((l.getD j 0:Nat):Int)):=VX;clear VX;obtain⟨m,L⟩:∃m,((l.getD j 0:Nat):Int)=m:=⟨_,rfl⟩;have h:=qH L;rw[L]at W8 y x;clear L;have i1:(0:Int)<=(j:Int):=U;have i2:(j:Int)<(K l:Int):=U;have q:Bq wr (E wr (VP #[] 279)):=ae.alloc aa _;have Zw:=p.below q;have X:=aj u q;have F:=v.below q;cases a:S m with
   |false =>
    have Xl:(Instr.lookup 230 (.map (Z n)) (J m) Q).run Vyj wr=.ok (.tuple #[.agg #[],.bool Vl]) wr:=p.mp.u6 aV Tryz.u9 (sS _) (aE y x) (kR a) Q;clear p u v q;go_wp2;go_roundg (K l-(j+1))
    case measure=>omega
    case rel =>
     refine⟨j+1,rfl,gQ,U,Zw,λ i R=>?_,F,X⟩;by_cases e:i=j
     ·rw[e,h.out];exact a
     ·exact N.out i U
   |true =>
    have Xl:(Instr.lookup 230 (.map (Z n)) (J m) Q).run Vyj wr=.ok (.tuple #[.agg #[],.bool Q]) wr:=p.mp.Ui aV Tryz.u9 (sS _) (aE y x) (kP a) Q;clear p u v q;go_wp2;go_ret2;exact⟨X,SQ ⟨j,f,by rw[h.out];exact a,N.out,by rw[h.out];rfl⟩⟩
  ·have e:j=K l:=U;subst e;go_wp2;go_ret2;exact⟨u,SP ⟨N.out,rfl⟩⟩
theorem MB {Y:Bn}(a t:Int)(w:M)(g:aq w b W H V Y)(f:b<G w.heap)(e:ff2 W H Y a t≠0) :
  Rq 93 #[Pq b,J a,J t] w (.tuple #[.slice none 0 0,D4 (ff2 W H Y a t)]):=by
 have d:=pS a t w g f;rw[kX e]at d ⊢;go_enter func93,ntmps93;go_wp2_with fail;refine Q9 d λ h c=>?_;clear d;go_wp2;go_ret2;exact⟨rfl,c⟩
theorem IZ {Y:Bn}(a t:Int)(w:M)(g:aq w b W H V Y)(s:az w)(d:ch w)(k:b<G w.heap)(n:ff2 W H Y a t=0)(p:¬ ∃z,On W H Y a t z) :
  Rq 93 #[Pq b,J a,J t] w (.tuple #[.slice none 0 0,.iface 42 (J 5)]):=by
 have m:=pS a t w g k;rw[n,nM]at m;obtain⟨⟨y,_⟩,⟨v,_⟩⟩:=pR n;go_enter func93,ntmps93;go_wp2_with fail;refine Q9 m λ q c=>?_;have o:=Ca q (g.below c k) (s.below c U) (d.below c) (Tc k c.size) y v;clear m;go_wp2_with fail;refine o.mono ?_;rintro e B ⟨C,T,rfl,l,i,_,h⟩;have A:=aj c h;have f:=λ r=>l.mp.len (t:=230) Tryz.u9 r;have j:cM T 256=0:=by
  by_cases x:0<cM T 256
  ·obtain⟨z,u⟩:=l.ne_nil.1 x;exact Q8 ⟨z,(i z).1 u⟩ p
  ·omega
 rw[j]at f;clear o h l i p;go_wp2;go_ret2;exact⟨rfl,A⟩
def vG (W a:Int) (n:Nat):List Value:=[J n,J (aP W a n),J (aO W a n),J (-1)]
def ct (W a:Int) (l:Ln):List Value:=l.flatMap (vG W a)
theorem vH (W a:Int)(l:Ln)(n:Nat):ct W a (l++[n])=ct W a l++vG W a n:=by grind [ct,vG]
theorem tP {Y:Bn}(c:Int)(w:M)(g:aq w b W H V Y)(s:az w)(d:inB W H c=Q) :
  Dq 164 #[Pq b,J c] w (.bool (aY W H Y c)):=by
 have a:=OA rfl w g s d;generalize aY W H Y c=r at *;go_enter func164,ntmps164;go_wp2_with fail;refine QQ a λ m=>?_;clear a;go_wp2;go_ret;exact⟨rfl,m,rfl⟩
theorem RY {x y u v S g:Int}(w:M)
  (A:∀I,Bq w I->Zq 123 #[Pq b,J a] I λ e j=>e=VJ (.tuple #[J x,J y,.nilIface])/\∃m,j=I.drewN m)
  (z:∀I,Bq w I->Zq 123 #[Pq b,J t] I λ e j=>e=VJ (.tuple #[J u,J v,.nilIface])/\∃m,j=I.drewN m)
  (s:∀w,Rq 145 #[J x,J y,J u,J v] w (.agg #[J S,J g])) :
  Rq 213 #[Pq b,J a,J t] w (.agg #[J S,J g]):=by
 have r:=bz.new w 0 0;have l:Bq w (E w (VP #[J 0,J 0] 90)):=ae.alloc aa _;go_enter func213,ntmps213;go_wp2_with fail;refine(A _ l).mono ?_;rintro e o ⟨rfl,W,i⟩;have k:Bq w o:=by rw[i];exact Vxj l _
 have d:bz o (G w.heap) 0 0:=by rw[i];exact r.below (Vxj ae _)
 clear i r l A;go_wp2_with fail;refine(z _ k).mono ?_;rintro e n ⟨rfl,V,h⟩;have B:Bq w n:=by rw[h];exact Vxj k _
 have c:bz n (G w.heap) 0 0:=by rw[h];exact d.below (Vxj ae _)
 clear h d k z;go_wp2_with fail;refine Q9 (s _) λ C hb3=>?_;have P:=aj B hb3;have f:=c.below hb3;have N:=f.c0;have L:=f.c1;have T:=f.z0;have R:=f.z1;clear hb3 c B s;go_wp2;have q:=nF C (G w.heap) S g N L;have H:=q.1;have F:=q.2;refine Vxl (v:=.agg #[J S,J g]) (by simp[results,results213,go_sem,H,F]) rfl ⟨rfl,?_⟩;exact(P.setCell (p:=O (G w.heap) 0) aa _).setCell (p:=O (G w.heap) 1) aa _
theorem MC {Y:Bn}(w:M)(g:aq w b W H V Y)(e:b<G w.heap)(f:inB W H a=Q)(d:inB W H t=Q) :
  Rq 213 #[Pq b,J a,J t] w (.agg #[J (aP W a t),J (aO W a t)]):=by
 obtain⟨k,j,i,h⟩:=dY g.w1 f;obtain⟨u1,u2,m,l⟩:=dY g.w1 d;have n:=g.w2;have o:=g.h2;exact RY w (λ I c=>eK a I (g.below c e) f) (λ I c=>eK t I (g.below c e) d) (λ w=>nQ _ _ _ _ w (bH U U) (bH U U) (bH U U) (bH U U))
def ma (p:Int->Bool) (L:Ln) (k:Nat):Ln:=(L.take k).filter λ n:Nat=>p (n:Int)
theorem OI {L:Ln}(h:k<K L)(a:p ((L.getD k 0:Nat):Int)=Vl):ma p L (k+1)=ma p L k:=by grind [ma,Tx,bL,List.filter_cons_of_neg,Bool.false_eq_true,not_false_eq_true]
theorem MD {L:Ln}(h:k<K L)(a:p ((L.getD k 0:Nat):Int)=Q):ma p L (k+1)=ma p L k++[L.getD k 0]:=by grind [ma,Tx,bL,List.filter_cons_of_pos]
theorem ME {L:Ln}:K (ma p L k)<=K L:=by grind [ma]
theorem MF {L:Ln}:n∈ma p L (K L)↔n∈L/\p n=true:=by grind [ma,Tl]
theorem I0 {L:Ln}(h:L.Pairwise (·<·)):(ma p L (K L)).Pairwise (·<·):=by grind [ma,Tl]
theorem oV {q p d c m l k j:Nat}{v1 v2:Vr}{h f:List Vr}(o:G' w q d m v1 k h)(n:G' w p c l v2 j f)(t:d≠c):∀g,M' v1=Z g->Z g≠M' v2:=by
 intro g b e;rcases o.2 with⟨rfl,_⟩|⟨v,y,s,rfl,_,a,_⟩
 cases b;rcases n.2 with⟨rfl,_⟩|⟨u,x,r,rfl,_,i,_⟩
 cases e;simp only[Value.ownBlock,Option.some.injEq]at b e;rw[b,e,i]at a;simp only[Option.some.injEq,Obj.cells.injEq]at a;exact t a.2.1.symm
theorem Tryz.infoE:(Tryz.prog.info? 203).map (λ i=>(i.zero,i.size,i.bytes))=Z (Z (.agg #[J 0,J 0,J 0,J 0]),4,32):=kQ
theorem Tryz.Vxb:Tryz.prog.underlying 140=Z (.slice 203):=kQ
theorem bO (w:M)(x y z u:Vr)(t:TypeId):∀j q,[x,y,z,u][j]? = Z q->D (E w (VP #[x,y,z,u] t)) ((O (G w.heap) 0:Addr).add j)=Z q:=by
 intro j q a
 match j,a with
 |0,a=>simp at a;subst a;simp[Addr.add]
 |1,a=>simp at a;subst a;simp[Addr.add]
 |2,a=>simp at a;subst a;simp[Addr.add]
 |3,a=>simp at a;subst a;simp[Addr.add]
theorem zo {gf:Nat}{cs:List Vr}{Y:Bn}(w:M)(g:aq w b W H V Y)(e:ffv W H Y a≠0) :
  Rq 165 #[Pq b,J a,.func (.func gf) #[] cs.toArray] w (.slice none 0 0):=by
 have d:=Ej a w g e;rw[kX e]at d;go_enter func165,ntmps165;go_wp2_with fail;refine Q9 d λ h c=>?_;clear d;go_wp2;go_loopw [7,20] (λ fv iv wr=>fv=.slice none 0 0/\iv=J 0/\Bq w wr) (λ _ _ _=>0)
 case atStart=>exact⟨rfl,rfl,c⟩
 case round =>
  obtain⟨rfl,rfl,f⟩:=hrel;go_wp2;go_ret;exact⟨rfl,f⟩
theorem vI {gf:Nat}{cs:List Vr}{Y:Bn}{p:Int->Bool}(w:M)(g:aq w b W H V Y)(s:az w)(hb:b<G w.heap)(ha:inB W H a=Q)(WJ:Y a.toNat=Vl)(an:∀(j:Array Vr) (w:M),(callFunc gf j).run Vyj w=.ok (.enter gf j) w)
  (hC:∀(I:M) (n:Int),Bq w I->inB W H n=Q->Zq gf (J n::cs).toArray I λ e WX=>e=VJ (.bool (p n))/\Bq I WX) :
  Zq 165 #[Pq b,J a,.func (.func gf) #[] cs.toArray] w λ e I=>∃v l,e=VJ v/\G' I (G w.heap) 203 4 v (K l) (ct W a l)/\(l.Pairwise (·<·)/\∀n:Nat,n∈l↔Dir W H Y a n/\p n=Q)/\Bq w I:=by
 obtain⟨i0,hi,VZ,Wa,Wc⟩:=info_parts Tryz.infoE;have Wm:=g.w1;have WS:=bG g.w1 g.w2 g.h1 g.h2;have h1:=IX w g s hb ha WJ;go_enter func165,ntmps165;go_wp2_with fail;refine h1.mono ?_;rintro e w1 ⟨v1,L,rfl,Xb,⟨XX,XK⟩,B⟩;obtain⟨A,ab,rfl,_⟩:=jk Xb;have HM:=qH XK;have HR:=qH XX;have We:∀n∈L,inB W H (n:Int)=Q/\n<256:=λ n X=>by
  have h:=((HM.out n).1 X).in Wm ha
  have:0<=(n:Int)/\(n:Int)<W*H:=Q1 h;exact⟨h,U⟩
 have ZU:K L<=256:=dr 256 (XX.imp (λ h e=>U)) (λ n X=>(We n X).2);have Yr:=qH We;have ap:=B.size;clear h1 XK XX We;go_wp2;go_loopw [7,20] (λ fv iv wr=>∃k:Nat,k<=K L/\iv=J k/\G' wr (G w.heap) 203 4 fv (K (ma p L k)) (ct W a (ma p L k))/\G' wr (G w.heap) 3 1 (.slice A (K L) ab) (K L) (aH L)/\Bq w wr)
  (λ _ i _=>K L-(intOf i).toNat)
 case atStart=>exact⟨0,Te _,rfl,World.ownsRow_nil _ _ _ _,Xb,B⟩
 case round =>
  obtain⟨k,hk,rfl,d,r,C⟩:=hrel;by_cases P:k<K L
  ·obtain⟨R,hA⟩:∃R,A=Z (O R 0):=by
    rcases r.2 with⟨_,h0⟩|⟨R,_,_,hv,_⟩
    ·omega
    ·exact⟨R,by cases hv;rfl⟩
   subst hA;have W8:=jW r k P;have ZS:L.getD k 0∈L:=(by rw[bL _ _ P];exact TY P);obtain⟨y,YL⟩:=Yr.out _ ZS;have Wl:=λ h=>OI (p:=p) P h;have m:=λ h=>MD (p:=p) P h;generalize YV:L.getD k 0=n at *;clear YV ZS;have i1:(0:Int)<=(k:Int):=U;have i2:(k:Int)<(K L:Int):=U;have ao:=C.size;have t:=hC wr n C y;have XY:K (ma p L k)<=256:=Tg ME ZU;cases o:p n with
   |false =>
    have HS:=qH (Wl o);rw[o]at t;clear Wl m o;go_wp2_with fail;refine Q9 t λ w2 c=>?_;have ac:=ak r c;have f:=ak d c;have x:=aj C c;clear t d r c;go_wp2;go_roundw
    case rel=>exact⟨k+1,U,gQ,by rw[HS.out];exact f,ac,x⟩
    case measure=>simp[intOf];omega
   |true =>
    have HS:=qH (m o);rw[o]at t;clear Wl m o;generalize ma p L k=F at *;go_wp2_with fail;refine Q9 t λ w2 c=>?_;have f:=ak d c;have x:=aj C c;have z:=MC w2 (g.below x hb) (Tc hb x.size) ha y;clear t;go_wp2_with fail;refine Q9 z λ w3 hb3=>?_;have b3:=aj c hb3;have N:=ak r b3;have S:=ak f hb3;have B3:=aj x hb3;have T:=B3.size;have am:Hid (vG W a n=[J n,J (aP W a n),J (aO W a n),J (-1)]):=rfl;clear d r c hb3 b3 z f x;generalize aP W a n=es at *;generalize aO W a n=ed at *;go_wp2_with (at_builtin;refine wpList_append_own _ rfl _ _ 140 rfl (G w.heap) 203 i0 (.agg #[J 0,J 0,J 0,J 0]) 4 32 Tryz.Vxb hi VZ Wa Wc rfl dQ _ _ _ rfl (S.alloc _) (O (G w3.heap) 0) 1 1 [J n,J es,J ed,J (-1)] rfl rfl (bO _ _ _ _ _ _) (by intro u hu;simp at hu;rcases hu with rfl|rfl|rfl|rfl<;>rfl) ?c3 ?c4 ?c5 ?_)
    case c3=>unfold maxLen;omega
    case c4=>omega
    case c5=>simp;omega
    intro v' w4 VR VQ _;have VV:=λ q hq=>(S.lt q hq).1;have B4:Bq w w4:=(B3.alloc T _).grown VQ sU VV;have O4:G' w4 (G w.heap) 203 4 v' (K (F++[n])) (ct W a (F++[n])):=by
     rw[vH,am.out]
     simpa using VR
    have XA:=jh (N.alloc (VP #[J n,J es,J ed,J (-1)] 203)) VQ (oV N S dQ);clear VR VQ S B3;go_wp2;go_roundw
    case rel=>exact⟨k+1,U,gQ,by rw[HS.out];exact O4,XA,B4⟩
    case measure=>simp[intOf];omega
  ·have e:k=K L:=U;subst e;have ag:Hid (∀n:Nat,n∈ma p L (K L)↔Dir W H Y a n/\p n=Q):=λ n=>by rw[MF,HM.out n]
   have ad:Hid ((ma p L (K L)).Pairwise (·<·)):=I0 HR.out;generalize ma p L (K L)=F at *;go_wp2;go_ret;exact⟨_,F,rfl,d,⟨ad.out,ag.out⟩,C⟩
theorem I2 {cb:Nat}{Y:Bn}(w:M)(g:aq w b W H V Y)(s:az w)(c:b<G w.heap)(d:inB W H a=Q)(i:Y a.toNat=Vl)
  (f:∀(I:M) (n:Int),Bq w I->inB W H n=Q->Zq 166 #[J n,Pq cb,Pq rb] I λ e h=>e=VJ (.bool (p n))/\Bq I h) :
  Zq 165 #[Pq b,J a,.func (.func 166) #[] #[Pq cb,Pq rb]] w λ e I=>∃v l,e=VJ v/\G' I (G w.heap) 203 4 v (K l) (ct W a l)/\(l.Pairwise (·<·)/\∀n:Nat,n∈l↔Dir W H Y a n/\p n=Q)/\Bq w I :=
 vI (cs:=[Pq cb,Pq rb]) w g s c d i (λ _ _=>kQ) f
theorem Tryz.Vxa:Tryz.prog.underlying 137=Z (.map 3 140):=kQ
theorem mm (w:M):(zeroValue 140).run Vyj w=.ok (.slice none 0 0) w:=kQ
def fO (f:Int->Option Vr):Int->Bool:=λ i=>(f i).isSome
theorem kY (f:Int->Option Vr)(a:Int)(v:Vr):fO (bQ f a v)=eD (fO f) a:=by grind [fO,bQ,eD,Q2,Q3]
def rmS (S:Int->Bool) (a:Int):Int->Bool:=λ i=>S i&&!decide (i=a)
theorem Cd (f:Int->Option Vr)(a:Int):fO (o7 f a)=rmS (fO f) a:=by grind [fO,o7,rmS]
theorem OJ (h:S a=Q):eD (rmS S a) a=S:=by grind [eD,rmS]
theorem MG (h:S a=Vl):rmS S a=S:=by grind [rmS]
theorem OK (S:Int->Bool)(a:Int)(N:Nat)(c:0<=a)(h:a<N)(b:S a=Q):cM (rmS S a) N=cM S N-1:=by grind [cM,rmS,eD,jI,Q2,Bool.not_true,OJ]
structure GSt (w:M) (rb pb mb:Nat) (W H V:Int) (Y:Bn) (f:Int->Option Vr):Prop where
 p0:D w (O rb 0)=Z (Pq pb)
 p1:D w (O rb 1)=Z (.map (Z mb))
 ga:aq w pb W H V Y
 mp:bj Vyj 3 w mb f (cM (fO f) 256)
 bd:∀i,fO f i=Q->0<=i/\i<256
 fr:gL w pb
 rp:rb≠pb
section
variable {w I : M} {rb pb mb : Nat} {W H V : Int} {Y : Nat → Bool} {f : Int → Option Vr}
theorem GSt.lts (G9:GSt w rb pb mb W H V Y f):rb<G w.heap/\pb<G w.heap/\mb<G w.heap:=⟨SZ w _ G9.p0,SZ w _ G9.ga.c0,G9.mp.lt⟩
theorem GSt.ne (G9:GSt w rb pb mb W H V Y f):rb≠mb/\pb≠mb:=by
 constructor;intro e;have h:=G9.mp.cell 0;rw[<- e,G9.p0]at h;cases h;intro e;have h:=G9.mp.cell 0;rw[<- e,G9.ga.c0]at h;cases h
theorem GSt.X' {F:Nat->Prop}(G9:GSt w rb pb mb W H V Y f)(a:ai F w I)(c:¬F rb)(b:¬F pb)(d:¬F mb):GSt I rb pb mb W H V Y f :=
 ⟨a.cellOf G9.p0 c,a.cellOf G9.p1 c,G9.ga.X' a b,G9.mp.X' a d,G9.bd,λ o=>(a.frozen (p:=O pb o) G9.lts.2.1 b).trans (G9.fr o),G9.rp⟩
theorem GSt.below (G9:GSt w rb pb mb W H V Y f)(a:Bq w I):GSt I rb pb mb W H V Y f:=G9.X' (F:=λ _=>False) (ai.Y' a) id id id
theorem GSt.room (_G:GSt w rb pb mb W H V Y f):cM (fO f) 256<maxLen:=by grind [oO,fO,maxLen]
theorem GSt.put (G9:GSt w rb pb mb W H V Y f){a:Int}{v:Vr}(g:0<=a)(e:a<256)(h:bj Vyj 3 I mb (bQ f a v) (if (f a).isSome then cM (fO f) 256 else cM (fO f) 256+1))(d:w.mapTurned I mb):GSt I rb pb mb W H V Y (bQ f a v):=by
 have c:=aA d;refine⟨c.cellOf G9.p0 G9.ne.1,c.cellOf G9.p1 G9.ne.1,G9.ga.X' c G9.ne.2,?_,λ i b=>?_,λ o=>(c.frozen (p:=O pb o) G9.lts.2.1 G9.ne.2).trans (G9.fr o),G9.rp⟩
 grind [kY,fO,oN,jI]
 rw[kY]at b;rcases (cW _ _ _).1 b with rfl|b
 exact⟨g,e⟩;exact G9.bd i b
theorem GSt.del (G9:GSt w rb pb mb W H V Y f){a:Int}(h:0<=a)(g:a<256)(e:bj Vyj 3 I mb (o7 f a) (if (f a).isSome then cM (fO f) 256-1 else cM (fO f) 256))(d:w.mapTurned I mb):GSt I rb pb mb W H V Y (o7 f a):=by
 have c:=aA d;refine⟨c.cellOf G9.p0 G9.ne.1,c.cellOf G9.p1 G9.ne.1,G9.ga.X' c G9.ne.2,?_,λ i b=>?_,λ o=>(c.frozen (p:=O pb o) G9.lts.2.1 G9.ne.2).trans (G9.fr o),G9.rp⟩
 grind [Cd,fO,OK,MG]
 rw[Cd]at b;unfold rmS at b;rw[Bool.and_eq_true]at b;exact G9.bd i b.1
end
def kZ (W H:Int) (Y:Bn) (c:Int) (l:Ln):Prop:=l.Pairwise (·<·)/\∀n:Nat,n∈l↔Dir W H Y c n/\(decide ((n:Int)≠c)&&aY W H Y n)=Q
structure EOk (w:M) (pb:Nat) (W H:Int) (Y:Bn) (f:Int->Option Vr) (c:Int):Prop where
 yes:aY W H Y c=Q->∃v l,f c=Z v/\G' w 0 203 4 v (K l) (ct W c l)/\kZ W H Y c l/\∀g,M' v=Z g->pb<g
 no:aY W H Y c=Vl->f c=none
theorem MH {cb xb pb:Nat}{Y:Bn}(w:M)(n:Int)(i:Cq w cb 0 (J c))(h:Cq w xb 0 (Pq rb))(j:Cq w rb 0 (Pq pb))(g:aq w pb W H V Y)(s:az w)(d:inB W H n=Q) :
  Rq 166 #[J n,Pq cb,Pq xb] w (.bool (decide (n≠c)&&aY W H Y n)):=by
 have b:=tP n w g s d;generalize aY W H Y n=r at *;by_cases e:n=c
 ·subst e;have a:(decide (n≠n)&&r)=false:=by simp
  rw[a];go_enter func166,ntmps166;go_wp2;go_ret;exact⟨rfl,ae⟩
 ·have a:(decide (n≠c)&&r)=r:=by simp[e]
  rw[a];clear a;go_enter func166,ntmps166;go_wp2_with fail;refine QQ b λ m=>?_;clear b;go_wp2;go_ret;have f:(n != c)=true:=by simp[e]
  refine⟨?_,Vxj ae _⟩;show Ending.returned (.bool (n != c&&r))=_;rw[f,Bool.true_and]
theorem gV {Y:Bn}(h:aY W H Y c=Q):Y c.toNat=false:=by
 have a:=(aI.1 h).1;unfold aM at a;rw[Bool.and_eq_true]at a;have e:=gC W c;have b:=a.2;rw[e]at b
 simpa using b
theorem cu {f d e:Nat}{v:Vr}{xs:List Vr}(h:G' w f e k v n xs)(a:d<=f):G' w d e k v n xs:=by
 refine⟨h.1,?_⟩;rcases h.2 with m|⟨g,c,b,i,o,j,l⟩
 exact SQ m;exact SP ⟨g,c,b,i,Tg a o,j,l⟩
theorem Ce {rb pb mb:Nat}{Y:Bn}{f:Int->Option Vr}(w:M)(G9:GSt w rb pb mb W H V Y f)(s:az w)(hc:inB W H c=Q) :
  Zq 120 #[Pq rb,J c] w λ e I=>e=VJ (.tuple #[])/\(∃f',GSt I rb pb mb W H V Y f'/\(∀i,i≠c->f' i=f i)/\EOk I pb W H Y f' c/\∀v g,f' c=Z v->M' v=Z g->G w.heap<=g)/\ai (λ k=>k=mb) w I:=by
 have Wm:=G9.ga.w1;have WS:=bG G9.ga.w1 G9.ga.w2 G9.ga.h1 G9.ga.h2;have Xx:0<=c/\c<W*H:=Q1 hc;have C:=aE Xx.1 (show c<256 by omega);obtain⟨l1,l2,l3⟩:=G9.lts;have q:Bq w ((E w (VP #[Pq rb] 150)).alloc (VP #[J c] 3)):=(ae.alloc aa _).alloc sQ _;have j:D ((E w (VP #[Pq rb] 150)).alloc (VP #[J c] 3)) (O (G w.heap) 0)=Z (Pq rb):=by
  rw[World.cell?_alloc_old _ _ _ sQ,World.cell?_alloc_new];rfl
 have d:D ((E w (VP #[Pq rb] 150)).alloc (VP #[J c] 3)) (O (G w.heap+1) 0)=Z (J c) :=
  SR #[J c] 3 (G w.heap+1) 0 sQ
 go_enter func120,ntmps120;go_wp2_with fail;generalize (E w (VP #[.pointer (Z (O rb 0))] 150)).alloc (VP #[.int .i64 c] 3)=X at *;have q:Bq w X.drew:=⟨q.os,q.tape,q.output,q.size,q.block⟩;have j:=mA j;have d:=mA d;have A:=G9.below q;have s0:=s.below q U;have o:=A.p0;have z:=tP c X.drew A.ga s0 hc;cases T:aY W H Y c with
 |false =>
  rw[T]at z;go_region_held3 (λ I=>D I (O (G w.heap) 0)=Z (Pq rb)/\D I (O (G w.heap+1) 0)=Z (J c)/\D I (O rb 0)=Z (Pq pb)) (first|(exact⟨j,d,o⟩)) (first|(go_at_call 164;refine z.mono ?_;rintro e r ⟨rfl,m5,R⟩;have b:Bq X.drew r:=(by rw[R];exact Vxj ae _);clear R;have j:=al b j;have o:=al b o;have d:=al b d));go_wp2_with fail;have t:GSt r.drew rb pb mb W H V Y f:=(A.below b).below ae.drew;have K5:ai (λ k=>k=mb) w r.drew:=((ai.Y' q).below b).drew;have j:=mA j;have d:=mA d;have B:=t.p1;obtain⟨w6,Wo,L,x⟩:=t.mp.drop aV Tryz.Vxa C 0;have u:=t.del Xx.1 U L x;have K6:ai (λ k=>k=mb) w w6:=K5.trans (aA x) (λ _ _ h=>h);clear t A b z L x K5 o q;go_region;go_wp2;refine Vxl (v:=.tuple #[]) (by simp[results,results120,go_sem]) rfl ?_;exact⟨rfl,⟨_,u,λ i hi=>lU f hi,⟨λ h=>(by rw[T]at h;cases h),λ _=>rU f c⟩,λ v g h=>by rw[rU]at h;cases h⟩,K6⟩
 |true =>
  rw[T]at z;go_region_held3 (λ I=>D I (O (G w.heap) 0)=Z (Pq rb)/\D I (O (G w.heap+1) 0)=Z (J c)/\D I (O rb 0)=Z (Pq pb)) (first|(exact⟨j,d,o⟩)) (first|(go_at_call 164;refine z.mono ?_;rintro e r ⟨rfl,m5,R⟩;have b:Bq X.drew r:=(by rw[R];exact Vxj ae _);clear R;have j:=al b j;have o:=al b o;have d:=al b d));go_wp2_with fail;have b:Bq X.drew r.drew:=⟨b.os,b.tape,b.output,b.size,b.block⟩;have t:GSt r.drew rb pb mb W H V Y f:=A.below b;have s5:=s0.below b (Oq q.size);have B5:Bq w r.drew:=aj q b;have j:=mA j;have d:=mA d;have o:=t.p0;have B:=t.p1;have ZH:=B5.size;have YG:Y c.toNat=false:=gV T;have WL:=I2 (cb:=G w.heap+1) (rb:=G w.heap) (p:=λ n=>decide (n≠c)&&aY W H Y n) r.drew t.ga s5 U hc YG (λ I n YE hn=>by
   have kk:∀{a:Addr}{v:Vr},D r.drew a=Z v->D I a=Z v:=λ {a v} h=>(YE.cell (SZ r.drew a h)).trans h;exact MH I n (kk d) (kk j) (kk o) (t.ga.below YE U) (s5.below YE U) hn)
  have ab:G w.heap≠mb:=U;have YL:G w.heap+1≠mb:=U;clear z A b s0;go_region_held3 (λ I=>D I (O (G w.heap) 0)=Z (Pq rb)/\D I (O (G w.heap+1) 0)=Z (J c)/\D I (O rb 0)=Z (Pq pb)/\D I (O rb 1)=Z (.map (Z mb))) (first|(exact⟨j,d,o,B⟩)|(exact⟨r1,r2,r3,r4⟩)) (first|(go_at_call 165;refine WL.mono ?_;rintro e w6 ⟨v,l,rfl,S,N,y⟩;have j:=al y j;have o:=al y o;have d:=al y d;have B:=al y B;have u:=t.below y;obtain⟨w7,ad,F,m⟩:=u.mp.store aV Tryz.Vxa u.room C v;have r1:=(aA m).cellOf j ab;have r2:=(aA m).cellOf d YL;have r3:=(aA m).cellOf o u.ne.1;have r4:=(aA m).cellOf B u.ne.1))
  all_goals
   have G7:=u.put Xx.1 U F m;have K7:ai (λ k=>k=mb) w w7:=((ai.Y' B5).below y).trans (aA m) (λ _ _ h=>h);have O7:=br (cu S (Te _)) (aA m) (bK S u.mp);have HO:Hid (∀g,M' v=Z g->pb<g):=λ g P=>by have:=(S.lt g P).1;omega
   have ac:Hid (∀g,M' v=Z g->G w.heap<=g):=λ g P=>by have:=(S.lt g P).1;omega
   have HL:=bX N;clear N F m y u S WL;go_wp2;go_end0;exact⟨rfl,⟨_,G7,λ i hi=>du f v hi,⟨λ _=>⟨v,l,cF f c v,O7,HL.out,HO.out⟩,λ h=>(by rw[T]at h;cases h)⟩,λ v' g h P=>by rw[cF]at h;cases h;exact ac.out g P⟩,K7⟩
section
open Go.RowKit
variable {W H : Int} {Y : Nat → Bool}
theorem Cf {z:Nat}(d:1<=W)(f:inB W H c=Q):z∈onw W H Y c t 4↔∃k,k%2=1/\aF W H Y c k z/\fY (c%W) (c/W) (t%W) (t/W) k:=by
 unfold onw;rw[List.mem_map];constructor;rintro⟨i,a,rfl⟩;rw[TS]at a;have h:=a.2;have e:=Up.1 a.1;unfold onB at h;rw[Bool.and_eq_true]at h;refine⟨dF i,?_,⟨MA i,f,h.1,nG d h.1⟩,jd.1 h.2⟩;have:i=0\/i=1\/i=2\/i=3:=U;rcases this with rfl|rfl|rfl|rfl<;>decide
 rintro⟨k,g,⟨n,_,m,l⟩,j⟩;have b:∃i,i<4/\dF i=k:=by
  have:k=1\/k=3\/k=5\/k=7:=U;rcases this with rfl|rfl|rfl|rfl
  exact⟨0,dQ,rfl⟩;exact⟨1,dQ,rfl⟩;exact⟨2,dQ,rfl⟩;exact⟨3,dQ,rfl⟩
 obtain⟨i,a,rfl⟩:=b;refine⟨i,TS.2 ⟨Up.2 a,?_⟩,?_⟩
 grind [onB,jd]
 grind [nG]
theorem I3 (c t:Int):∃r,onw W H Y c t 8=onw W H Y c t 4++r:=by
 rw[nL W H Y c t 7,nL W H Y c t 6,nL W H Y c t 5,nL W H Y c t 4,TC,TC,TC];exact⟨_,rfl⟩
theorem Cg {p:Int}{l:Ln}{i:Nat}(b:1<=W)(d:inB W H p=Q)(s:onw W H Y p t 8=l)(m:∀z,S z=Q↔On W H Y a t z)(A:i<K l)(u:S ((l.getD i 0:Nat):Int)=Q)(B:∀j,j<i->S ((l.getD j 0:Nat):Int)=Vl) :
  ∃k,DZ W H Y a t p k ((l.getD i 0:Nat):Int):=by
 obtain⟨r,x⟩:=I3 (W:=W) (H:=H) (Y:=Y) p t;rw[s]at x;by_cases q:i<K (onw W H Y p t 4);have e:l.getD i 0=(onw W H Y p t 4).getD i 0:=by grind
 have f:l.getD i 0∈onw W H Y p t 4:=by rw[e,bL _ _ q];exact TY q
 obtain⟨k,C,w,v⟩:=(Cf b d).1 f;exact⟨k,⟨w,v,(m _).1 u⟩,λ h=>U⟩;obtain⟨k,e,g⟩:=(rf (z:=((l.getD i 0:Nat):Int)) b d s).1 ⟨i,A,rfl⟩;refine⟨k,⟨e,g,(m _).1 u⟩,λ _ j z y c=>?_⟩;have o:0<=z/\z<W*H:=Q1 (c.1.in' b);have f:z.toNat∈onw W H Y p t 4:=(Cf b d).2 ⟨j,y,by rw[TE o.1];exact c.1,c.2.1⟩;obtain⟨n,F,h⟩:=List.getElem_of_mem f;have e:l.getD n 0=z.toNat:=by grind
 have:=B n U;rw[e,TE o.1,(m z).2 c.2.2]at this;cases this
theorem I5 {p:Int}{l:Ln}(d:1<=W)(b:aP W a t<=1000)(c:aO W a t<=1000)(f:inB W H p=Q)(k:onw W H Y p t 8=l)(n:∀z,S z=Q↔On W H Y a t z)(q:On W H Y a t p)(o:∀j,j<K l->S ((l.getD j 0:Nat):Int)=Vl):p=t:=by
 apply Classical.byContradiction;intro s;obtain⟨j,r,e,g,h⟩:=q.next d b c s
 obtain⟨i,m,rfl⟩:=(rf (z:=r) d f k).2 ⟨j,e,g⟩;have:=o i m;rw[(n _).2 h]at this;cases this
def MJ (W H:Int) (Y:Bn) (a t p:Int) (cv mv:Vr):Prop:=(∃k,∃r:Nat,cv=J r/\mv=.bool Q/\DZ W H Y a t p k r)\/(cv=J 0/\mv=.bool Vl/\p=t)
theorem FY {n:Nat}{p:Int}(w:M)(g:aq w b W H V Y)(s:az w)(d:ch w)(x:b<G w.heap)(y:aU w n S)(f:∀z,S z=Q↔On W H Y a t z)(j:aP W a t<=1000)(l:aO W a t<=1000)(r:inB W H t=Q)(h:inB W H p=Q)(B:On W H Y a t p) :
  Zq 143 #[Pq b,.map (Z n),J p,J t] w λ e I=>Bq w I/\∃q o,e=VJ (.tuple #[q,o])/\MJ W H Y a t p q o:=by
 refine(IY rfl w g s d x y h r).mono ?_;rintro e I ⟨c,⟨i,v,A,m,rfl⟩|⟨m,rfl⟩⟩;obtain⟨k,u⟩:=Cg g.w1 h rfl f v A m;exact⟨c,_,_,rfl,SQ ⟨k,_,rfl,rfl,u⟩⟩;exact⟨c,_,_,rfl,SP ⟨rfl,rfl,I5 g.w1 j l h rfl f B m⟩⟩
def wy (l:Ln):List Int:=l.map λ n:Nat=>(n:Int)
theorem I6 (l:Ln)(n:Nat):wy (l++[n])=wy l++[(n:Int)]:=by unfold wy;rw[List.map_append];rfl
theorem FZ (a:Nat)(t:Int)(w:M)(g:aq w b W H V Y)(s:az w)(d:ch w)(y:b<G w.heap)(hf:ff2 W H Y a t=0)(XD:∃z,On W H Y a t z) :
  Zq 93 #[Pq b,J a,J t] w λ e I=>∃v l,e=VJ (.tuple #[v,.nilIface])/\G' I (G w.heap) 3 1 v (K (a::l)) (aH (a::l))/\Chn (WSt W H Y a t) a (wy l) t/\K l<=64/\Bq w I:=by
 have S:=pS a t w g y;rw[hf,nM]at S;obtain⟨⟨ha,_⟩,⟨ht,_⟩⟩:=pR hf;obtain⟨i0,hi,VZ,Wa,Wc⟩:=info_parts Tryz.Vxg;have Wm:=g.w1;have ay:=cA g.w1 g.w2 g.h1 g.h2 ha ht;have n:aP W a t<=1000:=U;have o:aO W a t<=1000:=U;obtain⟨z,hz⟩:=XD;have ab:=(hz.ends Wm n o).1;go_enter func93,ntmps93;go_wp2_with fail;refine Q9 S λ w1 f=>?_;have h2:=Ca w1 (g.below f y) (s.below f U) (d.below f) (Tc y f.size) ha ht;clear S;go_wp2_with fail;refine h2.mono ?_;rintro e i ⟨nb,T,rfl,P,m,a1,N⟩;have B2:=aj f N;have au:=λ ty=>P.mp.len (t:=230) Tryz.u9 ty;have Zy:0<cM T 256:=P.ne_nil.2 ⟨z,(m z).2 hz⟩;have XO:((cM T 256:Nat):Int)≠0:=U;have bA:Bq i (E i (VP #[J a] 3)):=ae.alloc aa _;have L:=aj B2 bA;have B:=P.below bA;have h3:=FY (E i (VP #[J a] 3)) (g.below L y) (s.below L U) (d.below L) (Tc y L.size) B m n o ht ha ab;have ap:=qH m;have a6:(((cM T 256:Nat):Int)==0)=false:=by simpa using XO
 have R:G' (E i (VP #[J a] 3)) (G i.heap) 3 1 (.slice (Z (O (G i.heap) 0)) 1 1) [a].length (aH [a]):=World.ownsRow_lit i #[J a] 1 aa mQ rfl;have a0:=P.lt;have z2:=B2.size;clear h2 N m hz P XO;generalize cM T 256=cn at *;go_wp2_with fail;refine h3.mono ?_;rintro e w3 ⟨hb3,cv,mv,rfl,WG⟩;have ag:=B.below hb3;have am:=ak R hb3;have B4:=aj L hb3;have z3:G i.heap<=G w3.heap:=by have h:=hb3.size;simp at h;omega
 have a3:=eG W a t;have a2:cY W a t<=32:=by unfold cY;omega
 clear h3 hb3 B R L bA;generalize G i.heap=N2 at *;go_wp2;go_loopg [10,11,12] (cY W a t).toNat (λ gk v cv mv wr=>∃(p:Int) (l:Ln),gk=(cY W p t).toNat/\(K l:Int)+cY W p t=cY W a t/\G' wr N2 3 1 v (K (a::l)) (aH (a::l))/\Hid (Chn (WSt W H Y a t) a (wy l) p)/\On W H Y a t p/\inB W H p=Q/\MJ W H Y a t p cv mv/\aU wr nb T/\N2<=G wr.heap/\Bq w wr)
 case atStart=>exact⟨a,[],rfl,by simp,am,rfl,ab,ha,WG,ag,z3,B4⟩
 case round =>
  obtain⟨p,l,WV,a4,c,x,Xc,a8,ao,Zb,ax,hB⟩:=hrel;have Ws:=hB.size;have aN:=eG W p t;rcases ao with⟨k,r,rfl,rfl,C⟩|⟨rfl,rfl,rfl⟩
  ·have aL:=jg Wm C.1.1 C.1.2.1;have ac:=C.1.1.in' Wm
   have X:=C.1.2.2;have HC:Hid (Chn (WSt W H Y a t) a (wy (l++[r])) r):=by
    have:=Chn.snoc x.out (show WSt W H Y a t p r from ⟨k,C⟩);rw[<- I6]at this;exact this
   have a7:nb<G wr.heap:=Zb.lt;clear C x;go_wp2_with (at_builtin;refine wpList_append_own _ rfl _ _ 60 rfl N2 3 i0 (J 0) 1 8 underlying60 hi VZ Wa Wc rfl dQ _ _ _ rfl (World.ownsRow.alloc c _) (O (G wr.heap) 0) 1 1 [J r] rfl rfl ?c1 ?c2 ?c3 ?c4 ?c5 ?_)
   case c1 =>
    intro j u hj
    match j,hj with
    |0,hj =>
     simp at hj;subst hj;simp only[Addr.add];exact SR (w:=wr) #[J r] 3 (G wr.heap) 0 rfl
   case c2=>intro u hu;simp at hu;subst hu;rfl
   case c3=>simp;unfold maxLen;omega
   case c4=>simp;omega
   case c5=>simp;omega
   intro v' w4 VR VQ _;have ZM:=VQ.size;have VV:=λ q hq=>(c.lt q hq).1;have F:Bq w w4:=(hB.alloc Ws _).grown VQ sU (λ q hq=>Tg z2 (VV q hq));have A:aU w4 nb T:=(Zb.grown (World.grownBy_alloc wr _ none) sQ).grown VQ (λ e=>by have:=VV nb e.symm;omega);have O5:G' w4 N2 3 1 v' (K (a::(l++[r]))) (aH (a::(l++[r]))):=by
    have e1:K (a::(l++[r]))=K (a::l)+1:=(by simp);have e2:aH (a::(l++[r]))=aH (a::l)++[J r]:=(by simp[aH]);rw[e1,e2];exact VR
   have h6:=FY w4 (g.below F y) (s.below F U) (d.below F) (Tc y F.size) A ap.out n o ht ac X;clear VR VQ c Zb hB Xc;go_wp2_with fail;refine h6.mono ?_;rintro e w5 ⟨VW,a5,aw,rfl,an⟩;have ad:=A.below VW;have O6:=ak O5 VW;have B6:=aj F VW;have z6:N2<=G w5.heap:=(by have S:=ZM;have h2:=VW.size;simp at S;omega);clear h6 A O5 VW F;go_wp2;go_roundg (cY W r t).toNat
   case measure=>have:=eG W r t;omega
   case rel=>exact⟨r,l++[r],rfl,by simp;omega,O6,HC,X,ac,an,ad,z6,B6⟩
  ·go_wp2;go_ret2;exact⟨_,l,rfl,cu c z2,x.out,U,hB⟩
end
theorem MK (w:M)(F:Int->Oi) :
  ((E w (.cells zC 130)).alloc (.cells zB 35)).there (G w.heap) 0 512/\(((E w (.cells zC 130)).alloc (.cells zB 35)).setCells (G w.heap) 0 (dm F)).there (G w.heap+1) 0 256 /\
    eH ((((E w (.cells zC 130)).alloc (.cells zB 35)).setCells (G w.heap) 0 (dm F)).setCells (G w.heap+1) 0 (isL F)) (G w.heap) (G w.heap+1) F /\
    Bq w ((((E w (.cells zC 130)).alloc (.cells zB 35)).setCells (G w.heap) 0 (dm F)).setCells (G w.heap+1) 0 (isL F)):=by
 have L:=eH.new w;have a:Bq w ((E w (.cells zC 130)).alloc (.cells zB 35)):=(ae.alloc aa _).alloc sQ _;have t0:((E w (.cells zC 130)).alloc (.cells zB 35)).there (G w.heap) 0 512:=World.there_alloc (jf w (Us 512 (J 0)) 130 512 Vv) _;have t1:((E w (.cells zC 130)).alloc (.cells zB 35)).there (G w.heap+1) 0 256:=by
  have:=jf (E w (.cells zC 130)) (Us 256 (Value.bool Vl)) 35 256 Vv;rw[show G (E w (.cells zC 130)).heap=G w.heap+1 by simp]at this;exact this
 have t2:(((E w (.cells zC 130)).alloc (.cells zB 35)).setCells (G w.heap) 0 (dm F)).there (G w.heap+1) 0 256:=Uh t1 _ _ _;refine⟨t0,t2,?_,cC _ U _ _ (cC _ aa _ _ a)⟩;refine BQ ?_ ?_ (λ o=>?_) (λ o=>?_) U
 grind [T8,TV,dK]
 grind [TV,oQ]
 rw[U3,U3];exact L.zc o;rw[U3,U3];exact L.zi o
theorem Pm (a:K l=n)(h:w.there b o n):w.there b o l.toArray.size:=by rw[UC,a];exact h
theorem Pn {P:Program}{t:TypeId}(a:K l=n)(h:(P.info? t).map (·.size)=Z n):(P.info? t).map (·.size)=Z l.toArray.size:=by rw[UC,a];exact h
theorem ML {E9:Int->Nat->Int->Prop}{o:Int}{F:Int->Oi}(h:cL E9 o F)(a:Int):okC (kV F a) (j7 F a):=by
 unfold kV j7 okC;cases b:F a with
 |none=>simp
 |some c =>
  obtain⟨s,d⟩:=c;obtain⟨g,f,e⟩:=h.small b;have:=cT g f e;show 0<=s/\s<=8388608/\0<=d/\d<=8388608;omega
def nN (c:Int) (F:Int->Oi):List Value:=J c::(dm F++isL F)
def zR (c:Int):List Value:=J c::(Us 512 (J 0)++Us 256 (Value.bool Vl))
theorem MM (c:Int):K (zR c)=769:=by grind [zR]
theorem Ch (c:Int)(F:Int->Oi):K (nN c F)=769:=by grind [nN,dm,isL,List.length_cons,List.length_append,dK,oQ]
theorem QE (c:Int):∀v∈zR c,v.oneCell'=true:=by
 intro v a;unfold zR at a;rw[TD,Tn,List.mem_replicate,List.mem_replicate]at a;rcases a with rfl|⟨_,rfl⟩|⟨_,rfl⟩<;>rfl
theorem Ci (c:Int)(F:Int->Oi):∀v∈nN c F,v.oneCell'=true:=by
 intro v a;unfold nN at a;rw[TD,Tn]at a;rcases a with rfl|h|h
 rfl;exact oS F v h;exact tM F v h
theorem zq (w:M):(Instr.alloc 198 Q (.tuple #[])).run Vyj w=.ok (Pq (G w.heap)) (E w (.cells (zR 0).toArray 198)):=kQ
theorem MN (c:Int):prog.built 198 [(0,J c)]=Z (zR c).toArray:=kQ
theorem oW:(prog.info? 198).map (·.size)=Z 769:=kQ
theorem s8 {t:TypeId}{z:Array Vr}(e:∀w:M,(Instr.alloc t Q (.tuple #[])).run Vyj w=.ok (Pq (G w.heap)) (E w (.cells z t))){ops:Array Oper}{rest:List Oper}{o:Oper}{a:Act}{w:M}{Q9:Exit->Act->M->Prop}(d:o.guard=none)(b:o.op=.alloc t)
  (h:wpList Vyj ops Q9 rest (a.put o.dst (Pq (G w.heap))) (E w (.cells z t))):wpList Vyj ops Q9 (o::rest) a w :=
 wpList_plain d λ _ c=>by
  unfold Oper.wp execOp;simp only[b,Sem.run_bind,e w,Result.andThen_ok];exact c _ _ h
theorem tf {t:TypeId}{z:Array Vr}{v:Vr}(b:prog.built t [(0,v)]=Z z){ops:Array Oper}{rest:List Oper}{o:Oper}{a:Act}{w:M}{Q9:Exit->Act->M->Prop}(e:o.guard=none)(x:Operand)(d:o.op=.build t #[(0,x)])
  (c:a.eval x=v) (h:wpList Vyj ops Q9 rest (a.put o.dst (.agg z)) w):wpList Vyj ops Q9 (o::rest) a w:=by grind [Go.Proofs.Tryz.prog,Go.wpList_plain,Go.wp_build]
theorem tQ {F:Int->Oi}(i:Nat):(nN c F)[1+i]? = (dm F++isL F)[i]? := by grind [nN,Nat.add_comm,List.getElem?_cons_succ]
structure jY (w:M) (b:Nat) (c:Int) (F:Int->Oi):Prop where
 a0:D w (O b 0)=Z (J c)
 s0:∀p:Nat,p<256->D w (O b (1+p*2))=Z (J (kV F p))
 d0:∀p:Nat,p<256->D w (O b (1+p*2+1))=Z (J (j7 F p))
 i0:∀p:Nat,p<256->D w (O b (513+p))=Z (.bool (F p).isSome)
theorem jY.below {F:Int->Oi}(h:jY w b c F)(e:Bq w I):jY I b c F:=by
 have k:∀{a:Addr}{v:Vr},D w a=Z v->D I a=Z v:=λ {a v} h=>(e.cell (SZ w a h)).trans h;exact⟨k h.a0,λ p d=>k (h.s0 p d),λ p d=>k (h.d0 p d),λ p d=>k (h.i0 p d)⟩
theorem Cj (F:Int->Oi)(i:Nat)(a:i<512):(dm F)[i]? = Z (J (if i%2=0 then kV F (i/2:Nat) else j7 F (i/2:Nat))):=by
 unfold dm;rw[Tz,UD a];rfl
theorem QF (F:Int->Oi)(i:Nat)(a:i<256):(isL F)[i]? = Z (Value.bool (F (i:Int)).isSome):=by
 unfold isL;rw[Tz,UD a];rfl
theorem Ck {F:Int->Oi}(h:w.rangeAt b 0 (nN c F)):jY w b c F:=by
 have at_:∀j v,(nN c F)[j]? = Z v->Cq w b j v:=λ j v d=>by have:=h j v d;rw[Tm]at this;exact this
 refine⟨at_ 0 _ rfl,λ p a=>at_ _ _ ?_,λ p a=>at_ _ _ ?_,λ p a=>at_ _ _ ?_⟩;rw[tQ,TO (by rw[dK];omega),Cj F _ U];rw[Q5 U,show p*2/2=p by omega];rw[show 1+p*2+1=1+(p*2+1) by omega,tQ,TO (by rw[dK];omega),Cj F _ U];rw[Q6 U,show (p*2+1)/2=p by omega];rw[show 513+p=1+(512+p) by omega,tQ,TG (by rw[dK];omega),dK,show 512+p-512=p by omega];exact QF F p a
theorem I8 {F:Int->Oi}(f:Cq w b 0 (J c))(e:w.rangeAt b 1 (dm F))(d:w.rangeAt b 513 (isL F)):w.rangeAt b 0 (nN c F):=by
 intro j v a;rw[Tm];cases j with
 |zero =>
  have:v=J c:=(Option.some.inj a).symm;rw[this];exact f
 |succ j =>
  rw[Nat.add_comm,tQ]at a;by_cases q:j<512;rw[TO (by grind [dK])]at a;rw[Nat.add_comm];exact e j v a;rw[TG (by rw[dK];omega),dK]at a;have:=d (j-512) v a;rw[show 513+(j-512)=j+1 by omega]at this;exact this
theorem xU {a c:Nat}(h:w.there b o n)(f:o<=a)(e:a+c<=o+n):w.there b a c:=λ j d=>by
 have:=h (a-o+j) U;rw[show o+(a-o+j)=a+j by omega]at this;exact this
theorem sW (h:w.there b o n)(a:b<G w.heap)(c:Bq w I):I.there b o n:=λ j d=>by
 rw[c.cell (p:=O b (o+j)) a,c.frozen (p:=O b (o+j)) a];exact h j d
def Po (w I:M) (e:Ending) (W H:Int) (Y:Bn) (o:Int):Prop :=
 ∃F,e=VJ (.agg (nN o F).toArray)/\cL (aF W H Y) o F/\Below (G w.heap) w I
theorem R7 (h:w.there b o n)(j:Nat)(a:j<n):w.frozen? (O b (o+0+j))=false:=(h j a).2
theorem R8 (h:w.there b o n)(j:Nat)(a:j<n):(D w (O b (o+0+j))).isSome=true:=(h j a).1
theorem stored (c:K l=n)(h:w.there b o n)(a:∀v∈l,v.oneCell'=Q):(storeCells (O b o) l).run Vyj w=.ok () (w.setCells b o l):=by grind [Go.Proofs.Tryz.prog,Go.run_storeCells_cells,R8,R7]
theorem Cl {P:Program}{c:Func}{b:Array Vr}{i:Nat}{s:TypeId}{A:Addr}{u:Vr}(d:c.results=#[.cell i s])(a:b.getD i undef=.pointer (Z A))
  (h:(loadVar s A).run P w=.ok u w):(results c b).run P w=.ok u w:=by
 unfold results;rw[d];rw[Array.getD_eq_getD_getElem?]at a;simp[a,h,asAddr]
theorem R9 {Y:Bn}{d f:List Vr}(c:Nat)(w:M)(g:bo w M9 W H V Y)(Z4:M9<G w.heap)(hr:inB W H c=Q)
  (Y5:∀w:M,(Instr.alloc 198 Q (.tuple #[])).run Vyj w=.ok (Pq (G w.heap)) (E w (.cells d.toArray 198)))
  (t:prog.built 198 [(0,J (c:Int))]=Z f.toArray) (S:K d=769) (N:K f=769) (B:∀v∈f,v.oneCell'=Q) (X:f[0]? = Z (J (c:Int))) :
  Zq 115 #[Pq M9,J (c:Int)] w λ e I=>Po w I e W H Y c:=by
 have a:=jf w d 198 769 S;have b:=jf (E w (.cells d.toArray 198)) d 198 769 S;have Wa:G (E w (.cells d.toArray 198)).heap=G w.heap+1:=by simp
 rw[Wa]at b;have a:=World.there_alloc a (.cells d.toArray 198);have B1:Bq w ((E w (.cells d.toArray 198)).alloc (.cells d.toArray 198)):=(ae.alloc aa _).alloc sQ _;have Wq:=stored N b B;have q:Bq w (((E w (.cells d.toArray 198)).alloc (.cells d.toArray 198)).setCells (G w.heap+1) 0 f):=cC _ U _ _ B1;have k:=TV ((E w (.cells d.toArray 198)).alloc (.cells d.toArray 198)) (G w.heap+1) 0 f (by rw[N];exact b);have i:=k 0 _ X;have a:=Uh a (G w.heap+1) 0 f;have b:=Uh b (G w.heap+1) 0 f;go_enter func115,ntmps115;go_wp2_with (first|(refine s8 Y5 rfl rfl ?_)|(refine tf t rfl _ rfl rfl ?_));clear Wq k B1 B X;generalize ((E w (.cells d.toArray 198)).alloc (.cells d.toArray 198)).setCells (G w.heap+1) 0 f=W2 at *;have l:G w.heap+1<G W2.heap:=aB i;have XY:=lZ c W2 (g.below q Z4) (Tc Z4 q.size) hr;refine XY.mono ?_;rintro e h ⟨F,rfl,BF,hb3⟩;have B3:=aj q hb3;have m:=(hb3.cell (p:=O (G w.heap+1) (0+0)) l).trans i;have a:=sW a U hb3;have b:=sW b l hb3;have R:=dK F;have P:=oQ F;have L:=oS F;have C:=tM F;have oR:=Ci (c:Int) F;have o:=Ch (c:Int) F;have s:h.there (G w.heap+1) 1 512:=xU b U U;have r:(h.setCells (G w.heap+1) 1 (dm F)).there (G w.heap+1) 513 256:=Uh (xU b U U) _ _ _;have s1:=stored R s L;have s2:=stored P r C;have z:((h.setCells (G w.heap+1) 1 (dm F)).setCells (G w.heap+1) 513 (isL F)).rangeAt (G w.heap+1) 1 (dm F):=T8 (TV _ _ _ _ (by rw[R];exact s)) _ _ _ (SP (SQ U));have y:((h.setCells (G w.heap+1) 1 (dm F)).setCells (G w.heap+1) 513 (isL F)).rangeAt (G w.heap+1) 513 (isL F):=TV _ _ _ _ (by rw[P];exact r);have A:Cq ((h.setCells (G w.heap+1) 1 (dm F)).setCells (G w.heap+1) 513 (isL F)) (G w.heap+1) 0 (J (c:Int)):=by
  have k1:h.rangeAt (G w.heap+1) 0 [J (c:Int)]:=λ j v T=>by
   cases j with
   |zero=>cases T;exact m
   |succ j=>cases T
  have k2:=T8 (T8 k1 (G w.heap+1) 1 (dm F) (SP (SQ sQ))) (G w.heap+1) 513 (isL F) (SP (SQ sQ));exact k2 0 _ rfl
 have rR:=I8 A z y;have B4:Bq w ((h.setCells (G w.heap+1) 1 (dm F)).setCells (G w.heap+1) 513 (isL F)):=cC _ U _ _ (cC _ U _ _ B3);have a:=Uh (Uh a (G w.heap+1) 1 (dm F)) (G w.heap+1) 513 (isL F);have s3:=stored o a oR;have rF:(((h.setCells (G w.heap+1) 1 (dm F)).setCells (G w.heap+1) 513 (isL F)).setCells (G w.heap) 0 (nN (c:Int) F)).rangeAt (G w.heap) 0 (nN (c:Int) F):=TV _ _ _ _ (by rw[o];exact a);have B5:Bq w (((h.setCells (G w.heap+1) 1 (dm F)).setCells (G w.heap+1) 513 (isL F)).setCells (G w.heap) 0 (nN (c:Int) F)):=cC _ aa _ _ B4;clear z y A L C s r m i B3 q XY hb3 B4;generalize n:nN (c:Int) F=u at *;have x:=qH n;clear n;generalize dm F=CL at *;generalize isL F=IL at *;go_wp2_with (refine wpList_load_mid rfl 198 _ rfl (G w.heap+1) 0 rfl u _ rR underlying198 rfl (by rw[oW,o]) ?_);refine Vxl (v:=.agg u.toArray) (Cl results115 rfl (run_loadVar_mid _ (G w.heap) 0 198 u _ rF underlying198 rfl (by rw[oW,o]))) rfl ⟨F,by rw[x.out],BF,B5⟩
theorem MO {Y:Bn}(c:Nat)(w:M)(g:bo w M9 W H V Y)(b:M9<G w.heap)(a:inB W H c=Q) :
  Zq 115 #[Pq M9,J (c:Int)] w λ e I=>Po w I e W H Y c :=
 R9 c w g b a zq (MN c) (MM 0) (MM c) (QE c) rfl
theorem OL (n:Int)(w:M)(b:-2097152<=n)(a:n<=2097152) :
  Eq9 250 #[J n] w (J (if n<0 then -n else n)):=by
 by_cases h:n<0
 ·rw[Q5 h];go_enter func250,ntmps250;go_wp2;go_ret;exact⟨rfl,rfl⟩
 ·rw[Q6 h];go_enter func250,ntmps250;go_wp2;go_ret;exact⟨rfl,rfl⟩
theorem Pp (a b:Int)(w:M)(h:fB a)(k:fB b) :
  Eq9 250 #[J (a-b)] w (J (dst a b)):=by grind [Ni,fB,OL]
theorem MQ (x y t u:Int)(w:M)(d:fB x)(c:fB y)(g:fB t)(f:fB u) :
  Rq 210 #[J x,J y,J t,J u] w (.agg #[J (dst (dst x t) (dst y u)),J (les (dst x t) (dst y u))]):=by
 have p:=yp x t d g;have o:=yp y u c f;have j:=d;have i:=c;have l:=g;have k:=f;unfold fB at j i l k;by_cases h:dst x t<dst y u
 ·have b:dst (dst x t) (dst y u)=dst y u-dst x t:=by unfold dst at *;rw[Q5 h]
  have a:les (dst x t) (dst y u)=dst x t:=by unfold les;rw[Q5 h]
  rw[b,a];clear b a;generalize n:dst x t=A at *;generalize m:dst y u=B at *;go_enter func210,ntmps210;go_wp2_with (go_at_call 250;refine(Pp _ _ _ ?_ ?_).mono ?_;assumption;assumption;rintro e I ⟨rfl,rfl⟩);exact Vxl (v:=.agg #[J (B-A),J A]) (by simp[results,results210,go_sem]) rfl ⟨rfl,ae.alloc aa _⟩
 ·have b:dst (dst x t) (dst y u)=dst x t-dst y u:=by unfold dst at *;rw[Q6 h]
  have a:les (dst x t) (dst y u)=dst y u:=by unfold les;rw[Q6 h]
  rw[b,a];clear b a;generalize n:dst x t=A at *;generalize m:dst y u=B at *;go_enter func210,ntmps210;go_wp2_with (go_at_call 250;refine(Pp _ _ _ ?_ ?_).mono ?_;assumption;assumption;rintro e I ⟨rfl,rfl⟩);exact Vxl (v:=.agg #[J (A-B),J B]) (by simp[results,results210,go_sem]) rfl ⟨rfl,ae.alloc aa _⟩
theorem Sa (w:M):Bq w (E w (VP #[J 0,J 0] 90)):=ae.alloc aa _
theorem Sb (w:M){a:M}{m:Nat}(h:a=(E w (VP #[J 0,J 0] 90)).drewN m) :
  a.cell? (O (G w.heap) 0)=Z (J 0)/\Cq a (G w.heap) 1 (J 0)/\a.frozen? (O (G w.heap) 0)=Vl/\a.frozen? (O (G w.heap) 1)=Vl/\G a.heap=G w.heap+1/\Bq w a:=by
 subst h;have b:=Sa w;refine⟨SR #[J 0,J 0] 90 (G w.heap) 0 rfl,SR #[J 0,J 0] 90 (G w.heap) 1 rfl,bC w #[J 0,J 0] 90 (G w.heap) aa 0,bC w #[J 0,J 0] 90 (G w.heap) aa 1,by simp,⟨b.os,b.tape,b.output,b.size,b.block⟩⟩
theorem Sc {b q l o e cs k:Int}(w:M)(j:Cq w M9 0 (J W))(u:W≠0)(t1:Int.tmod a W=q)(t2:Int.tmod b W=o)(t3:Int.tdiv a W=l)(t4:Int.tdiv b W=e)
  (u3:IntKind.i64.wrap l=l) (u4:IntKind.i64.wrap e=e)
  (s:∀w,Rq 210 #[J q,J l,J o,J e] w (.agg #[J cs,J k])) :
  Rq 160 #[Pq M9,J a,J b] w (.agg #[J cs,J k]):=by
 have t:M9<G w.heap:=SZ w _ j;go_enter func160,ntmps160;go_wp2;obtain⟨g,h,f0,f1,i,d⟩:=Sb w (m:=0) rfl;rw[World.drewN_zero]at g h f0 f1 i d;have j:=(d.cell (p:=O M9 0) t).trans j;generalize E w (VP #[.int .i64 0,.int .i64 0] 90)=f at *;have j:Cq f.drew M9 0 (J W):=j;have g:Cq f.drew (G w.heap) 0 (J 0):=g;have h:Cq f.drew (G w.heap) 1 (J 0):=h;have f0:f.drew.frozen? (O (G w.heap) 0)=false:=f0;have f1:f.drew.frozen? (O (G w.heap) 1)=false:=f1;have d:Bq w f.drew:=⟨d.os,d.tape,d.output,d.size,d.block⟩;have i:G w.heap<G f.drew.heap:=SZ f.drew _ g;go_region_with (first|(go_at_call 210;refine Q9 (s _) λ r c=>?_;have g:=(c.cell (p:=O (G w.heap) 0) i).trans g;have h:=(c.cell (p:=O (G w.heap) 1) i).trans h;have f0:=(c.frozen (p:=O (G w.heap) 0) i).trans f0;have f1:=(c.frozen (p:=O (G w.heap) 1) i).trans f1;have d:=aj d c))
 all_goals
  have n:=vg r (G w.heap) cs k g h;go_wp2;exact Vxl (v:=.agg #[J cs,J k]) (by simp[results,results160,go_sem,n.1,n.2]) rfl ⟨rfl,(d.setCell (p:=O (G w.heap) 0) aa _).setCell (p:=O (G w.heap) 1) aa _⟩
theorem Cm {Y:Bn}(a b:Int)(w:M)(g:bo w M9 W H V Y)(f:inB W H a=Q)(e:inB W H b=Q) :
  Rq 160 #[Pq M9,J a,J b] w (.agg #[J (aP W a b),J (aO W a b)]):=by
 have h:=g.w1;have k:=g.w2;have l:=g.h2;have d:0<=a/\a<W*H:=Q1 f;have c:0<=b/\b<W*H:=Q1 e;obtain⟨j,n,d1,d3⟩:=dY h f;obtain⟨i,m,d2,d4⟩:=dY h e;have t1:Int.tmod a W=a%W:=UR d.1;have t2:Int.tmod b W=b%W:=UR c.1;have t3:Int.tdiv a W=a/W:=UB d.1;have t4:Int.tdiv b W=b/W:=UB c.1;refine Sc w g.c0 U t1 t2 t3 t4 (fX U U) (fX U U) (λ w=>?_);exact MQ _ _ _ _ w (lW j U) (lW d1 U) (lW i U) (lW d2 U)
structure MS (w:M) (M9 X Y9 Z9:Nat) (W H V:Int) (Y:Bn) (a b:Nat) (F G9:Int->Oi) (qs qd:Int):Prop where
 ra:bo w M9 W H V Y
 ml:M9<G w.heap
 rx:jY w X a F
 ry:jY w Y9 b G9
 z0:D w (O Z9 0)=Z (J qs)
 z1:D w (O Z9 1)=Z (J qd)
theorem MS.below {X g f:Nat}{Y:Bn}{a:Nat}{F G9:Int->Oi}{d e:Int}(h:MS w M9 X g f W H V Y a b F G9 d e){B:Nat}(c:Below B w I)(i:B=G w.heap:=by rfl):MS I M9 X g f W H V Y a b F G9 d e:=by
 subst i;have k:∀{a:Addr}{v:Vr},D w a=Z v->D I a=Z v:=λ {a v} h=>(c.cell (SZ w a h)).trans h;exact⟨h.ra.below c h.ml,Tc h.ml c.size,h.rx.below c,h.ry.below c,k h.z0,k h.z1⟩
def OnR (F G9:Int->Oi) (qs qd:Int) (z:Int):Prop:=∃s d t u,F z=Z (s,d)/\G9 z=Z (t,u)/\s+t=qs/\d+u=qd
def Ten (w:M) (X Y9 Z9 z a b:Nat) (s d t u x y:Int):Prop :=
 w.cell? (O X 0)=Z (J a)/\D w (O Y9 0)=Z (J b)/\D w (O X (513+z))=Z (.bool Q)/\D w (O Y9 (513+z))=Z (.bool Q)/\D w (O X (1+z*2))=Z (J s)/\D w (O X (1+z*2+1))=Z (J d)/\D w (O Y9 (1+z*2))=Z (J t)/\D w (O Y9 (1+z*2+1))=Z (J u)/\D w (O Z9 0)=Z (J x)/\D w (O Z9 1)=Z (J y)
theorem Ten.below {X f e z a:Nat}{s d u x y:Int}(h:Ten w X f e z a b s d t u x y)(g:Bq w I):Ten I X f e z a b s d t u x y:=by
 obtain⟨r,q,p,o,n,m,l,j,i,c⟩:=h;have k:∀{a:Addr}{v:Vr},D w a=Z v->D I a=Z v:=λ {a v} h=>(g.cell (SZ w a h)).trans h;exact⟨k r,k q,k p,k o,k n,k m,k l,k j,k i,k c⟩
theorem OM {cap:Nat}{A:Oa}{x y:Int}{Y:Bn}{a:Nat}{F G9:Int->Oi}{RA RB:List Vr}{l:Ln}(w:M)(g:bo w M9 W H V Y)(Z4:M9<G w.heap)
  (hA:∀w:M,jY (E w (.cells RA.toArray 198)) (G w.heap) a F) (hB:∀w:M,jY (E w (.cells RB.toArray 198)) (G w.heap) b G9)
  (ac:∀I:M,bo I M9 W H V Y->Zq 160 #[Pq M9,J a,J b] I λ e WX=>e=VJ (.agg #[J x,J y])/\Bq I WX)
  (an:∀z,okC (kV F z) (j7 F z)) (am:∀z,okC (kV G9 z) (j7 G9 z)) (hb:b<256) (hn:K l=n) (YL:n<=256) (hz:∀j,j<K l->l.getD j 0<256) (VU:bP w A n (λ i=>(l.getD i 0:Nat))) :
  Zq 159 #[Pq M9,.agg RA.toArray,.agg RB.toArray,.slice A n cap] w λ e I=>∃r,e=VJ (.bool r)/\(r=Q↔F b=Z (x,y)/\∀j,j<K l->l.getD j 0≠a->l.getD j 0≠b->¬OnR F G9 x y (l.getD j 0:Nat))/\Bq w I:=by
 subst hn;have ab:=hA w;have B1:Bq w (E w (.cells RA.toArray 198)):=ae.alloc aa _;have L:=hB (E w (.cells RA.toArray 198));have bA:Bq (E w (.cells RA.toArray 198)) ((E w (.cells RA.toArray 198)).alloc (.cells RB.toArray 198)):=ae.alloc aa _;have YF:=ab.below bA;have Wa:G (E w (.cells RA.toArray 198)).heap=G w.heap+1:=by simp
 rw[Wa]at L;have B2:=aj B1 bA;have g2:=g.below B2 Z4;have P:=Tc Z4 B2.size;have ad:=VU.below B2;have x0:=YF.a0;have y0:=L.a0;have au:(b:Int)<256:=U;go_enter func159,ntmps159;go_wp2_with fail;refine Q9 (ac _ g2) λ v hb3=>?_;have B3:=aj B2 hb3;have bZ:Bq v (E v (VP #[J x,J y] 90)):=ae.alloc aa _;have R:MS (E v (VP #[J x,J y] 90)) M9 (G w.heap) (G w.heap+1) (G v.heap) W H V Y a b F G9 x y :=
  ⟨(g2.below hb3 P).below bZ (Tc P hb3.size),Tc (Tc P hb3.size) bZ.size,(YF.below hb3).below bZ,(L.below hb3).below bZ,SR (w:=v) #[J x,J y] 90 (G v.heap) 0 rfl,SR (w:=v) #[J x,J y] 90 (G v.heap) 1 rfl⟩
 have B4:=aj B3 bZ;have XA:=(ad.below hb3).below bZ;clear ac ab B1 L bA YF Wa B2 g2 P ad x0 y0 hb3 B3 bZ VU hA hB;go_wp2_with fail;generalize E v (VP #[.int .i64 x,.int .i64 y] 90)=w4 at *;generalize G v.heap=Z9 at *;generalize G w.heap+1=T at *;obtain⟨X,hX⟩:∃X,G w.heap=X:=⟨_,rfl⟩;rw[hX]at R;simp only[hX];have HX:=qH hX;clear hX;have ya:=R.ry.a0;have q:=R.rx.i0 b hb;have xs:=R.rx.s0 b hb;have xd:=R.rx.d0 b hb;have z0:=R.z0;have z1:=R.z1;cases p:F (b:Int) with
 |none =>
  rw[p]at q;have q:Cq w4 X (513+b) (.bool Vl):=q;go_quiet (fail);go_wp2;go_ret;exact⟨Vl,rfl,⟨λ h=>(by cases h),λ h=>(by have:=p.symm.trans h.1;cases this)⟩,Vxj B4 _⟩
 |some c =>
  obtain⟨C,d0⟩:=c;rw[p]at q;have q:Cq w4 X (513+b) (.bool Q):=q;rw[(dC p).1]at xs;rw[(dC p).2]at xd;by_cases e1:C=x
  ·by_cases e2:d0=y
   ·subst e1 e2;go_quiet (fail);have R5:=R.below (Vxj (Below.refl (G w4.heap) w4) nq);have B5:=Vxj B4 nq;have ag:=XA.below (Vxj (Below.refl (G w4.heap) w4) nq);clear R B4 XA ya q xs xd z0 z1;generalize w4.drewN nq=w5 at *;go_wp2;go_loopg [10] (K l) (λ gk iv wr=>∃i:Nat,gk=K l-i/\iv=J i/\i<=K l/\Hid (∀j,j<i->l.getD j 0≠a->l.getD j 0≠b->¬OnR F G9 C d0 (l.getD j 0:Nat))/\MS wr M9 X T Z9 W H V Y a b F G9 C d0/\bP wr A (K l) (λ i=>(l.getD i 0:Nat))/\Bq w wr)
    case atStart=>exact⟨0,rfl,rfl,Te _,λ j hj=>Q8 hj U,R5,ag,B5⟩
    case round =>
     obtain⟨i,WV,rfl,hi,Wl,o,f,u⟩:=hrel;clear R5 B5 ag;by_cases VS:i<K l
     ·obtain⟨ba,oa,rfl,Zp,VX⟩:=f i VS;have s:=hz i VS;obtain⟨z,YY⟩:∃z,l.getD i 0=z:=⟨_,rfl⟩;have W8:Cq wr ba (oa+i) (J (z:Int)):=(by rw[<- YY];exact VX);rw[YY]at s;have HZ:=qH YY;clear YY VX;have z3:(z:Int)<256:=U;have i1:(0:Int)<=(i:Int):=U;have i2:(i:Int)<(K l:Int):=U;have d:(z≠a->z≠b->¬OnR F G9 C d0 (z:Nat))->Hid (∀j,j<i+1->l.getD j 0≠a->l.getD j 0≠b->¬OnR F G9 C d0 (l.getD j 0:Nat)):=λ h j hj=>by
       by_cases e:j=i
       ·rw[e,HZ.out];exact h
       ·exact Wl.out j U
      have xa:=o.rx.a0;have ya:=o.ry.a0;have q:=o.rx.i0 z s;have S:=o.ry.i0 z s;have bD:Bq wr wr.drew:=⟨rfl,rfl,rfl,aa,λ _ _=>rfl⟩;by_cases ea:z=a
      ·have B:=d (λ h=>Q8 ea h);clear d;subst ea;go_wp2;go_quiet (fail);go_wp2;go_roundg (K l-(i+1))
       case measure=>omega
       case rel=>exact⟨i+1,rfl,gQ,U,B,o.below (Vxj ae _),f.below (Vxj ae _),Vxj u _⟩
      ·have na:(((z:Nat):Int) != (a:Int))=true:=bne_iff_ne.2 U;by_cases eb:z=b
       ·have B:=d (λ _ h=>Q8 eb h);clear d;subst eb;go_wp2;go_quiet (fail);go_wp2;go_roundg (K l-(i+1))
        case measure=>omega
        case rel=>exact⟨i+1,rfl,gQ,U,B,o.below (Vxj ae _),f.below (Vxj ae _),Vxj u _⟩
       ·have nb:(((z:Nat):Int) != (b:Int))=true:=bne_iff_ne.2 U;have ap:¬((z:Int)=(a:Int)):=U;have ao:¬((z:Int)=(b:Int)):=U;cases m:F (z:Int) with
        |none =>
         rw[m]at q;have q:Cq wr X (513+z) (.bool Vl):=q;have B:=d (λ _ _ h=>by obtain⟨_,_,_,_,t,_⟩:=h;rw[m]at t;cases t);clear d;go_wp2;go_quiet (fail);go_wp2;go_roundg (K l-(i+1))
         case measure=>omega
         case rel=>exact⟨i+1,rfl,gQ,U,B,o.below (Vxj ae _),f.below (Vxj ae _),Vxj u _⟩
        |some cz =>
         obtain⟨sz,dz⟩:=cz;rw[m]at q;have q:Cq wr X (513+z) (.bool Q):=q;cases k:G9 (z:Int) with
         |none =>
          rw[k]at S;have S:Cq wr T (513+z) (.bool Vl):=S;have B:=d (λ _ _ h=>by obtain⟨_,_,_,_,_,t,_⟩:=h;rw[k]at t;cases t);clear d;go_wp2;go_quiet (fail);go_wp2;go_roundg (K l-(i+1))
          case measure=>omega
          case rel=>exact⟨i+1,rfl,gQ,U,B,o.below (Vxj ae _),f.below (Vxj ae _),Vxj u _⟩
         |some cy =>
          obtain⟨tz,uz⟩:=cy;rw[k]at S;have S:Cq wr T (513+z) (.bool Q):=S;have oA:=an (z:Int);have oB:=am (z:Int);rw[(dC m).1,(dC m).2]at oA;rw[(dC k).1,(dC k).2]at oB;have y0:=o.rx.s0 z s;have y1:=o.rx.d0 z s;have y2:=o.ry.s0 z s;have y3:=o.ry.d0 z s;rw[(dC m).1]at y0;rw[(dC m).2]at y1;rw[(dC k).1]at y2;rw[(dC k).2]at y3;have XG:=λ w=>nI sz dz tz uz w oA oB;have CC:Ten wr.drew X T Z9 z a b sz dz tz uz C d0:=⟨xa,ya,q,S,y0,y1,y2,y3,o.z0,o.z1⟩;have o:=o.below bD;have f:=f.below bD;have u:=aj u bD;clear bD y0 y1 y2 y3 oA oB xa ya q S;by_cases e1:sz+tz=C;by_cases e2:dz+uz=d0;have HO:Hid (OnR F G9 C d0 (z:Nat)):=⟨sz,dz,tz,uz,m,k,e1,e2⟩
          rotate_left
          have B:=d (λ _ _ h=>by obtain⟨_,_,_,_,t,h2,_,h4⟩:=h;rw[m]at t;rw[k]at h2;cases t;cases h2;exact e2 h4)
          rotate_left
          have B:=d (λ _ _ h=>by obtain⟨_,_,_,_,t,h2,h3,_⟩:=h;rw[m]at t;rw[k]at h2;cases t;cases h2;exact e1 h3)
          all_goals
           clear d;go_wp2;go_region_held3 (λ I=>D I (O X 0)=Z (J a)/\Cq I T 0 (J b)/\Cq I X (513+z) (.bool Q)/\Cq I T (513+z) (.bool Q)/\Cq I X (1+z*2) (J sz)/\Cq I X (1+z*2+1) (J dz)/\Cq I T (1+z*2) (J tz)/\Cq I T (1+z*2+1) (J uz)/\Cq I Z9 0 (J C)/\Cq I Z9 1 (J d0)) (first|(exact CC)) (first|(go_at_call 112;refine Q9 (XG _) λ wx N=>?_;have CC:=CC.below N;have o:=o.below N;have f:=f.below N;have u:=aj u N))
          all_goals go_wp2
          all_goals first
           |(go_ret;exact⟨Vl,rfl,⟨λ h=>(by cases h),λ h=>Q8 HO.out (by have:=h.2 i VS;rw[HZ.out]at this;exact this ea eb)⟩,u⟩)
           |(go_roundg (K l-(i+1))<;>first|omega|exact⟨i+1,rfl,gQ,U,B,o,f,u⟩)
     ·have e:i=K l:=U;subst e;go_wp2;go_ret;exact⟨Q,rfl,⟨λ _=>⟨p,Wl.out⟩,λ _=>rfl⟩,u⟩
   ·subst e1;go_quiet (fail);go_wp2;go_ret;exact⟨Vl,rfl,⟨λ h=>(by cases h),λ h=>(by have:=p.symm.trans h.1;simp at this;exact Q8 this e2)⟩,Vxj B4 _⟩
  ·go_quiet (fail);go_wp2;go_ret;exact⟨Vl,rfl,⟨λ h=>(by cases h),λ h=>(by have:=p.symm.trans h.1;simp at this;exact Q8 this.1 e1)⟩,Vxj B4 _⟩
end Go.Proofs.YtikdmenjibkgiaaGreatDoor
