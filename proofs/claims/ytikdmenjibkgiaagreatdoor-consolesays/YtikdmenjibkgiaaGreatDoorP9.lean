/- Texts laid together. -/
import Derived.Test.YtikdmenjibkgiaaGreatDoorP8
import Derived.Shelf.Spec.SlicesInsertGrow
namespace Go.Proofs.YtikdmenjibkgiaaGreatDoor
open Go.Proofs.Tryz renaming prog->Vyj
open _root_.Array renaming size->G
open Go.World renaming cell?_alloc_at->SR,frozen?->Vf,cell?_of_block->Ug,cell?->D,alloc->E,setCell->C',ownsRow->G'
open _root_.Nat renaming le_trans->Tg,zero_le->Te,lt_of_lt_of_le->Tc,zero_add->Tm,lt_irrefl->UA
open _root_.Or renaming inr->SP,inl->SQ
open _root_.List renaming length_filter_le->TH,mem_of_getElem?->Ti,take_add_one->Ty,mem_append->Tn,take_length->Tl,append_nil->TU,nil_append->Vc,append_assoc->TC,filter_cons_of_neg->TZ,filter_cons_of_pos->T6,length_append->Td,length_drop->Ue,length_eq_zero_iff->TF,length_take->Ts,getElem?_eq_getElem->SU,take_of_length_le->TM,getElem?_drop->UW,size_toArray->UC,length->K
open Go.Value renaming int->VN,ownBlock->M'
open Go.IntKind renaming i64->VO
open Go.Proofs.Tryz
open _root_.Option renaming some->Z,none->UP
open _root_.Bool renaming true->Q,false->Vl
open Go renaming World->M,Value->Vr,maxLen->Vyf,TypeId->Vyk
open Go.RowKit renaming Below->Vw,Hid->Vy
open Go.Ending renaming returned->VJ
open Go.Obj renaming cells->VP
variable {lb N cap g t i xb:Nat}
set_option maxHeartbeats 8000000
set_option maxRecDepth 1000000
open Go.RowKit
structure Okl (L:Ln) (K9:Int) (st:LSt):Prop where
 esy:Esy st.es
 cor:Cor L st
 bd:∀{a e},e∈st.es a->0<=e.s/\0<=e.d/\e.s<=K9/\e.d<=K9
section
variable {L : List Nat} {K9 : Int} {st : LSt} {n o : Nat}
theorem Okl.Vxh (d:Okl L K9 st){a b t u:Int}(h:EdR st n a b t u):0<=t/\0<=u/\t<=K9/\u<=K9/\∃m:Nat,b=(m:Int)/\m∈L:=by
 obtain⟨e,c,rfl,rfl,rfl,_,_⟩:=h;obtain⟨j,i,g,f⟩:=d.bd c;exact⟨j,i,g,f,e.to,rfl,(d.cor.ends c).2⟩
theorem Okl.Vq (g:Okl L K9 st)(c:o∈L){a s d:Int}(h:Wg (EdR st n) (o:Int) a s d):0<=s/\0<=d/\∃m:Nat,a=(m:Int)/\m∈L :=
 h (λ a s d=>0<=s/\0<=d/\∃m:Nat,a=(m:Int)/\m∈L) ⟨Int.le_refl _,Int.le_refl _,o,rfl,c⟩ (λ a s d b t u i e=>by
  obtain⟨k,j,_,_,f⟩:=g.Vxh e;exact⟨U,U,f⟩)
theorem Okl.one (k:Okl L K9 st){a b t u f d:Int}(h:EdR st n a b t u)(j:EdR st n a b f d):f=t/\d=u:=by
 obtain⟨e,i,l,rfl,rfl,_,_⟩:=h;obtain⟨m,c,g,rfl,rfl,_,_⟩:=j;have:=(k.esy.ord _).one c i U;subst this;exact⟨rfl,rfl⟩
theorem Okl.len (b:Okl L K9 st)(f:∀n∈L,n<256)(a:Nat):K (st.es a)<=256:=by
 have g:((st.es a).map (·.to)).Nodup:=by
  unfold List.Nodup;rw[List.pairwise_map];exact(b.esy.ord a).imp (λ h=>Nat.ne_of_lt h)
 have:=dr 256 g (λ n c=>by
  obtain⟨e,d,rfl⟩:=List.mem_map.1 c;exact f _ (b.cor.ends d).2)
 simpa using this
end
theorem MY {s d:Int}(b:0<=s)(a:0<=d)(h:val s d<=val 1024 1024):s<=2500/\d<=2500:=by grind [val,decide]
def OO (st:LSt) (n a:Nat) (M9:Int) (F:Int->Oi):Prop :=
 ∀(b x y:Int),val x y<=M9->((∃p q,Wg (EdR st n) (a:Int) b p q/\val p q<=val x y)↔∃p q,F b=Z (p,q)/\val p q<=val x y)
structure nO (w:M) (X lb:Nat) (n ms md:Int) (v:Vr) (nh:Nat) (R F:Int->Oi):Prop where
 x:D w (O X 0)=Z (Pq lb)
 n:D w (O (X+1) 0)=Z (J n)
 m:bz w (X+2) ms md
 k:D w (O (X+4) 0)=Z (.map (Z (X+3)))
 mp:bj Vyj 3 w (X+3) (fv F) (cnt F 256)
 hp:cq w (X+6) (X+5) v nh R
 own:∀g,M' v=Z g->X+7<=g
 few:nh<=1+256*cnt F 256
section
variable {w I : M} {X lb : Nat} {n ms md : Int} {v v' : Vr} {nh YA : Nat} {R R' F : Int → Option (Int × Int)}
theorem nO.below (a:nO w X lb n ms md v nh R F)(b:Bq w I):nO I X lb n ms md v nh R F :=
 ⟨(b.cell (aB a.x)).trans a.x,(b.cell (aB a.n)).trans a.n,a.m.below b,(b.cell (aB a.k)).trans a.k,a.mp.X' (F:=λ _=>False) (ai.Y' b) id,a.hp.below b,a.own,a.few⟩
theorem nO.far (a:nO w X lb n ms md v nh R F):∀g,hb3 (X+6) (X+5) v g->X+5<=g:=by
 rintro g (rfl|rfl|h);omega;omega;have:=a.own g h;omega
theorem nO.heap (a:nO w X lb n ms md v nh R F)(K9:ai (hb3 (X+6) (X+5) v) w I)(d:cq I (X+6) (X+5) v' YA R')(c:∀g,M' v'=Z g->X+7<=g)(e:YA<=1+256*cnt F 256):nO I X lb n ms md v' YA R' F:=by
 have b:∀g,g<X+5->¬hb3 (X+6) (X+5) v g:=λ g f h=>by have:=a.far g h;omega
 exact⟨K9.cellOf a.x (b X U),K9.cellOf a.n (b (X+1) U),a.m.X' K9 (b (X+2) U),K9.cellOf a.k (b (X+4) U),a.mp.X' K9 (b (X+3) U),d,c,e⟩
theorem nO.known (b:nO w X lb n ms md v nh R F){a s d:Int}(o:0<=a)(l:a<256)(h:F a=UP)(f:bj Vyj 3 I (X+3) (bQ (fv F) a (.agg #[J s,J d])) (if (fv F a).isSome then cnt F 256 else cnt F 256+1))(i:w.mapTurned I (X+3)):nO I X lb n ms md v nh R (aC F a s d):=by
 have K9:=aA i;have e:=gZ F a s d 256 o l h;rw[zk,lX h]at f;have c:=b.own;refine⟨K9.cellOf b.x (by grind),K9.cellOf b.n (by grind),b.m.X' K9 U,K9.cellOf b.k (by grind),?_,b.hp.X' K9 U U (λ g j=>by have:=c g j;omega),b.own,?_⟩;rw[e];exact f;have:=b.few;rw[e];omega
end
structure Sf (w wr:M) (X lb:Nat) (st:LSt) (n a:Nat) (ms md:Int) (F:Int->Oi) (nv cv mv:Vr):Prop where
 ex:∃(Hh R:Int->Oi) (v:Vr) (nh cb:Nat) (s d:Int),cv=Pq cb/\X+7<=cb/\M' v≠Z cb/\bz wr cb s d/\okC s d/\nO wr X lb (n:Int) ms md v nh R F/\Dg (EdR st n) (a:Int) F Hh (λ _ _=>True) /\
  ((mv=.bool Vl/\∀x,Hh x=UP)\/∃c:Nat,mv=.bool Q/\nv=J (c:Int)/\Hh (c:Int)=Z (s,d)/\(∀{b t u},Hh b=Z (t,u)->val s d<=val t u)/\R=lu Hh (c:Int))
 sm:∀{x s d},F x=Z (s,d)->val s d<=val ms md
 Y:Vw (G w.heap) w wr
theorem nO.other {w I:M}{X C:Nat}{n ms md:Int}{v:Vr}{nh:Nat}{R F:Int->Oi}(a:nO w X lb n ms md v nh R F)(K9:ai (λ k=>k=C) w I)(d:X+7<=C)(b:M' v≠Z C):nO I X lb n ms md v nh R F :=
 ⟨K9.cellOf a.x (by show ¬X=C;omega),K9.cellOf a.n (by grind),a.m.X' K9 U,K9.cellOf a.k (by grind),a.mp.X' K9 U,a.hp.X' K9 U U (λ g c e=>b (by rw[c,e])),a.own,a.few⟩
theorem jZ (w:M)(B:Nat)(x y:Vr):ai (λ k=>k=B) w ((C' w (O B 0) x).setCell (O B 1) y):=by grind [ai.setCell,ai.refl]
theorem Cu {vb eb cd n a:Nat}{L:Ln}{st:LSt}{f:Int->Option Vr}{ms md:Int}(w:M)(V:cR w N lb vb eb cd L st f)(O9:Okl L 512 st)(ha:a∈L)(m1:0<=ms)(m2:ms<=1024)(d1:0<=md)(d2:md<=1024) :
  Zq 252 #[Pq lb,J (a:Int),J (n:Int),.agg #[J ms,J md]] w λ e I=>∃kb F,e=VJ (.map (Z kb))/\bj Vyj 3 I kb (fv F) (cnt F 256)/\OO st n a (val ms md) F/\(∀{x s d},F x=Z (s,d)->okC s d)/\G w.heap<=kb/\Vw (G w.heap) w I:=by
 have dk:=@run_makeMap Vyj;have dq:=V.bd a ha;have cm:=aE (a:=(a:Int)) U U;have aL:okC ms md:=by unfold okC;omega
 have bb:okC 0 0:=by unfold okC;omega
 have cs:0<=val ms md:=by unfold val;omega
 have bq:val ms md<=val 1024 1024:=by unfold val;omega
 have HE:Vy (∀{a b t u},EdR st n a b t u->0<=val t u):=λ {a b t u} e=>by
  obtain⟨z,h2,_⟩:=O9.Vxh e;unfold val;omega
 have bI:Vy (∀F Hh,Dg (EdR st n) (a:Int) F Hh (λ _ _=>True)->(∀{b t u},Hh b=Z (t,u)->val ms md<val t u)->(∀{x s d},F x=Z (s,d)->val s d<=val ms md)->OO st n a (val ms md) F/\∀{x s d},F x=Z (s,d)->okC s d):=λ F Hh H hh sm =>
  ⟨λ b x y ci=>H.within hh cs HE.out ci,λ {x s d} hx=>by
   obtain⟨z,h2,_⟩:=O9.Vq ha (H.sF hx);have:=MY z h2 (Int.le_trans (sm hx) bq);unfold okC;omega⟩
 obtain⟨W0,XT⟩:∃W0,W0=(((((E w (VP #[Pq lb] 152)).alloc (VP #[J (n:Int)] 3)).alloc (VP #[J ms,J md] 90)).alloc (.map #[] 0)).alloc (VP #[.map (Z (G w.heap+1+1+1))] 251)):=⟨_,rfl⟩;have VZ:G W0.heap=G w.heap+5:=by rw[XT];simp
 have BW:Vw (G w.heap) w W0:=by
  rw[XT];exact((((ae.alloc aa _).alloc sQ _).alloc sU _).alloc sU _).alloc sU _
 have k0:D W0 (O (G w.heap) 0)=Z (Pq lb):=by
  rw[XT];exact Lib.cell?_alloc_some _ (Lib.cell?_alloc_some _ (Lib.cell?_alloc_some _ (Lib.cell?_alloc_some _ (SR _ _ _ 0 rfl))))
 have k1:D W0 (O (G w.heap+1) 0)=Z (J (n:Int)):=by
  rw[XT];exact Lib.cell?_alloc_some _ (Lib.cell?_alloc_some _ (Lib.cell?_alloc_some _ (SR _ _ _ 0 sQ)))
 have k2:bz W0 (G w.heap+2) ms md:=by
  have e2:G ((E w (VP #[Pq lb] 152)).alloc (VP #[J (n:Int)] 3)).heap=G w.heap+2:=by simp
  have q:=bz.new ((E w (VP #[Pq lb] 152)).alloc (VP #[J (n:Int)] 3)) ms md;rw[e2]at q;rw[XT];exact(q.below (ae.alloc aa _)).below (ae.alloc aa _)
 have k3:bj Vyj 3 W0 (G w.heap+3) (fv λ _=>UP) (cnt (λ _=>UP) 256):=by
  have e3:G (((E w (VP #[Pq lb] 152)).alloc (VP #[J (n:Int)] 3)).alloc (VP #[J ms,J md] 90)).heap=G w.heap+3:=by simp
  have q:=bj.made (((E w (VP #[Pq lb] 152)).alloc (VP #[J (n:Int)] 3)).alloc (VP #[J ms,J md] 90)) Vyj 3;rw[e3]at q;rw[XT,j9];exact q.X' (F:=λ _=>False) ((ai.refl _ _).alloc _) id
 have k4:D W0 (O (G w.heap+4) 0)=Z (.map (Z (G w.heap+3))):=by
  rw[XT];exact SR _ _ _ 0 sQ
 have Xg:=FM W0;rw[VZ]at Xg;go_enter func252,ntmps252;go_wp2_with fail;rw[<- XT];refine Xg.mono ?_;rintro e w1 ⟨rfl,HA,bp,Wa⟩;have b1:Vw (G W0.heap) W0 w1:=bp
 have B1:=aj BW b1;have D1:nO w1 (G w.heap) lb (n:Int) ms md (.slice UP 0 0) 0 (λ _=>UP) (λ _=>UP) :=
  ⟨al b1 k0,al b1 k1,k2.below b1,al b1 k4,k3.X' (F:=λ _=>False) (ai.Y' b1) id,HA,λ g P=>(by cases P),U⟩
 have S1:G w.heap+7<=G w1.heap:=U;clear Xg HA bp Wa b1 BW k0 k1 k2 k3 k4 VZ;simp only[Nat.add_assoc,Nat.reduceAdd];go_wp2_with fail;refine(Bh (a:Int) 0 0 _ D1.hp rfl bb cm U).mono ?_;rintro e w2 ⟨rfl,⟨v2,HB,be⟩,K2⟩;have D2:=D1.heap K2 HB (λ g P=>by
  rcases be with h|⟨g',h,dl⟩
  ·rw[h]at P;cases P
  ·rw[h]at P;cases P;omega) U
 have B2:Vw (G w.heap) w w2:=B1.trans (K2.Z' B1.size (λ k hk=>by have:=D1.far k hk;omega));have S2:G w.heap+7<=G w2.heap:=Tg S1 K2.size;clear D1 HB be K2 B1;go_wp2_with fail;refine(zb _ D2.hp).mono ?_;rintro e w3 ⟨c,s,d,rfl,C,Z8,⟨v3,HC,bf⟩,K3⟩;have X:=(D2.hp.fits C).1;have D3:=D2.heap K3 HC (λ g P=>D2.own g (by rw[<- bf];exact P)) U;have B3:Vw (G w.heap) w w3:=B2.trans (K3.Z' B2.size (λ k hk=>by have:=D2.far k hk;omega));have S3:G w.heap+7<=G w3.heap:=Tg S2 K3.size;have Xm:Vy (Sf w (E w3 (VP #[J s,J d] 90)) (G w.heap) lb st n a ms md (λ _=>UP) (J c) (Pq (G w3.heap)) (.bool Q)):=by
  have b4:=mB w3 (VP #[J s,J d] 90);have DG:=Dg.start (EdR st n) (a:Int);obtain⟨_,_,m,Yg,_⟩:=O9.Vq ha (DG.sH C);subst Yg;refine⟨⟨_,_,v3,_,G w3.heap,s,d,rfl,S3,λ h=>?_,bz.new w3 s d,X,D3.below b4,DG,SP ⟨m,rfl,rfl,C,λ {b t u} hb=>?_,rfl⟩⟩,λ h=>(by cases h),aj B3 b4⟩
  ·have:=(D3.hp.blocks).2.2 _ h;omega
  ·have:=Z8 b t u hb;unfold bef bt.v at this;simp only at this;omega
 clear D2 HC bf K3 B2 C Z8 D3 B3;go_wp2;go_loopg [11,12,13] 257 (λ gk nv cv mv wr=>∃F:Int->Oi,gk=257-cnt F 256/\Sf w wr (G w.heap) lb st n a ms md F nv cv mv)
 case atStart=>exact⟨_,by rw[j9],Xm⟩
 case round =>
  clear Xm;obtain⟨F,WV,R⟩:=hrel;have HG:=qH WV;clear WV;obtain⟨Hh,R0,v,nh,cb,s,d,rfl,dp,cn,sl,X,H,DG,Xk⟩:=R.ex;have hB:=R.Y;have a4:Vy (∀{x s d},F x=Z (s,d)->val s d<=val ms md):=λ h=>R.sm h;clear R;have q7:=H.m.c0;have q8:=H.m.c1;have qk:=H.k;have s0:=sl.c0;have s1:=sl.c1;rcases Xk with⟨rfl,Wl⟩|⟨c,rfl,rfl,au,an,hR⟩
  ·obtain⟨ad,ac⟩:=bI.out F Hh DG (λ h=>by rw[Wl]at h;cases h) a4.out;have a9:Vy _:=ad;have a8:Vy (∀{x s d},F x=Z (s,d)->okC s d):=ac;have mp:=H.mp;clear ad ac Wl DG;go_wp2;go_ret;exact⟨_,F,rfl,mp,a9.out,a8.out,U,hB⟩
  ·have VS:=lV (r:=ltB ms md s d) rfl wr aL X;cases hl:ltB ms md s d with
   |true =>
    have hv:val ms md<val s d:=(fg aL X).1 hl;obtain⟨ad,ac⟩:=bI.out F Hh DG (λ h=>Int.lt_of_lt_of_le hv (an h)) a4.out;have a9:=qH ad;have a8:Vy (∀{x s d},F x=Z (s,d)->okC s d):=ac;rw[hl]at VS;clear ad ac DG au an hR hv hl;go_wp2_with fail;refine Q9 VS λ w5 VW=>?_;have D5:=H.below VW;have dc:=D5.k;have ce:=D5.mp;have B5:=aj hB VW;clear VS H VW D5 hB;go_wp2;go_ret;exact⟨_,F,rfl,ce,a9.out,a8.out,U,B5⟩
   |false =>
    have hv:val s d<=val ms md:=by
     have z:¬val ms md<val s d:=λ h=>by rw[(fg aL X).2 h]at hl;cases hl
     omega
    rw[hl]at VS;clear hl;go_wp2_with fail;refine Q9 VS λ w5 VW=>?_;have df:nh<=1+256*cnt F 256:=H.few;have D5:=H.below VW;have am:=sl.below VW;have B5:=aj hB VW;clear VS H VW hB sl q7 q8 qk s0 s1;have qk:=D5.k;have s0:=am.c0;have s1:=am.c1;obtain⟨cc,a3,a2⟩:=DG.pop au an;obtain⟨n1,n2,c',bm,bn⟩:=O9.Vq ha (DG.sH au);have bm:c=c':=U;subst bm;have ec:=V.bd c bn;have cl:=aE (a:=(c:Int)) U U;have ee:=jj F 256;obtain⟨w6,cS,bi,a0⟩:=D5.mp.store aV Tryz.Vxc mQ cl (.agg #[J s,J d]);have D6:=D5.known U U a3 bi a0;have K6:=aA a0;have ba:=am.X' K6 U;have B6:Vw (G w.heap) w w6:=B5.trans (K6.Z' B5.size (λ k e=>U));have V6:=V.below B6;obtain⟨A,cap,cr,YS,_⟩:=V6.edges bn;have WL:=Eo (kb:=G w.heap+4) (nb:=G w.heap+1) (xb:=G w.heap) (cap:=cap) (p:=λ e=>!(aC F c s d (e.to:Int)).isSome&&(decide (e.to≠n)&&(st.VE e.to==0))) w6 YS (O9.len V.bd c) (λ I e YE he =>
     Je I (V6.below YE) ((YE.cell (aB D6.x)).trans D6.x) ((YE.cell (aB D6.k)).trans D6.k) ((YE.cell (aB D6.n)).trans D6.n) (D6.mp.X' (F:=λ _=>False) (ai.Y' YE) id) e (O9.cor.ends he).2)
    have HL:Vy (∀e,e∈(st.es c).filter (λ e=>!(aC F c s d (e.to:Int)).isSome&&(decide (e.to≠n)&&(st.VE e.to==0)))↔e∈st.es c/\aC F c s d (e.to:Int)=UP/\e.to≠n/\st.VE e.to=0):=λ e=>by
     rw[List.mem_filter];simp
    have ZU:K ((st.es c).filter (λ e=>!(aC F c s d (e.to:Int)).isSome&&(decide (e.to≠n)&&(st.VE e.to==0))))<=256:=Tg (TH _ _) (O9.len V.bd c);have c2:=V6.c2;have x6:=D6.x;have aw:aC F c s d c=Z (s,d):=bJ _ _ _ _;have ea:=gZ F _ s d 256 U U a3;have b5:Vy (∀{x s' d'},aC F c s d x=Z (s',d')->val s' d'<=val ms md):=λ h=>Int.le_trans (a2 h) hv;have ax:Vy (∀{x t u},aC F c s d x=Z (t,u)->val t u<=val s d):=λ h=>a2 h;have dd:=MY n1 n2 (Int.le_trans hv bq);have W:Vy (Dg (EdR st n) (a:Int) (aC F c s d) R0 (λ x _=>x≠c)):=(by rw[hR];exact cc);clear bi a0 K6 D5 am B5 DG cc an au hR a4 a2 a3;generalize (st.es c).filter (λ e=>!(aC F c s d (e.to:Int)).isSome&&(decide (e.to≠n)&&(st.VE e.to==0)))=l at *;generalize aC F c s d=F' at *;go_wp2_with fail;refine WL.mono ?_;rintro e w7 ⟨v7,rfl,XW,ab⟩;obtain⟨A7,dT,rfl,T,bw⟩:=eJ XW;have c8:Vy (∀b o,A7=Z (O b o)->G w6.heap<=b/\b<G w7.heap):=λ b o h=>by
     rcases bw with⟨z,_⟩|⟨g,z,_,h2,h3⟩
     ·rw[z]at h;cases h
     ·rw[z]at h;cases h;exact⟨h2,h3⟩
    have D7:=D6.below ab;have B:=ba.below ab;have B7:=aj B6 ab;have ds:G w.heap+7<=G w6.heap:=(by have:=D6.hp.blocks.1;omega);have cp:=D6.hp.blocks.2.2;have dz:=ab.size;clear WL XW ab D6 ba B6 V6 cr YS cS c2 x6 bw qk s0 s1;go_wp2;go_loopw [55] (λ iv wr=>∃(k:Nat) (v':Vr) (YA:Nat) (H':Int->Oi),k<=K l/\iv=J k/\nO wr (G w.heap) lb (n:Int) ms md v' YA H' F'/\YA<=nh+k/\bz wr cb s d/\M' v'≠Z cb/\Vy (Dg (EdR st n) (a:Int) F' H' (λ x y=>x≠c\/∃e∈l.take k,y=(e.to:Int)))/\dS wr A7 l/\Vy (∀g,M' v'=Z g->g<G w6.heap\/G w7.heap<=g)/\G w7.heap<=G wr.heap/\Vw (G w.heap) w wr)
     (λ i _=>K l-(intOf i).toNat)
    case atStart=>exact⟨0,v,nh,R0,Te _,rfl,D7,U,B,cn,W.out.pass (s:=s) (d:=d) ax.out aw (λ _ h=>SQ (by rcases h with h|⟨e,he,_⟩;exact h;simp at he)) (λ hx _=>hx),T,λ g P=>SQ (cp g P),aa,B7⟩
    case round =>
     clear D7 B T B7 W;obtain⟨k,v',YA,H',hk,rfl,D7,dy,B,bD,W,T,aN,Ws,B7⟩:=hrel;by_cases VS:k<K l
     ·obtain⟨e,he⟩:∃e,l[k]? = Z e:=⟨l[k],by simp[VS]⟩;obtain⟨b,o,rfl,q1,q2,q3,q4⟩:=T k e he;obtain⟨WR,ab⟩:=c8.out b o rfl;obtain⟨ao,bs,ZG,bk⟩:=(HL.out e).1 (Ti he);obtain⟨e1,e2,e3,e4⟩:=O9.bd ao;have dn:=V.bd _ (O9.cor.ends ao).2;have cj:=aE (a:=(e.to:Int)) U U;have i1:(0:Int)<=(k:Int):=U;have i2:(k:Int)<(K l:Int):=U;have Yq:Vy (∀y:Int,(∃e'∈l.take (k+1),y=(e'.to:Int))->(∃e'∈l.take k,y=(e'.to:Int))\/y=(e.to:Int)):=λ y ⟨e',z,h2⟩=>by
       rw[Ty,he,Tn]at z;rcases z with z|z
       ·exact SQ ⟨e',z,h2⟩
       ·simp at z;rw[z]at h2;exact SP h2
      have a5:Vy (EdR st n (c:Int) (e.to:Int) e.s e.d):=⟨e,by simpa using ao,rfl,rfl,rfl,bk,ZG⟩;have b7:Vy (∀H2,ru H' (e.to:Int) (s+e.s) (d+e.d) H2->Dg (EdR st n) (a:Int) F' H2 (λ x y=>x≠c\/∃e∈l.take (k+1),y=(e.to:Int))):=λ H2 hp=>by
       have z:=W.out.push aw ax.out a5.out (by unfold val;omega) bs hp (λ h=>O9.one a5.out h);refine z.pass (s:=s) (d:=d) ax.out aw (λ {y t u} _ h=>SQ ?_) (λ {x y} hx _=>SQ (SQ hx));rcases h with h|h
       ·exact Q8 rfl h
       ·rcases Yq.out y h with h|h
        ·exact SQ (SP h)
        ·exact SP ⟨rfl,h⟩
      have okE:okC e.s e.d:=(by unfold okC;omega);have okS:okC (s+e.s) (d+e.d):=(by unfold okC;omega);have hE:G w.heap+7<=G wr.heap:=U;have b8:=mB wr (VP #[J (e.to:Int),J e.s,J e.d,J e.U6] 203);have y0:D (E wr (VP #[J (e.to:Int),J e.s,J e.d,J e.U6] 203)) (O (G wr.heap) 0)=Z (J (e.to:Int)):=SR _ _ _ 0 rfl;have y1:D (E wr (VP #[J (e.to:Int),J e.s,J e.d,J e.U6] 203)) (O (G wr.heap) 1)=Z (J e.s):=SR _ _ _ 1 rfl;have y2:D (E wr (VP #[J (e.to:Int),J e.s,J e.d,J e.U6] 203)) (O (G wr.heap) 2)=Z (J e.d):=SR _ _ _ 2 rfl;have D8:=D7.below b8;have S:=B.below b8;have bM:=T.below b8;have B8:=aj B7 b8;have bc:G wr.heap<G (E wr (VP #[J (e.to:Int),J e.s,J e.d,J e.U6] 203)).heap:=(by simp);have Y:=D7.hp.blocks.2.2;clear D7 B T B7 b8 Yq W ao bk ZG he bs a5;generalize (e.to:Int)=et at *;generalize e.s=es at *;generalize e.d=ed at *;generalize e.U6=em at *;go_wp2_with fail;generalize E wr (VP #[VN VO et,VN VO es,VN VO ed,VN VO em] 203)=w8 at *;have b9:=wB w8;have H:=D8.below b9;have j:=S.below b9;have bZ:=bM.below b9;have B9:=aj B8 b9;have cg:G wr.heap<G w8.drew.heap:=bc;have t0:=mA y0;have t1:=mA y1;have t2:=mA y2;have t3:=j.c0;have t4:=j.c1;have WW:=lD s d es ed w8.drew X okE;clear D8 S bM B8 b9 y0 y1 y2 q1 q2 q3 q4 bc;generalize G wr.heap=E9 at *;go_region_held3 (λ I=>D I (O E9 0)=Z (J et)/\D I (O E9 1)=Z (J es)/\D I (O E9 2)=Z (J ed)/\D I (O cb 0)=Z (J s)/\D I (O cb 1)=Z (J d)) (first|exact⟨t0,t1,t2,t3,t4⟩|exact⟨u0,u1,u2,u3,u4⟩|exact⟨x0,x1,x2,x3,x4⟩)
       (first
        |(go_at_call 242;refine Q9 WW λ YI Xa=>?_;have u0:=al Xa t0;have u1:=al Xa t1;have u2:=al Xa t2;have u3:=al Xa t3;have u4:=al Xa t4;have ag:=H.below Xa;have bA:=j.below Xa;have b0:=bZ.below Xa;have Zk:=aj B9 Xa;have c4:=Tc cg Xa.size;have b3:=Bj et (s+es) (d+ed) YI ag.hp okS cj U)
        |(go_at_call 262;refine b3.mono ?_;rintro r YT ⟨rfl,⟨ay,c3,bx,dx,ZZ⟩,YJ⟩;have nE:¬hb3 (G w.heap+6) (G w.heap+5) v' E9:=(by rintro (h|h|h);omega;omega;have:=Y _ h;omega);have nC:¬hb3 (G w.heap+6) (G w.heap+5) v' cb:=(by rintro (h|h|h);omega;omega;exact bD h);have x0:=YJ.cellOf u0 nE;have x1:=YJ.cellOf u1 nE;have x2:=YJ.cellOf u2 nE;have x3:=YJ.cellOf u3 nC;have x4:=YJ.cellOf u4 nC))
      have nB:¬hb3 (G w.heap+6) (G w.heap+5) v' b:=by
       rintro (h|h|h)
       ·omega
       ·omega
       ·rcases aN.out _ h with h|h<;>omega
      have da:=ag.heap YJ bx (λ g P=>by
       rcases ZZ g P with h|h
       ·exact ag.own g h
       ·omega) U
      have cK:=bA.X' YJ nC;have cN:=b0.X' YJ (λ b' o' h=>by cases h;exact nB);have db:Vw (G w.heap) w YT:=Zk.trans (YJ.Z' Zk.size (λ k hk=>by have:=ag.far k hk;omega));have a6:=b7.out _ (Qj H' et (s+es) (d+ed));have a6:=qH a6;have dv:=Tc c4 YJ.size;have cz:M' ay≠Z cb:=λ h=>by
       rcases ZZ cb h with h|h
       ·exact bD h
       ·have:=aB u3;simp only at this;omega
      have c5:Vy (∀g,M' ay=Z g->g<G w6.heap\/G w7.heap<=g):=λ g P=>by
       rcases ZZ g P with h|h
       ·exact aN.out g h
       ·right;omega
      clear WW b3 ag bA b0 Zk YJ bx ZZ H j bZ B9 t0 t1 t2 t3 t4 u0 u1 u2 u3 u4 x0 x1 x2 x3 x4 b7 Xa;go_wp2;go_roundw
      case rel=>exact⟨k+1,ay,c3,_,U,gQ,da,U,cK,cz,a6.out,cN,c5.out,U,db⟩
      case measure=>simp[intOf];omega
     ·have e:k=K l:=U;subst e;have a7:Vy (Dg (EdR st n) (a:Int) F' H' (λ _ _=>True)):=by
       refine W.out.pass (s:=s) (d:=d) ax.out aw (λ {y t u} he _=>?_) (λ {x y} hx _=>SQ hx);obtain⟨e',z,rfl,rfl,rfl,h2,h3⟩:=he;have z:e'∈st.es c:=by simpa using z
       cases hF:F' (e'.to:Int) with
       |some q =>
        right;obtain⟨b1,b2,_⟩:=O9.bd z;exact⟨by simp,by unfold val;omega⟩
       |none=>exact SQ (SP ⟨e',by rw[Tl];exact(HL.out e').2 ⟨z,hF,h3,h2⟩,rfl⟩)
      have b8:=mB wr (VP #[J s,J d] 90);have D8:=D7.below b8;have S:=bz.new wr s d;have B8:=aj B7 b8;have s0:=B.c0;have s1:=B.c1;have Y:=D7.hp.blocks.2.2;have hX:G w.heap+7<=G wr.heap:=U;clear W b8 T D7 B7 aN;cases YA with
      |zero =>
       have XI:=Bi _ D8.hp;have cx:∀x,H' x=none:=λ x=>D8.hp.empty x;go_wp2_with fail;refine Q9 XI λ w9 ap=>?_;have H:=D8.below ap;have j:=S.below ap;have B9:=aj B8 ap;clear XI D8 S B8 ap B s0 s1;generalize G wr.heap=C2 at *;have z0:=j.z0;have z1:=j.z1;have c0:=j.c0;have c1:=j.c1;go_wp2;go_roundg (257-cnt F' 256)
       case measure=>have:=HG.out;omega
       case rel =>
        refine⟨F',rfl,⟨⟨H',H',v',0,C2,0,0,rfl,U,λ h=>?_,j.set 0 0,bb,H.other (jZ _ _ _ _) U (λ h=>?_),a7.out,SQ ⟨rfl,cx⟩⟩,b5.out,B9.trans ((jZ _ _ _ _).Z' B9.size (λ k e=>U))⟩⟩
        ·have:=Y _ h;omega
        ·have:=Y _ h;omega
      |succ m =>
       have XI:=zb _ D8.hp;go_wp2_with fail;refine XI.mono ?_;rintro r w9 ⟨c9,s9,d9,rfl,C,Z8,⟨v9,HC,a1⟩,K9⟩;have cy:=(D8.hp.fits C).1;have nC:¬hb3 (G w.heap+6) (G w.heap+5) v' (G wr.heap):=by
        rintro (h|h|h)
        ·omega
        ·omega
        ·have:=Y _ h;omega
       have H:=D8.heap K9 HC (λ g P=>D8.own g (by rw[<- a1];exact P)) U;have j:=S.X' K9 nC;have B9:Vw (G w.heap) w w9:=B8.trans (K9.Z' B8.size (λ k hk=>by have:=D8.far k hk;omega));have HW:Vy (∃m9:Nat,c9=(m9:Int)):=by
        obtain⟨_,_,m9,h9,_⟩:=O9.Vq ha (a7.out.sH C);exact⟨m9,h9⟩
       have c6:Vy (∀{b t u},H' b=Z (t,u)->val s9 d9<=val t u):=λ {b t u} hb=>by
        have:=Z8 b t u hb;unfold bef bt.v at this;simp only at this;omega
       have c7:=qH C;have b6:Vy (∀g,M' v9=Z g->g<G wr.heap):=λ g P=>Y g (by rw[<- a1];exact P);clear XI D8 S B8 B s0 s1 Z8 C a1 K9 HC nC;generalize G wr.heap=C2 at *;have z0:=j.z0;have z1:=j.z1;have c0:=j.c0;have c1:=j.c1;go_wp2;go_roundg (257-cnt F' 256)
       case measure=>have:=HG.out;omega
       case rel =>
        obtain⟨m9,rfl⟩:=HW.out;refine⟨F',rfl,⟨⟨H',_,v9,m,C2,s9,d9,rfl,U,λ h=>?_,j.set s9 d9,cy,H.other (jZ _ _ _ _) U (λ h=>?_),a7.out,SP ⟨m9,rfl,rfl,c7.out,c6.out,rfl⟩⟩,b5.out,B9.trans ((jZ _ _ _ _).Z' B9.size (λ k e=>U))⟩⟩
        ·have:=b6.out _ h;omega
        ·have:=b6.out _ h;omega
theorem zx {A:Oa}{l:List LE}(w:M)(VU:dS w A l)(hl:K l<=256)(hb:∀e∈l,0<=e.s/\0<=e.d/\e.s<=512/\e.d<=512) :
  Zq 253 #[.slice A (K l) cap] w λ e I=>∃c f,e=VJ (.agg #[J c,J f])/\(0<=c/\0<=f/\c<=512/\f<=512)/\(∀e∈l,val e.s e.d<=val c f)/\Bq w I:=by
 have ac:okC 0 0:=by unfold okC;omega
 have B0:Bq w ((E w (VP #[J 0,J 0] 90)).alloc (VP #[J 0,J 0] 90)):=(ae.alloc aa _).alloc sQ _;have n:bz ((E w (VP #[J 0,J 0] 90)).alloc (VP #[J 0,J 0] 90)) (G w.heap) 0 0:=(bz.new w 0 0).below (ae.alloc aa _);have u:bz ((E w (VP #[J 0,J 0] 90)).alloc (VP #[J 0,J 0] 90)) (G w.heap+1) 0 0:=by
  have q:=bz.new (E w (VP #[J 0,J 0] 90)) 0 0;have e:G (E w (VP #[J 0,J 0] 90)).heap=G w.heap+1:=by simp
  rw[e]at q;exact q
 have HB:=qH hb;clear hb;go_enter func253,ntmps253;go_wp2;go_loopw [8] (λ iv wr=>∃(k:Nat) (c f:Int),k<=K l/\iv=J k/\bz wr (G w.heap) 0 0/\bz wr (G w.heap+1) c f/\Vy (0<=c/\0<=f/\c<=512/\f<=512)/\Vy (∀e∈l.take k,val e.s e.d<=val c f)/\G w.heap+2<=G wr.heap/\Bq w wr)
  (λ i _=>K l-(intOf i).toNat)
 case atStart=>exact⟨0,0,0,Te _,rfl,n,u,by unfold Vy;decide,λ e p=>by simp at p,by simp,B0⟩
 case round =>
  clear n u B0;obtain⟨k,c,f,hk,rfl,n,u,HG,N,Ws,R⟩:=hrel;have g1:=u.c0;have g2:=u.c1;by_cases VS:k<K l
  ·obtain⟨e,p⟩:∃e,l[k]? = Z e:=⟨l[k],by simp[VS]⟩;obtain⟨b,o,rfl,q1,q2,q3,q4⟩:=(VU.below R) k e p;obtain⟨e1,e2,e3,e4⟩:=HB.out e (Ti p);obtain⟨f1,f2,f3,f4⟩:=HG.out;have okE:okC e.s e.d:=(by unfold okC;omega);have t:okC c f:=(by unfold okC;omega);have i1:(0:Int)<=(k:Int):=U;have i2:(k:Int)<(K l:Int):=U;have V:Vy (∀x,x∈l.take (k+1)->x∈l.take k\/x=e):=λ x C=>by
    rw[Ty,p,Tn]at C
    simpa using C
   have T:Bq wr (E wr (VP #[J (e.to:Int),J e.s,J e.d,J e.U6] 203)):=ae.alloc aa _;have X:=aj R T;have S:=n.below T;have j:=u.below T;have y1:D (E wr (VP #[J (e.to:Int),J e.s,J e.d,J e.U6] 203)) (O (G wr.heap) 1)=Z (J e.s):=SR _ _ _ 1 rfl;have Y:D (E wr (VP #[J (e.to:Int),J e.s,J e.d,J e.U6] 203)) (O (G wr.heap) 2)=Z (J e.d):=SR _ _ _ 2 rfl;have m:=j.c0;have h2:=j.c1;have L:=lV (r:=ltB c f e.s e.d) rfl (E wr (VP #[J (e.to:Int),J e.s,J e.d,J e.U6] 203)) t okE;have Yy:G w.heap+2<=G (E wr (VP #[J (e.to:Int),J e.s,J e.d,J e.U6] 203)).heap:=(by simp;omega);have B:Vy (val e.s e.d<=val c f->∀x∈l.take (k+1),val x.s x.d<=val c f):=λ h x C=>by
    rcases V.out x C with m|m
    ·exact N.out x m
    ·rw[m];exact h
   have z:Vy (val c f<val e.s e.d->∀x∈l.take (k+1),val x.s x.d<=val e.s e.d):=λ h x C=>by
    rcases V.out x C with m|m
    ·have:=N.out x m;omega
    ·rw[m];exact Int.le_refl _
   clear p T n u R;generalize (e.to:Int)=et at *;generalize e.s=F at *;generalize e.d=H at *;generalize e.U6=em at *;cases y:ltB c f F H with
   |true =>
    have P:=z.out ((fg t okE).1 y);have HV:=qH P;rw[y]at L;clear P y z B N V;go_wp2_with fail;generalize E wr (VP #[VN VO et,VN VO F,VN VO H,VN VO em] 203)=w1 at *;refine Q9 L λ w2 a=>?_;have W:=aj X a;have r2:=S.below a;have g:=j.below a;have z1:=al a y1;have z2:=al a Y;have X2:=Tg Yy a.size;have f0:=g.z0;have ad:=g.z1;have c0:=g.c0;have c1:=g.c1;clear L a X S j y1 Y m h2 g1 g2 q1 q2 q3 q4;go_wp2;go_roundw
    case rel=>exact⟨k+1,F,H,U,gQ,r2.X' (jZ _ _ _ _) U,g.set F H,by unfold Vy;exact⟨e1,e2,e3,e4⟩,HV.out,by simpa using X2,W.trans ((jZ _ _ _ _).Z' W.size (λ k e=>U))⟩
    case measure=>simp[intOf];omega
   |false =>
    have P:=B.out (by
     have:¬val c f<val F H:=λ h=>by rw[(fg t okE).2 h]at y;cases y
     omega)
    have HV:=qH P;rw[y]at L;clear P y z B N V;go_wp2_with fail;generalize E wr (VP #[VN VO et,VN VO F,VN VO H,VN VO em] 203)=w1 at *;refine Q9 L λ w2 a=>?_;have W:=aj X a;have r2:=S.below a;have g:=j.below a;have X2:=Tg Yy a.size;clear L a X S j y1 Y m h2 g1 g2 q1 q2 q3 q4;go_wp2;go_roundw
    case rel=>exact⟨k+1,c,f,U,gQ,r2,g,HG.out,HV.out,X2,W⟩
    case measure=>simp[intOf];omega
  ·have e:k=K l:=U;subst e;have ab:Vy (∀e∈l,val e.s e.d<=val c f):=λ e p=>N.out e (by rw[Tl];exact p);have c0:=n.c0;have c1:=n.c1;have z0:=n.z0;have z1:=n.z1;clear N;go_wp2;have q:=nF wr (G w.heap) c f c0 c1;have hd:=q.1;have ht:=q.2;refine bodyPost_ret (v:=.agg #[J c,J f]) (by simp[results,results253,go_sem,hd,ht]) rfl ⟨c,f,rfl,HG.out,ab.out,?_⟩;exact R.trans ((jZ _ _ _ _).Z' R.size (λ k e=>U))
def dL (p:LE->LE->Bool) (n:Nat) (a:LE) (l:List LE):List (Nat×LE):=(l.filter (p a)).map (λ b=>(a.to,⟨b.to,a.s+b.s,a.d+b.d,(n:Int)⟩))
def mTo (p:LE->LE->Bool) (n:Nat):List LE->Nat->List (Nat×LE)
 |[],_=>[]
 |_::_,0=>[]
 |a::l,i+1=>dL p n a l++mTo p n l i
theorem ri (p:LE->LE->Bool)(n:Nat)(l:List LE):mTo p n l 0=[]:=by
 cases l<;>rfl
theorem vQ {p:LE->LE->Bool}{n:Nat}:∀{l:List LE}{i:Nat}{a:LE},l[i]? = Z a->mTo p n l (i+1)=mTo p n l i++dL p n a (l.drop (i+1))
 |[],i,a,h=>by simp at h
 |x::l,0,a,h=>by
  simp at h;subst h;show dL p n x l++mTo p n l 0=[]++dL p n x l;rw[ri,TU,Vc]
 |x::l,i+1,a,h=>by
  show dL p n x l++mTo p n l (i+1)=(dL p n x l++mTo p n l i)++dL p n a (l.drop (i+1));rw[vQ (l:=l) (i:=i) (a:=a) (by simpa using h),TC]
theorem rj (p:LE->LE->Bool)(n:Nat):∀l:List LE,mTo p n l (K l)=cG p n l
 |[]=>rfl
 |a::l=>by
  show dL p n a l++mTo p n l (K l)=_;rw[rj p n l];rfl
theorem F6 {p:LE->LE->Bool}{n:Nat}{a:LE}{l:List LE}{j:Nat}{b:LE}(h:l[j]? = Z b)(c:p a b=Vl):dL p n a (l.take (j+1))=dL p n a (l.take j):=by grind [dL,Ty,TZ,Bool.false_eq_true,not_false_eq_true]
theorem Cv {p:LE->LE->Bool}{n:Nat}{a:LE}{l:List LE}{j:Nat}{b:LE}(h:l[j]? = Z b)(c:p a b=Q):dL p n a (l.take (j+1))=dL p n a (l.take j)++[(a.to,⟨b.to,a.s+b.s,a.d+b.d,(n:Int)⟩)]:=by grind [dL,Ty,T6]
theorem vR (p:LE->LE->Bool)(n:Nat)(a:LE)(l:List LE):K (dL p n a l)<=K l:=by grind [dL,List.length_map,TH]
theorem rk (p:LE->LE->Bool)(n:Nat):∀(l:List LE) (i:Nat),K (mTo p n l i)<=i*K l
 |[],_=>Te _
 |_::_,0=>Te _
 |a::l,i+1=>by
  show K (dL p n a l++mTo p n l i)<=(i+1)*(K l+1);rw[Td];have c:=vR p n a l;have b:=rk p n l i;rw[Nat.mul_succ,Nat.succ_mul];omega
def lkV (x:Nat×LE):List Value:=[J (x.1:Int),J (x.2.to:Int),J x.2.s,J x.2.d]
def iO (l:List (Nat×LE)):List Value:=l.flatMap lkV
theorem MZ (l l':List (Nat×LE)):iO (l++l')=iO l++iO l':=by grind [iO]
theorem M4 (x:Nat×LE):iO [x]=lkV x:=by grind [iO,lkV]
theorem Tryz.infoK:(Tryz.prog.info? 300).map (λ i=>(i.zero,i.size,i.bytes))=Z (Z (.agg #[J 0,J 0,J 0,J 0]),4,32):=kQ
theorem Tryz.underL:Tryz.prog.underlying 297=Z (.slice 300):=kQ
theorem OP {st:LSt}{n:Nat}{a b:LE}{p:LE->LE->Bool}{F:Int->Oi}{g:Int}(c:∀a b,p a b=Q↔zg st n a b)(l:OO st n a.to g F)(k:val (a.s+b.s) (a.d+b.d)<=g) :
  (F (b.to:Int)=UP->p a b=Q)/\∀s d,F (b.to:Int)=Z (s,d)->(p a b=Q↔val (a.s+b.s) (a.d+b.d)<val s d):=by
 have h:=l (b.to:Int) (a.s+b.s) (a.d+b.d) k;refine⟨λ o=>(c a b).2 (λ i=>?_),λ s d j=>⟨λ f=>?_,λ f=>(c a b).2 (λ i=>?_)⟩⟩
 grind
 have m:=(c a b).1 f;rcases Int.lt_or_le (val (a.s+b.s) (a.d+b.d)) (val s d) with e|e
 exact e;exact Q8 (h.2 ⟨s,d,j,e⟩) m
 grind
theorem Ep {vb eb cN n cap:Nat}{L:Ln}{st:LSt}{f:Int->Option Vr}{l:List LE}{p:LE->LE->Bool}(w:M)(V:cR w N lb vb eb cN L st f)(O9:Okl L 512 st)(VU:dS w (Z (O g 0)) l)(hl:K l<=256)(en:K l<=cap)(dd:cap<=Vyf)(We:∀e∈l,e∈st.es n)(hp:∀a b,p a b=Q↔zg st n a b) :
  Zq 216 #[Pq lb,J (n:Int),.slice (Z (O g 0)) (K l) cap] w λ e I=>∃v,e=VJ v/\G' I (G w.heap) 300 4 v (K (cG p n l)) (iO (cG p n l))/\Bq w I:=by
 obtain⟨i0,hi,VZ,Wa,Wc⟩:=info_parts Tryz.infoK;have HP:=qH hp;have Yr:=qH We;have ej:cap<=9223372036854775807:=by unfold Vyf at dd;omega
 clear hp We;go_enter func216,ntmps216;go_wp2;go_loopw [7,19] (λ rv iv wr=>∃(k:Nat),k<=K l/\iv=J k/\G' wr (G w.heap) 300 4 rv (K (mTo p n l k)) (iO (mTo p n l k))/\Bq w wr)
  (λ _ i _=>K l-(intOf i).toNat)
 case atStart=>exact⟨0,Te _,rfl,by rw[ri];exact World.ownsRow_nil _ _ _ _,ae⟩
 case round =>
  obtain⟨k,hk,rfl,T,hB⟩:=hrel;by_cases VS:k<K l
  ·obtain⟨a,ha⟩:∃a,l[k]? = Z a:=⟨l[k],by simp[VS]⟩;have Xm:Vy (mTo p n l (k+1)=mTo p n l k++dL p n a (l.drop (k+1))):=vQ ha;have Yj:=VU.below hB;have aw:=Yj.drop (k+1);obtain⟨b,o,be,q1,q2,q3,q4⟩:=Yj k a ha;have cl:=Yr.out a (Ti ha);cases be;rw[Tm]at q1 q2 q3 q4 aw;have i1:(0:Int)<=(k:Int):=U;have i2:(k:Int)<(K l:Int):=U;have i3:((k:Int)+1)<=(K l:Int):=U;obtain⟨c,Xp⟩:∃c,c=l.drop (k+1):=⟨_,rfl⟩;have bx:K c=K l-(k+1):=(by rw[Xp,Ue]);have bZ:Vy (∀e∈c,e∈st.es n):=λ e he=>Yr.out e (List.mem_of_mem_drop (by rw[<- Xp];exact he));have dz:g<G w.heap:=by
    obtain⟨b',o',h1,h2⟩:=VU.lt U;cases h1;exact h2
   rw[<- Xp]at Xm aw;have ec:=rk p n l k;have ei:k*K l<=256*256:=Nat.mul_le_mul U hl;obtain⟨e1,e2,e3,e4⟩:=O9.bd cl;have c6:=(O9.cor.ends cl).2;have b2:okC a.s a.d:=(by unfold okC;omega);generalize hP:mTo p n l k=P at *;clear hP;have aN:(cap=k+1->dS wr (Z (O g 0)) c)/\(¬cap=k+1->dS wr (Z (O g ((k+1)*4))) c) :=
    ⟨λ h=>by
     have e:c=[]:=TF.1 U;rw[e];exact dS.nil _ _,λ _=>aw⟩
   have b8:Bq wr (E wr (VP #[J (a.to:Int),J a.s,J a.d,J a.U6] 203)):=ae.alloc aa _;have y0:D (E wr (VP #[J (a.to:Int),J a.s,J a.d,J a.U6] 203)) (O (G wr.heap) 0)=Z (J (a.to:Int)):=SR _ _ _ 0 rfl;have y1:D (E wr (VP #[J (a.to:Int),J a.s,J a.d,J a.U6] 203)) (O (G wr.heap) 1)=Z (J a.s):=SR _ _ _ 1 rfl;have y2:D (E wr (VP #[J (a.to:Int),J a.s,J a.d,J a.U6] 203)) (O (G wr.heap) 2)=Z (J a.d):=SR _ _ _ 2 rfl;have cK:=ak T b8;have B8:=aj hB b8;have c2:∀q,M' u7=Z q->q<G wr.heap:=λ q A=>(T.lt q A).2;clear T Yj;rcases Decidable.em (cap=k+1) with XU|XU
   all_goals
    first
     |(have am:=aN.1 XU;clear aN aw)
     |(have am:=aN.2 XU;clear aN aw)
    go_wp2_with fail;rw[<- bx];have ZO:=qH bx;have dc:K c<=256:=U;have dx:Vy _:=XU;have dq:=qH Xp;clear XU bx Xp;have cx:=am.below b8;have c8:=hB.size;clear b8 am q1 q2 q3 q4 hB;generalize E wr (VP #[VN VO (a.to:Int),VN VO a.s,VN VO a.d,VN VO a.U6] 203)=w8 at *;have c7:G wr.heap<G w8.heap:=aB y0;have ed:G w.heap<=G wr.heap:=c8;generalize G wr.heap=C at *;have b9:Bq w8 w8.drew:=ae.drew;have B9:=aj B8 b9;have t0:Cq w8.drew C 0 (J (a.to:Int)):=y0;have t1:Cq w8.drew C 1 (J a.s):=y1;have t2:Cq w8.drew C 2 (J a.d):=y2;have cz:=cx.below b9;have Yf:=ak cK b9;have cv:=λ cc=>zx (cap:=cc) w8.drew cz dc (λ e he=>O9.bd (bZ.out e he));have cd:Vy _:=cv;clear cv;have V9:=V.below B9;have WW:Vy (∀(Y gd:Int) (YI:M),(0<=Y/\0<=gd/\Y<=512/\gd<=512)->Rq 242 #[.agg #[J a.s,J a.d],.agg #[J Y,J gd]] YI (.agg #[J (a.s+Y),J (a.d+gd)])):=λ Y gd YI hg=>lD a.s a.d Y gd YI b2 (by obtain⟨g1,g2,g3,g4⟩:=hg;unfold okC;omega);have cs:Vy (∀(Y gd:Int) (YT:M),(0<=Y/\0<=gd/\Y<=512/\gd<=512)->Bq w8.drew YT->Zq 252 #[Pq lb,J (a.to:Int),J (n:Int),.agg #[J (a.s+Y),J (a.d+gd)]] YT λ e I=>∃kb F,e=VJ (.map (Z kb))/\bj Vyj 3 I kb (fv F) (cnt F 256)/\OO st n a.to (val (a.s+Y) (a.d+gd)) F/\(∀{x s d},F x=Z (s,d)->okC s d)/\G YT.heap<=kb/\Bq YT I):=λ Y gd YT hg hb=>Cu (n:=n) (ms:=a.s+Y) (md:=a.d+gd) YT (V9.below hb) O9 c6 U U U U;clear B8 b9 y0 y1 y2 cx cK V9;generalize Zo:(a.to:Int)=ta at *;generalize b6:a.s=m at *;generalize cg:a.d=t at *;have df:=qH Zo;have bI:=qH b6;have b0:=qH cg;clear Zo b6 cg;go_region_held3 (λ I=>D I (O C 0)=Z (J ta)/\Cq I C 1 (J m)/\Cq I C 2 (J t)) (first|exact⟨t0,t1,t2⟩|exact⟨u0,u1,u2⟩|exact⟨x0,x1,x2⟩|exact⟨z0,z1,z2⟩)
     (first
      |(go_at_call 253;refine(cd.out _).mono ?_;rintro r YI ⟨Y,gd,rfl,bc,cr,Xa⟩;have ce:Vy _:=cr;clear cr;have u0:=al Xa t0;have u1:=al Xa t1;have u2:=al Xa t2)
      |(go_at_call 242;refine Q9 (WW.out Y gd YI bc) λ YT Xn=>?_;have x0:=al Xn u0;have x1:=al Xn u1;have x2:=al Xn u2;have au:=aj Xa Xn)
      |(go_at_call 252;refine(cs.out Y gd YT bc au).mono ?_;rintro r dy ⟨kb,F,rfl,bs,cp,cy,c9,ax⟩;have z0:=al ax x0;have z1:=al ax x1;have z2:=al ax x2))
    have bm:=aj au ax;have a8:=ak Yf bm;have a9:=aj B9 bm;have ee:kb≠C:=(by have:=au.size;have h:G w8.drew.heap=G w8.heap:=rfl;omega);have dp:Vy (∀b∈c,(F (b.to:Int)=UP->p a b=Q)/\∀s d,F (b.to:Int)=Z (s,d)->(p a b=Q↔val (m+b.s) (t+b.d)<val s d)):=λ b hb=>by
     have h1:=ce.out b hb;have h2:=cP m t Y gd;have h3:=cP m t b.s b.d;have:=OP (a:=a) (b:=b) HP.out cp (by rw[bI.out,b0.out];omega);rw[bI.out,b0.out]at this;exact this
    have dn:Vy (∀{x s d},F x=Z (s,d)->okC s d):=λ h=>cy h;have HQ:Vy (∀q,M' u7=Z q->q≠C/\q≠kb):=λ q A=>by
     have h1:=c2 q A;have h2:=au.size;have h:G w8.drew.heap=G w8.heap:=rfl;exact⟨U,U⟩
    clear cd WW cs ce cp cy c9 ax Xn Xa au bm Yf B9 t0 t1 t2 u0 u1 u2 x0 x1 x2 cz c7 bc;go_wp2
   ·have h0:K c=0:=(by have:=ZO.out;have:=dx.out;omega);have dv:Vy (mTo p n l (k+1)=P):=by
     have e:c=[]:=TF.1 h0;rw[Xm.out,e];show P++[]=P;rw[TU]
    go_loopw [7,40] (λ rv jv wr=>jv=J 0/\G' wr (G w.heap) 300 4 rv (K P) (iO P)/\Bq w wr) (λ _ _ _=>0)
    case atStart=>exact⟨rfl,a8,a9⟩
    case round =>
     obtain⟨rfl,ho,Yv⟩:=hrel;clear a8 a9 bs z0 z1 z2;go_wp2;go_roundw
     case rel=>exact⟨k+1,U,gQ,by rw[dv.out];exact ho,Yv⟩
     case measure=>simp[intOf];omega
   ·go_loopw [7,40] (λ rv jv wr=>∃j:Nat,j<=K c/\jv=J j/\G' wr (G w.heap) 300 4 rv (K (P++dL p n a (c.take j))) (iO (P++dL p n a (c.take j)))/\Cq wr C 0 (J ta)/\Cq wr C 1 (J m)/\Cq wr C 2 (J t)/\bj Vyj 3 wr kb (fv F) (cnt F 256)/\Vy (∀q,M' rv=Z q->q≠C/\q≠kb)/\Bq w wr)
     (λ _ i _=>K c-(intOf i).toNat)
    case atStart=>exact⟨0,Te _,rfl,by show World.ownsRow _ _ _ _ _ (K (P++[])) (iO (P++[]));rw[TU];exact a8,z0,z1,z2,bs,HQ,a9⟩
    case round =>
     clear a8 z0 z1 z2 bs HQ a9;obtain⟨j,hj,rfl,ho,z0,z1,z2,hM,HQ,Yv⟩:=hrel;by_cases WY:j<K c
     ·obtain⟨b,hb⟩:∃b,c[j]? = Z b:=⟨c[j],by simp[WY]⟩;have Yj:=(VU.below Yv).drop (k+1);rw[<- dq.out,Tm]at Yj;obtain⟨b',o',be,q1,q2,q3,q4⟩:=Yj j b hb;cases be;have aL:=Ti hb;obtain⟨f1,f2,f3,f4⟩:=O9.bd (bZ.out b aL);have dT:=V.bd _ (O9.cor.ends (bZ.out b aL)).2;have b5:=aE (a:=(b.to:Int)) U U;obtain⟨bq,bp⟩:=dp.out b aL;have j1:(0:Int)<=(j:Int):=U;have j2:(j:Int)<(K c:Int):=U;have cS:okC b.s b.d:=(by unfold okC;omega);have okS:okC (m+b.s) (t+b.d):=(by unfold okC;omega);have Y6:Vy (p a b=Vl->dL p n a (c.take (j+1))=dL p n a (c.take j)):=λ h=>F6 hb h;have ay:Vy (p a b=Q->iO (P++dL p n a (c.take (j+1)))=iO (P++dL p n a (c.take j))++[J ta,J (b.to:Int),J (m+b.s),J (t+b.d)]/\K (P++dL p n a (c.take (j+1)))=K (P++dL p n a (c.take j))+1):=λ h=>by
       rw[Cv hb h,<- TC,MZ,M4,Td];refine⟨?_,rfl⟩;show _++[_,_,_,_]=_;rw[df.out,bI.out,b0.out]
      have ea:K (P++dL p n a (c.take j))<=65536+256:=by
       have:=vR p n a (c.take j);rw[Ts]at this;rw[Td];omega
      have dk:Vy (∃R,R=P++dL p n a (c.take j)):=⟨_,rfl⟩;generalize cm:P++dL p n a (c.take j)=R at *;have dl:=qH cm;clear cm dk;generalize b7:p a b=pe at *;have ep:=qH b7;clear b7;have b1:Bq wr (E wr (VP #[J (b.to:Int),J b.s,J b.d,J b.U6] 203)):=ae.alloc aa _;have v0:D (E wr (VP #[J (b.to:Int),J b.s,J b.d,J b.U6] 203)) (O (G wr.heap) 0)=Z (J (b.to:Int)):=SR _ _ _ 0 rfl;have v1:D (E wr (VP #[J (b.to:Int),J b.s,J b.d,J b.U6] 203)) (O (G wr.heap) 1)=Z (J b.s):=SR _ _ _ 1 rfl;have v2:D (E wr (VP #[J (b.to:Int),J b.s,J b.d,J b.U6] 203)) (O (G wr.heap) 2)=Z (J b.d):=SR _ _ _ 2 rfl;have cb:=ak ho b1;have x0:=al b1 z0;have x1:=al b1 z1;have x2:=al b1 z2;have ZE:=hM.X' (F:=λ _=>False) (ai.Y' b1) id;have B1:=aj Yv b1;have WW:=lD m t b.s b.d (E wr (VP #[J (b.to:Int),J b.s,J b.d,J b.U6] 203)) b2 cS;have ek:G w.heap<=G wr.heap:=Yv.size;clear hb aL Yj b1 ho z0 z1 z2 hM Yv;generalize (b.to:Int)=tb at *;generalize b.s=y at *;generalize b.d=z at *;generalize b.U6=mb at *;go_wp2_with fail;generalize E wr (VP #[VN VO tb,VN VO y,VN VO z,VN VO mb] 203)=w1 at *;generalize G wr.heap=E1 at *;refine Q9 WW λ B cj=>?_;have b3:Bq B (E B (VP #[J (m+y),J (t+z)] 90)):=ae.alloc aa _;have ab:=aj cj b3;have bb:=ak cb ab;have y0:=al ab x0;have y1:=al ab x1;have y2:=al ab x2;have r0:=al ab v0;have ap:=ZE.X' (F:=λ _=>False) (ai.Y' ab) id;have B3:=aj B1 ab;have X4:=bz.new B (m+y) (t+z);clear WW cj b3 ab cb x0 x1 x2 v0 v1 v2 ZE B1 q1 q2 q3 q4;cases hF:F tb with
      |none =>
       have Xl:(Instr.lookup 251 (.map (Z kb)) (J tb) Q).run Vyj (E B (VP #[J (m+y),J (t+z)] 90))=.ok (.tuple #[.agg #[J 0,J 0],.bool Vl]) (E B (VP #[J (m+y),J (t+z)] 90)):=ap.u6 aV Tryz.Vxc (k9 _) b5 (lX hF) Q;obtain⟨ao,an⟩:=ay.out (bq hF);have bD:Vy _:=ao;have bA:Vy _:=an;have S:Bq (E B (VP #[J (m+y),J (t+z)] 90)) ((E B (VP #[J (m+y),J (t+z)] 90)).alloc (VP #[J 0,J 0] 90)):=ae.alloc aa _;have ad:=ak bb S;have a0:=al S y0;have a1:=al S y1;have a2:=al S y2;have a3:=al S r0;have ac:=X4.below S;have a4:=ac.c0;have a5:=ac.c1;have H:=bz.new (E B (VP #[J (m+y),J (t+z)] 90)) 0 0;have e4:G (E B (VP #[J (m+y),J (t+z)] 90)).heap=G B.heap+1:=(by simp);rw[e4]at H;have a6:=H.c0;have a7:=H.c1;have ag:=ap.X' (F:=λ _=>False) (ai.Y' S) id;have B4:=aj B3 S;clear S e4;clear bq bp Y6 ay hF ao an X4 ac H;obtain⟨W5,bf⟩:∃W5,W5=(E B (VP #[J (m+y),J (t+z)] 90)).alloc (VP #[J 0,J 0] 90):=⟨_,rfl⟩;rw[<- bf]at ad a0 a1 a2 a3 ag B4;have W:=ad;have d0:=a0;have d1:=a1;have d2:=a2;have d3:=a3;have X:=ag;have BW:=B4;clear ad ag B4;have ci:=bO W5 (J ta) (J tb) (J (m+y)) (J (t+z)) 300;have ZH:G W5.heap=G B.heap+1+1:=(by rw[bf];simp);rw[ZH]at ci;clear ZH;subst bf;go_wp2_with (at_builtin;refine wpList_append_own_at _ rfl _ _ 297 rfl (G w.heap) 300 i0 (.agg #[J 0,J 0,J 0,J 0]) 4 32 Tryz.underL hi VZ Wa Wc rfl dQ _ _ _ rfl (W.alloc _) (O (G B.heap+1+1) 0) 1 1 [J ta,J tb,J (m+y),J (t+z)] rfl rfl ci (by intro u hu;simp at hu;rcases hu with rfl|rfl|rfl|rfl<;>rfl) ?c3 ?c4 ?c5 ?_)
       case c3=>unfold Vyf;omega
       case c4=>omega
       case c5=>have h5:=BW.size;first|(simp;omega)|(simp at h5 ⊢;omega)
       intro v' w6 VR VQ _ Yx;have K6:ai (λ q=>M' u7=Z q) _ w6:=((ai.refl _ _).alloc _).grown VQ (λ q A _=>A);have bl:=K6.cellOf d0 (λ h=>(HQ.out C h).1 rfl);have bk:=K6.cellOf d1 (λ h=>(HQ.out C h).1 rfl);have bi:=K6.cellOf d2 (λ h=>(HQ.out C h).1 rfl);have M6:=X.X' K6 (λ h=>(HQ.out kb h).2 rfl);have B6:Bq w w6:=BW.trans (K6.Z' BW.size (λ q A=>(W.lt q A).1));have bM:Vy (∀q,M' v'=Z q->q≠C/\q≠kb):=λ q A=>by
        rcases Yx with h|h
        ·exact HQ.out q (by rw[<- h];exact A)
        ·rw[h]at A;cases A;have h1:=aB d0;have h2:=X.lt;simp only at h1;exact⟨by first|(simp;omega)|(simp at h1 ⊢;omega),by first|(simp;omega)|(simp at h2 ⊢;omega)⟩
       have O6:G' w6 (G w.heap) 300 4 v' (K (P++dL p n a (c.take (j+1)))) (iO (P++dL p n a (c.take (j+1)))):=by
        rw[bD.out,bA.out];exact VR
       clear VR VQ Yx K6 W d0 d1 d2 d3 X BW;go_wp2;go_roundw
       case rel=>exact⟨j+1,U,gQ,O6,bl,bk,bi,M6,bM.out,B6⟩
       case measure=>simp[intOf];omega
      |some cc =>
       obtain⟨s,d⟩:=cc;have Xl:(Instr.lookup 251 (.map (Z kb)) (J tb) Q).run Vyj (E B (VP #[J (m+y),J (t+z)] 90))=.ok (.tuple #[.agg #[J s,J d],.bool Q]) (E B (VP #[J (m+y),J (t+z)] 90)):=ap.Ui aV Tryz.Vxc (k9 _) b5 (iW hF) Q;have ba:=dn.out hF;have bn:=bp s d hF;have S:Bq (E B (VP #[J (m+y),J (t+z)] 90)) ((E B (VP #[J (m+y),J (t+z)] 90)).alloc (VP #[J s,J d] 90)):=ae.alloc aa _;have ad:=ak bb S;have a0:=al S y0;have a1:=al S y1;have a2:=al S y2;have a3:=al S r0;have ac:=X4.below S;have a4:=ac.c0;have a5:=ac.c1;have H:=bz.new (E B (VP #[J (m+y),J (t+z)] 90)) s d;have e4:G (E B (VP #[J (m+y),J (t+z)] 90)).heap=G B.heap+1:=(by simp);rw[e4]at H;have a6:=H.c0;have a7:=H.c1;have ag:=ap.X' (F:=λ _=>False) (ai.Y' S) id;have B4:=aj B3 S;clear S e4;have bw:=lV (r:=ltB (m+y) (t+z) s d) rfl ((E B (VP #[J (m+y),J (t+z)] 90)).alloc (VP #[J s,J d] 90)) okS ba;have cn:pe=ltB (m+y) (t+z) s d:=by
        cases A:ltB (m+y) (t+z) s d with
        |true=>exact bn.2 ((fg okS ba).1 A)
        |false =>
         cases pe with
         |false=>rfl
         |true=>rw[(fg okS ba).2 (bn.1 rfl)]at A;cases A
       rw[<- cn]at bw;clear bq bp hF bn cn X4 ac H bb ap B3;go_wp2_with fail;generalize (E B (VP #[VN VO (m+y),VN VO (t+z)] 90)).alloc (VP #[VN VO s,VN VO d] 90)=w4 at *;refine Q9 bw λ W5 VW=>?_;have W:=ak ad VW;have d0:=al VW a0;have d1:=al VW a1;have d2:=al VW a2;have d3:=al VW a3;have d4:=al VW a4;have d5:=al VW a5;have X:=ag.X' (F:=λ _=>False) (ai.Y' VW) id;have BW:=aj B4 VW;clear bw VW ad y0 y1 y2 r0 a0 a1 a2 a3 a4 a5 a6 a7 ag B4 Xl;cases pe with
       |false =>
        have HS:Vy (P++dL p n a (c.take (j+1))=R):=(by rw[Y6.out rfl];exact dl.out);clear Y6 ay;go_wp2;go_roundw
        case rel=>exact⟨j+1,U,gQ,by rw[HS.out];exact W,d0,d1,d2,X,HQ.out,BW⟩
        case measure=>simp[intOf];omega
       |true =>
        obtain⟨ao,an⟩:=ay.out rfl;have bD:Vy _:=ao;have bA:Vy _:=an;clear Y6 ay ao an;go_wp2_with (at_builtin;refine wpList_append_own_at _ rfl _ _ 297 rfl (G w.heap) 300 i0 (.agg #[J 0,J 0,J 0,J 0]) 4 32 Tryz.underL hi VZ Wa Wc rfl dQ _ _ _ rfl (W.alloc _) (O (G W5.heap) 0) 1 1 [J ta,J tb,J (m+y),J (t+z)] rfl rfl (bO _ _ _ _ _ _) (by intro u hu;simp at hu;rcases hu with rfl|rfl|rfl|rfl<;>rfl) ?c3 ?c4 ?c5 ?_)
        case c3=>unfold Vyf;omega
        case c4=>omega
        case c5=>have h5:=BW.size;first|(simp;omega)|(simp at h5 ⊢;omega)
        intro v' w6 VR VQ _ Yx;have K6:=((ai.refl _ _).alloc _).grown VQ (λ q A _=>A);have bl:=K6.cellOf d0 (λ h=>(HQ.out C h).1 rfl);have bk:=K6.cellOf d1 (λ h=>(HQ.out C h).1 rfl);have bi:=K6.cellOf d2 (λ h=>(HQ.out C h).1 rfl);have M6:=X.X' K6 (λ h=>(HQ.out kb h).2 rfl);have B6:Bq w w6:=BW.trans (K6.Z' BW.size (λ q A=>(W.lt q A).1));have bM:Vy (∀q,M' v'=Z q->q≠C/\q≠kb):=λ q A=>by
         rcases Yx with h|h
         ·exact HQ.out q (by rw[<- h];exact A)
         ·rw[h]at A;cases A;have h1:=aB d0;have h2:=X.lt;simp only at h1;exact⟨by first|(simp;omega)|(simp at h1 ⊢;omega),by first|(simp;omega)|(simp at h2 ⊢;omega)⟩
        have O6:G' w6 (G w.heap) 300 4 v' (K (P++dL p n a (c.take (j+1)))) (iO (P++dL p n a (c.take (j+1)))):=by
         rw[bD.out,bA.out];exact VR
        clear VR VQ Yx K6 W d0 d1 d2 d3 X BW;go_wp2;go_roundw
        case rel=>exact⟨j+1,U,gQ,O6,bl,bk,bi,M6,bM.out,B6⟩
        case measure=>simp[intOf];omega
     ·have e:j=K c:=U;subst e;have ds:Vy (mTo p n l (k+1)=P++dL p n a (c.take (K c))):=(by rw[Tl];exact Xm.out);clear z0 z1 z2 hM HQ;go_wp2;go_roundw
      case rel=>exact⟨k+1,U,gQ,by rw[ds.out];exact ho,Yv⟩
      case measure=>simp[intOf];omega
  ·have e:k=K l:=U;subst e;rw[rj]at T;go_wp2;go_ret;exact⟨_,rfl,T,hB⟩
def fy (l:List LE) (t:Nat):Nat:=K (l.filter (λ e=>decide (e.to<t)))
def lg (l:List LE) (t:Nat):Bool:=match l[fy l t]? with|some e=>decide (e.to=t)|none=>Vl
theorem mc {x:LE}{l:List LE}(h:x.to<t):fy (x::l) t=fy l t+1:=by grind [fy,T6,List.length_cons]
theorem F7:∀{l:List LE}{t:Nat},(∀e∈l,t<=e.to)->fy l t=0
 |[],_,_=>rfl
 |x::l,t,h=>by
  have c:=h x (List.mem_cons_self ..);have a:=F7 (l:=l) (t:=t) (λ e b=>h e (List.mem_cons_of_mem _ b));unfold fy at *;rw[TZ (by simpa using c)];exact a
theorem mg {x:LE}{l:List LE}(b:Rsg (x::l))(h:¬x.to<t):fy (x::l) t=0 :=
 F7 (λ e a=>by
  rcases List.mem_cons.1 a with rfl|a
  omega;have:=b.head e a;omega)
theorem F8 (l:List LE)(t:Nat):fy l t<=K l:=TH _ _
theorem rm:∀{l:List LE}{t i:Nat}{e:LE},Rsg l->l[i]? = Z e->(e.to<t↔i<fy l t)
 |[],_,_,_,_,h=>by simp at h
 |x::l,t,0,e,b,h=>by
  simp at h;subst h;by_cases a:x.to<t;rw[mc a];exact⟨λ _=>U,λ _=>a⟩;rw[mg b a];exact⟨λ h=>Q8 h a,λ h=>Q8 h (UA _)⟩
 |x::l,t,i+1,e,b,h=>by
  have h:l[i]? = Z e:=by simpa using h
  have c:=Ti h;have:=b.head e c;by_cases a:x.to<t;rw[mc a,rm (t:=t) b.tail h];omega;rw[mg b a];exact⟨λ h=>U,λ h=>U⟩
theorem F9 (x:LE):∀{l:List LE},Rsg l->cX x l=l.take (fy l x.to)++x::l.drop (fy l x.to+if lg l x.to then 1 else 0)
 |[],_=>by
  show [x]=[].take _++x::[].drop _;simp
 |y::l,c=>by
  by_cases d:y.to<x.to;have e:=F9 x c.tail;have a:fy (y::l) x.to=fy l x.to+1:=mc d;have b:lg (y::l) x.to=lg l x.to:=by
   unfold lg;rw[a];simp
  rw[a,b];show (if x.to<y.to then _ else if x.to=y.to then _ else y::cX x l)=_;rw[Q6 U,Q6 U,e];cases lg l x.to<;>simp;have a:fy (y::l) x.to=0:=mg c d;have b:lg (y::l) x.to=decide (y.to=x.to):=by grind [lg]
  rw[a,b];show (if x.to<y.to then x::y::l else if x.to=y.to then x::l else y::cX x l)=_;by_cases f:y.to=x.to
  grind
  grind
theorem M5 {l:List LE}{t:Nat}(d:Rsg l):lg l t=Q↔∃e∈l,e.to=t:=by
 constructor;intro h;unfold lg at h;cases b:l[fy l t]? with
 |none=>rw[b]at h;cases h
 |some e=>rw[b]at h;exact⟨e,Ti b,Q1 h⟩
 rintro⟨e,b,j⟩;obtain⟨i,f,h⟩:=List.getElem_of_mem b;have c:l[i]? = Z e:=by rw[SU f,h]
 have m:¬i<fy l t:=λ h=>by have:=(rm (t:=t) d c).2 h;omega
 have g:fy l t<K l:=U;have a:l[fy l t]? = Z l[fy l t]:=SU g;have k:¬(l[fy l t]).to<t:=λ h=>Q8 ((rm (t:=t) d a).1 h) (UA _);unfold lg;rw[a];show decide _=Q;refine Q2 ?_;by_cases n:i=fy l t
 grind
 have:=List.pairwise_iff_getElem.1 d (fy l t) i g f U;rw[h]at this;omega
theorem pU (n:Int)(w:M):Eq9 296 #[J n] w (.bool Vl):=by
 go_enter func296,ntmps296;go_wp2;go_ret;exact⟨by simp,rfl⟩
theorem Es (a b:Int)(w:M):Eq9 281 #[J a,J b] w (J (fG a b)):=by
 by_cases h:a<b
 ·have e:fG a b=-1:=by unfold fG;rw[Q5 h]
  rw[e];clear e;go_enter func281,ntmps281;go_wp2_with (go_at_call 296;refine Q0 (pU _ _) ?_);go_ret;exact⟨rfl,rfl⟩
 ·by_cases c:b<a
  ·have e:fG a b=1:=(by unfold fG;rw[Q6 h,Q5 c]);rw[e];clear e;go_enter func281,ntmps281;go_wp2_with (go_at_call 296;refine Q0 (pU _ _) ?_);go_ret;exact⟨rfl,rfl⟩
  ·have e:fG a b=0:=(by unfold fG;rw[Q6 h,Q6 c]);rw[e];clear e;go_enter func281,ntmps281;go_wp2_with (go_at_call 296;refine Q0 (pU _ _) ?_);go_ret;exact⟨rfl,rfl⟩
theorem ye (w:M)(a es c b t:Int) :
  Rq 280 #[.agg #[J a,J es,J c,J b],J t] w (J (fG a t)):=by
 have e:Bq w (E w (VP #[J a,J es,J c,J b] 203)):=ae.alloc aa _;have d:=Es a t (E w (VP #[J a,J es,J c,J b] 203));generalize fG a t=r at *;go_enter func280,ntmps280;go_wp2_with fail;refine Q0 d ?_;clear d;go_wp2;go_ret;exact⟨rfl,e⟩
theorem Et {A:Oa}{l:List LE}(w:M)(S:dS w A l)(hl:K l<=256)(R:Rsg l) :
  Rq 279 #[.slice A (K l) cap,J (t:Int),.func (.func 280) #[] #[]] w (.tuple #[J (fy l t:Int),.bool (lg l t)]):=by
 have I:=F8 l t;have L:Vy (∀i e,l[i]? = Z e->(e.to<t↔i<fy l t)):=λ i e h=>rm R h;have y:Vy (lg l t=match l[fy l t]? with|some e=>decide (e.to=t)|none=>Vl):=rfl;clear R;generalize lg l t=N at *;generalize fy l t=c at *;go_enter func279,ntmps279;go_wp2;go_loopw [9,10] (λ iv V wr=>∃(i j:Nat),i<=c/\c<=j/\j<=K l/\iv=J i/\V=J j/\Bq w wr)
  (λ i j _=>(intOf j).toNat-(intOf i).toNat)
 case atStart=>exact⟨0,K l,Te _,I,aa,rfl,rfl,ae⟩
 case round =>
  obtain⟨i,j,hi,hj,YX,rfl,rfl,g⟩:=hrel;by_cases VS:i<j
  ·have X:(0:Int)<=(i:Int):=U;have W:(i:Int)<(j:Int):=U;have i3:(j:Int)<=256:=U;obtain⟨m,hm⟩:∃m:Nat,m=(i+j)/2:=⟨_,rfl⟩;have Y:((i:Int)+(j:Int))/2=(m:Int):=U;have ab:i<=m:=U;have ZW:m<j:=U;obtain⟨e,f⟩:∃e,l[m]? = Z e:=⟨l[m]'U,SU _⟩;obtain⟨b,o,rfl,H,F,C,B⟩:=(S.below g) m e f;have n:=L.out m e f;have m1:(0:Int)<=(m:Int):=U;have m2:(m:Int)<(K l:Int):=U;have v:=ye wr (e.to:Int) e.s e.d e.U6 (t:Int);have x:Vy (fG (e.to:Int) (t:Int)<0↔m<c):=by
    rw[pY _ _,<- n];exact Int.ofNat_lt
   clear n hm f;generalize fG (e.to:Int) (t:Int)=r at *;generalize (e.to:Int)=et at *;generalize e.s=es at *;generalize e.d=ed at *;generalize e.U6=em at *;go_wp2_with fail;refine Q9 v λ T a=>?_;have z:=aj g a;clear v g a H F C B;by_cases P:r<0
   ·have p:=x.out.1 P;go_wp2;go_roundw
    case rel=>exact⟨m+1,j,U,hj,YX,gQ,rfl,z⟩
    case measure=>simp[intOf];omega
   ·have p:c<=m:=by
     have:¬m<c:=λ h=>P (x.out.2 h);omega
    go_wp2;go_roundw
    case rel=>exact⟨i,m,hi,p,U,rfl,rfl,z⟩
    case measure=>simp[intOf];omega
  ·have ei:i=c:=U;have ej:j=c:=U;subst ei;subst ej;by_cases We:j<K l
   ·obtain⟨e,f⟩:∃e,l[j]? = Z e:=⟨l[j],SU We⟩;obtain⟨b,o,rfl,H,F,C,B⟩:=(S.below g) j e f;have X:(0:Int)<=(j:Int):=U;have W:(j:Int)<(K l:Int):=U;have v:=ye wr (e.to:Int) e.s e.d e.U6 (t:Int);have k:Vy (N=decide (fG (e.to:Int) (t:Int)=0)):=by
     have u:=y.out;rw[f]at u;rw[u];by_cases q:e.to=t
     ·rw[Q2 ((wH _ _).2 U)];exact Q2 q
     ·rw[Q3 (λ h=>q (Oq ((wH _ _).1 h)))];exact Q3 q
    clear y f;generalize fG (e.to:Int) (t:Int)=r at *;generalize (e.to:Int)=et at *;generalize e.s=es at *;generalize e.d=ed at *;generalize e.U6=em at *;go_wp2_with fail;refine Q9 v λ T a=>?_;have z:=aj g a;clear v g a H F C B;go_wp2;go_ret2;refine⟨?_,z⟩;rw[k.out];show Ending.returned (Value.tuple #[J (j:Int),Value.bool (r==0)])=_;rw[show (r==0)=decide (r=0) from rfl]
   ·have k:Vy (N=Vl):=by
     have u:=y.out;rw[List.getElem?_eq_none U]at u;exact u
    clear y;have ac:¬(j:Int)<(K l:Int):=U;go_wp2;go_ret2;refine⟨?_,g⟩;rw[k.out];rfl
theorem yf {cap t:Nat}{A:Oa}{l:List LE}(w:M)(e:dS w A l)(c:K l<=256)(d:Rsg l) :
  Rq 254 #[.slice A (K l) cap,J (t:Int)] w (.tuple #[J (fy l t:Int),.bool (lg l t)]):=by
 have b:=Et (cap:=cap) (t:=t) w e c d;generalize lg l t=h at *;generalize (fy l t:Int)=g at *;go_enter func254,ntmps254;go_wp2_with fail;refine Q9 b λ f a=>?_;clear b;go_wp2;go_ret2;exact⟨rfl,a⟩
section
open Go.RowKit Go.Lib
theorem Jf (l:List LE)(i:Nat):bB (l.take i)=(bB l).take (i*4):=by
 induction l generalizing i with
 |nil=>simp[bB]
 |cons x l a =>
  cases i with
  |zero=>simp[bB]
  |succ i =>
   rw[List.take_succ_cons,dU,dU,a,List.take_append];have h:K (leV x)=4:=rfl;rw[TM (l:=leV x) (by rw[h];omega),h,show (i+1)*4-4=i*4 by omega]
theorem Jg (l:List LE)(i:Nat):bB (l.drop i)=(bB l).drop (i*4):=by
 induction l generalizing i with
 |nil=>simp[bB]
 |cons x l a =>
  cases i with
  |zero=>simp
  |succ i =>
   rw[List.drop_succ_cons,a,dU,List.drop_append];have h:K (leV x)=4:=rfl;rw[List.drop_of_length_le (l:=leV x) (by rw[h];omega),h,Vc,show (i+1)*4-4=i*4 by omega]
theorem M8 (l:List LE)(i:Nat)(e:LE):bB (l.take i++e::l.drop i)=(bB l).take (i*4)++leV e++(bB l).drop (i*4):=by grind [bB,leV,fP,dU,Jf,Jg,TC]
theorem gJ {P:Program}(w:M)(r u s b:Vyk)(g o e l k m:Nat)(a:Addr)(d h:Nat)(c:Array Vr)(t:Vyk)(cs:List Vr)
  (x:P.underlying r=Z (.slice b)) (q:(P.info? b).map (·.size)=Z k)
  (C:w.heap[g]? = Z (.cells c t (0,0))) (z:Nat.min d e=m) (y:K cs=m*k)
  (p:∀j v,cs[j]? = Z v->D w (a.add j)=Z v) (n:o+K cs<=c.size) (F:∀v∈cs,v.oneCell'=Q) :
  (Builtin.copy_ #[r,u] s #[.slice (Z (O g o)) e l,.slice (Z a) d h]).run P w =
   .ok (goInt m) (w.setRow g (c.toList.take o++cs++c.toList.drop (o+K cs)).toArray):=by
 have A:=run_loadCells_list (P:=P) w a cs p;have H:=run_storeCells_at P g o t cs 0 c w C (by simpa using n) F;cases f:P.info? b with
 |none=>simp[f]at q
 |some i =>
  have B:i.size=k:=by simpa [f]using q
  simp[Builtin.copy_,run_underlying x,Builtin.lenOf,Builtin.firstCells,sizeOf,typeInfo,f,B,z,<- y,A,H]
theorem Jh {a xs c:List Vr}{n:Nat}(f:a.take (n*4)=xs)(d:K xs=n*4)(j:K c=4)(h:i<n)(l:(n+1)*4<=K a) :
  let b:=a.take (i*4+4)++xs.drop (i*4)++a.drop (i*4+4+K (xs.drop (i*4)))
  b.length=K a/\(b.take (i*4)++c++b.drop (i*4+K c)).length=K a/\(b.take (i*4)++c++b.drop (i*4+K c)).take ((n+1)*4)=xs.take (i*4)++c++xs.drop (i*4):=by
 intro b;have k:K (xs.drop (i*4))=n*4-i*4:=by rw[Ue,d]
 have g:K (a.take (i*4+4))=i*4+4:=by rw[Ts];omega
 have e:K b=K a:=by grind
 have o:b.take (i*4)=xs.take (i*4):=by grind
 have m:b.drop (i*4+4)=xs.drop (i*4)++a.drop (i*4+4+K (xs.drop (i*4))):=by grind
 refine⟨e,?_,?_⟩
 grind
 grind [TC,Td,Ts,TM]
theorem Na {row xs b:List Vr}{n:Nat}(e:row.take (i*4)=xs.take (i*4))(c:K xs=n*4)(h:K b=4)(g:i<n)(k:(n+1)*4<=K row) :
  let a:=row.take (i*4)++b++row.drop (i*4+K b)
  a.length=K row/\(a.take (i*4+4)++xs.drop (i*4)++a.drop (i*4+4+K (xs.drop (i*4)))).length=K row/\(a.take (i*4+4)++xs.drop (i*4)++a.drop (i*4+4+K (xs.drop (i*4)))).take ((n+1)*4)=xs.take (i*4)++b++xs.drop (i*4):=by
 intro a;have j:K (xs.drop (i*4))=n*4-i*4:=by rw[Ue,c]
 have f:K (row.take (i*4))=i*4:=by rw[Ts];omega
 have d:K a=K row:=by grind
 have l:a.take (i*4+4)=xs.take (i*4)++b:=by grind
 refine⟨d,?_,?_⟩
 grind
 grind [Td,Ts,TM]
end
section
open Go.RowKit Go.Lib
theorem Ji (w:M):(Go.sizeOf 203).run Vyj w=.ok 4 w:=kQ
theorem OQ:(prog.info? 203).map (·.size)=Z 4:=kQ
theorem vT {w:M}{a:List Vr}(h:w.heap[xb]? = Z (.cells a.toArray 203 (0,0))):∀j u,a[j]? = Z u->D w ((O xb 0:Addr).add j)=Z u:=by
 intro j u b;rw[Addr.add_lit,Tm,cell_of_row w xb j _ 203 (0,0) h]
 simpa using b
theorem Eu {v:Vr}{l:List LE}{e:LE}(w:M)(a:G' w N 203 4 v (K l) (bB l))(R:K l<=256)(k:N<=G w.heap)(f:w.heap[xb]? = Z (.cells (leV e).toArray 203 (0,0))) :
  Zq 255 #[v,J (K l:Int),.slice (Z (O xb 0)) 1 1] w λ r I=>∃v',r=VJ v'/\G' I N 203 4 v' (K l+1) (bB l++leV e)/\w.grownBy I (M' v)/\(M' v'=M' v\/M' v'=Z (G w.heap)):=by
 obtain⟨h,j,C,B,z⟩:=info_parts Tryz.infoE;have y:=vT f;have c:∀u∈leV e,u.oneCell'=true:=λ u i=>gW [e] u (by rw[eQ];exact i);obtain⟨A,cap,rfl,t,s⟩:∃A cap,v=.slice A (K l) cap/\(K l<=cap)/\cap<=9223372036854775807:=by
  rcases a.2 with⟨rfl,o⟩|⟨g,cap,q,rfl,_,_,n,m,_⟩
  ·exact⟨UP,0,by rw[o],U,U⟩
  ·exact⟨_,cap,rfl,n,by unfold Vyf at m;omega⟩
 have b:K (leV e)=1*4:=rfl;clear f;generalize leV e=p at *;generalize bB l=L at *;rcases Decidable.em (cap=K l) with d|d
 all_goals
  try subst d
  go_enter func255,ntmps255;go_wp2_with (at_builtin;refine wpList_append_own_at _ rfl _ _ 140 rfl N 203 h (.agg #[J 0,J 0,J 0,J 0]) 4 32 Tryz.Vxb j C B z rfl dQ _ _ _ rfl a (O xb 0) 1 1 p rfl b y c ?c3 ?c4 ?c5 ?_)
  case c3=>unfold Vyf;omega
  case c4=>omega
  case c5=>exact k
  intro v' P F H _ x;go_wp2;go_ret;exact⟨v',rfl,F,H,x⟩
theorem zy {g i:Nat}{l:List LE}{e:LE}(w:M)(o:G' w N 203 4 (.slice (Z (O g 0)) (K l) cap) (K l) (bB l))(hl:K l<=256)(hi:i<K l)(ao:K l+1<=cap)(y:xb≠g)(F:w.heap[xb]? = Z (.cells (leV e).toArray 203 (0,0))) :
  Zq 255 #[.slice (Z (O g 0)) (K l) cap,J (i:Int),.slice (Z (O xb 0)) 1 1] w λ r I=>r=VJ (.slice (Z (O g 0)) (K l+1) cap)/\G' I N 203 4 (.slice (Z (O g 0)) (K l+1) cap) (K l+1) ((bB l).take (i*4)++leV e++(bB l).drop (i*4))/\w.grownBy I (Z g):=by
 obtain⟨L,c,a,hv,ab,X,ax,Yg,Wx,C⟩:∃L c a,(Value.slice (Z ⟨g,0,UP⟩) (K l) cap)=.slice (Z ⟨L,0,UP⟩) (K l) c/\N<=L/\w.heap[L]? = Z (.cells a 203 (0,0))/\K l<=c/\c<=Vyf/\a.size=c*4/\a.toList.take (K l*4)=bB l:=by
  rcases o.2 with⟨h,_⟩|h
  ·cases h
  ·exact h
 cases hv;have P:=o.1;have Xu:=vT F;have am:∀u∈leV e,u.oneCell'=true:=λ u T=>gW [e] u (by rw[eQ];exact T);have ag:∀u∈(bB l).drop (i*4),u.oneCell'=true:=λ u T=>gW l u (List.mem_of_mem_drop T);have b:K (leV e)=4:=rfl;have an:∀j u,(bB l)[j]? = Z u->Cq w g j u:=λ j u v=>by
  have:=o.cells (g:=g) rfl j u v
  rwa [Addr.add_lit,Tm]at this
 have aN:cap<=9223372036854775807:=by unfold Vyf at Yg;omega
 have V:∀lb cb,(callFunc 282 #[.slice (Z (O xb 0)) 1 1,.slice (Z (O g ((i+1)*4))) lb cb]).run Vyj w=.ok (.value (.bool Vl)) w:=λ lb cb=>by
  rw[run_callFunc_extern func282 kQ kQ kQ (e:=Extern.SlicesOverlaps.overlaps #[140,140] #[4]) kQ,
   Lib.run_overlaps_apart w 140 4 203 Tryz.Vxb 4 Ji (O xb 0) (O g ((i+1)*4)) 1 1 lb cb y 203 203 4 a.size (by simp[World.shape?,F,b]) (by simp[World.shape?,X]) U (by simp[Vf,F]) (by simp[Vf,F])]
  rfl
 have R:K a.toList=cap*4:=by rw[Array.length_toList (xs:=a),Wx]
 obtain⟨hA,hB,hC⟩:=Jh (n:=K l) (i:=i) C P b hi (by rw[R];omega);clear F;generalize Y:bB l=H at *;generalize leV e=t at *;obtain⟨d,YU⟩:∃d,d=a.toList.take (i*4+4)++H.drop (i*4)++a.toList.drop (i*4+4+K (H.drop (i*4))):=⟨_,rfl⟩;rw[<- YU]at hA hB hC;have q:K (H.drop (i*4))=(K l-i)*4:=by rw[Ue,P];omega
 have B:∀(f:Vyk) (m p:Nat) (W:M),W.heap[g]? = Z (.cells a 203 (0,0))->(∀x,D W x=D w x)->(Builtin.copy_ #[140,140] f #[.slice (Z (O g ((i+1)*4))) (K l-i) m,.slice (Z (O g (i*4))) (K l+1-i) p]).run Vyj W=.ok (goInt ((K l-i:Nat):Int)) (W.setRow g d.toArray):=λ f m p W hW s=>by
  rw[gJ W 140 140 f 203 g ((i+1)*4) _ m 4 (K l-i) (O g (i*4)) _ p a 203 (H.drop (i*4)) Tryz.Vxb OQ hW (by simp only[Nat.min_def];split<;>omega) q (λ j u v=>by
   rw[Addr.add_lit,s];rw[UW]at v;exact an _ u v) (by rw[q,Wx];omega) ag,YU,show (i+1)*4=i*4+4 by omega]
 have A:∀(f:Vyk) (m:Nat) (W:M),W.heap[g]? = Z (.cells d.toArray 203 (0,0))->(∀j u,t[j]? = Z u->D W ((O xb 0:Addr).add j)=Z u)->(Builtin.copy_ #[140,140] f #[.slice (Z (O g (i*4))) (K l+1-i) m,.slice (Z (O xb 0)) 1 1]).run Vyj W=.ok (goInt 1) (W.setRow g (d.take (i*4)++t++d.drop (i*4+K t)).toArray):=λ f m W hW s=>by
  rw[gJ W 140 140 f 203 g (i*4) _ m 4 1 (O xb 0) _ 1 d.toArray 203 t Tryz.Vxb OQ hW (by simp only[Nat.min_def];split<;>omega) (by rw[b]) s (by rw[UC,hA,R,b];omega) am];rfl
 have z:(w.drew.setRow g d.toArray).heap[g]? = Z (.cells d.toArray 203 (0,0)):=setRow_heap w.drew g a _ 203 _ X;have ac:∀j u,t[j]? = Z u->D (w.drew.setRow g d.toArray) ((O xb 0:Addr).add j)=Z u:=λ j u v=>by
  rw[Ug (w:=w.drew) (setRow_other w.drew g _ _ (λ h=>y (by rw[Addr.add_lit]at h;exact h)))];exact Xu j u v
 have H1:∀(f:Vyk) (m p:Nat),(Builtin.copy_ #[140,140] f #[.slice (Z (O g ((i+1)*4))) (K l-i) m,.slice (Z (O g (i*4))) (K l+1-i) p]).run Vyj w.drew=.ok (goInt ((K l-i:Nat):Int)) (w.drew.setRow g d.toArray):=λ f m p=>B f m p w.drew X (λ _=>rfl);have H2:∀(f:Vyk) (m:Nat),(Builtin.copy_ #[140,140] f #[.slice (Z (O g (i*4))) (K l+1-i) m,.slice (Z (O xb 0)) 1 1]).run Vyj (w.drew.setRow g d.toArray)=.ok (goInt 1) ((w.drew.setRow g d.toArray).setRow g (d.take (i*4)++t++d.drop (i*4+K t)).toArray):=λ f m=>A f m _ z ac;have Xr:IntKind.i64.wrap ((i:Int)+1)=(i:Int)+1:=by rw[IntKind.wrap_i64];omega
 have ay:¬(cap=i+1):=U;have Ww:¬(cap=i):=U;have Wc:¬((i:Int)=(K l:Int)):=U;have S:prog.follows .mixedOrders=true:=kQ;have aL:(0:Int)<=(i:Int)+1:=U;have We:i<=K l:=U;have aw:((i:Int)+1).toNat=i+1:=U;have hb3:(i:Int)<=(K l:Int)+1:=U;have VW:(i:Int)<=(K l:Int):=U;have ap:Vy _:=P;have ad:Vy _:=b;have au:Vy _:=R;have HB:Vy _:=hB;have HC:Vy _:=hC;clear B A YU q P b R hA hB hC Wx C Y;go_enter func255,ntmps255;go_wp2_with (simp only[V]);go_region_law_o (refine step_copy_runI rfl _ _ 140 140 rfl _ _ (by simp[Act.eval,Act.put]) (by simp[Act.eval,Act.put]) (H1 _ _ _) ?_);go_wp2_with (at_builtin;refine wpList_copy_runI _ rfl _ _ 140 140 rfl _ _ rfl rfl (H2 _ _) ?_);go_ret;refine⟨rfl,⟨?_,SP ⟨g,cap,_,rfl,ab,setRow_heap _ g _ _ 203 _ z,ao,Yg,?_,?_⟩⟩,?_⟩
 ·rw[Td,Td,Ts,Ue,ad.out,ap.out];omega
 ·rw[UC,<- TC,HB.out,au.out]
 ·have h:=HC.out;rw[TC (d.take (i*4))]at h;exact h
 ·exact⟨rfl,rfl,rfl,by simp,λ k hk VY=>by
   rw[setRow_other _ g k _ (λ h=>VY (by rw[h])),setRow_other _ g k _ (λ h=>VY (by rw[h]))];rfl⟩
end
section
open Go.RowKit Go.Lib
theorem Cw {g i:Nat}{l:List LE}{e:LE}(w:M)(m:G' w N 203 4 (.slice (Z (O g 0)) (K l) cap) (K l) (bB l))(hl:K l<=256)(hi:i<K l)(aw:cap<K l+1)(hN:N<=G w.heap)(X8:w.heap[xb]? = Z (.cells (leV e).toArray 203 (0,0))) :
  Zq 255 #[.slice (Z (O g 0)) (K l) cap,J (i:Int),.slice (Z (O xb 0)) 1 1] w λ r I=>∃f,r=VJ (.slice (Z (O (G w.heap) 0)) (K l+1) f)/\G' I N 203 4 (.slice (Z (O (G w.heap) 0)) (K l+1) f) (K l+1) ((bB l).take (i*4)++leV e++(bB l).drop (i*4))/\Bq w I:=by
 obtain⟨i0,ag,VZ,Wa,Wc⟩:=info_parts Tryz.infoE;have ax:cap=K l:=by
  rcases m.2 with⟨h,_⟩|⟨g',a0,a6,hv,_,_,a3,_⟩
  ·cases h
  ·cases hv;omega
 subst ax;have F:=m.1;have Xu:=vT X8;have au:∀u∈leV e,u.oneCell'=true:=λ u hu=>gW [e] u (by rw[eQ];exact hu);have ap:∀u∈(bB l).drop (i*4),u.oneCell'=true:=λ u hu=>gW l u (List.mem_of_mem_drop hu);have c:K (leV e)=4:=rfl;have am:g<G w.heap:=(m.lt g rfl).2;have ac:xb<G w.heap:=(Array.getElem?_eq_some_iff.1 X8).1;have X:∀j u,(bB l)[j]? = Z u->Cq w g j u:=λ j u p=>by
  have:=m.cells (g:=g) rfl j u p
  rwa [Addr.add_lit,Tm]at this
 have H:(K l:Int)+1-(i:Int)=((K l+1-i:Nat):Int):=U;have z:i+(K l+1-i)=K l+1:=U;have t:(Builtin.firstCells i0.size i (.slice (Z (O g 0)) i (K l))).run Vyj w.drew=.ok ((bB l).take (i*4)).toArray w.drew:=by
  rw[Wa];exact run_firstCells_some w.drew 4 i (O g 0) i (K l) ((bB l).take (i*4)) (by rw[Ts,F];omega) (λ j v p=>by
   rw[Addr.add_lit,Tm];rw[List.getElem?_take]at p;split at p
   ·exact X j v p
   ·cases p)
 obtain⟨f,hG⟩:∃f,f=grownCap w (K l+1) (K l) 203:=⟨_,rfl⟩;obtain⟨a,s⟩:∃a:List Vr,a=(bB l).take (i*4)++((Builtin.zeroCells (Value.agg #[J 0,J 0,J 0,J 0]).cells (K l+1-i)).toList++(Builtin.zeroCells (Value.agg #[J 0,J 0,J 0,J 0]).cells (f-(K l+1))).toList):=⟨_,rfl⟩;have ad:∀b,(Builtin.append_ #[140,3] b #[.slice (Z (O g 0)) i (K l),J ((K l:Int)+1-(i:Int))]).run Vyj w=.ok (.slice (Z (O (G w.heap) 0)) (K l+1) f) (E w.drew (.cells a.toArray 203)):=λ b=>by
  have h:=Lib.run_append_grow_zeros w 140 3 b 203 i0 _ .i64 .i64 Tryz.Vxb aV ag VZ (Z (O g 0)) i (K l) ((bB l).take (i*4)) t (K l+1-i) U U U U (by rw[Wc];omega) (by rw[Wc,z];exact growslice_fits aw U);rw[z,<- hG]at h;rw[H,h,s]
  congr 3
  simp
 have an:K l+1<=f:=by rw[hG];exact grownCap_ge w _ _ _
 have C:f<=Vyf:=by rw[hG];exact grownCap_le_maxLen w _ _ _ mQ
 have a7:f<=9223372036854775807:=by unfold Vyf at C;omega
 have q:K a=f*4:=by
  rw[s];simp[Builtin.zeroCells,Value.cells,F];omega
 have R:a.take (i*4)=(bB l).take (i*4):=by
  rw[s,List.take_append_of_le_length (by rw[Ts,F];omega),List.take_take,Nat.min_self]
 obtain⟨hA,hB,hC⟩:=Na (n:=K l) (i:=i) R F c hi (by rw[q];omega);clear X8 s t H z;generalize bB l=Y at *;generalize leV e=ev at *;obtain⟨o,YU⟩:∃o,o=a.take (i*4)++ev++a.drop (i*4+K ev):=⟨_,rfl⟩;rw[<- YU]at hA hB hC;have A:K (Y.drop (i*4))=(K l-i)*4:=by rw[Ue,F];omega
 have P:((E w (.cells a.toArray 203)).drew).heap[G w.heap]? = Z (.cells a.toArray 203 (0,0)):=heap_alloc_new w _;have V:∀(b:Vyk) (d:Nat) (W:M),W.heap[G w.heap]? = Z (.cells a.toArray 203 (0,0))->(∀j u,ev[j]? = Z u->D W ((O xb 0:Addr).add j)=Z u)->(Builtin.copy_ #[140,140] b #[.slice (Z (O (G w.heap) (i*4))) (K l+1-i) d,.slice (Z (O xb 0)) 1 1]).run Vyj W=.ok (goInt 1) (W.setRow (G w.heap) o.toArray):=λ b d W hW B=>by
  rw[gJ W 140 140 b 203 (G w.heap) (i*4) _ d 4 1 (O xb 0) _ 1 a.toArray 203 ev Tryz.Vxb OQ hW (by simp only[Nat.min_def];split<;>omega) (by rw[c]) B (by rw[UC,q,c];omega) au,YU];rfl
 obtain⟨c2,Y4⟩:∃c2,c2=o.take (i*4+4)++Y.drop (i*4)++o.drop (i*4+4+K (Y.drop (i*4))):=⟨_,rfl⟩;rw[<- Y4]at hB hC;have T:∀(b:Vyk) (d y:Nat) (W:M),W.heap[G w.heap]? = Z (.cells o.toArray 203 (0,0))->(∀x:Addr,x.block<G w.heap->D W x=D w x)->(Builtin.copy_ #[140,140] b #[.slice (Z (O (G w.heap) ((i+1)*4))) (K l-i) d,.slice (Z (O g (i*4))) (K l-i) y]).run Vyj W=.ok (goInt ((K l-i:Nat):Int)) (W.setRow (G w.heap) c2.toArray):=λ b d y W hW B=>by
  rw[gJ W 140 140 b 203 (G w.heap) ((i+1)*4) _ d 4 (K l-i) (O g (i*4)) _ y o.toArray 203 (Y.drop (i*4)) Tryz.Vxb OQ hW (by simp only[Nat.min_def];split<;>omega) A (λ j u p=>by
   rw[Addr.add_lit,B _ am];rw[UW]at p;exact X _ u p) (by rw[A,UC,hA,q];omega) ap,Y4,show (i+1)*4=i*4+4 by omega]
 have S:∀x:Addr,x.block<G w.heap->D ((E w (.cells a.toArray 203)).drew) x=D w x:=λ x hx=>Ug (w:=w) (Below.heap_alloc w _ _ hx);have H1:∀(b:Vyk) (d:Nat),(Builtin.copy_ #[140,140] b #[.slice (Z (O (G w.heap) (i*4))) (K l+1-i) d,.slice (Z (O xb 0)) 1 1]).run Vyj (E w (.cells a.toArray 203)).drew=.ok (goInt 1) ((E w (.cells a.toArray 203)).drew.setRow (G w.heap) o.toArray):=λ b d=>V b d _ P (λ j u p=>by
  have:=Xu j u p;rw[Addr.add_lit]at this ⊢;exact(S _ ac).trans this)
 have L:((E w (.cells a.toArray 203)).drew.setRow (G w.heap) o.toArray).drew.heap[G w.heap]? = Z (.cells o.toArray 203 (0,0)):=setRow_heap _ (G w.heap) _ _ 203 _ P;have H2:∀(b:Vyk) (d y:Nat),(Builtin.copy_ #[140,140] b #[.slice (Z (O (G w.heap) ((i+1)*4))) (K l-i) d,.slice (Z (O g (i*4))) (K l-i) y]).run Vyj ((E w (.cells a.toArray 203)).drew.setRow (G w.heap) o.toArray).drew=.ok (goInt ((K l-i:Nat):Int)) (((E w (.cells a.toArray 203)).drew.setRow (G w.heap) o.toArray).drew.setRow (G w.heap) c2.toArray):=λ b d y=>T b d y _ L (λ x hx=>by
  have h1:D ((E w (.cells a.toArray 203)).drew.setRow (G w.heap) o.toArray).drew x=D (E w (.cells a.toArray 203)).drew x:=Ug (setRow_other _ (G w.heap) _ _ U);exact h1.trans (S x hx))
 have Xr:IntKind.i64.wrap ((i:Int)+1)=(i:Int)+1:=by rw[IntKind.wrap_i64];omega
 have a4:¬(f=i+1):=U;have Ww:¬(f=i):=U;have WR:¬(K l=i):=U;have a1:¬((i:Int)=(K l:Int)):=U;have ab:prog.follows .mixedOrders=true:=kQ;have a5:(0:Int)<=(i:Int)+1:=U;have We:i<=K l:=U;have a2:((i:Int)+1).toNat=i+1:=U;have hb3:(i:Int)<=(K l:Int)+1:=U;have VW:(i:Int)<=(K l:Int):=U;have ay:Vy _:=F;have ao:Vy _:=c;have aL:Vy _:=q;have HB:Vy _:=hB;have HC:Vy _:=hC;have aN:Vy _:=C;clear V T YU Y4 A F c hA hB hC q R hG C;go_enter func255,ntmps255;go_wp2_with (first
  |(at_builtin;refine Lib.wpList_append_run _ rfl _ _ _ _ rfl _ _ rfl rfl _ _ (ad _) ?_)
  |(at_builtin;refine wpList_copy_runI _ rfl _ _ 140 140 rfl _ _ rfl rfl (H1 _ _) ?_))
 go_region_law_o (refine step_copy_runI rfl _ _ 140 140 rfl _ _ (by simp[Act.eval,Act.put]) (by simp[Act.eval,Act.put]) (H2 _ _ _) ?_);go_wp2;go_ret;refine⟨f,rfl,⟨?_,SP ⟨G w.heap,f,_,rfl,hN,setRow_heap _ (G w.heap) _ _ 203 _ L,an,aN.out,?_,?_⟩⟩,?_⟩
 ·rw[Td,Td,Ts,Ue,ao.out,ay.out];omega
 ·rw[UC,HB.out,aL.out]
 ·exact HC.out
 ·refine⟨rfl,rfl,rfl,by simp,λ k hk=>?_⟩;rw[setRow_other _ (G w.heap) k _ U];show ((E w (.cells a.toArray 203)).drew.setRow (G w.heap) o.toArray).heap[k]? = _;rw[setRow_other _ (G w.heap) k _ U];exact Below.heap_alloc w _ _ hk
end
end Go.Proofs.YtikdmenjibkgiaaGreatDoor
