/- Texts laid together. -/
import Derived.Test.YtikdmenjibkgiaaGreatDoorP19
import Derived.Carry
namespace Go.Proofs.YtikdmenjibkgiaaGreatDoor
open Go.Proofs.Tryz renaming underlying9->Vyh,underlying22->Vyi,prog->Vyj
open _root_.Array renaming size->G
open _root_.Nat renaming lt_of_lt_of_le->Tc,le_trans->Tg,zero_le->Te,lt_succ_self->Ur,zero_add->Tm,mul_le_mul_right->UN
open Go.World renaming cell?_setCell_other->SY,cell?_setCell_same->Tf,frozen?_setCell->TL,cell?_alloc_new->Tb,frozen?_alloc_new->Um,ownsRow_nil->To,cell?->U2,cell?->D,alloc->E,setCell->C',ownsRow->G'
open _root_.Or renaming inl->SQ,inr->SP
open _root_.List renaming append_assoc->TC,take_left'->VL,drop_left'->Vp,take_of_length_le->TM,getElem?_eq_getElem->SU,getElem?_append_right->TG,length_map->TA,getElem?_map->Tz,mem_of_getElem?->Ti,getElem?_eq_some_iff->Th,take_succ_eq_append_getElem->Tx,map_append->UE,take_length->Tl,length_append->Td,length_cons->Tk,length_nil->Ut,length_filter_le->TH,drop_drop->Vj,length_take->Ts,take_zero->Vk,mem_append->Tn,length_drop->Ue,getElem?_drop->UW,getElem?_append_left->TO,mem_map->TX,nil_append->Vc,length->K
open _root_.Option renaming map_eq_some_iff->TK
open _root_.Int renaming toNat_natCast->Ta,toNat_of_nonneg->TE,add_assoc->TT,add_zero->Uk
open Go.Value renaming int->VN,ownBlock->M'
open Go.IntKind renaming i64->VO
open Go.Proofs.Tryz
open _root_.Option renaming some->Z,none->UP
open _root_.Bool renaming true->Q,false->Vl
open Go renaming World->M,Value->Vr,below_drewN->Vxj,wpList_append_own->Vxk,grownCap->Vyd,cell_one_new->Vye,maxLen->Vyf,wpQuiet_nil->Vza
open Go.RowKit renaming Below->Vw,Hid->Vy
open Go.Ending renaming returned->VJ
open Go.Obj renaming cells->VP
variable {rb B ab k base L pb xb mb N' j cap f lb:Nat}{w I:M}{v:Vr}{d W H V:Int}{ns:List Int}
set_option maxHeartbeats 8000000
set_option maxRecDepth 1000000
open Go.RowKit
def RZ (rb:Nat) (w:M):Prop:=rb<G w.heap/\∀o,D w (O rb o)=#[Value.slice UP 0 0,J 0,J 0,J 0][o]? /\ w.frozen? (O rb o)=Vl
theorem RZ.below (h:RZ rb w)(a:Vw B w I)(b:rb<B):RZ rb I:=by grind [RZ,Tc,Go.RowKit.Below.size,Go.RowKit.Below.cell,Go.RowKit.Below.frozen]
theorem SG {a c:M}{v0 v1 v2 v3 u0 u1 u2 u3:Vr}(j:Vw B a c)(d:B<=rb)(n:Cq c rb 0 u0)(m:Cq c rb 1 u1)(l:Cq c rb 2 u2)(i:Cq c rb 3 u3) :
  ((((C' c (O rb 0) v0).setCell (O rb 1) v1).setCell (O rb 2) v2).setCell (O rb 3) v3).cell? (O rb 0)=Z v0/\Cq ((((C' c (O rb 0) v0).setCell (O rb 1) v1).setCell (O rb 2) v2).setCell (O rb 3) v3) rb 1 v1/\Cq ((((C' c (O rb 0) v0).setCell (O rb 1) v1).setCell (O rb 2) v2).setCell (O rb 3) v3) rb 2 v2/\Cq ((((C' c (O rb 0) v0).setCell (O rb 1) v1).setCell (O rb 2) v2).setCell (O rb 3) v3) rb 3 v3/\Vw B a ((((C' c (O rb 0) v0).setCell (O rb 1) v1).setCell (O rb 2) v2).setCell (O rb 3) v3):=by
 have f:∀a b:Nat,a≠b->(O rb a:Addr)≠O rb b:=λ a b h e=>h (Q7 Addr.off e);have g:∀(w:M) (a b:Nat) (v:Vr),a≠b->D (C' w (O rb a) v) (O rb b)=D w (O rb b):=λ _ _ _ _ h=>SY _ _ _ _ (λ e=>by first|exact f _ _ h e|exact f _ _ h e.symm);have k:∀(w:M) (a:Nat) (v u:Vr),Cq w rb a u->Cq (C' w (O rb a) v) rb a v:=λ _ _ _ _ h=>Tf _ _ _ h;refine⟨?_,?_,?_,?_,(((j.setCell (p:=O rb 0) d _).setCell (p:=O rb 1) d _).setCell (p:=O rb 2) d _).setCell (p:=O rb 3) d _⟩
 grind
 grind
 grind
 exact k _ _ _ _ ((g _ _ _ _ dQ).trans ((g _ _ _ _ dQ).trans ((g _ _ _ _ dQ).trans i)))
theorem ze {n:Nat}(h:n<=9999)(w:M):Rq 13 #[.string (str (Lib.decDigits n))] w (.tuple #[J (n:Int),.bool Q]) :=
 (mW (Lib.decDigits n) (Oq (AU h)) w).mono λ e I ⟨c,b⟩=>by
  refine⟨?_,b⟩;rcases c with⟨v,a,d⟩|⟨a,_⟩
  grind [kB,kC]
  grind [kB,kC]
structure AnA (w:M) (ab:Nat) (v:Vr) (s d:Int):Prop where
 c0:D w (O ab 0)=Z v
 c1:D w (O ab 1)=Z (J s)
 c2:D w (O ab 2)=Z (J d)
 c3:D w (O ab 3)=Z (J 0)
 fz:∀o,w.frozen? (O ab o)=Vl
theorem AnA.below {s:Int}(h:AnA w ab v s d)(a:Vw B w I)(b:ab<B):AnA I ab v s d :=
 ⟨(a.cell (p:=O ab 0) b).trans h.c0,(a.cell (p:=O ab 1) b).trans h.c1,(a.cell (p:=O ab 2) b).trans h.c2,(a.cell (p:=O ab 3) b).trans h.c3,λ o=>(a.frozen (p:=O ab o) b).trans (h.fz o)⟩
theorem AnA.set {s:Int}(h:AnA w ab v s d)(c:Vr):AnA (C' w (O ab 0) c) ab c s d:=by
 have a:∀b:Nat,b≠0->(O ab b:Addr)≠O ab 0:=λ b h e=>h (Q7 Addr.off e);refine⟨Tf _ _ _ h.c0,?_,?_,?_,?_⟩;rw[SY _ _ _ _ (λ e=>a 1 dQ e.symm)];exact h.c1;rw[SY _ _ _ _ (λ e=>a 2 dQ e.symm)];exact h.c2;rw[SY _ _ _ _ (λ e=>a 3 dQ e.symm)];exact h.c3;intro o;rw[TL];exact h.fz o
theorem AnA.put {a b:Int}(h:AnA w ab v a b)(s d:Int):AnA ((C' w (O ab 1) (J s)).setCell (O ab 2) (J d)) ab v s d:=by
 have g:∀(w:M) (a b:Nat) (v:Vr),a≠b->D (C' w (O ab a) v) (O ab b)=D w (O ab b):=λ _ _ _ _ h=>SY _ _ _ _ (λ e=>by have:=Q7 Addr.off e;first|exact h this|exact h this.symm);refine⟨?_,?_,?_,?_,λ o=>?_⟩;rw[g _ _ _ _ dQ,g _ _ _ _ dQ];exact h.c0;rw[g _ _ _ _ dQ];exact Tf _ _ _ h.c1;exact Tf _ _ _ ((g _ _ _ _ dQ).trans h.c2);rw[g _ _ _ _ dQ,g _ _ _ _ dQ];exact h.c3;rw[TL,TL];exact h.fz o
theorem Iq {d c e n:Nat}{xs:List Vr}(h:G' w d e k v n xs)(a:c<=d):G' w c e k v n xs:=by
 refine⟨h.1,?_⟩;rcases h.2 with l|⟨g,cap,b,f,m,i,j⟩
 exact SQ l;exact SP ⟨g,cap,b,f,Tg a m,i,j⟩
theorem kG {ls:List Lu}(h:G' w base 9 1 v (K ls) (cQ ls)):∃A cap,v=.slice A (K ls) cap/\∀i x,ls[i]? = Z x->∃b,A=Z (O b 0)/\b<G w.heap/\Cq w b i (.string (str x)):=by
 obtain⟨A,cap,f,e⟩:=fu h;refine⟨A,cap,f,λ i x g=>?_⟩;obtain⟨b,d,c,_,a⟩:=e i (.string (str x)) (by grind [cQ]);exact⟨b,d,c,a⟩
structure RM (t p r:Lu):Prop where
 x1:(str t).extract 0 (K p)=str p
 x2:(str t).extract (K p+2) (K t)=str r
 ln:K t=K p+2+K r
 at1:∀j (h:j<K t),((t[j].toNat:Int)==58)=decide (j=K p)
 at2:∀(h:K p+1<K t),((t[K p+1].toNat:Int)==32)=Q
theorem SJ {t p r:Lu}(c:t=p++[58,32]++r)(i:(58:UInt8)∉p)(g:(58:UInt8)∉r):RM t p r:=by
 have d:K t=K p+2+K r:=by rw[c];simp;omega
 refine⟨?_,?_,d,λ j h=>?_,λ h=>?_⟩
 grind [jA,TC,VL]
 rw[nY,c];have:(p++[58,32]++r).drop (K p+2)=r:=Vp sQ;rw[this,TM sU];have a:t[j]? = Z t[j]:=SU h;generalize t[j]=x at a ⊢;by_cases b:j=K p;subst b;rw[c,TC,TG aa,Nat.sub_self]at a;cases a;simp;have f:x≠58:=by grind
 rw[Q3 b,Q4];intro e;exact f (UInt8.toNat_inj.1 (by grind));have a:=SU h;generalize t[K p+1]=x at a ⊢;rw[c,TC,TG U,show K p+1-K p=1 by omega]at a;cases a;rfl
theorem LV {t p r:Lu}{g:Ln}{s d:Nat}(T:RM t p r)(hp:pcs 32 p=[Lib.decDigits s,Lib.decDigits d])(hr:pcs 32 r=g.map Lib.decDigits)(VY:∀f,t≠bU f)(hl:K t<=100000)(hs:s<=9999)(hd:d<=9999)(hw:∀n∈g,n<=9999)(Xs:K g<=100000)(w:M) :
  Zq 40 #[.string (str t)] w λ e I=>∃v,e=VJ (.tuple #[.agg #[v,J (s:Int),J (d:Int),J 0],.bool Q])/\G' I (G w.heap) 3 1 v (K g) (aH g)/\Bq w I:=by
 have X1:Bq w (E w (VP #[.slice UP 0 0,J 0,J 0,J 0] 92)):=ae.alloc aa _;have F:Vy (RZ (G w.heap) (E w (VP #[.slice UP 0 0,J 0,J 0,J 0] 92))):=⟨by simp,λ o=>⟨by rw[Tb],Um _ _ _ _⟩⟩;have a0:=qH VY;have HW:Vy ((∀n∈g,n<=9999)/\K g<=100000):=⟨hw,Xs⟩;have HT:=qH T;have HP:=qH hp;have HR:=qH hr;have Ws:=ar t;clear VY hw Xs T hp hr;go_enter func40,ntmps40;go_wp2;generalize E w (VP #[.slice UP 0 0,VN VO 0,VN VO 0,VN VO 0] 92)=w1 at *;go_loopw [4] (λ iv wr=>∃(i:Nat),1<=i/\i<=9/\iv=J i/\Bq w wr/\Vy (RZ (G w.heap) wr))
  (λ i _=>9-(intOf i).toNat)
 case atStart=>exact⟨1,dQ,dQ,rfl,X1,F⟩
 case round =>
  clear F X1;obtain⟨i,bd,bc,rfl,hB,F⟩:=hrel;by_cases VS:i<9
  ·have i1:(i:Int)<9:=U;have hr:=dJ i U wr;have hq:((str t).toList==(str (bU i)).toList)=false:=by
    rw[aD,aD,Q4];exact a0.out i
   have C:Vy (∀H,Bq wr H->RZ (G w.heap) H):=λ H hb=>F.out.below hb F.out.1;clear F;go_wp2_with fail;refine Q9 hr λ H B3=>?_;have R:=aj hB B3;have F:=qH (C.out H B3);clear hr hB C;go_wp2;go_roundw
   case rel=>exact⟨i+1,U,U,gQ,R,F⟩
   case measure=>simp[intOf];omega
  ·have i1:¬(i:Int)<9:=U;have bb:=HT.out.ln;clear a0;go_wp2;clear i1;go_loopw [5,6] (λ av iv wr2=>∃(j:Nat) (a:Int),iv=J j/\av=J a/\wr2=wr/\j+1<=K t/\((j<=K p/\a=-1)\/(K p<j/\a=(K p:Int))))
    (λ _ i _=>K t-(intOf i).toNat)
   case atStart=>exact⟨0,-1,rfl,rfl,rfl,U,SQ ⟨Te _,rfl⟩⟩
   case round =>
    obtain⟨j,a,rfl,rfl,Yt,hj,hA⟩:=hrel;subst Yt;by_cases WY:j+1<K t
    ·have i2:(j:Int)+1<(K t:Int):=U;have ao:=fe t j U;have hc:=HT.out.at1 j U;by_cases an:j=K p
     ·rcases hA with⟨W,rfl⟩|⟨W,rfl⟩
      rotate_left
      ·omega
      subst an;have aN:=fe t (K p+1) WY;have Y4:=HT.out.at2 WY;rw[Q2 rfl]at hc;generalize t[K p]=x at ao hc;generalize t[K p+1]=y at aN Y4;have ec:((K p+1:Nat):Int)=(K p:Int)+1:=U;rw[ec]at aN;clear ec;go_wp2;go_roundw
      case rel=>exact⟨K p+1,K p,gQ,rfl,trivial,U,SP ⟨U,rfl⟩⟩
      case measure=>simp[intOf];omega
     ·rw[Q3 an]at hc;generalize t[j]=x at ao hc;go_wp2;go_roundw
      case rel=>exact⟨j+1,a,gQ,rfl,trivial,U,by rcases hA with h|h;exact SQ ⟨U,h.2⟩;exact SP ⟨U,h.2⟩⟩
      case measure=>simp[intOf];omega
    ·have i2:¬(j:Int)+1<(K t:Int):=U;rcases hA with⟨W,rfl⟩|⟨W,rfl⟩
     ·omega
     have i3:¬(K p:Int)<0:=U;have x1:=HT.out.x1;have x2:=HT.out.x2;have c1:(0:Int)<=(K p:Int):=U;have c2:(K p:Int)<=(K t:Int):=U;have c3:(0:Int)<=(K p:Int)+2:=U;have c4:(K p:Int)+2<=(K t:Int):=U;have t1:((K p:Int)+2).toNat=K p+2:=U;have XG:K p<=100000:=U;have bw:K r<=100000:=U;have Xr:Zq 12 #[.string (str p),.int .u8 32] wr λ e I=>∃v,e=VJ v/\G' I (G wr.heap) 9 1 v (K (pcs 32 p)) (cQ (pcs 32 p))/\Bq wr I:=oK p 32 U wr;rw[HP.out]at Xr;clear VS bd bc bb HT;go_wp2_with fail;refine Xr.mono ?_;rintro e H ⟨v1,rfl,Wb,B3⟩;have Yt:Zq 12 #[.string (str r),.int .u8 32] H λ e I=>∃v,e=VJ v/\G' I (G H.heap) 9 1 v (K (pcs 32 r)) (cQ (pcs 32 r))/\Bq H I:=oK r 32 U H;rw[HR.out]at Yt;obtain⟨A1,k1,rfl,ax⟩:=kG Wb;have ac:=bX ax;have am:=aj hB B3;have C:=qH (F.out.below B3 F.out.1);clear Wb ax Xr B3 hB F;go_wp2_with fail;refine Yt.mono ?_;rintro e b ⟨v2,rfl,Xv,R⟩;obtain⟨A2,k2,rfl,aw⟩:=kG Xv;have a6:=bX aw;rw[TA];have ag:=am.trans (R.mono am.size);have ab:=qH (C.out.below R C.out.1);obtain⟨Y,rfl,N,S⟩:=ac.out 0 _ rfl;obtain⟨bx,bm,_,L⟩:=ac.out 1 _ rfl;cases bm;have S:=(R.cell (p:=O Y 0) N).trans S;have L:=(R.cell (p:=O Y 1) N).trans L;have aL:Y<G b.heap:=Tc N R.size;have z4:=ag.size;have b5:Bq b (E b (VP #[.slice UP 0 0,J 0,J 0,J 0] 92)):=ae.alloc aa _;have S:=(b5.cell (p:=O Y 0) aL).trans S;have L:=(b5.cell (p:=O Y 1) aL).trans L;have a4:Vy (AnA (E b (VP #[.slice UP 0 0,J 0,J 0,J 0] 92)) (G b.heap) (.slice UP 0 0) 0 0):=⟨by rw[Tb];rfl,by rw[Tb];rfl,by rw[Tb];rfl,by rw[Tb];rfl,λ _=>Um _ _ _ _⟩;have ZH:G (E b (VP #[.slice UP 0 0,J 0,J 0,J 0] 92)).heap=G b.heap+1:=(by simp);clear Yt Xv aw R am ac C N;go_upto_region 19 with fail
     generalize E b (VP #[.slice UP 0 0,VN VO 0,VN VO 0,VN VO 0] 92)=w5 at *;have YK:=ze hs w5;go_wp2_with fail;refine Q9 YK λ w6 B6=>?_;have ap:=ze hd w6;have L:=(B6.cell (p:=O Y 1) (by show Y<_;omega)).trans L;have a3:=qH (a4.out.below B6 U);clear S a4 YK;go_wp2_with fail;refine Q9 ap λ w7 B7=>?_;have u:AnA w7 (G b.heap) (.slice UP 0 0) 0 0:=a3.out.below B7 (Oq B6.size);have bs:=B6.size;have bq:=B7.size;have D7:Bq b w7:=(b5.trans (B6.mono U)).trans (B7.mono U);have n1:=u.c1;have n2:=u.c2;have a9:=u.fz 1;have a8:=u.fz 2;have a2:Vy (AnA ((C' w7 (O (G b.heap) 1) (J (s:Int))).setCell (O (G b.heap) 2) (J (d:Int))) (G b.heap) (.slice UP 0 0) s d):=u.put s d;have a5:Vy (Bq b ((C' w7 (O (G b.heap) 1) (J (s:Int))).setCell (O (G b.heap) 2) (J (d:Int)))):=(D7.setCell (p:=O (G b.heap) 1) aa _).setCell (p:=O (G b.heap) 2) aa _;have bA:G b.heap<G w7.heap:=U;clear L a3 ap D7 u b5;go_wp2;clear n1 n2 a9 a8;generalize (C' w7 (O (G b.heap) 1) (VN VO (s:Int))).setCell (O (G b.heap) 2) (VN VO (d:Int))=w8 at *;obtain⟨i0,hi,hz⟩:=TK.1 Tryz.Vxg;simp only[Prod.mk.injEq]at hz;obtain⟨VZ,Wa,Wc⟩:=hz;go_loopw [11,14] (λ a7 iv wr=>∃(m:Nat) (A:Oa) (c:Nat),m<=K g/\a7=.bool Q/\iv=J m/\Bq b wr/\Vy (AnA wr (G b.heap) (.slice A m c) s d/\G' wr (G b.heap+1) 3 1 (.slice A m c) m (aH (g.take m))))
      (λ _ i _=>K g-(intOf i).toNat)
     case atStart=>exact⟨0,UP,0,Te _,rfl,rfl,a5.out,⟨a2.out,To _ _ _ _⟩⟩
     case round =>
      clear a2 a5;obtain⟨m,A,c,hm,rfl,rfl,B,HI⟩:=hrel;have X6:G b.heap<G wr.heap:=aB HI.out.1.c0;by_cases bn:m<K g
      ·obtain⟨x,hx⟩:∃x,g[m]? = Z x:=⟨_,SU bn⟩;obtain⟨b2,bf,be,y0⟩:=a6.out m (Lib.decDigits x) (by rw[Tz,hx];rfl);subst bf;have y0:=(B.cell (p:=O b2 m) be).trans y0;have X8:=HW.out.1 x (Ti hx);have Z4:=HW.out.2;have i4:(m:Int)<(K g:Int):=U;have hf:=ze X8 wr;have HX:Vy (aH (g.take (m+1))=aH (g.take m)++[J (x:Int)]):=by
        unfold Vy;obtain⟨X7,he⟩:=Th.1 hx;rw[Tx X7,he];show List.map _ _=List.map _ _++_;rw[UE];rfl
       clear hx;go_wp2_with fail;refine Q9 hf λ w9 B9=>?_;have X:=HI.out.1.below B9 X6;have Yf:=ak HI.out.2 B9;have n0:=X.c0;have a1:=qH X;have au:Bq b w9:=B.trans (B9.mono (Nat.le_of_lt X6));have bl:G b.heap<G w9.heap:=Tc X6 B9.size;clear hf HI B9 X y0 B X6;go_wp2_with (at_builtin;refine Vxk _ rfl _ _ 60 rfl (G b.heap+1) 3 i0 (J 0) 1 8 underlying60 hi VZ Wa Wc rfl dQ _ _ _ rfl (Yf.alloc _) (O (G w9.heap) 0) 1 1 [J x] rfl rfl ?c1 ?c2 ?c3 ?c4 ?c5 ?_)
       case c1=>exact Vye _ _ _
       case c2=>intro z hz;simp at hz;subst hz;rfl
       case c3=>unfold Vyf;omega
       case c4=>omega
       case c5=>simp;omega
       intro v' YI VR VQ _;have ad:Vw (G b.heap+1) w9 YI:=(ae.alloc bl _).grown VQ sU (λ q hq=>(Yf.lt q hq).1);have P:=a1.out.below ad (Ur _);obtain⟨A',c',rfl,_⟩:=fu VR;rw[<- List.map_take]at VR;have n0:=P.c0;have nf:=P.fz 0;have bk:Vy (AnA (C' YI (O (G b.heap) 0) (.slice A' (m+1) c')) (G b.heap) (.slice A' (m+1) c') s d/\G' (C' YI (O (G b.heap) 0) (.slice A' (m+1) c')) (G b.heap+1) 3 1 (.slice A' (m+1) c') (m+1) (aH (g.take (m+1)))):=⟨P.set _,by rw[HX.out];exact ownsRow_setCell_below VR (a:=O (G b.heap) 0) (Ur _) _⟩;have bi:Vy (Bq b (C' YI (O (G b.heap) 0) (.slice A' (m+1) c'))):=(au.trans (ad.mono (Nat.le_succ _))).setCell (p:=O (G b.heap) 0) aa _;clear VR VQ Yf a1 au ad P HX;go_wp2;go_roundw
       case rel=>exact⟨m+1,A',c',U,rfl,gQ,bi.out,bk⟩
       case measure=>simp[intOf];omega
      ·have ba:m=K g:=U;subst ba;obtain⟨hN,V⟩:=HI.out;rw[Tl]at V;obtain⟨n0,n1,n2,n3,_⟩:=hN;have l:=ab.out.below B ab.out.1;have p0:=(l.2 0).1;have p1:=(l.2 1).1;have p2:=(l.2 2).1;have p3:=(l.2 3).1;have f0:=(l.2 0).2;have f1:=(l.2 1).2;have f2:=(l.2 2).2;have f3:=(l.2 3).2;have ay:=SG (v0:=.slice A (K g) c) (v1:=J (s:Int)) (v2:=J (d:Int)) (v3:=J 0) (ag.trans (B.mono z4)) aa p0 p1 p2 p3;have HQ:Vy (G' ((((C' wr (O (G w.heap) 0) (.slice A (K g) c)).setCell (O (G w.heap) 1) (J (s:Int))).setCell (O (G w.heap) 2) (J (d:Int))).setCell (O (G w.heap) 3) (J 0)) (G w.heap) 3 1 (.slice A (K g) c) (K g) (aH g)):=Iq (ownsRow_setCell_below (ownsRow_setCell_below (ownsRow_setCell_below (ownsRow_setCell_below V (a:=O (G w.heap) 0) (Nat.lt_succ_of_le z4) _) (a:=O (G w.heap) 1) (Nat.lt_succ_of_le z4) _) (a:=O (G w.heap) 2) (Nat.lt_succ_of_le z4) _) (a:=O (G w.heap) 3) (Nat.lt_succ_of_le z4) _) U;have bp:Vy _:=ay;clear ay l ab HI V B ag a6 HW;go_wp2;obtain⟨S,L,q2,q3,qB⟩:=bp.out;refine bodyPost_ret (v:=.tuple #[.agg #[.slice A (K g) c,J (s:Int),J (d:Int),J 0],.bool Q]) (by simp[results,results40,go_sem,S,L,q2,q3]) rfl ⟨_,rfl,HQ.out,qB⟩
theorem cel {b:M}{a:Addr}(h:Bq w b)(k:D w a=Z v):D b a=Z v:=al h k
theorem fL {b o:Nat}(h:Cq w b o v):∀x:cJ w,Cq x.u b o v:=λ x=>(x.cell _ _ (aB h)).trans h
def RSo (w:M) (L pb:Nat) (x:Option Ses):Prop:=(x=UP/\D w (O pb 0)=Z (.pointer UP))\/∃s xb mb,x=Z s/\D w (O pb 0)=Z (Pq xb)/\L<=xb/\L<=mb/\RSv w xb mb s.W s.H s.V s.Y s.N'/\1<=s.N'/\s.N'<=6
structure dR (w:M) (L pb:Nat) (x:Option Ses):Prop where
 o:RSo w L pb x
 fz:w.frozen? (O pb 0)=Vl
 lp:L<=pb
theorem RSo.c {x:Option Ses}(h:RSo w L pb x):∃p,Cq w pb 0 (.pointer p):=by grind [RSo]
theorem dR.lt {x:Option Ses}(S:dR w L pb x):pb<G w.heap:=by
 obtain⟨p,h⟩:=S.o.c;exact aB h
theorem dR.below {x:Option Ses}(S:dR w L pb x)(a:Bq w I):dR I L pb x:=by
 have b:=S.lt;refine⟨?_,(a.frozen (p:=O pb 0) b).trans S.fz,S.lp⟩;rcases S.o with⟨d,c⟩|⟨s,xb,mb,d,c,h,g,f,e⟩
 exact SQ ⟨d,(a.cell (p:=O pb 0) b).trans c⟩;exact SP ⟨s,xb,mb,d,(a.cell (p:=O pb 0) b).trans c,h,g,f.below a,e⟩
theorem dR.put {x:Option Ses}{s:Ses}(S:dR w L pb x)(g:L<=xb)(i:L<=mb)(R:RSv w xb mb s.W s.H s.V s.Y s.N')(b:pb≠xb)(a:pb≠mb)(f:1<=s.N')(d:s.N'<=6):dR (C' w (O pb 0) (Pq xb)) L pb (Z s):=by
 obtain⟨p,h⟩:=S.o.c;have j:ai (λ k=>k=pb) w (C' w (O pb 0) (Pq xb)):=(ai.refl (λ k=>k=pb) w).setCell (p:=O pb 0) (λ _=>rfl) _;exact⟨SP ⟨s,xb,mb,rfl,Tf _ _ _ h,g,i,R.X' j (λ e=>b e.symm) (λ e=>a e.symm),f,d⟩,(TL _ _ _ _).trans S.fz,S.lp⟩
def FtP (w I:M) (L pb:Nat) (x':Option Ses) (e:Ending):Prop:=e=VJ (.bool Q)/\dR I L pb x'/\Vw L w I
theorem FtP.of {x:Option Ses}{e:Ending}(S:dR w L pb x)(b:e=VJ (.bool Q))(a:Bq w I):FtP w I L pb x e :=
 ⟨b,S.below a,a.mono (by have:=S.lp;have:=S.lt;omega)⟩
theorem LW {a:Ln}{s d:Nat}(j:a≠[])(k:K a<=1000)(g:s<=9999)(h:d<=9999)(c:∀n∈a,n<=9999)(w:M) :
  Zq 40 #[.string (str (dA [s,d]++[58,32]++dA a))] w λ e I=>∃v,e=VJ (.tuple #[.agg #[v,J (s:Int),J (d:Int),J 0],.bool Q])/\G' I (G w.heap) 3 1 v (K a) (aH a)/\Bq w I:=by
 have i:=iA (l:=[s,d]) (by intro n b;simp at b;omega);have m:=iA (l:=a) (λ n b=>by have:=c n b;omega);refine LV (SJ rfl (qL dQ dQ _) (qL dQ dQ _)) (by rw[y8 sQ];rfl) (y8 j) (λ f=>Qf) ?_ g h c U w;simp only[Td,Tk,Ut]at i ⊢;omega
theorem Bl {Y:Bn}{a t s d b:Int}{c:Ln}(j:1<=W)(r:W*H<=256)(R:Rt W H Y a t c s d b)(w:M) :
  Zq 40 #[.string (str (iJ c s d b))] w λ e I=>∃v,e=VJ (.tuple #[.agg #[v,J s,J d,J b],.bool Q])/\G' I (G w.heap) 3 1 v (K c) (aH c)/\Bq w I:=by
 have z:=R.bd;have y:=R.len;have x:=R.lt j r;by_cases f:b=0;obtain⟨l,e,_⟩:=R.path (R.ok f).1 f;have u:c≠[]:=by rw[e];simp
 obtain⟨k,rfl⟩:∃n:Nat,s=n:=⟨s.toNat,U⟩;obtain⟨q,rfl⟩:∃n:Nat,d=n:=⟨d.toNat,U⟩;subst f;have h:=LW (s:=k) (d:=q) u U U U (λ n m=>by have:=x n m;omega) w;unfold iJ wj;rw[Q5 (show Int.toNat 0=0 from rfl),Ta,Ta];exact h;obtain⟨rfl,rfl,rfl⟩:=R.err_no f;obtain⟨i,rfl⟩:∃n:Nat,b=n:=⟨b.toNat,by have:=R.err8;omega⟩;have g:1<=i/\i<=8:=by have:=R.err8;omega
 unfold iJ wj;rw[Ta,Q6 U];exact(LL g.1 g.2 w).mono λ e I ⟨p,o⟩=>⟨_,p,To _ _ _ _,o⟩
theorem Od {W H:Int}{Y:Bn}(b:1<=W)(c:W<=16)(h:1<=H)(g:H<=16):mr W H Y N'<=65536:=by
 by_cases d:∃p:Nat×LSt,Rds N' (crs W H Y (W*H).toNat) ⟨λ _=>0,esF W H Y⟩ p.1 p.2/\mz N' (crs W H Y (W*H).toNat) p.1 p.2;obtain⟨⟨k,i⟩,f,o⟩:=d;have q:=bG b c h g;have B:=Btw.rds (show (0:Int)<=16 by omega) ((iF (W:=W) (H:=H) (Y:=Y) b).btw b c h g) f;have l:∀n,K (i.es n)<=256:=λ n=>gF.len (L:=crs W H Y (W*H).toNat) (λ a=>⟨B.lrd.esy.ord a,λ e m=>(B.cor.ends m).2⟩) (λ n j=>by have:=(cU.1 j).1;omega) n;unfold mr;rw[pD f o];exact qE (λ n=>Tg (TH _ _) (l n)) 256;unfold mr lvK;rw[dif_neg d];exact qE (λ n=>by show _<=256;exact Tg (TH _ _) (Te _)) 256
theorem Oe {Y:Bn}(a:1<=N'):(lvK W H Y N').1+1<=N':=by
 by_cases b:∃p:Nat×LSt,Rds N' (crs W H Y (W*H).toNat) ⟨λ _=>0,esF W H Y⟩ p.1 p.2/\mz N' (crs W H Y (W*H).toNat) p.1 p.2;obtain⟨⟨k,e⟩,c,d⟩:=b;rw[pD c d];cases k with
 |zero=>exact a
 |succ k=>obtain⟨_,_,_,h,_⟩:=c;exact h
 unfold lvK;rw[dif_neg b];exact a
def swB (a b:UInt8) (s:Lu) (i j:Nat):UInt8:=if j<i/\s.getD j 0=a then b else s.getD j 0
theorem Ql {a b:UInt8}{s:Lu}(c:j<K (swp a b s)):(swp a b s)[j]=swB a b s (K s) j:=by grind [swp,swB]
theorem Pf:prog.underlying 80=Z (.slice 5):=kQ
theorem Pg:prog.underlying 5=Z (.int .u8):=kQ
theorem sP (s:Lu)(a b:UInt8)(S:K s<=1000000)(w:M) :
  Rq 15 #[.string (str s),.int .u8 (a.toNat:Int),.int .u8 (b.toNat:Int)] w (.string (str (swp a b s))):=by
 have F:=ar s;have l:=run_bytes_of_string (P:=Vyj) w 9 80 5 (str s) Vyh Pf Pg;rw[F]at l;have m:Bq w (E w.drew (.cells (bytesRow (str s) (Vyd w (K s) 0 5)) 5 ((bytesRow (str s) (Vyd w (K s) 0 5)).size,(bytesRow (str s) (Vyd w (K s) 0 5)).size+1))):=(ae.drew).alloc aa _;have n:Vy (∀j,j<K s->D (E w.drew (.cells (bytesRow (str s) (Vyd w (K s) 0 5)) 5 ((bytesRow (str s) (Vyd w (K s) 0 5)).size,(bytesRow (str s) (Vyd w (K s) 0 5)).size+1))) (O (G w.heap) j)=Z (.int .u8 ((swB a b s 0 j).toNat:Int))/\(E w.drew (.cells (bytesRow (str s) (Vyd w (K s) 0 5)) 5 ((bytesRow (str s) (Vyd w (K s) 0 5)).size,(bytesRow (str s) (Vyd w (K s) 0 5)).size+1))).frozen? (O (G w.heap) j)=Vl):=by
  intro j c;have C:(str s).data.size=K s:=F;have I:=bytesRow_at (str s) (Vyd w (K s) 0 5) j (by rw[C];exact c);have u:(bytesRow (str s) (Vyd w (K s) 0 5)).size ≥ K s:=by
   unfold bytesRow;rw[Array.size_append,Array.size_map,C];omega
  refine⟨?_,?_⟩
  ·refine(World.cell?_alloc_mark w.drew _ 5 _ j).trans (I.trans ?_);unfold swB;rw[Q6 U];have e:s.getD j 0=s[j]:=(by rw[List.getD_eq_getElem?_getD,SU c];rfl);rw[e];rfl
  ·have:=World.frozen?_alloc_mark w.drew (bytesRow (str s) (Vyd w (K s) 0 5)) 5 (bytesRow (str s) (Vyd w (K s) 0 5)).size ((bytesRow (str s) (Vyd w (K s) 0 5)).size+1) j;refine this.trans ?_;rw[Q3 U,Bool.false_and]
 have z:=bX m;clear m;have B:=bX n;clear n;go_enter func15,ntmps15;go_wp2;clear l;rw[show∀X,(E w X).drew=E w.drew X from λ _=>rfl];generalize E w.drew (.cells (bytesRow (str s) (Vyd w (K s) 0 5)) 5 ((bytesRow (str s) (Vyd w (K s) 0 5)).size,(bytesRow (str s) (Vyd w (K s) 0 5)).size+1))=N at *;generalize Vyd w (K s) 0 5=cap at *;go_loopw [8] (λ iv wr=>∃(i:Nat),i<=K s/\iv=J i/\Bq w wr/\Vy (∀j,j<K s->D wr (O (G w.heap) j)=Z (.int .u8 ((swB a b s i j).toNat:Int))/\wr.frozen? (O (G w.heap) j)=Vl))
  (λ i _=>K s-(intOf i).toNat)
 case atStart=>exact⟨0,Te _,rfl,z.out,B⟩
 case round =>
  obtain⟨i,V,rfl,o,f⟩:=hrel;by_cases L:i<K s
  ·have R:(i:Int)<(K s:Int):=U;obtain⟨y,f1⟩:=f.out i L;have v:swB a b s i i=s.getD i 0:=Q6 U;rw[v]at y;by_cases g:s.getD i 0=a
   ·have A:Vy (∀j,j<K s->D (C' wr (O (G w.heap) i) (.int .u8 (b.toNat:Int))) (O (G w.heap) j)=Z (.int .u8 ((swB a b s (i+1) j).toNat:Int))/\(C' wr (O (G w.heap) i) (.int .u8 (b.toNat:Int))).frozen? (O (G w.heap) j)=Vl):=by
     intro j c;refine⟨?_,(TL _ _ _ _).trans (f.out j c).2⟩;by_cases q:j=i
     ·subst q;rw[Tf _ _ _ y];unfold swB;rw[Q5 ⟨Ur _,g⟩]
     ·rw[SY _ _ _ _ (by simp<;>omega),(f.out j c).1];unfold swB;by_cases d:j<i/\s.getD j 0=a
      ·rw[Q5 d,Q5 ⟨U,d.2⟩]
      ·rw[Q6 d,Q6 (λ h=>d ⟨U,h.2⟩)]
    have t:Bq w (C' wr (O (G w.heap) i) (.int .u8 (b.toNat:Int))):=o.trans (((ai.refl (λ k=>k=G w.heap) wr).setCell (p:=O (G w.heap) i) (λ _=>rfl) _).Z' o.size (λ k e=>U));rw[g]at y;clear f g v B z;go_wp2;go_roundw
    case rel=>exact⟨i+1,U,gQ,t,A⟩
    case measure=>simp[intOf];omega
   ·have A:Vy (∀j,j<K s->D wr (O (G w.heap) j)=Z (.int .u8 ((swB a b s (i+1) j).toNat:Int))/\wr.frozen? (O (G w.heap) j)=Vl):=by
     intro j c;refine⟨?_,(f.out j c).2⟩;rw[(f.out j c).1];unfold swB;by_cases d:j<i/\s.getD j 0=a
     ·rw[Q5 d,Q5 ⟨U,d.2⟩]
     ·rw[Q6 d,Q6 (λ h=>d ⟨by
       rcases Nat.lt_or_ge j i with u|u
       ·exact u
       ·have:j=i:=U;subst this;exact Q8 h.2 g,h.2⟩)]
    have T:(((s.getD i 0).toNat:Int)==(a.toNat:Int))=false:=by
     rw[Q4];intro e;exact g (UInt8.toNat_inj.1 U)
    generalize s.getD i 0=x at *;clear f g v B z;go_wp2;go_roundw
    case rel=>exact⟨i+1,U,gQ,o,A⟩
    case measure=>simp[intOf];omega
  ·have e:i=K s:=U;subst e;have H:K (swp a b s)=K s:=(by unfold swp;rw[TA]);have r:=run_convert_bytes_back (P:=Vyj) wr 80 9 5 (O (G w.heap) 0) cap (swp a b s) Pf Pg Vyh (λ j c=>by
    have:=(f.out j U).1;rw[Addr.add_mid,Tm,this,Ql c])
   rw[H]at r;go_wp2;go_ret;exact⟨rfl,o⟩
section
variable {L pb : Nat} {x x' : Option Ses} {line t : List UInt8}
theorem Of (w:M)(S:dR w L pb x)(m:K line<=1200)(h:1100<K line)(c:gp x line t x') :
  Zq 8 #[Pq pb,.string (str line),.string (str t)] w λ e I=>FtP w I L pb x' e:=by
 have b:=sM h;obtain⟨rfl,rfl⟩:t=bU 3/\x'=x:=by
  rcases c with⟨_,a,f⟩|⟨k,ns,j,a,_⟩
  ·exact⟨a,f⟩
  ·rw[b]at a;cases a
 have d:Rq 11 #[J 3] w (.string (str (bU 3))):=dJ 3 dQ w;have l:(1100:Int)<(K line:Int):=U;have n:=ar line;have HS:=qH S;clear S c b;go_enter func8,ntmps8;go_wp2_with fail;refine Q9 d λ i g=>?_;go_wp2;go_ret;exact FtP.of HS.out rfl g
theorem Qm (t:Lu)(m:Int):0<=ldE t m/\ldE t m<=8:=⟨Lk t m,Ls t m⟩
theorem Oh {rest:Lu}(w:M)(S:dR w L pb x)(hl:¬1100<K line)(e:line=[108,111,97,100]++32::rest)(hT:gp x line t x') :
  Zq 8 #[Pq pb,.string (str line),.string (str t)] w λ e I=>FtP w I L pb x' e:=by
 have a:=DE hl e;have am:Vy (K line=K rest+5):=by unfold Vy;rw[e];simp
 have B:=am.out;have i1:¬(1100:Int)<(K line:Int):=U;have i2:(5:Int)<=(K line:Int):=U;have Ws:=ar line;have ax:=ar rest;have YF:(str line).extract 0 5=⟨#[108,111,97,100,32]⟩:=by rw[jA,e];rfl
 have ab:(str line).extract 5 (K line)=str rest:=by rw[kq,e];rfl
 have A:Zq 12 #[.string (str rest),.int .u8 32] w λ e I=>∃v,e=VJ v/\G' I (G w.heap) 9 1 v (K (pcs 32 rest)) (cQ (pcs 32 rest))/\Bq w I:=oK rest 32 U w;have n0:(0:Int)<(K (pcs 32 rest):Int):=by rw[rS,Tk];omega
 have ay:K rest<=1095:=U;have HP:=qH a;have HT:=qH hT;have HS:=qH S;have Y5:=lS 32 rest;have ao:=yW 32 rest;clear S hT a e hl B;go_enter func8,ntmps8;go_wp2_with fail;refine A.mono ?_;rintro e w1 ⟨v,rfl,Wb,B1⟩;obtain⟨A1,k1,rfl,F⟩:=kG Wb;obtain⟨b1,rfl,ag,c1⟩:=F 0 (cuA 32 rest) (by rw[rS];rfl);have R:=mW (cuA 32 rest) U w1;clear A F Wb YF ab i1 i2 Ws;generalize K (pcs 32 rest)=np at *;go_wp2_with fail;refine R.mono ?_;rintro e w2 ⟨hF,B2⟩;have c2:=(B2.cell (p:=O b1 0) ag).trans c1;have BB:=aj B1 B2;clear R c1;rcases hF with⟨v,j,rfl⟩|⟨j,v,rfl⟩
 rotate_left
 ·have a:=HP.out;rw[kB]at j;rw[j]at a;obtain⟨rfl,rfl⟩:t=bU 3/\x'=x:=by
   rcases HT.out with⟨_,b,N⟩|⟨k,ns,tx,b,_⟩
   ·exact⟨b,N⟩
   ·rw[a]at b;cases b
  have hf:Rq 11 #[J 3] w2 (.string (str (bU 3))):=dJ 3 dQ w2;clear a j HP HT c2;go_wp2_with fail;refine Q9 hf λ w3 B3=>?_;have i:=aj BB B3;go_wp2;go_ret;exact FtP.of HS.out rfl i
 have P:(ldE (swp 47 10 (cuZ 32 rest)) v≠0/\t=bU (ldE (swp 47 10 (cuZ 32 rest)) v).toNat/\x'=x)\/(ldE (swp 47 10 (cuZ 32 rest)) v=0/\∃W H d,cH (swp 47 10 (cuZ 32 rest))=.good W H d/\t=okS/\x'=Z ⟨W,H,v.toNat,blocks d,dZ d⟩):=by
  have a:=HP.out;rw[kB]at j;rw[j]at a;rcases HT.out with⟨z,_,_⟩|⟨k,ns,tx,b,N⟩
  ·rw[a]at z;cases z
  ·rw[a]at b;cases b;rcases N with⟨h,_⟩|⟨_,m,h3,h4⟩|⟨h,_⟩|⟨h,_⟩
   ·cases h
   ·cases h3;exact h4
   ·omega
   ·omega
 have HA:Vy _:=P;have C:=λ w0=>KJ (swp 47 10 (cuZ 32 rest)) v w0 (λ n h=>Fa h);have Yu:=Qm (swp 47 10 (cuZ 32 rest)) v;have a0:(str (cuA 32 rest)).size=K (cuA 32 rest):=ar _;have g:∀w0,Rq 15 #[.string (str (cuZ 32 rest)),.int .u8 47,.int .u8 10] w0 (.string (str (swp 47 10 (cuZ 32 rest)))):=λ w0=>sP (cuZ 32 rest) 47 10 U w0;clear P j HP HT;by_cases X:cuB 32 rest=Q;have e:=(uW 32 rest).1 X;have r:K rest=K (cuA 32 rest)+1+K (cuZ 32 rest):=by
  have:=Q7 List.length e;rw[Td,Tk]at this;omega
 have au:(str rest).extract (K (cuA 32 rest)+1) (K rest)=str (cuZ 32 rest):=by
  have e2:rest.drop (K (cuA 32 rest)+1)=cuZ 32 rest:=by
   have e3:=Q7 (λ l=>l.drop (K (cuA 32 rest)+1)) e;rw[e3,<- Vj,Vp rfl];rfl
  rw[kq,e2]
 have j1:(K (cuA 32 rest):Int)<(K rest:Int):=U;have j2:(0:Int)<=(K (cuA 32 rest):Int)+1:=U;have j3:(K (cuA 32 rest):Int)+1<=(K rest:Int):=U;have j4:((K (cuA 32 rest):Int)+1).toNat=K (cuA 32 rest)+1:=U;have a2:K (cuA 32 rest)<=1100:=U;have q:=g;clear e X g r;generalize str (cuZ 32 rest)=zs at *;generalize ldE (swp 47 10 (cuZ 32 rest)) v=V at *;generalize str (swp 47 10 (cuZ 32 rest))=ss at *;generalize K (cuA 32 rest)=na at *;generalize str (cuA 32 rest)=aw at *
 rotate_left
 have e:=(uW 32 rest).2 (by simpa using X);have r:=Q7 List.length e.1;have j1:¬(K (cuA 32 rest):Int)<(K rest:Int):=U;have q:∀w0,Rq 15 #[.string ⟨#[]⟩,.int .u8 47,.int .u8 10] w0 (.string (str (swp 47 10 (cuZ 32 rest)))):=λ w0=>by
  have:=g w0;rw[e.2]at this ⊢;exact this
 clear e X g r;generalize ldE (swp 47 10 (cuZ 32 rest)) v=V at *;generalize str (swp 47 10 (cuZ 32 rest))=ss at *;generalize K (cuA 32 rest)=na at *;generalize str (cuA 32 rest)=aw at *
 all_goals
  go_wp2_with fail;refine Q9 (q _) λ w3 B3=>?_;have i:=aj BB B3;clear q c2;go_wp2_with fail;refine(C _).mono ?_;rintro e T ⟨B4,hR⟩;have y:=aj i B4;clear C;rcases hR with⟨z,rfl⟩|⟨z,xb,mb,k,W,H,d,hg,rfl,ad,ac,X8,aL,rfl,RV⟩
  ·obtain⟨rfl,rfl⟩:t=bU V.toNat/\x'=x:=by
    rcases HA.out with h|h
    ·exact h.2
    ·exact Q8 h.1 z
   obtain⟨f,rfl⟩:∃f:Nat,V=f:=⟨V.toNat,U⟩;rw[Ta];have u:=xN (x:=Pq pb) (v:=.pointer UP) f U U T;clear HA;go_wp2_with fail;refine Q9 u λ w5 B5=>?_;have an:=aj y B5;go_wp2;go_ret;exact FtP.of HS.out rfl an
  ·obtain⟨rfl,rfl⟩:t=okS/\x'=Z ⟨W,H,k,blocks d,dZ d⟩:=by
    rcases HA.out with h|⟨_,W',H',a1,b,N,h3⟩
    ·exact Q8 z h.1
    ·rw[hg]at b;cases b;exact⟨N,h3⟩
   have Y:=HS.out.below y;obtain⟨p,hc⟩:=Y.o.c;have aN:=HS.out.lt;have ap:=i.size;have hL:=HS.out.lp;have HN:Vy (dR (C' T (O pb 0) (Pq xb)) L pb (Z ⟨W,H,k,blocks d,dZ d⟩)/\Vw L w (C' T (O pb 0) (Pq xb))):=⟨Y.put (s:=⟨W,H,k,blocks d,dZ d⟩) U U RV U U ad ac,(y.mono U).setCell (p:=O pb 0) hL _⟩;have u:=Be (v:=Pq xb) T hc Y.fz ⟨_,rfl⟩;have he:str okS=str [111,107]:=rfl;rw[he];clear HA Y RV hc hg;go_wp2_with fail;refine Q0 u ?_;go_wp2;go_ret;exact⟨rfl,HN.out.1,HN.out.2⟩
end
theorem LX {s:Ses}{A:Oa}{a t f i g:Int}{j:Ln}(w:M)(S:dR w L pb (Z s))(h:de w A [a,t])(R:Rt s.W s.H s.Y a t j f i g) :
  Zq 18 #[Pq pb,.string ⟨#[97,115,107]⟩,.slice A 2 cap,.string (str (iJ j f i g))] w λ e I=>FtP w I L pb (Z s) e:=by
 obtain⟨b,o,rfl,P,N⟩:=qF h;obtain⟨xb,mb,T,l⟩:∃xb mb,Cq w pb 0 (Pq xb)/\RSv w xb mb s.W s.H s.V s.Y s.N':=by
  rcases S.o with⟨e,_⟩|⟨s',xb,mb,e,h1,_,_,h2,_⟩
  ·cases e
  ·cases e;exact⟨xb,mb,h1,h2⟩
 have Y:=(bG l.ra.w1 l.ra.w2 l.ra.h1 l.ra.h2).2;have q:=Bl l.ra.w1 Y R w;have r:=qH R;have HS:=qH S;have HV:=qH l;clear h R S l Y;go_enter func18,ntmps18;go_wp2_with fail;refine q.mono ?_;rintro e C ⟨v,rfl,F,B1⟩;obtain⟨z,c,rfl,_⟩:=fu F;have m:Bq w (E C (VP #[.slice z (K j) c,J f,J i,J g] 92)):=B1.alloc B1.size _;have X:=World.ownsRow.alloc F (VP #[.slice z (K j) c,J f,J i,J g] 92);have d:=An.new C (.slice z (K j) c) f i g;clear q F;go_upto_region 19 with fail
 generalize E C (VP #[.slice z (K j) c,VN VO f,VN VO i,VN VO g] 92)=B at *;have S0:=fL (cel m T);have S1:=fL (cel m P);have S2:=fL (cel m N);have S3:=fL d.c0;have S4:=fL d.c1;have S5:=fL d.c2;have S6:=fL d.c3;have VY:Nonempty (cJ B):=gB B;have k:=HV.out.below m;have n:Vy (∀x:cJ B,Rq 41 #[Pq xb,J a,J t,.agg #[.slice z (K j) c,J f,J i,J g]] x.u (.bool Q)):=λ x=>xx x.u (k.below x.h).c0 (k.below x.h).ra (ak X x.h) r.out;clear d X k T P N r;refine bF kQ kQ ?_
 repeat (go_big_quiet_step ((go_at_call 41;exact Calls.Vxe (n.out _))))
 refine Vza ?_;rintro _ ⟨x,rfl⟩;have HB:Bq w x.u:=m.trans (x.h.mono m.size);clear S0 S1 S2 S3 S4 S5 S6 VY n;generalize x.u=y at *;go_wp2;go_ret;exact FtP.of HS.out rfl HB
theorem DQ {b:Nat}{H V:Int}{Y:Bn}(c d:Nat)(w:M)(g:bo w b W H V Y)(T:inB W H c=Q)(l:d<8) :
  Dq 39 #[Pq b,J c,J d] w (J (clr W H Y ((c:Int)%W) ((c:Int)/W) d:Nat)):=by
 obtain⟨k1,k2⟩:=bG g.w1 g.w2 g.h1 g.h2;have C:=g.w1;have A:=g.w2;have s:=g.h1;have B:=g.h2;have q:=yM W H Y ((c:Int)%W) ((c:Int)/W) d;go_enter func39,ntmps39;go_wp2;go_loopg [1,7] (clr W H Y ((c:Int)%W) ((c:Int)/W) d) (λ gk cv R wr=>∃(a:Int) (n:Nat),gk=clr W H Y (a%W) (a/W) d/\cv=J a/\R=J n/\inB W H a=Q/\n+clr W H Y (a%W) (a/W) d=clr W H Y ((c:Int)%W) ((c:Int)/W) d/\∃m,wr=w.drewN m)
 case atStart=>exact⟨c,0,rfl,rfl,rfl,T,U,0,rfl⟩
 case round =>
  obtain⟨a,n,I,rfl,rfl,F,j,e⟩:=hrel;have o:bo wr b W H V Y:=by obtain⟨m,p⟩:=e;rw[p];exact g.drewN m
  have L:∀k,Vy (∃m,wr.drewN k=w.drewN m):=λ k=>by obtain⟨m,p⟩:=e;rw[p];exact⟨m+k,xV w m k⟩
  clear e;have c0:=o.c0;obtain⟨Yx,i⟩:=qt C F;have X:0<=a/\a<W*H:=Q1 F;obtain⟨x1,x2,y1,y2⟩:=iH.1 Yx;obtain⟨q1,q2⟩:=X;have HG:=qH I;have HS:=qH j;clear I;have hn:n<=16:=U;clear j;cases h:bu W H Y (a%W) (a/W) d with
  |false =>
   have S:=Fh h;go_wp2;go_quiet ((go_at_call 67;exact Calls.quiet_of (ym h _ (o.drewN _) l U U U U)));go_wp2;go_ret;refine⟨?_,(L _).out⟩;have:=HS.out;rw[S]at this;rw[<- this];rfl
  |true =>
   have v:=Fg A B l h;have x:=Kg h;have f:=(gR h).2;obtain⟨P,z,y⟩:=gS f;have VS:=(yN C A s B f).2;rw[i]at x;generalize idx W (a%W+ah d) (a/W+af d)=r at *;rw[<- z,<- y]at v;have N:=qH v;have u:inB W H r=true:=Q2 ⟨U,VS⟩;have t:=λ w g=>EF (b:=b) (H:=H) (V:=V) (Y:=Y) x w g l U U;clear P z y f v x i q;go_wp2;go_quiet ((go_at_call 67;exact Calls.quiet_of (ym h _ (o.drewN _) l U U U U)));go_wp2_with (go_at_call 68;refine Q0 (t _ ((o.drewN _))) ?_);go_roundg (clr W H Y ((r:Int)%W) ((r:Int)/W) d)
   case measure=>have:=HG.out;have:=N.out;omega
   case rel=>exact⟨r,n+1,rfl,rfl,gQ,u,by have:=HS.out;have:=N.out;omega,(L _).out⟩
theorem dR.has {s:Ses}(S:dR w L pb (Z s)):∃xb mb,Cq w pb 0 (Pq xb)/\L<=xb/\L<=mb/\RSv w xb mb s.W s.H s.V s.Y s.N'/\1<=s.N'/\s.N'<=6:=by
 rcases S.o with⟨e,_⟩|⟨a,xb,mb,e,h⟩
 cases e;cases e;exact⟨xb,mb,h⟩
section
variable {L pb cap : Nat} {s : Ses} {A : Option Addr} {c d : Int}
theorem wt (w:M)(S:dR w L pb (Z s))(h:de w A [c,d])(p:inB s.W s.H c=Vl\/d<0\/8<=d) :
  Zq 18 #[Pq pb,.string ⟨#[108,111,111,107]⟩,.slice A 2 cap,.string (str (bU 1))] w λ e I=>FtP w I L pb (Z s) e:=by
 obtain⟨b,o,rfl,k,z⟩:=qF h;have lb:b<G w.heap:=aB k;have lp:=S.lt;obtain⟨xb,mb,C,_,_,g,_⟩:=S.has;have lx:xb<G w.heap:=aB g.c0;have R:Nonempty (cJ w):=gB w;have Y:=fL C;have X:=fL k;have V:=fL z;have T:=fL g.c0;have t:Vy (∀x:cJ w,Rq 38 #[Pq mb,J c] x.u (J (isB s.W s.H c))):=λ x=>by
  unfold isB;by_cases a:inB s.W s.H c=Q
  ·rw[Q5 a];exact(pj c x.u (g.below x.h).ra a).mono λ e I ⟨r,m,q⟩=>⟨r,by rw[q];exact Vxj ae m⟩
  ·rw[Q6 a];exact(yj c x.u (g.below x.h).ra (by simpa using a)).mono λ e I ⟨r,m,q⟩=>⟨r,by rw[q];exact Vxj ae m⟩
 have B:Vy (∀j:M,Rq 11 #[J 1] j (.string (str (bU 1)))):=λ j=>dJ 1 dQ j;have HS:=qH S;clear h S g C k z;have P:inB s.W s.H c=Vl\/(inB s.W s.H c=Q/\d<0)\/(inB s.W s.H c=Q/\¬d<0/\7<d):=by
  cases F:inB s.W s.H c
  ·exact SQ rfl
  ·rw[F]at p;rcases p with h|h|h
   ·cases h
   ·exact SP (SQ ⟨rfl,h⟩)
   ·exact SP (SP ⟨rfl,U,U⟩)
 clear p;rcases P with a|⟨a,n⟩|⟨a,n,l⟩
 have i:isB s.W s.H c=1:=by unfold isB;rw[a];rfl
 rotate_left
 have i:isB s.W s.H c=0:=by unfold isB;rw[a];rfl
 have d1:=Q2 n
 rotate_left
 have i:isB s.W s.H c=0:=by unfold isB;rw[a];rfl
 have d1:=Q3 n;have d2:=Q2 l
 all_goals
  rw[i]at t;clear a i;go_enter func18,ntmps18;go_upto_region 14 with fail
  refine bF kQ kQ ?_
  repeat (go_big_quiet_step ((go_at_call 38;exact Calls.Vxe (t.out _))))
  refine Vza ?_;rintro _ ⟨x,rfl⟩;have HB:Bq w x.u:=x.h;have N:=B.out x.u;clear Y X V T R t B;generalize x.u=y at *;go_wp2_with fail;refine Q9 N λ w3 B3=>?_;have v:=aj HB B3;go_wp2;go_ret;exact FtP.of HS.out rfl v
theorem zf (w:M)(S:dR w L pb (Z s))(h:de w A [c,(j:Int)])(p:inB s.W s.H c=Q)(hj:j<8) :
  Zq 18 #[Pq pb,.string ⟨#[108,111,111,107]⟩,.slice A 2 cap,.string (str (Lib.decDigits (clr s.W s.H s.Y (c%s.W) (c/s.W) j)))] w λ e I=>FtP w I L pb (Z s) e:=by
 obtain⟨b,o,rfl,C,T⟩:=qF h;have lb:b<G w.heap:=aB C;have lp:=S.lt;obtain⟨xb,mb,V,_,_,i,_⟩:=S.has;have lx:xb<G w.heap:=aB i.c0;obtain⟨a,rfl⟩:∃n:Nat,c=n:=⟨c.toNat,by have q:0<=c/\c<s.W*s.H:=Q1 p;omega⟩;have P:Nonempty (cJ w):=gB w;have B:=fL V;have v:=fL C;have t:=fL T;have r:=fL i.c0;have X:Vy (∀x:cJ w,Rq 38 #[Pq mb,J (a:Int)] x.u (J 0)):=λ x =>
   (pj a x.u (i.below x.h).ra p).mono λ e I ⟨N,m,F⟩=>⟨N,by rw[F];exact Vxj ae m⟩
 have ab:=yM s.W s.H s.Y ((a:Int)%s.W) ((a:Int)/s.W) j;have HS:=qH S;have HC:Vy (∀f:M,Bq w f->Rq 39 #[Pq mb,J (a:Int),J (j:Int)] f (J (clr s.W s.H s.Y ((a:Int)%s.W) ((a:Int)/s.W) j:Nat))):=λ f hb=>(DQ a j f (i.below hb).ra p hj).mono λ e I ⟨N,m,F⟩=>⟨N,by rw[F];exact Vxj ae m⟩;clear h S i V C T p;generalize clr s.W s.H s.Y ((a:Int)%s.W) ((a:Int)/s.W) j=k at *;have HD:Vy (∀f:M,Rq 34 #[J (k:Int)] f (.string (str (Lib.decDigits k)))):=λ f=>nW k k aa U f;generalize str (Lib.decDigits k)=tx at *;have d1:decide ((j:Int)<0)=false:=Q3 U;have d2:decide (7<(j:Int))=false:=Q3 U;have d:Vy (∀x:cJ w,Rq 39 #[Pq mb,J (a:Int),J (j:Int)] x.u (J (k:Int))):=λ x=>HC.out x.u x.h;go_enter func18,ntmps18;go_upto_region 14 with fail
 refine bF kQ kQ ?_
 repeat (go_big_quiet_step ((go_at_call 38;exact Calls.Vxe (X.out _))))
 refine Vza ?_;rintro _ ⟨x,rfl⟩;have l:Bq w x.u:=x.h;have T0:=B x;have T1:=v x;have T2:=t x;have Y:=r x;clear B v t r P X d;generalize x.u=y at *;clear x;have ly:=l.size;have B:=fL T0;have v:=fL T1;have t:=fL T2;have r:=fL Y;have P:Nonempty (cJ y):=gB y;have d:Vy (∀x:cJ y,Rq 39 #[Pq mb,J (a:Int),J (j:Int)] x.u (J (k:Int))):=λ x=>HC.out x.u (l.trans (x.h.mono l.size));clear T0 T1 T2 Y;go_upto_region 16 with fail
 refine bF kQ kQ ?_
 repeat (go_big_quiet_step (first|(go_at_call 39;exact Calls.Vxe (d.out _))|(go_at_call 34;exact Calls.Vxe (HD.out _))))
 refine Vza ?_;rintro _ ⟨x,rfl⟩;have R:Bq w x.u:=l.trans (x.h.mono l.size);clear B v t r P d;generalize x.u=z at *;go_wp2;go_ret;exact FtP.of HS.out rfl R
end
section
open Go.RowKit Go.Lib
structure S7 (w:M) (B:Nat) (a0 a1 a2 a3 a4 a5 a6:Int):Prop where
 c0:D w (O B 0)=Z (J a0)
 c1:D w (O B 1)=Z (J a1)
 c2:D w (O B 2)=Z (J a2)
 c3:D w (O B 3)=Z (J a3)
 c4:D w (O B 4)=Z (J a4)
 c5:D w (O B 5)=Z (J a5)
 c6:D w (O B 6)=Z (J a6)
 fz:∀o,w.frozen? (O B o)=Vl
 zz:D w (O B 7)=UP
section
variable {w I : M} {B : Nat} {a0 a1 a2 a3 a4 a5 a6 : Int}
theorem S7.lt (h:S7 w B a0 a1 a2 a3 a4 a5 a6):B<G w.heap:=aB h.c0
theorem S7.X' {F:Nat->Prop}(h:S7 w B a0 a1 a2 a3 a4 a5 a6)(b:ai F w I)(a:¬F B):S7 I B a0 a1 a2 a3 a4 a5 a6 :=
 ⟨b.cellOf h.c0 a,b.cellOf h.c1 a,b.cellOf h.c2 a,b.cellOf h.c3 a,b.cellOf h.c4 a,b.cellOf h.c5 a,b.cellOf h.c6 a,λ o=>(b.frozen (p:=O B o) h.lt a).trans (h.fz o),(b.cell (p:=O B 7) h.lt a).trans h.zz⟩
theorem S7.below (h:S7 w B a0 a1 a2 a3 a4 a5 a6)(a:Bq w I):S7 I B a0 a1 a2 a3 a4 a5 a6:=h.X' (F:=λ _=>False) (ai.Y' a) id
theorem DR (w:M)(a0 a1 a2 a3 a4 a5 a6:Int):S7 (E w (VP #[J a0,J a1,J a2,J a3,J a4,J a5,J a6] 97)) (G w.heap) a0 a1 a2 a3 a4 a5 a6:=by
 have k:=λ o=>Tb (w:=w) #[J a0,J a1,J a2,J a3,J a4,J a5,J a6] 97 o;exact⟨k 0,k 1,k 2,k 3,k 4,k 5,k 6,bC w _ _ _ aa,k 7⟩
theorem fo (w:M){B i j:Nat}(v:Vr)(h:j≠i):D (C' w (O B j) v) (O B i)=D w (O B i):=by grind [Go.World.cell?_setCell_other,Go.Addr.mk.inj]
theorem LY (w:M)(B k:Nat)(v:Vr):ai (λ b=>b=B) w (C' w (O B k) v):=by grind [ai.setCell,ai.refl]
theorem S7.s1 (h:S7 w B a0 a1 a2 a3 a4 a5 a6)(v:Int):S7 (C' w (O B 1) (J v)) B a0 v a2 a3 a4 a5 a6:=⟨(fo w _ dQ).trans h.c0,Tf _ _ _ h.c1,(fo w _ dQ).trans h.c2,(fo w _ dQ).trans h.c3,(fo w _ dQ).trans h.c4,(fo w _ dQ).trans h.c5,(fo w _ dQ).trans h.c6,λ o=>(TL ..).trans (h.fz o),(fo w _ dQ).trans h.zz⟩
theorem S7.s2 (h:S7 w B a0 a1 a2 a3 a4 a5 a6)(v:Int):S7 (C' w (O B 2) (J v)) B a0 a1 v a3 a4 a5 a6:=⟨(fo w _ dQ).trans h.c0,(fo w _ dQ).trans h.c1,Tf _ _ _ h.c2,(fo w _ dQ).trans h.c3,(fo w _ dQ).trans h.c4,(fo w _ dQ).trans h.c5,(fo w _ dQ).trans h.c6,λ o=>(TL ..).trans (h.fz o),(fo w _ dQ).trans h.zz⟩
theorem S7.s3 (h:S7 w B a0 a1 a2 a3 a4 a5 a6)(v:Int):S7 (C' w (O B 3) (J v)) B a0 a1 a2 v a4 a5 a6:=⟨(fo w _ dQ).trans h.c0,(fo w _ dQ).trans h.c1,(fo w _ dQ).trans h.c2,Tf _ _ _ h.c3,(fo w _ dQ).trans h.c4,(fo w _ dQ).trans h.c5,(fo w _ dQ).trans h.c6,λ o=>(TL ..).trans (h.fz o),(fo w _ dQ).trans h.zz⟩
theorem S7.s4 (h:S7 w B a0 a1 a2 a3 a4 a5 a6)(v:Int):S7 (C' w (O B 4) (J v)) B a0 a1 a2 a3 v a5 a6:=⟨(fo w _ dQ).trans h.c0,(fo w _ dQ).trans h.c1,(fo w _ dQ).trans h.c2,(fo w _ dQ).trans h.c3,Tf _ _ _ h.c4,(fo w _ dQ).trans h.c5,(fo w _ dQ).trans h.c6,λ o=>(TL ..).trans (h.fz o),(fo w _ dQ).trans h.zz⟩
theorem S7.s5 (h:S7 w B a0 a1 a2 a3 a4 a5 a6)(v:Int):S7 (C' w (O B 5) (J v)) B a0 a1 a2 a3 a4 v a6:=⟨(fo w _ dQ).trans h.c0,(fo w _ dQ).trans h.c1,(fo w _ dQ).trans h.c2,(fo w _ dQ).trans h.c3,(fo w _ dQ).trans h.c4,Tf _ _ _ h.c5,(fo w _ dQ).trans h.c6,λ o=>(TL ..).trans (h.fz o),(fo w _ dQ).trans h.zz⟩
theorem S7.off {e n g:Nat}{xs:List Vr}(s:S7 w B a0 a1 a2 a3 a4 a5 a6)(h:G' w base e 4 v n xs)(c:M' v=Z g):g≠B:=by
 rintro rfl;rcases h.2 with⟨rfl,_⟩|⟨b,cap,a,rfl,_,d,_,_,l,_⟩
 simp[Value.ownBlock]at c;simp[Value.ownBlock]at c;subst c;have i:a[6]? = Z (J a6):=by simpa [U2,d]using s.c6
 have f:a[7]? = none:=by simpa [U2,d]using s.zz
 have k:=(Array.getElem?_eq_some_iff.1 i).1;have j:=Array.getElem?_eq_none_iff.1 f;omega
end
section
variable {w I : M} {rb mb cap nk : Nat} {A : Option Addr} {L : List Nat} {es : Nat → List LE} {f : Int → Option Vr}
theorem RGm.X' {F:Nat->Prop}(G9:RGm w rb mb cap nk A L es f)(a:ai F w I)(g:¬F rb)(s:¬F mb)(r:∀b o,A=Z (O b o)->¬F b)(q:∀(n:Int) d k c,f n=Z (.slice d k c)->∀b o,d=Z (O b o)->¬F b):RGm I rb mb cap nk A L es f :=
 ⟨a.cellOf G9.p0 g,a.cellOf G9.p1 g,λ i m=>by
  obtain⟨b,o,e,l,p⟩:=G9.row i m;exact⟨b,o,e,Tc l a.size,a.cellOf p (r b o e)⟩,G9.mp.X' a s,λ n j=>by
  obtain⟨d,u,h,t⟩:=G9.yes n j;exact⟨d,u,h,t.X' a (q _ _ _ _ h)⟩,G9.no⟩
end
structure Qn (rb mb:Nat) (A:Oa) (f:Int->Option Vr) (B:Nat):Prop where
 r:¬rb=B
 m:¬mb=B
 a:∀b o,A=Z (O b o)->¬b=B
 e:∀(n:Int) A' k c,f n=Z (.slice A' k c)->∀b o,A'=Z (O b o)->¬b=B
theorem RGt.apt7 {t N:Nat}{a0 a1 a2 a3 a4 a5 a6:Int}{Y:Bn}{A u:Oa}{R:Nat->List Vr}{f:Int->Option Vr}{L:Ln}(G9:RGt w t rb mb W H V Y A u cap R L f)(E9:Eds w W H Y L f (K L))(q:∀b o,A=Z (O b o)->N<=b)(x:B<N)(s:S7 w B a0 a1 a2 a3 a4 a5 a6):Qn rb mb A f B:=by
 refine⟨?_,?_,λ b o e=>by have:=q b o e;omega,λ n y k c a b o e=>?_⟩;rintro rfl;have h:=G9.p0;rw[s.c0]at h;cases h;rintro rfl;have h:=G9.mp.cell 0;rw[s.c0]at h;cases h;by_cases d:∃j,j<K L/\n=((L.getD j 0:Nat):Int);obtain⟨v,l,m,i,_⟩:=E9.1 n d;rw[a]at m;cases m;subst e;rcases i.2 with⟨h,_⟩|⟨g,p,r,h,_⟩
 cases h;cases h;exact s.off i rfl;rw[E9.2 n d]at a;cases a
end
theorem DS {vb l s:Nat}{L:Ln}{st:LSt}{f:Int->Option Vr}(w:M)(V:RLv w lb vb l s L st f)(c:∀n,K (st.es n)<=256) :
  Rq 74 #[Pq lb] w (J ((eV (lN st.es) (dI L) 256:Nat):Int)):=by
 have c1:=V.c1;have au:=V.lts.2.2;have g:=V.em.mp;have HV:=qH V;have XE:=qH V.bd;have j:=qH c;have H:Vy (∀(x:Int) (v:Vr),f x=Z v->∃n:Nat,x=(n:Int)/\n∈L):=λ x v h=>by
  by_cases q:0<=x/\x.toNat∈L
  ·exact⟨x.toNat,U,q.2⟩
  ·rw[V.no x q]at h;cases h
 have Y:Vy (eV (lN st.es) (λ z=>dI L z&&!(λ i=>(f i).isSome) z) 256=0):=by
  have e:(λ z=>dI L z&&!(λ i=>(f i).isSome) z)=λ _=>false:=by
   funext z
   cases a:dI L z with
   |false=>rfl
   |true =>
    have N:0<=z/\z.toNat∈L:=Q1 a;obtain⟨A,cap,R,_⟩:=V.yes z.toNat N.2;rw[TE N.1]at R;show (Q&&!(f z).isSome)=Vl;rw[R];rfl
  unfold Vy;rw[e];exact xy _ _
 clear V c;generalize cM (fO f) 256=nk at *;go_enter func74,ntmps74;go_wp2_with (first|(at_range;refine cO rfl _ 137 rfl 3 140 aV Tryz.Vxa l _ _ rfl g ?_;intro w3 Xf W ac)|go_in);have B3:Bq w w3:=ae.grown W aa sQ;clear W g c1;go_loopg [3] nk (λ gj sv p=>∃(left:Int->Bool) (cnt:Nat),gj=cnt/\iM Vyj 3 p l (G w.heap) f nk left cnt/\sv=J ((eV (lN st.es) (λ z=>dI L z&&!left z) 256:Nat):Int)/\Bq w p/\G w.heap<G p.heap)
 case atStart=>exact⟨_,_,rfl,Xf,by rw[Y.out];rfl,B3,U⟩
 case round =>
  clear Xf B3 Y;obtain⟨left,cnt,ag,y,rfl,m,ad⟩:=hrel;have ab:=Fw (lN st.es) (λ z=>dI L z&&!left z) 256 (λ n=>Tg (TH _ _) (j.out n)) 256;go_wp2_with (first|(at_next;refine di rfl _ rfl 3 aV l (G w.heap) _ _ _ _ rfl y ?_ ?_)|go_in)
  ·intro am XN;have HE:Vy ((λ z=>dI L z&&!left z)=dI L):=by
    unfold Vy
    funext z
    rw[XN z];simp
   clear y XN;go_wp2;go_ret;exact⟨by rw[HE.out];rfl,m⟩
  ·intro x v r Wt Zd T X WU VS W9 Yy ZG;obtain⟨n,t,B⟩:=H.out x v X;subst t;have B4:Bq w r:=m.grown W9 m.size (λ k e=>by cases e;omega);have u:G w.heap<G r.heap:=U;have C:=HV.out.below B4;obtain⟨A4,XH,an,Yz,_⟩:=C.edges B;have ao:=C.c1;have F:Vy (eV (lN st.es) (λ z=>dI L z&&!(left z&&!decide (z=(n:Int)))) 256=eV (lN st.es) (λ z=>dI L z&&!left z) 256+lN st.es n):=AO (XE.out n B) B T;have ap:=j.out n;clear y m W9 Yy C X T;generalize eV (lN st.es) (λ z=>dI L z&&!left z) 256=S0 at *;go_wp2;go_loopw [3,5] (λ kv iv wr=>∃i:Nat,i<=K (st.es n)/\iv=J i/\kv=J ((S0:Int)+(K (((st.es n).take i).filter (λ e=>decide (0<=e.U6)&&decide (n<e.to))):Nat))/\wr=r)
    (λ _ i _=>K (st.es n)-(intOf i).toNat)
   case atStart=>exact⟨0,Te _,rfl,by simp,rfl⟩
   case round =>
    obtain⟨i,hi,rfl,rfl,rfl⟩:=hrel;have XY:K (((st.es n).take i).filter (λ e=>decide (0<=e.U6)&&decide (n<e.to)))<=256:=Tg (TH _ _) (by rw[Ts];omega);by_cases XC:i<K (st.es n)
    ·obtain⟨e,d⟩:∃e,(st.es n)[i]? = Z e:=⟨(st.es n)[i],SU XC⟩;obtain⟨bb,oo,rfl,q0,q1,q2,q3⟩:=Yz i e d;have i1:(0:Int)<=(i:Int):=U;have i2:(i:Int)<(K (st.es n):Int):=U;by_cases b:0<=e.U6/\n<e.to
     ·have o:Vy _:=KT d b;have d1:decide (0<=e.U6)=true:=Q2 b.1;have d2:decide ((n:Int)<(e.to:Int))=true:=Q2 U;clear b d;generalize K (((st.es n).take i).filter (λ e=>decide (0<=e.U6)&&decide (n<e.to)))=S at *;generalize (e.to:Int)=P at *;generalize e.U6=g at *;go_wp2;go_roundw
      case rel=>exact⟨i+1,U,gQ,by rw[o.out];push_cast;rw[TT],trivial⟩
      case measure=>simp[intOf];omega
     ·have o:Vy _:=NX d b;clear d;by_cases a:0<=e.U6
      ·have d1:decide (0<=e.U6)=true:=Q2 a;have d2:decide ((n:Int)<(e.to:Int))=false:=Q3 (λ q=>b ⟨a,U⟩);clear b a;generalize K (((st.es n).take i).filter (λ e=>decide (0<=e.U6)&&decide (n<e.to)))=S at *;generalize (e.to:Int)=P at *;generalize e.U6=g at *;go_wp2;go_roundw
       case rel=>exact⟨i+1,U,gQ,by rw[o.out],trivial⟩
       case measure=>simp[intOf];omega
      ·have d1:decide (0<=e.U6)=false:=Q3 a;clear b a;generalize K (((st.es n).take i).filter (λ e=>decide (0<=e.U6)&&decide (n<e.to)))=S at *;generalize (e.to:Int)=P at *;generalize e.U6=g at *;go_wp2;go_roundw
       case rel=>exact⟨i+1,U,gQ,by rw[o.out],trivial⟩
       case measure=>simp[intOf];omega
    ·have ei:i=K (st.es n):=U;subst ei;have I:Vy (((((st.es n).take (K (st.es n))).filter (λ e=>decide (0<=e.U6)&&decide (n<e.to))).length:Nat)=lN st.es n):=by
      unfold Vy;rw[Tl];rfl
     go_wp2;go_roundg Wt
     case measure=>omega
     case rel=>exact⟨_,Wt,rfl,WU,by rw[F.out,I.out];push_cast;rfl,B4,u⟩
section
open Go.RowKit Go.Lib
structure RS (w0 w:M) (B xb mb rb gm cap nk:Nat) (A:Oa) (L:Ln) (es:Nat->List LE) (f:Int->Option Vr) (W H V:Int) (Y:Bn) (N':Nat) (a1 a3:Int):Prop where
 s:S7 w B (W*H) a1 (K L:Nat) a3 0 0 V
 u:S7 w (G w0.heap) 0 0 0 0 0 0 0
 r:RSv w xb mb W H V Y N'
 g:RGm w rb gm cap nk A L es f
 b:Vw (G w0.heap) w0 w
 n:¬xb=B/\¬mb=B/\¬G w0.heap=B/\G w0.heap<=B
 a:Qn rb gm A f B
 e:es=esF W H Y
 l:L=crs W H Y (W*H).toNat
section
variable {w0 w I : M} {B xb mb rb gm cap nk : Nat} {A : Option Addr} {L : List Nat} {es : Nat → List LE} {f : Int → Option Vr} {W H V : Int} {Y : Nat → Bool} {N' : Nat} {a1 a3 : Int}
theorem RS.below (h:RS w0 w B xb mb rb gm cap nk A L es f W H V Y N' a1 a3)(c:Bq w I):RS w0 I B xb mb rb gm cap nk A L es f W H V Y N' a1 a3 :=
 ⟨h.s.below c,h.u.below c,h.r.below c,h.g.below c,h.b.trans (c.mono h.b.size),h.n,h.a,h.e,h.l⟩
theorem RS.s3 (h:RS w0 w B xb mb rb gm cap nk A L es f W H V Y N' a1 a3)(v:Int):RS w0 (C' w (O B 3) (J v)) B xb mb rb gm cap nk A L es f W H V Y N' a1 v:=by
 have c:=LY w B 3 (J v);exact⟨h.s.s3 v,h.u.X' c h.n.2.2.1,h.r.X' c h.n.1 h.n.2.1,h.g.X' c h.a.r h.a.m h.a.a h.a.e,h.b.trans (c.Z' h.b.size (λ k e=>by have:=h.n.2.2.2;omega)),h.n,h.a,h.e,h.l⟩
theorem RS.cb (h:RS w0 w B xb mb rb gm cap nk A L es f W H V Y N' a1 a3):(∀x∈L,x<256)/\K L<=256/\L.Pairwise (·<·)/\Btw L 0 16 ⟨λ _=>0,es⟩/\∀l,edN W H Y l<=256*K l:=by
 obtain⟨d,a,c,b⟩:1<=W/\W<=16/\1<=H/\H<=16:=⟨h.r.ra.w1,h.r.ra.w2,h.r.ra.h1,h.r.ra.h2⟩;have i:=bG d a c b;rw[h.l,h.e];exact⟨λ x g=>by have:=(cU.1 g).1;omega,by have:=fx W H Y (W*H).toNat;omega,iE W H Y _,(iF (W:=W) (H:=H) (Y:=Y) d).btw d a c b,uO d a c b⟩
theorem RS.at (h:RS w0 w B xb mb rb gm cap nk A L es f W H V Y N' a1 (edN W H Y (L.take j):Nat))(p:j<K L) :
  ∃d c a k b l i,A=Z (O d c)/\i=edN W H Y (L.take j)/\i+l<=65536/\Cq w d (c+j) (J (a:Nat))/\(Instr.lookup 137 (.map (Z gm)) (J (a:Nat)) Vl).run Vyj w.drew=.ok (.slice k l b) w.drew/\Cq w rb 0 (.slice A (K L) cap)/\Cq w rb 1 (.map (Z gm))/\Cq w B 3 (J (i:Nat))/\w.frozen? (O B 3)=Vl /\
   RS w0 (C' w.drew (O B 3) (J ((i:Int)+(l:Int)))) B xb mb rb gm cap nk A L es f W H V Y N' a1 (edN W H Y (L.take (j+1)):Nat):=by
 obtain⟨d,c,u,_,C⟩:=h.g.row j p;obtain⟨a,n⟩:∃a,L[j]? = Z a:=⟨L[j],SU p⟩;have r:Cq w d (c+j) (J (a:Int)):=by grind
 have o:=Ti n;obtain⟨x,F,_,_,v⟩:=h.cb;have I:=x a o;have q:Bq w w.drew:=ae.drew;obtain⟨k,b,t,_⟩:=h.g.yes a o;have y:(Instr.lookup 137 (.map (Z gm)) (J (a:Int)) Vl).run Vyj w.drew=.ok (.slice k (K (es a)) b) w.drew:=(h.g.below q).mp.Ui aV Tryz.Vxa (mm _) (aE U U) t Vl;have z:edN W H Y (L.take (j+1))=edN W H Y (L.take j)+K (es a):=by rw[h.e];exact AQ n
 have m:=v (L.take (j+1));rw[Ts]at m;refine⟨d,c,a,k,b,K (es a),edN W H Y (L.take j),u,rfl,U,r,y,h.g.p0,h.g.p1,h.s.c3,h.s.fz 3,?_⟩;have:=(h.below q).s3 ((edN W H Y (L.take j):Nat)+(K (es a):Nat));rw[z];exact this
theorem RS.end (h:RS w0 w B xb mb rb gm cap nk A L es f W H V Y N' a1 (edN W H Y (L.take (K L)):Nat))(l:1<=N')(j:N'<=6) :
  ∃(c:Nat) (a:Int),c=edN W H Y L/\a=((c/2:Nat):Int)/\Int.tdiv (c:Int) 2=a/\IntKind.i64.wrap a=a/\Cq w rb 0 (.slice A (K L) cap)/\Cq w B 3 (J (c:Nat))/\w.frozen? (O B 3)=Vl/\Cq (C' w (O B 3) (J a)) xb 1 (J (N':Int)) /\
   RS w0 (C' w (O B 3) (J a)) B xb mb rb gm cap nk A L es f W H V Y N' a1 a /\
   Zq 73 #[Pq rb,J (N':Int)] (C' w (O B 3) (J a)) (λ e I=>∃lb i o k b n,e=VJ (Pq lb)/\Rds N' L ⟨λ _=>0,es⟩ k b/\mz N' L k b/\RLv I lb i o (k+1) L ⟨dP (k+1) b,b.es⟩ n/\Bq (C' w (O B 3) (J a)) I):=by
 rw[Tl]at h;obtain⟨v,u,t,q,p⟩:=h.cb;have m:=p L;have d:=h.s3 ((edN W H Y L/2:Nat):Int);exact⟨edN W H Y L,_,rfl,rfl,by rw[Int.tdiv_eq_ediv_of_nonneg U];omega,jX U U,h.g.p0,h.s.c3,h.s.fz 3,d.r.c1,d,AE _ d.g t v u q l j⟩
theorem RS.VE {o:Int}{r y k:Nat}{st:LSt}{x:Int->Option Vr}(h:RS w0 w B xb mb rb gm cap nk A L es f W H V Y N' a1 o)(t:Bq w I)(j:Rds N' L ⟨λ _=>0,es⟩ k st)(v:mz N' L k st)(R:RLv I lb r y (k+1) L ⟨dP (k+1) st,st.es⟩ x) :
  ∃au:Nat,((mr W H Y N':Nat):Int)/2=au/\(lvK W H Y N').1=k/\RS w0 I B xb mb rb gm cap nk A L es f W H V Y N' a1 o/\Cq I lb 2 (J ((k:Int)+1))/\¬lb=B/\Zq 74 #[Pq lb] I (λ e C=>e=VJ (J (au:Int))/\Bq I C):=by
 obtain⟨p,P,N,z,F⟩:=h.cb;have m:=h.below t;have BT:=Btw.rds (show (0:Int)<=16 by omega) z j;have d:∀n,K (st.es n)<=256:=λ n=>gF.len (L:=L) (λ a=>⟨BT.lrd.esy.ord a,λ e c=>(BT.cor.ends c).2⟩) p n;have g:=DS I R d;have b:=pD (W:=W) (H:=H) (Y:=Y) (N':=N') (k:=k) (st:=st) (by rw[<- h.l,<- h.e];exact j) (by rw[<- h.l];exact v);have u:mr W H Y N'=2*eV (lN st.es) (dI L) 256:=by
  unfold mr;rw[b,<- h.l];exact Hn BT.lrd.esy (λ c=>BT.cor.ends c) p (λ c=>BT.lrd.esy.off c)
 refine⟨eV (lN st.es) (dI L) 256,by rw[u];push_cast;omega,by rw[b],m,R.c2,λ q=>?_,g⟩;have i:=R.c0;rw[q,m.s.c0]at i;cases i
theorem RS.two {d:Int}{au:Nat}(h:RS w0 w B xb mb rb gm cap nk A L es f W H V Y N' a1 d)(c:Cq w lb 2 (J ((k:Int)+1)))(j:¬lb=B) :
  w.cell? (O B 4)=Z (J 0)/\w.frozen? (O B 4)=Vl/\Cq (C' w (O B 4) (J (au:Int))) lb 2 (J ((k:Int)+1))/\Cq (C' w (O B 4) (J (au:Int))) B 5 (J 0)/\(C' w (O B 4) (J (au:Int))).frozen? (O B 5)=Vl /\
   S7 ((C' w (O B 4) (J (au:Int))).setCell (O B 5) (J ((k:Int)+1))) B (W*H) a1 (K L:Nat) d (au:Int) ((k:Int)+1) V/\S7 ((C' w (O B 4) (J (au:Int))).setCell (O B 5) (J ((k:Int)+1))) (G w0.heap) 0 0 0 0 0 0 0/\Bq w0 ((C' w (O B 4) (J (au:Int))).setCell (O B 5) (J ((k:Int)+1))):=by
 have a:=LY w B 4 (J (au:Int));have T:=h.s.s4 (au:Int);have i:=LY (C' w (O B 4) (J (au:Int))) B 5 (J ((k:Int)+1));have g:=h.b.trans (a.Z' h.b.size (λ k e=>by have:=h.n.2.2.2;omega));exact⟨h.s.c4,h.s.fz 4,a.cellOf c j,T.c5,T.fz 5,T.s5 _,(h.u.X' a h.n.2.2.1).X' i h.n.2.2.1,g.trans (i.Z' g.size (λ k e=>by have:=h.n.2.2.2;omega))⟩
end
structure R1 (w0 w:M) (B xb mb:Nat) (W H V:Int) (Y:Bn) (N':Nat) (a1:Int):Prop where
 s:S7 w B (W*H) a1 0 0 0 0 V
 u:S7 w (G w0.heap) 0 0 0 0 0 0 0
 r:RSv w xb mb W H V Y N'
 b:Vw (G w0.heap) w0 w
 n:¬xb=B/\¬mb=B/\¬G w0.heap=B/\G w0.heap<=B
section
variable {w0 w I : M} {B xb mb : Nat} {W H V : Int} {Y : Nat → Bool} {N' : Nat} {a1 : Int}
theorem R1.s1 (h:R1 w0 w B xb mb W H V Y N' a1)(v:Int):R1 w0 (C' w (O B 1) (J v)) B xb mb W H V Y N' v:=by
 have a:=LY w B 1 (J v);exact⟨h.s.s1 v,h.u.X' a h.n.2.2.1,h.r.X' a h.n.1 h.n.2.1,h.b.trans (a.Z' h.b.size (λ k e=>by have:=h.n.2.2.2;omega)),h.n⟩
theorem R1.new (u:S7 w (G w0.heap) 0 0 0 0 0 0 0)(r:RSv w xb mb W H V Y N')(b:Bq w0 w)(e:G w.heap=G w0.heap+1):R1 w0 ((E w (VP #[J (W*H),J 0,J 0,J 0,J 0,J 0,J V] 97)).drew) (G w0.heap+1) xb mb W H V Y N' (frN Y 0:Nat):=by
 have S:=(DR w (W*H) 0 0 0 0 0 V).below (ae.drew);have d:Bq w ((E w (VP #[J (W*H),J 0,J 0,J 0,J 0,J 0,J V] 97)).drew):=(ae.alloc aa _).drew;have c:=r.below d;rw[e]at S;refine⟨S,u.below d,c,aj b d,⟨λ h=>?_,λ h=>?_,U,U⟩⟩;have a:=c.c0;rw[h,S.c0]at a;cases a;have a:=c.ra.cs 0 dQ;rw[h]at a;have f:=S.c2;rw[f]at a;cases a
theorem R1.graph (h:R1 w0 w B xb mb W H V Y N' a1):Zq 72 #[Pq mb] w λ e I=>∃rb gm cap nk A L es f,e=VJ (Pq rb)/\K L<=256/\Cq I rb 0 (.slice A (K L) cap)/\Cq I B 2 (J 0)/\I.frozen? (O B 2)=Vl/\RS w0 (C' I (O B 2) (J (K L:Nat))) B xb mb rb gm cap nk A L es f W H V Y N' a1 (edN W H Y (L.take 0):Nat):=by
 refine(Dn w h.r.ra h.r.lts.2).mono ?_;rintro e p ⟨rb,gm,A,y,cap,x,f,rfl,i,l,hb3,q⟩;have d:=h.s.below hb3;have c:Qn rb gm A f B:=i.apt7 l q h.s.lt d;have j:=i.gm l (iF (W:=W) (H:=H) (Y:=Y) h.r.ra.w1);have v:=bG h.r.ra.w1 h.r.ra.w2 h.r.ra.h1 h.r.ra.h2;have g:=LY p B 2 (J (K (crs W H Y (W*H).toNat):Nat));have o:=h.b.trans (hb3.mono h.b.size);refine⟨rb,gm,cap,_,A,_,_,f,rfl,by have:=fx W H Y (W*H).toNat;omega,j.p0,d.c2,d.fz 2,?_,(h.u.below hb3).X' g h.n.2.2.1,(h.r.below hb3).X' g h.n.1 h.n.2.1,j.X' g c.r c.m c.a c.e,o.trans (g.Z' o.size (λ k e=>by have:=h.n.2.2.2;omega)),h.n,c,rfl,rfl⟩;have t:((edN W H Y ((crs W H Y (W*H).toNat).take 0):Nat):Int)=0:=by unfold edN;rw[Vk];rfl
 rw[t];exact d.s2 _
end
end
section
open Go.RowKit Go.Lib
theorem DT {Y:Bn}(w:M)(R:RSv w xb mb W H V Y N')(m1:1<=N')(m6:N'<=6) :
  Rq 42 #[Pq xb] w (.agg (stV W H V Y N')):=by
 have WS:=bG R.ra.w1 R.ra.w2 R.ra.h1 R.ra.h2;have ab:IntKind.i64.wrap (W*H)=W*H:=fX U U;obtain⟨h,hK⟩:∃h:Nat,W*H=(h:Int):=⟨(W*H).toNat,U⟩;have k:Vy (W*H=(h:Int)/\h<=256/\1<=N'/\N'<=6):=⟨hK,U,m1,m6⟩;have b0:Bq w (E w (VP #[J 0,J 0,J 0,J 0,J 0,J 0,J 0] 97)):=ae.alloc aa _;have R0:=R.below b0;have VZ:G (E w (VP #[J 0,J 0,J 0,J 0,J 0,J 0,J 0] 97)).heap=G w.heap+1:=by simp
 have WT:=qH (R1.new (DR w 0 0 0 0 0 0 0) R0 b0 VZ);obtain⟨q0,_,⟨_,_,_,_,q1,q2,q3,_⟩,_⟩:=R0;have ba:Bq (E w (VP #[J 0,J 0,J 0,J 0,J 0,J 0,J 0] 97)) ((E w (VP #[J 0,J 0,J 0,J 0,J 0,J 0,J 0] 97)).alloc (VP #[J 0,J 0,J 0,J 0,J 0,J 0,J 0] 97)):=ae.alloc aa _;obtain⟨a0,_,⟨_,_,_,_,a1,a2,a3,_⟩,_⟩:=(R.below b0).below ba;obtain⟨s0,s1,s2,s3,s4,s5,s6,sz,_⟩:=DR (E w (VP #[J 0,J 0,J 0,J 0,J 0,J 0,J 0] 97)) 0 0 0 0 0 0 0;clear hK R m1 m6 WS b0 ba;go_enter func42,ntmps42;go_upto_region 1 with fail
 generalize E w (VP #[VN VO 0,VN VO 0,VN VO 0,VN VO 0,VN VO 0,VN VO 0,VN VO 0] 97)=wa at *;go_region;clear ab q0 q1 q2 q3 a0 a1 a2 a3 s0 s1 s2 s3 s4 s5 s6 sz VZ;generalize (E wa (VP #[VN VO (W*H),VN VO 0,VN VO 0,VN VO 0,VN VO 0,VN VO 0,VN VO V] 97)).drew=wb at *;generalize G w.heap+1=B at *;go_wp2_with fail;go_loopw [4] (λ iv wr=>∃c:Nat,c<=h/\iv=J c/\R1 w wr B xb mb W H V Y N' (frN Y c:Nat))
  (λ i _=>h-(intOf i).toNat)
 case atStart=>exact⟨0,Te _,rfl,WT.out⟩
 case round =>
  obtain⟨c,hc,rfl,b⟩:=hrel;by_cases VS:c<h
  ·as_aux_lemma =>
    obtain⟨x0,x1,y1,m,rc,cl,c2,XY⟩:Cq wr B 0 (J (W*H))/\Cq wr B 1 (J (frN Y c:Nat))/\wr.frozen? ⟨B,1,UP⟩=Vl/\Cq wr xb 0 (Pq mb)/\Cq wr mb (2+c) (.bool (Y c))/\(c:Int)<W*H/\(c:Int)<256/\frN Y c<=c:=by
     have h2:=k.out.2.1;exact⟨b.s.c0,b.s.c1,b.s.fz 1,b.r.c0,b.r.ra.cs c U,by rw[k.out.1];omega,U,uN Y c⟩
    have HS:=qH b;have HF:Vy (((frN Y (c+1):Nat):Int)=(frN Y c:Nat)+if Y c then 0 else 1):=(by unfold Vy;show ((frN Y c+(if Y c then 0 else 1):Nat):Int)=_;split<;>simp);clear b;cases g:Y c with
    |true =>
     rw[g]at rc HF;clear g;go_wp2;go_roundw
     case rel=>exact⟨c+1,U,gQ,by rw[HF.out];exact(by simpa using HS.out)⟩
     case measure=>simp[intOf];omega
    |false =>
     rw[g]at rc HF;clear g;have HZ:Vy (R1 w (C' wr (O B 1) (J ((frN Y c:Nat)+1))) B xb mb W H V Y N' ((frN Y c:Nat)+1)):=HS.out.s1 _;generalize frN Y c=S at *;go_wp2;go_roundw
     case rel=>exact⟨c+1,U,gQ,by rw[HF.out];exact HZ.out⟩
     case measure=>simp[intOf];omega
  ·have e:c=h:=U;subst e;obtain⟨cl,x0,m⟩:¬(c:Int)<W*H/\Cq wr B 0 (J (W*H))/\Cq wr xb 0 (Pq mb):=⟨by rw[k.out.1];omega,b.s.c0,b.r.c0⟩;have Xd:=b.graph;have am:Vy (frN Y c=frN Y (W*H).toNat):=(by unfold Vy;rw[k.out.1,Ta]);clear b WT;generalize frN Y c=S at *;obtain⟨WB,ag⟩:∃WB,WB=wr:=⟨_,rfl⟩;subst ag;go_wp2_with fail;refine Xd.mono ?_;rintro e w3 ⟨rb,gm,cap,nk,A,L,es,f,rfl,ZU,p0,x2,y2,h4⟩;clear Xd x0 m cl;go_wp2_with fail;clear p0 x2 y2;generalize C' w3 (O B 2) (VN VO (K L:Nat))=w4 at *;go_loopw [6] (λ iv wr=>∃j:Nat,j<=K L/\iv=J j/\RS w wr B xb mb rb gm cap nk A L es f W H V Y N' (S:Nat) (edN W H Y (L.take j):Nat))
    (λ i _=>K L-(intOf i).toNat)
   case atStart=>exact⟨0,Te _,rfl,h4⟩
   case round =>
    obtain⟨j,hj,rfl,b⟩:=hrel;by_cases VS:j<K L
    ·as_aux_lemma =>
      obtain⟨bA,oA,nn,A',an,en,ej,rfl,d,ao,q1,Xl,p0,p1,x3,y3,h5⟩:=b.at VS;have j1:(j:Int)<(K L:Int):=U;have H5:=qH h5;clear h4 b h5 d;go_upto_region 12 with fail
      go_region;go_wp2;go_roundw
      case rel=>exact⟨j+1,U,gQ,H5.out⟩
      case measure=>simp[intOf];omega
    ·have e:j=K L:=U;subst e;obtain⟨ej,n,d,z,hq,ac,p0,x3,y3,r6,h6,t⟩:=b.end k.out.2.2.1 k.out.2.2.2;have X:Vy (ej=edN W H Y L/\n=((ej/2:Nat):Int)):=⟨d,z⟩;have H6:=qH h6;clear h4 b h6 d z;go_wp2_with fail;generalize C' wr (O B 3) (VN VO n)=w6 at *;refine t.mono ?_;rintro e w7 ⟨lb,vb,eb,k2,st,f',rfl,N,P,RL,C⟩;obtain⟨T,F,y,h7,l2,x,I⟩:=H6.out.VE C N P RL;have HQ:Vy (((mr W H Y N':Nat):Int)/2=T/\(lvK W H Y N').1=k2):=⟨F,y⟩;have H7:=qH h7;clear t N P RL C F y h7 H6 hq ac p0 x3 y3 r6;go_wp2_with fail;refine Q9 I λ w8 X0=>?_;have h8:=H7.out.below X0;have l2:=al X0 l2;obtain⟨x4,y4,l9,x5,y5,⟨t0,t1,t2,t3,t4,t5,t6,_,_⟩,hu,Zk⟩:=h8.two (au:=T) l2 x;have HU:=qH hu;have Xm:Vy (stV W H V Y N'=#[J (W*H),J (S:Nat),J (K L:Nat),J n,J (T:Int),J ((k2:Int)+1),J V]):=by
      unfold Vy stV;rw[<- h8.l,<- X.out.1,HQ.out.1,HQ.out.2,am.out,X.out.2];rfl
     obtain⟨v0,v1,v2,v3,v4,v5,v6,vz,_⟩:=hu;clear I H7 X0 h8 x;go_wp2;have r:=KU (u:=J 0) (λ o ho=>(by
      have ad:o=0\/o=1\/o=2\/o=3\/o=4\/o=5\/o=6:=U;have q:=HU.out;rcases ad with rfl|rfl|rfl|rfl|rfl|rfl|rfl
      ·exact q.c0
      ·exact q.c1
      ·exact q.c2
      ·exact q.c3
      ·exact q.c4
      ·exact q.c5
      ·exact q.c6)) (J (W*H)) (J (S:Nat)) (J (K L:Nat)) (J n) (J (T:Int)) (J ((k2:Int)+1)) (J V)
     obtain⟨m,r1,r2,r3,r4,r5,r6⟩:=r;unfold st7 at m r1 r2 r3 r4 r5 r6;refine bodyPost_ret (v:=.agg #[J (W*H),J (S:Nat),J (K L:Nat),J n,J (T:Int),J ((k2:Int)+1),J V]) (by simp[results,results42,go_sem,m,r1,r2,r3,r4,r5,r6]) rfl ⟨by rw[Xm.out],?_⟩;exact((((((Zk.setCell (p:=O (G w.heap) 0) aa _).setCell (p:=O (G w.heap) 1) aa _).setCell (p:=O (G w.heap) 2) aa _).setCell (p:=O (G w.heap) 3) aa _).setCell (p:=O (G w.heap) 4) aa _).setCell (p:=O (G w.heap) 5) aa _).setCell (p:=O (G w.heap) 6) aa _
end
section
variable {L pb cap : Nat} {s : Ses} {A : Option Addr}
theorem DU (w:M)(S:dR w L pb (Z s))(v0:0<=s.V)(v1:s.V<=900000) :
  Zq 18 #[Pq pb,.string ⟨#[115,116,97,116,115]⟩,.slice A 0 cap,.string (str (dA (stN s)))] w λ e I=>FtP w I L pb (Z s) e:=by
 obtain⟨xb,mb,c0,_,_,m,v,C⟩:=S.has;obtain⟨i,k,u,t⟩:=(⟨m.ra.w1,m.ra.w2,m.ra.h1,m.ra.h2⟩:(1:Int)<=s.W/\(s.W:Int)<=16/\(1:Int)<=s.H/\(s.H:Int)<=16);have WS:=(bG i k u t);have b1:=uN s.Y ((s.W:Int)*s.H).toNat;have z:=fx s.W s.H s.Y ((s.W:Int)*s.H).toNat;have y:=uO (Y:=s.Y) i k u t (crs s.W s.H s.Y ((s.W:Int)*s.H).toNat);have b4:=Od (Y:=s.Y) (N':=s.N') i k u t;have b5:=Oe (W:=s.W) (H:=s.H) (Y:=s.Y) v;have B:=DT w m v C;obtain⟨h,g,f,d,c,b,a,F,p,N⟩:∃h g f d c b a:Nat,stN s=[h,g,f,d,c,b,a]/\stV s.W s.H s.V s.Y s.N'=#[J (h:Int),J (g:Int),J (f:Int),J (d:Int),J (c:Int),J (b:Int),J (a:Int)]/\∀n∈[h,g,f,d,c,b,a],n<=1000000:=by
  refine⟨_,_,_,_,_,_,_,rfl,?_,?_⟩
  ·unfold stV;have e0:(s.W:Int)*s.H=((((s.W:Int)*s.H).toNat:Nat):Int):=U;have e4:((mr s.W s.H s.Y s.N':Nat)/2:Int)=((mr s.W s.H s.Y s.N'/2:Nat):Int):=U;have X:s.V=((s.V.toNat:Nat):Int):=U;rw[<- e4,<- X,<- e0]
  ·intro n r;simp only[List.mem_cons,List.not_mem_nil,or_false]at r;rcases r with rfl|rfl|rfl|rfl|rfl|rfl|rfl<;>omega
 rw[p]at B;rw[F];have P:Vy (∀I:M,Zq 43 #[.slice (Z (O (G I.heap) 0)) 7 7] (E I (VP #[J (h:Int),J (g:Int),J (f:Int),J (d:Int),J (c:Int),J (b:Int),J (a:Int)] 3)) _):=λ I=>DJ (cap:=7) (l:=[h,g,f,d,c,b,a]) _ (AW I h g f d c b a) sQ (λ n r=>by have:=N n r;omega);have HS:=qH S;clear S m i k u t v C WS b1 z y b4 b5 F p N v0 v1;generalize str (dA [h,g,f,d,c,b,a])=tx at *;go_enter func18,ntmps18;go_wp2_with fail;refine Q9 B λ i x=>?_;have z:Bq i (E i (VP #[J (h:Int),J (g:Int),J (f:Int),J (d:Int),J (c:Int),J (b:Int),J (a:Int)] 97)):=ae.alloc aa _;have R:=aj x z;have q:∀o,D (E i (VP #[J (h:Int),J (g:Int),J (f:Int),J (d:Int),J (c:Int),J (b:Int),J (a:Int)] 97)) (O (G i.heap) o)=#[J (h:Int),J (g:Int),J (f:Int),J (d:Int),J (c:Int),J (b:Int),J (a:Int)][o]? := λ o=>by rw[Tb]
 have q0:=q 0;have q1:=q 1;have q2:=q 2;have q3:=q 3;have q4:=q 4;have q5:=q 5;have q6:=q 6;have T:=P.out (E i (VP #[J (h:Int),J (g:Int),J (f:Int),J (d:Int),J (c:Int),J (b:Int),J (a:Int)] 97));clear B q P c0;go_upto_region 22 with fail
 generalize E i (VP #[VN VO (h:Int),VN VO (g:Int),VN VO (f:Int),VN VO (d:Int),VN VO (c:Int),VN VO (b:Int),VN VO (a:Int)] 97)=k at *;go_wp2_with fail;refine Q9 T λ w3 hb3=>?_;have y:Bq k (E k (VP #[J (h:Int),J (g:Int),J (f:Int),J (d:Int),J (c:Int),J (b:Int),J (a:Int)] 3)):=ae.alloc aa _;have B3:=R.trans ((aj y hb3).mono R.size);go_wp2;go_ret;exact FtP.of HS.out rfl B3
theorem Ir (w:M)(S:dR w L pb (Z s)) :
  Zq 18 #[Pq pb,.string ⟨#[115,97,118,101]⟩,.slice A 0 cap,.string (str (swp 10 47 (eu s.Y s.W s.H)))] w λ e I=>FtP w I L pb (Z s) e:=by
 obtain⟨xb,mb,k,_,_,a,_⟩:=S.has;have g:=a.ra.w2;have i:=a.ra.h2;have h:=wO s.Y s.W s.H (Oq a.ra.w1) U (Oq a.ra.h1) U;have j:=a.c0;have d:=Dk w a.ra a.lts.2;have c:∀b:M,Rq 15 #[.string (str (eu s.Y s.W s.H)),.int .u8 10,.int .u8 47] b (.string (str (swp 10 47 (eu s.Y s.W s.H)))):=λ b=>sP (eu s.Y s.W s.H) 10 47 U b;have HS:=qH S;clear S a g i h;generalize str (swp 10 47 (eu s.Y s.W s.H))=p at *;generalize str (eu s.Y s.W s.H)=o at *;go_enter func18,ntmps18;go_wp2_with fail;refine Q9 d λ b f=>?_;have l:=c b;clear c d k j;go_wp2_with fail;refine Q9 l λ n hb3=>?_;have m:=aj f hb3;go_wp2;go_ret;exact FtP.of HS.out rfl m
end
section
open Go.RowKit Go.Lib
theorem Qo {b:Nat}{Y:Bn}(c:Nat)(v:Bool)(w:M)(g:bo w b W H V Y)(f:Fz w b)(h:inB W H c=Q)(v1:0<=V)(v2:V<=1000000) :
  Zq 66 #[Pq b,J c,.bool v] w λ e I=>e=VJ (.tuple #[.bool (!decide (Y c=v)),J 0])/\ai (λ k=>k=b) w I/\bo I b W H (V+if Y c=v then 0 else 1) (upd Y c v)/\Fz I b:=by
 by_cases a:Y c=v;refine QQ (Gb c v w g h a) λ m=>?_;refine⟨by rw[Q2 a];rfl,ai.Y' (Vxj ae m),?_,⟨λ o=>f.1 o,f.2⟩⟩;rw[uJ a,Q5 a,Uk];exact g.drewN m;have d:Y c=!v:=by cases n:Y c<;>cases v<;>simp_all
 refine(J5 c v w g f h d v1 v2).mono ?_;rintro e I ⟨rfl,l,j,i⟩;exact⟨by rw[Q3 a];rfl,l.X',by rw[Q6 a];exact j,i⟩
def Oj (w I:M) (e:Ending) (mb:Nat) (W H V:Int) (Y:Bn) (n:Nat) (cs:Nat->Int) (bs:Bn):Prop :=
 (edE W H cs n≠0/\e=VJ (.tuple #[J 0,J (edE W H cs n)])/\Vw (G w.heap) w I) \/
 (edE W H cs n=0/\e=VJ (.tuple #[J (edC Y cs bs n:Nat),J 0])/\bo I mb W H (V+(edC Y cs bs n:Nat)) (edF Y cs bs n)/\Fz I mb/\ai (λ k=>k=mb) w I)
theorem Ol {n:Nat}{Y:Bn}{A:Oa}{cs:Nat->Int}{d:Bn}(w:M)(cx:Cq w xb 0 (Pq mb))(g:bo w mb W H V Y)(f:Fz w mb)(R:xb≠mb)(hq:sJ w A n cs d)(hA:0<n->∀b o,A=Z (O b o)->b≠mb)(v1:0<=V)(v2:V<=900000) :
  Zq 37 #[Pq xb,.slice A n cap] w λ e I=>Oj w I e mb W H V Y n cs d:=by
 have lx:=aB cx;have lm:=aB g.c0;rcases ot W H cs n with⟨ad,B⟩|hh
 ·have au:(60:Int)<(n:Int):=U;have HP:Vy (Oj w w (VJ (.tuple #[J 0,J 2])) mb W H V Y n cs d):=SQ ⟨by rw[B];decide,by rw[B],ae⟩;clear B;go_enter func37,ntmps37;go_wp2;go_ret2;exact HP.out
 ·have ad:¬(60:Int)<(n:Int):=by
   rcases hh with h|h
   ·have:=h.1;omega
   ·have:=h.1;omega
  have ap:n<=60:=U;have HH:=qH (hh.elim (λ h=>SQ h.2) (λ h=>SP h.2));have HQ:=qH hq;have HA:=qH hA;have HX:Vy (∀I,Bq w I->Cq I xb 0 (Pq mb)/\bo I mb W H V Y):=λ I hb=>⟨(hb.cell lx).trans cx,g.below hb lm⟩;have am:=qH f;have ag:=qH g;have an:=bX cx;clear hh hq hA cx g f;go_enter func37,ntmps37;go_wp2;go_loopw [6] (λ iv wr=>∃i:Nat,i<=n/\iv=J i/\Vy (∀j,j<i->inB W H (cs j)=Q)/\Bq w wr)
   (λ i _=>n-(intOf i).toNat)
  case atStart=>exact⟨0,Te _,rfl,λ j hj=>Q8 hj (Nat.not_lt_zero j),ae⟩
  case round =>
   obtain⟨i,hi,rfl,X,hB⟩:=hrel;by_cases VS:i<n
   ·obtain⟨u,s,eA,ZV,p,_⟩:=(HQ.out.below hB) i VS;subst eA;have i1:(i:Int)<(n:Int):=U;have T:Vy (inB W H (cs i)=Q->∀j,j<i+1->inB W H (cs j)=Q):=λ h j hj=>by
     by_cases e:j=i
     ·rw[e,h]
     ·exact X.out j U
    have Y6:Vy (inB W H (cs i)=Vl->edE W H cs n=1):=λ h=>by
     rcases HH.out with⟨_,h2⟩|⟨h2,_⟩
     ·rw[h2 i VS]at h;cases h
     ·exact h2
    generalize cs i=S at *;have e0:Bq wr wr.drew:=ae.drew;have E0:=aj hB e0;have f0:Cq wr.drew u (s+i*2) (J S):=p;obtain⟨t,g0⟩:=HX.out _ E0;have CC:Vy (∀I,Bq wr.drew I->Cq I xb 0 (Pq mb)/\Cq I u (s+i*2) (J S)):=λ I h=>⟨al h t,al h f0⟩;have d0:Bq wr.drew wr.drew:=ae;cases We:inB W H S with
    |true =>
     have YR:=pj S wr.drew g0 We;have ao:=qH (T.out We);clear Y6 T We p g0;go_upto_region 6 with fail
     clear f0 t;go_region_held3 (λ I=>D I (O xb 0)=Z (Pq mb)/\Cq I u (s+i*2) (J S)) (first|with_reducible exact CC.out _ d0|with_reducible exact CC.out _ d5)
      (first|(go_at_call 38;refine YR.mono ?_;rintro r w5 ⟨rfl,m5,Z6⟩;have d5:Bq wr.drew w5:=(by rw[Z6];exact Vxj ae _);clear Z6))
     have D5:=aj E0 d5;clear YR;go_wp2;go_roundw
     case rel=>exact⟨i+1,U,gQ,ao.out,D5⟩
     case measure=>simp[intOf];omega
    |false =>
     have YR:=yj S wr.drew g0 We;have B:=Y6.out We;have HP:Vy (∀I,Bq w I->Oj w I (VJ (.tuple #[J 0,J 1])) mb W H V Y n cs d):=λ I h=>SQ ⟨by rw[B];decide,by rw[B],h⟩;clear Y6 T We p g0 B;go_upto_region 6 with fail
     clear f0 t;go_region_held3 (λ I=>D I (O xb 0)=Z (Pq mb)/\Cq I u (s+i*2) (J S)) (first|with_reducible exact CC.out _ d0|with_reducible exact CC.out _ d5)
      (first|(go_at_call 38;refine YR.mono ?_;rintro r w5 ⟨rfl,m5,Z6⟩;have d5:Bq wr.drew w5:=(by rw[Z6];exact Vxj ae _);clear Z6))
     have D5:=aj E0 d5;clear YR;go_wp2;go_ret2;exact HP.out _ D5
   ·have e:i=n:=U;subst e;have B:edE W H cs i=0/\∀j,j<i->inB W H (cs j)=true:=by
     rcases HH.out with h|⟨_,j,h1,h2,_⟩
     ·exact h
     ·rw[X.out j h1]at h2;cases h2
    have HE:=qH B;obtain⟨n,hn⟩:∃n,n=i:=⟨_,rfl⟩;subst hn;have C:bo wr mb W H (V+((0:Nat):Int)) Y:=(by rw[show V+((0:Nat):Int)=V by omega];exact ag.out.below hB lm);have F:Fz wr mb:=am.out.below hB lm;have KR:ai (λ k=>k=mb) w wr:=ai.Y' hB;clear B X HH hB;obtain⟨WB,ac⟩:∃WB,WB=wr:=⟨_,rfl⟩;subst ac;go_wp2;go_loopw [8,9] (λ cv iv wr=>∃(i y:Nat) (N:Bn),i<=n/\iv=J i/\cv=J (y:Int)/\y<=i/\Vy (edC Y cs d i=y/\edF Y cs d i=N)/\bo wr mb W H (V+(y:Int)) N/\Fz wr mb/\ai (λ k=>k=mb) w wr)
     (λ _ i _=>n-(intOf i).toNat)
    case atStart=>exact⟨0,0,Y,Te _,rfl,rfl,aa,⟨rfl,rfl⟩,C,F,KR⟩
    case round =>
     clear C F KR;obtain⟨i,y,N,X7,rfl,rfl,XO,L,C,F,P⟩:=hrel;by_cases VS:i<n
     ·obtain⟨u,s,eA,ZV,p,ab⟩:=HQ.out i VS;have m:=HA.out U u s eA;have f0:=P.cellOf p m;have t0:=P.cellOf ab m;have t:=P.cellOf an.out R;subst eA;have i1:(i:Int)<(n:Int):=U;have Xx:=HE.out.2 i VS;have Zy:0<=cs i:=by
       have h:0<=cs i/\cs i<W*H:=Q1 Xx;exact h.1
      obtain⟨c,hc⟩:∃c:Nat,cs i=(c:Int):=⟨(cs i).toNat,U⟩;obtain⟨v,hv⟩:∃v,d i=v:=⟨_,rfl⟩;have q:Vy (edC Y cs d (i+1)=y+(if N c=v then 0 else 1)/\edF Y cs d (i+1)=upd N c v):=by
       refine⟨?_,?_⟩
       ·show edC Y cs d i+(if edF Y cs d i (cs i).toNat=d i then 0 else 1)=_;rw[L.out.1,L.out.2,hc,Ta,hv]
       ·show upd (edF Y cs d i) (cs i).toNat (d i)=_;rw[L.out.2,hc,Ta,hv]
      rw[hc]at f0 Xx;rw[hv]at t0;clear hc hv Zy p ab L;have e0:Bq wr wr.drew:=ae.drew;have X5:=Qo c v wr.drew (C.below e0 (aB C.c0)) ⟨λ o=>F.1 o,F.2⟩ Xx U U;have f0:Cq wr.drew u (s+i*2) (J (c:Int)):=f0;have t0:Cq wr.drew u (s+i*2+1) (.bool v):=t0;have t:Cq wr.drew xb 0 (Pq mb):=t;have K0:=P.below e0;by_cases l:N c=v
      ·rw[Q2 l,Q5 l]at X5;have Yb:Vy (edC Y cs d (i+1)=y/\edF Y cs d (i+1)=upd N c v):=⟨by rw[q.out.1,Q5 l];rfl,q.out.2⟩;clear q l C F P;go_upto_region 13 with fail
       go_region_held3 (λ I=>D I (O xb 0)=Z (Pq mb)/\Cq I u (s+i*2) (J (c:Int))/\Cq I u (s+i*2+1) (.bool v)) (first|with_reducible exact⟨t,f0,t0⟩)
        (first|(go_at_call 66;refine X5.mono ?_;rintro r w5 ⟨rfl,z,G5,F5⟩;have t:=z.cellOf t R;have f0:=z.cellOf f0 m;have t0:=z.cellOf t0 m))
       have K6:=K0.trans z (λ _ _ h=>h);clear X5 z K0;go_wp2;go_roundw
       case rel=>exact⟨i+1,y,_,U,gQ,rfl,U,Yb.out,by rw[Uk]at G5;exact G5,F5,K6⟩
       case measure=>simp[intOf];omega
      ·rw[Q3 l,Q6 l]at X5;have Yb:Vy (edC Y cs d (i+1)=y+1/\edF Y cs d (i+1)=upd N c v):=⟨by rw[q.out.1,Q6 l],q.out.2⟩;clear q l C F P;go_upto_region 13 with fail
       go_region_held3 (λ I=>D I (O xb 0)=Z (Pq mb)/\Cq I u (s+i*2) (J (c:Int))/\Cq I u (s+i*2+1) (.bool v)) (first|with_reducible exact⟨t,f0,t0⟩)
        (first|(go_at_call 66;refine X5.mono ?_;rintro r w5 ⟨rfl,z,G5,F5⟩;have t:=z.cellOf t R;have f0:=z.cellOf f0 m;have t0:=z.cellOf t0 m))
       have K6:=K0.trans z (λ _ _ h=>h);clear X5 z K0;go_wp2;go_roundw
       case rel=>exact⟨i+1,y+1,_,U,gQ,gQ,U,Yb.out,by rw[TT]at G5;exact G5,F5,K6⟩
       case measure=>simp[intOf];omega
     ·have e:i=n:=U;subst e;have HP:Vy (Oj w wr (VJ (.tuple #[J (y:Int),J 0])) mb W H V Y i cs d):=SP ⟨HE.out.1,by rw[L.out.1],by rw[L.out.1,L.out.2];exact C,F,P⟩;clear L C F P;go_wp2;go_ret2;exact HP.out
end
section
open Go.RowKit Go.Lib
section
variable {L pb cap : Nat} {s : Ses} {A : Option Addr}
theorem dR.ne (S:dR w L pb (Z s))(R:RSv w xb mb s.W s.H s.V s.Y s.N'):pb≠mb:=λ h=>by
 obtain⟨p,a⟩:=S.o.c;rw[h]at a;cases R.ra.c0.symm.trans a
theorem dR.edited {c:Int}{b:Bn}(S:dR w L pb (Z s))(j:Cq w pb 0 (Pq xb))(R:RSv w xb mb s.W s.H s.V s.Y s.N')(h:L<=xb)(i:L<=mb)(e:1<=s.N')(d:s.N'<=6)(g:bo I mb s.W s.H c b)(f:Fz I mb)(a:ai (λ k=>k=mb) w I):dR I L pb (Z { s with V:=c,Y:=b }) :=
 ⟨SP ⟨_,xb,mb,rfl,a.cellOf j (S.ne R),h,i,⟨a.cellOf R.c0 R.ne,a.cellOf R.c1 R.ne,g,f⟩,e,d⟩,(a.frozen (p:=O pb 0) S.lt (S.ne R)).trans S.fz,S.lp⟩
theorem xP {bv:Bool}{wd:ByteArray}{t:Lu}{x':Option Ses}(w:M)(S:dR w L pb (Z s))(h:de w A ns)(hl:K ns<=2000)(v0:0<=s.V)(v1:s.V<=900000)(hw:(wd=⟨#[98,108,111,99,107]⟩/\bv=Q)\/(wd=⟨#[102,114,101,101]⟩/\bv=Vl))
  (hA:(edE s.W s.H (nsF ns) (K ns)≠0/\x'=Z s/\t=bU (edE s.W s.H (nsF ns) (K ns)).toNat)\/(edE s.W s.H (nsF ns) (K ns)=0/\x'=Z { s with V:=s.V+(edK s.W s.H s.Y (nsF ns) (λ _=>bv) (K ns):Nat),Y:=edG s.W s.H s.Y (nsF ns) (λ _=>bv) (K ns) }/\t=decDigits (edK s.W s.H s.Y (nsF ns) (λ _=>bv) (K ns)))) :
  Zq 18 #[Pq pb,.string wd,.slice A (K ns) cap,.string (str t)] w λ e I=>FtP w I L pb x' e:=by
 obtain⟨i0,X7,hz⟩:=TK.1 Lm;simp only[Prod.mk.injEq]at hz;obtain⟨VZ,Wa,Wc⟩:=hz;obtain⟨xb,mb,c0,r,hm,RV,m1,m6⟩:=S.has;have lp:=S.lt;have HX:=qH h;have HS:=qH S;have HV:=qH RV;have y:Vy (L<=xb/\L<=mb/\1<=s.N'/\s.N'<=6/\0<=s.V/\s.V<=900000):=⟨r,hm,m1,m6,v0,v1⟩;have n:Vy (edE s.W s.H (nsF ns) (K ns)≠0->x'=Z s/\t=bU (edE s.W s.H (nsF ns) (K ns)).toNat):=λ P=>by
  rcases hA with h|h
  ·exact h.2
  ·exact Q8 h.1 P
 have m:Vy (edE s.W s.H (nsF ns) (K ns)=0->x'=Z { s with V:=s.V+(edC s.Y (nsF ns) (λ _=>bv) (K ns):Nat),Y:=edF s.Y (nsF ns) (λ _=>bv) (K ns) }/\t=decDigits (edC s.Y (nsF ns) (λ _=>bv) (K ns))):=λ P=>by
  rcases hA with h|h
  ·exact Q8 P h.1
  ·have h2:=h.2;unfold edK edG at h2;rw[Q5 P,Q5 P]at h2;exact h2
 clear h S RV r hm m1 m6 v0 v1 hA;rcases hw with⟨rfl,F⟩|⟨rfl,F⟩
 all_goals
  have HB:=bX F;clear F;go_enter func18,ntmps18;go_wp2;go_loopw [9,10] (λ v iv wr=>∃(i:Nat),i<=K ns/\iv=J i/\G' wr (G w.heap) 84 2 v i (jK ((ns.map λ c=>(c,bv)).take i))/\Bq w wr)
   (λ _ i _=>K ns-(intOf i).toNat)
  case atStart=>exact⟨0,Te _,rfl,To _ _ _ _,ae⟩
  case round =>
   obtain⟨i,XC,rfl,a,g⟩:=hrel;have ab:=g.size;by_cases VS:i<K ns
   ·obtain⟨x,r⟩:∃x,ns[i]? = Z x:=⟨_,SU VS⟩;obtain⟨b,o,eA,Wv,hc⟩:=(HX.out.below g) i x r;subst eA;have i1:(i:Int)<(K ns:Int):=U;have HT:Vy (jK ((ns.map λ c=>(c,bv)).take (i+1))=jK ((ns.map λ c=>(c,bv)).take i)++[J x,.bool bv]):=by
     unfold Vy;have ac:(ns.map λ c=>(c,bv))[i]? = Z (x,bv):=(by rw[Tz,r];rfl);obtain⟨ad,he⟩:=Th.1 ac;rw[Tx ad,he,AJ];rfl
    clear r;go_wp2_with (at_builtin;refine Vxk _ rfl _ _ 82 rfl (G w.heap) 84 i0 (.agg #[J 0,.bool Vl]) 2 16 FD X7 VZ Wa Wc rfl dQ _ _ _ rfl (a.alloc _) (O (G wr.heap) 0) 1 1 [J x,.bool _] rfl rfl (lM _ _ _ _) (by intro u hu;simp at hu;rcases hu with rfl|rfl<;>rfl) ?c3 ?c4 ?c5 ?_)
    case c3=>unfold Vyf;omega
    case c4=>omega
    case c5=>simp;omega
    intro v' w6 VR VQ _;have B6:Bq w w6:=(g.alloc ab _).grown VQ sU (λ q hq=>(a.lt q hq).1);have O6:G' w6 (G w.heap) 84 2 v' (i+1) (jK ((ns.map λ c=>(c,bv)).take (i+1))):=by
     have F:=HB.out;rw[HT.out];simp only[F]at VR ⊢;exact VR
    clear VR VQ a g;go_wp2;go_roundw
    case rel=>exact⟨i+1,U,gQ,O6,B6⟩
    case measure=>simp[intOf];omega
   ·have e:i=K ns:=U;subst e;have eT:(ns.map λ c=>(c,bv)).take (K ns)=ns.map λ c=>(c,bv):=TM (by rw[TA];exact aa);rw[eT]at a;obtain⟨A2,R,rfl,hO,N⟩:=AX a;obtain⟨n1,n2,n3,n4,n5,n6⟩:=y.out;have d:=HV.out.below g;have S2:=HS.out.below g;have lm:=HV.out.lts.2;have c2:=(g.cell (p:=O pb 0) lp).trans c0;have ZI:=Ol (cap:=R) wr d.c0 d.ra d.fr d.ne hO (λ _ b o e=>by have:=N b o e;omega) n5 n6;have HG:=bX g;have HC:Vy (edC s.Y (nsF ns) (λ _=>bv) (K ns)<=1000000000000):=Tg (yQ _ _ _ _) U;have Yw:=qH S2;have X:Vy (RSv wr xb mb s.W s.H s.V s.Y s.N'/\Cq wr pb 0 (Pq xb)):=⟨d,c2⟩;have HL:Vy (L<=G w.heap):=(by have:=HS.out.lp;show _<=_;omega);have C:=Li s.W s.H (nsF ns) (K ns);have YL:=Lj s.W s.H (nsF ns) (K ns);clear a hO N g eT d S2 n1 n2 n3 n4 n5 n6 lm c0;go_wp2_with fail;refine ZI.mono ?_;rintro e j hP;clear ZI c2;rcases hP with⟨z,rfl,k3⟩|⟨z,rfl,k4,k5,k6⟩
    ·obtain⟨f,hf⟩:∃f:Nat,edE s.W s.H (nsF ns) (K ns)=(f:Int):=⟨(edE s.W s.H (nsF ns) (K ns)).toNat,U⟩;obtain⟨rfl,rfl⟩:=n.out z;rw[hf]at C YL z ⊢;rw[Ta];have XY:=dJ f U j;have i1:(0:Int)<(f:Int):=U;have S3:=Yw.out.below k3;have B3:=HG.out.trans (k3.mono HG.out.size);have l:Vy (dR j L pb (Z s)/\Bq w j):=⟨S3,B3⟩;clear hf k3 S3 B3 n m;go_wp2_with fail;refine Q9 XY λ w4 T=>?_;go_wp2;go_ret;exact⟨rfl,l.out.1.below T,(l.out.2.trans (T.mono l.out.2.size)).mono HL.out⟩
    ·obtain⟨B,rfl⟩:=m.out z;have l:Vy (dR j L pb x'/\Vw L w j/\L<=G j.heap):=⟨B▸Yw.out.edited X.out.2 X.out.1 y.out.1 y.out.2.1 y.out.2.2.1 y.out.2.2.2.1 k4 k5 k6,(HG.out.mono HL.out).trans (k6.Z' (Tg HL.out HG.out.size) (λ k e=>by rw[e];exact y.out.2.1)),Tg HL.out (Tg HG.out.size k6.size)⟩;have ag:=HC.out;clear z k4 k5 k6 n m C YL HC B;generalize edC s.Y (nsF ns) (λ _=>bv) (K ns)=ec at *;have hr:=nW ec ec aa U j;go_wp2_with fail;refine Q9 hr λ w4 T=>?_;go_wp2;go_ret;exact⟨rfl,l.out.1.below T,l.out.2.1.trans (T.mono l.out.2.2)⟩
end
end
theorem LZ {c:UInt8}(h:iw c=Vl)(a:c∉([101,114,114,111,114,32]:Lu))(k:Nat):c∉bU k:=by grind [iw,bU,qK]
theorem L5 (b:Ln)(s d f:Int):(59:UInt8)∉iJ b s d f:=by
 unfold iJ wj;split;rw[Tn,Tn];rintro ((a|a)|a);exact qL dQ dQ _ a
 revert a;decide
 exact qL dQ dQ _ a;exact LZ dQ dQ _
def jE (l:List Lu):Lu:=Lib.join l [59,32]
theorem kH (x:Lu):jE [x]=x:=Lib.join_one _ _
theorem kI (x y:Lu)(r:List Lu):jE (x::y::r)=x++59::32::jE (y::r):=by
 unfold jE;rw[Lib.join_cons,Lib.join_cons];simp[Lib.joinTail]
theorem Is {l:List Lu}(h:l≠[])(x:Lu):jE (l++[x])=(jE l++[59,32])++x:=by
 cases l with
 |nil=>exact Q8 rfl h
 |cons y l =>
  unfold jE;rw[List.cons_append,Lib.join_cons,Lib.join_cons,xL];simp
theorem Bm {l:List Lu}(h:∀x∈l,K x<=20000):K (jE l)<=K l*20002:=FE h
theorem tH {t u:Lu}(h:t.drop f=u)(a:f<=K t):K t=f+K u:=by
 rw[<- h,Ue];omega
inductive PcI (t:Lu) (xs ls:List Lu) (j f:Nat):Prop
 |at_ (x:Lu) (r:List Lu) (h1:xs=ls++x::r) (h2:t.drop f=jE (x::r)) (h3:f<=K t) (h4:f<=j) (h5:j<=f+K x)
 |gap (x:Lu) (r:List Lu) (h1:xs=ls++x::r) (h2:t.drop f=jE (x::r)) (h3:f<=K t) (h4:j+1=f) (h5:t[j]? = Z 32)
 |over (h1:ls=xs) (h2:j=K t+1) (h3:f<=K t)
theorem PcI.le {t:Lu}{xs ls:List Lu}(h:PcI t xs ls j f):K ls<=K xs/\f<=K t/\j<=K t+1:=by
 rcases h with⟨x,r,b,c,a,g,d⟩|⟨x,r,b,c,a,g,d⟩|⟨b,c,a⟩
 refine⟨by rw[b];simp,a,?_⟩;have:=tH c a;have e:K x<=K (jE (x::r)):=by
  cases r with
  |nil=>rw[kH];exact aa
  |cons y r=>rw[kI];simp
 omega;exact⟨by rw[b];simp,a,U⟩;exact⟨by rw[b];exact aa,a,U⟩
theorem PcI.sign {t:Lu}{xs ls:List Lu}(u:∀x∈xs,(59:UInt8)∉x)(h:PcI t xs ls j f)(k:j<K t):(t[j]=59/\f<=j/\j+2<=K t/\∃x,(t.drop f).take (j-f)=x/\K ls<K xs/\PcI t xs (ls++[x]) (j+1) (j+2))\/(t[j]≠59/\PcI t xs ls (j+1) f):=by
 rcases h with⟨x,r,b,a,c,p,l⟩|⟨x,r,b,a,c,p,l⟩|⟨b,a,c⟩
 have d:=tH a c;by_cases z:j<f+K x;refine SP ⟨?_,.at_ x r b a c U U⟩;have e:t[j]? = x[j-f]? := by
  have w:(t.drop f)[j-f]? = t[j]? := by rw[UW,show f+(j-f)=j by omega]
  rw[<- w,a];cases r with
  |nil=>rw[kH]
  |cons y r=>rw[kI,TO U]
 intro v;rw[SU k,v]at e;exact u x (by rw[b];simp) (Ti e.symm);have g:j=f+K x:=U;cases r with
 |nil=>rw[kH]at d;omega
 |cons y r =>
  rw[kI]at a d;have o:∀i,t[f+i]? = (x++59::32::jE (y::r))[i]? := λ i=>by rw[<- a,UW]
  have s:=o (K x);rw[TG aa,Nat.sub_self]at s;have n:t[f+K x]? = Z 59:=s;have q:=o (K x+1);rw[TG U,show K x+1-K x=1 by omega]at q;have m:t[f+(K x+1)]? = Z 32:=q;have A:K t=f+(K x+(K (jE (y::r))+1+1)):=by rw[d];simp
  refine SQ ⟨?_,p,U,x,?_,by rw[b];simp,.gap y r (by rw[b];simp) ?_ U rfl ?_⟩;have e:=SU k;subst g;exact Option.some.inj (e.symm.trans n);rw[a,show j-f=K x by omega,VL rfl];rw[show j+2=f+(K x+2) by omega,<- Vj,a,<- Vj,Vp rfl];rfl;rw[show j+1=f+(K x+1) by omega];exact m
 refine SP ⟨λ e=>?_,.at_ x r b a c U U⟩;rw[SU k,e]at l;cases l;omega
theorem PcI.last {t:Lu}{xs ls:List Lu}(h:PcI t xs ls (K t) f):f<=K t/\K ls<K xs/\xs=ls++[t.drop f]:=by
 rcases h with⟨x,r,c,b,a,g,d⟩|⟨x,r,c,b,a,g,d⟩|⟨c,b,a⟩
 have e:=tH b a;refine⟨a,by rw[c];simp,?_⟩;cases r with
 |nil=>rw[b,kH];exact c
 |cons y r=>rw[kI]at e;simp at e;omega
 rw[List.getElem?_eq_none aa]at d;cases d;omega
theorem Bo {i:Nat}(h:i<K ns):ns[i]? = Z (nsF ns i):=by grind [nsF]
section
variable {L pb cap : Nat} {s : Ses} {A : Option Addr} {ns : List Int}
theorem pd (w:M)(S:dR w L pb (Z s))(k:K ns<=2000)(t:Lu)(h:(K ns%2≠0/\t=bU 3)\/(K ns%2=0/\80<K ns/\t=bU 2)) :
  Zq 18 #[Pq pb,.string ⟨#[98,97,116,99,104]⟩,.slice A (K ns) cap,.string (str t)] w λ e I=>FtP w I L pb (Z s) e:=by
 have c:(K ns:Int).tmod 2=((K ns%2:Nat):Int):=by rw[Int.ofNat_tmod];rfl
 have i:(2:Int)≠0:=dQ;have HS:=qH S;clear S;rcases h with⟨d,rfl⟩|⟨d,l,rfl⟩
 ·have g:K ns%2=1:=U;rw[g]at c;have a:Rq 11 #[J 3] w (.string (str (bU 3))):=dJ 3 dQ w;go_enter func18,ntmps18;go_wp2_with fail;refine Q9 a λ f b=>?_;go_wp2;go_ret;exact FtP.of HS.out rfl b
 ·rw[d]at c;have j:(80:Int)<(K ns:Int):=U;have a:Rq 11 #[J 2] w (.string (str (bU 2))):=dJ 2 dQ w;go_enter func18,ntmps18;go_wp2_with fail;refine Q9 a λ f b=>?_;go_wp2;go_ret;exact FtP.of HS.out rfl b
theorem vh (w:M)(S:dR w L pb (Z s)) :
  Zq 18 #[Pq pb,.string ⟨#[98,97,116,99,104]⟩,.slice A 0 cap,.string (str [])] w λ e I=>FtP w I L pb (Z s) e:=by
 have b:(0:Int).tmod 2=0:=rfl;have a:(2:Int)≠0:=dQ;have c:(str []).toList.isEmpty=true:=by rw[aD];rfl
 have HS:=qH S;clear S;go_enter func18,ntmps18;go_wp2_with fail;go_ret;exact FtP.of HS.out rfl ae
structure BtP (ns:List Int) (s:Ses) (t:Lu) (xs:List Lu) (l:List (Ln×Int×Int×Int)):Prop where
 len:K ns=2*K l
 le:K l<=40
 ne:l≠[]
 ex:xs=l.map λ x=>iJ x.1 x.2.1 x.2.2.1 x.2.2.2
 rt:∀i x,l[i]? = Z x->Rt s.W s.H s.Y (nsF ns (2*i)) (nsF ns (2*i+1)) x.1 x.2.1 x.2.2.1 x.2.2.2
 et:t=jE xs
 tl:K t<=900000
 xl:∀x∈xs,(59:UInt8)∉x
 xn:∀x∈xs,K x<=20000
theorem BtP.of {t:Lu}{l:List (Ln×Int×Int×Int)}(e:(1:Int)<=s.W)(k:(s.W:Int)*s.H<=256)(n:K l=K ns/2)(h:K ns%2=0)(j:K ns<=80)(m:l≠[])(d:∀i x,l[i]? = Z x->Rt s.W s.H s.Y (nsF ns (2*i)) (nsF ns (2*i+1)) x.1 x.2.1 x.2.2.1 x.2.2.2)(c:t=Lib.join (l.map λ x=>iJ x.1 x.2.1 x.2.2.1 x.2.2.2) [59,32]):BtP ns s t (l.map λ x=>iJ x.1 x.2.1 x.2.2.1 x.2.2.2) l:=by
 have a:∀x∈l.map (λ x=>iJ x.1 x.2.1 x.2.2.1 x.2.2.2),K x<=20000:=λ x b=>by
  obtain⟨y,f,rfl⟩:=TX.1 b;obtain⟨i,g⟩:=List.getElem?_of_mem f;exact A8 e k (d i y g)
 refine⟨U,U,m,rfl,d,c,?_,λ x b=>?_,a⟩;have:=Bm a;rw[TA]at this;rw[c];unfold jE at this;have:K l*20002<=40*20002:=UN _ U;omega;obtain⟨y,_,rfl⟩:=TX.1 b;exact L5 _ _ _ _
theorem wu {t:Lu}{xs:List Lu}{l:List (Ln×Int×Int×Int)}(w:M)(S:dR w L pb (Z s))(h:de w A ns)(B:BtP ns s t xs l) :
  Zq 18 #[Pq pb,.string ⟨#[98,97,116,99,104]⟩,.slice A (K ns) cap,.string (str t)] w λ e I=>FtP w I L pb (Z s) e:=by
 obtain⟨i0,X7,hz⟩:=TK.1 nX;simp only[Prod.mk.injEq]at hz;obtain⟨VZ,Wa,Wc⟩:=hz;have m:K xs=K l:=by rw[B.ex,TA]
 have YW:0<K l:=List.length_pos_iff.2 B.ne;have bf:=B.le;have V:=B.len;have bc:=B.tl;have an:K ns%2=0:=U;have q2:(K ns:Int).tmod 2=((K ns%2:Nat):Int):=by rw[Int.ofNat_tmod];rfl
 have z2:(2:Int)≠0:=dQ;rw[an]at q2;have a8:¬(80:Int)<(K ns:Int):=U;have a9:((K ns:Int)==0)=false:=by rw[Q4];omega
 have Ws:=ar t;have au:Vy (PcI t xs [] 0 0):=by
  obtain⟨x,r,k⟩:∃x r,xs=x::r:=by
   cases hq:xs with
   |nil=>rw[hq]at m;simp at m;omega
   |cons x r=>exact⟨x,r,rfl⟩
  exact .at_ x r k (by rw[<- k];exact B.et) (Te _) aa (Te _)
 obtain⟨xb,mb,c0,_,_,RV,_⟩:=S.has;have lp:=S.lt;have HS:=qH S;have HV:=qH RV;have HB:=qH B;have HX:=qH h;have ZO:Vy (K xs=K l/\K ns=2*K l):=⟨m,V⟩;have aN:Vy ((1:Int)<=s.W/\(s.W:Int)*s.H<=256):=⟨RV.ra.w1,(bG RV.ra.w1 RV.ra.w2 RV.ra.h1 RV.ra.h2).2⟩;clear S RV B h m V an;go_enter func18,ntmps18;go_wp2_with fail;go_loopw [16,17,18] (λ pv f i wr=>∃(j N:Nat) (c:List Lu),i=J j/\f=J N/\G' wr (G w.heap) 9 1 pv (K c) (cQ c)/\Bq w wr/\Vy (PcI t xs c j N))
  (λ _ _ i _=>K t+1-(intOf i).toNat)
 case atStart=>exact⟨0,0,[],rfl,rfl,⟨by simp[cQ],.inl ⟨rfl,rfl⟩⟩,ae,au⟩
 case round =>
  clear au;obtain⟨j,f,c,rfl,rfl,d,hB,hI⟩:=hrel;obtain⟨Yn,bn,bm⟩:=hI.out.le;have ap:=hB.size;have be:K c<=40:=by have:=ZO.out;omega
  by_cases VS:j<K t
  ·have am:=fe t j VS;have j1:(0:Int)<=(j:Int)/\(j:Int)<(K t:Int):=U;rcases hI.out.sign HB.out.xl VS with⟨Y,f1,f2,x,k,Xp,hN⟩|⟨Y,hN⟩
   ·have a1:=nY t f j;rw[k]at a1;have R:=qH hN;have Z8:min ((j:Int)+2) (K t:Int)=(j:Int)+2:=U;have g1:(0:Int)<=(f:Int)/\(f:Int)<=(j:Int)/\(j:Int)<=(K t:Int):=U;have Y4:((t[j].toNat:Int)==59)=true:=(by rw[Y];rfl);generalize t[j]=y at am Y4;clear Y k hN hI;go_wp2_with (at_builtin;refine Vxk _ rfl _ _ 22 rfl (G w.heap) 9 i0 (.string ⟨#[]⟩) 1 16 Vyi X7 VZ Wa Wc rfl dQ _ _ _ rfl (d.alloc _) (O (G wr.heap) 0) 1 1 [.string (str x)] rfl rfl ?c1 ?c2 ?c3 ?c4 ?c5 ?_)
    case c1=>exact Vye _ _ _
    case c2=>intro u hu;simp at hu;subst hu;rfl
    case c3=>unfold Vyf;omega
    case c4=>omega
    case c5=>simp;omega
    intro v' T VR VQ _;have VV:=λ q hq=>(d.lt q hq).1;have B1:Bq w T:=(hB.alloc ap _).grown VQ sU VV;have O1:G' T (G w.heap) 9 1 v' (K (c++[x])) (cQ (c++[x])):=by simpa [cQ]using VR
    clear VR VQ d hB;go_wp2;go_roundw
    case rel=>exact⟨j+1,j+2,c++[x],gQ,gQ,O1,B1,R⟩
    case measure=>simp[intOf];omega
   ·have R:=qH hN;have Y4:((t[j].toNat:Int)==59)=false:=by
     rw[Q4];intro e;exact Y (UInt8.toNat_inj.1 (by have:(59:UInt8).toNat=59:=rfl;omega))
    generalize t[j]=y at am Y4;clear Y hN hI;go_wp2;go_roundw
    case rel=>exact⟨j+1,f,c,gQ,rfl,d,hB,R⟩
    case measure=>simp[intOf];omega
  ·by_cases YX:j=K t
   ·subst YX;obtain⟨hf,Xp,ad⟩:=hI.out.last;have k:=nY t f (K t);rw[TM sQ]at k;have R:Vy (PcI t xs (c++[t.drop f]) (K t+1) (K t)):=.over ad.symm rfl aa;generalize t.drop f=x at k R;have g1:(0:Int)<=(f:Int)/\(f:Int)<=(K t:Int):=U;have Z8:min ((K t:Int)+2) (K t:Int)=(K t:Int):=U;clear ad hI;go_wp2_with (at_builtin;refine Vxk _ rfl _ _ 22 rfl (G w.heap) 9 i0 (.string ⟨#[]⟩) 1 16 Vyi X7 VZ Wa Wc rfl dQ _ _ _ rfl (d.alloc _) (O (G wr.heap) 0) 1 1 [.string (str x)] rfl rfl ?c1 ?c2 ?c3 ?c4 ?c5 ?_)
    case c1=>exact Vye _ _ _
    case c2=>intro u hu;simp at hu;subst hu;rfl
    case c3=>unfold Vyf;omega
    case c4=>omega
    case c5=>simp;omega
    intro v' T VR VQ _;have VV:=λ q hq=>(d.lt q hq).1;have B1:Bq w T:=(hB.alloc ap _).grown VQ sU VV;have O1:G' T (G w.heap) 9 1 v' (K (c++[x])) (cQ (c++[x])):=by simpa [cQ]using VR
    clear VR VQ d hB;go_wp2;go_roundw
    case rel=>exact⟨K t+1,K t,c++[x],gQ,gQ,O1,B1,R⟩
    case measure=>simp[intOf]
   ·have a5:c=xs:=by
     rcases hI.out with⟨x,r,h1,h2,h3,h4,h5⟩|⟨x,r,h1,h2,h3,h4,h5⟩|⟨h1,h2,h3⟩
     ·have:=tH h2 h3;have e:K x<=K (jE (x::r)):=by
       cases r with
       |nil=>rw[kH];exact aa
       |cons y r=>rw[kI];simp
      omega
     ·omega
     ·exact h1
    subst a5;obtain⟨A1,k1,rfl,aw⟩:=kG d;have a7:=qH aw;have m:=ZO.out.1;have V:=ZO.out.2;have hq:(2*(K c:Int)==(K ns:Int))=true:=(by rw[beq_iff_eq];omega);have bd:(2*(K c:Int) != (K ns:Int))=false:=(by unfold bne;rw[hq];rfl);have bi:¬j<=K t:=U;have bk:¬(j:Int)<=(K t:Int):=U;have X:=bX hB;clear d aw hI hB m V;go_wp2;go_loopw [19,20] (λ av iv wr2=>∃i:Nat,i<=K c/\iv=J i/\av=.string (str (jE (c.take i)))/\Bq wr wr2)
     (λ _ i _=>K c-(intOf i).toNat)
    case atStart=>exact⟨0,Te _,rfl,rfl,ae⟩
    case round =>
     obtain⟨i,XC,rfl,rfl,Yv⟩:=hrel;have bs:=Yv.size;by_cases WY:i<K c
     ·obtain⟨⟨F,n,C,z⟩,k⟩:∃x,l[i]? = Z x:=⟨_,SU (Oq ZO.out)⟩;have Z0:c[i]? = Z (iJ F n C z):=(by rw[HB.out.ex,Tz,k];rfl);have a0:Vy (Rt s.W s.H s.Y (nsF ns (2*i)) (nsF ns (2*i+1)) F n C z):=HB.out.rt i _ k;have aL:=Bl aN.out.1 aN.out.2 a0.out wr;obtain⟨b2,a4,a3,Y⟩:=a7.out i _ Z0;subst a4;have ao:=(Yv.cell (p:=O b2 i) a3).trans Y;obtain⟨b,o,eA,Wv,q0⟩:=HX.out (2*i) _ (Bo (Oq ZO.out));obtain⟨b',o',ay,_,q1⟩:=HX.out (2*i+1) _ (Bo (Oq ZO.out));rw[eA]at ay;cases ay;subst eA;have bb:(str (iJ F n C z)).size<=20000:=(by rw[ar];exact HB.out.xn _ (Ti Z0));have ba:(str (jE (c.take i))).size<=900000:=by
       rw[ar];have h1:=Bm (l:=c.take i) (λ x k=>HB.out.xn x (List.mem_of_mem_take k));have h2:K (c.take i)*20002<=40*20002:=UN _ (by rw[Ts];omega);omega
      have hT:c.take (i+1)=c.take i++[iJ F n C z]:=by
       obtain⟨a2,he⟩:=Th.1 Z0;rw[Tx a2,he]
      have R:Vy (if i=0 then str (jE (c.take i))++str (iJ F n C z)=str (jE (c.take (i+1))) else (str (jE (c.take i))++⟨#[59,32]⟩)++str (iJ F n C z)=str (jE (c.take (i+1)))):=by
       unfold Vy;split
       ·next h0 =>
        subst h0;rw[hT,bV,Vk,Vc,kH];rfl
       ·next h0 =>
        have e1:(⟨#[59,32]⟩:ByteArray)=str [59,32]:=rfl;rw[hT,e1,bV,bV,Is (by
         intro h;have:=Q7 List.length h;rw[Ts,Ut]at this;omega)]
      have lb:b<G w.heap:=Wv;have BW:=X.out.trans (Yv.mono X.out.size);have p0:=(BW.cell (p:=O b (o+2*i)) lb).trans q0;have p1:=(BW.cell (p:=O b (o+(2*i+1))) lb).trans q1;have pc:=(BW.cell (p:=O pb 0) lp).trans c0;have a6:=qH (HV.out.below BW);have bw:=qH BW;clear Y k Z0 hT q0 q1 BW;generalize nsF ns (2*i)=fa at *;generalize nsF ns (2*i+1)=ta at *;generalize str (jE (c.take i))=tb at *;generalize iJ F n C z=ax at *;go_wp2_with fail;refine aL.mono ?_;rintro e T ⟨v,rfl,Wb,B1⟩;obtain⟨A2,g,rfl,_⟩:=fu Wb;have B2:Bq wr (E T (VP #[.slice A2 (K F) g,J n,J C,J z] 92)):=B1.alloc B1.size _;have Xv:=World.ownsRow.alloc Wb (VP #[.slice A2 (K F) g,J n,J C,J z] 92);have P:=An.new T (.slice A2 (K F) g) n C z;clear aL Wb;go_upto_region 46 with fail
      generalize E T (VP #[.slice A2 (K F) g,VN VO n,VN VO C,VN VO z] 92)=w2 at *;have S0:=fL (cel B2 pc);have S1:=fL (cel B2 p0);have S2:=fL (cel B2 p1);have S3:=fL P.c0;have S4:=fL P.c1;have S5:=fL P.c2;have S6:=fL P.c3;have S7:=qH (fL (cel B2 ao));have VY:Nonempty (cJ w2):=gB w2;have ac:=a6.out.below B2;have ag:Vy (∀x:cJ w2,Rq 41 #[Pq xb,J fa,J ta,.agg #[.slice A2 (K F) g,J n,J C,J z]] x.u (.bool Q)):=λ x=>xx x.u (ac.below x.h).c0 (ac.below x.h).ra (ak Xv x.h) a0.out;have k1:(0:Int)<=2*(i:Int):=U;have k2:2*(i:Int)<(K ns:Int):=(by have:=ZO.out;omega);have k3:(0:Int)<=2*(i:Int)+1:=U;have k4:2*(i:Int)+1<(K ns:Int):=(by have:=ZO.out;omega);have k5:(2*(i:Int)).toNat=2*i:=U;have k6:(2*(i:Int)+1).toNat=2*i+1:=U;have k7:IntKind.i64.wrap (2*(i:Int))=2*(i:Int):=IntWalk.i64_in _ U;have k8:IntKind.i64.wrap (2*(i:Int)+1)=2*(i:Int)+1:=IntWalk.i64_in _ U;clear P Xv ac pc p0 p1 ao;refine bF kQ kQ ?_
      repeat (go_big_quiet_step ((go_at_call 41;exact Calls.Vxe (ag.out _))))
      refine Vza ?_;rintro _ ⟨x,rfl⟩;have bp:=S7.out x;have HY:=qH (B2.trans (x.h.mono B2.size));clear S0 S1 S2 S3 S4 S5 S6 S7 VY ag k1 k2 k3 k4 k5 k6 k7 k8;generalize x.u=y at *;by_cases h0:i=0
      ·subst h0;have hn:=R.out;rw[Q5 rfl]at hn;have Yb:=qH hn;have ha:=λ w0=>jU (a:=tb) (b:=str ax) U U w0;clear hn R;generalize str ax=tx at *;go_wp2;go_roundw
       case rel=>exact⟨1,U,gQ,by rw[Yb.out],Yv.trans (HY.out.mono Yv.size)⟩
       case measure=>simp[intOf];omega
      ·have hn:=R.out;rw[Q6 h0]at hn;have Yb:=qH hn;have ha:=λ w0=>jU (a:=tb) (b:=⟨#[59,32]⟩) U dQ w0;have X2:(tb++⟨#[59,32]⟩:ByteArray).size<=900002:=(by rw[ByteArray.size_append];have:(⟨#[59,32]⟩:ByteArray).size=2:=rfl;omega);have bq:=λ w0=>jU (a:=tb++⟨#[59,32]⟩) (b:=str ax) U U w0;have i2:(0:Int)<(i:Int):=U;clear hn R h0;generalize str ax=tx at *;go_wp2;go_roundw
       case rel=>exact⟨i+1,U,gQ,by rw[Yb.out],Yv.trans (HY.out.mono Yv.size)⟩
       case measure=>simp[intOf];omega
     ·have e:i=K c:=U;subst e;rw[Tl,<- HB.out.et];go_wp2;go_ret;exact FtP.of HS.out rfl (X.out.trans (Yv.mono X.out.size))
end
theorem dR.wh {s:Ses}(S:dR w L pb (Z s)):(1:Int)<=s.W/\(s.W:Int)*s.H<=256:=by
 obtain⟨xb,mb,_,_,_,a,_⟩:=S.has;exact⟨a.ra.w1,(bG a.ra.w1 a.ra.w2 a.ra.h1 a.ra.h2).2⟩
theorem L7 {s:Ses}{A:Oa}{n t:Lu}{x':Option Ses}(w:M)(S:dR w L pb (Z s))(r:cf n=Z k)(h:de w A ns)(i:K ns<=2000)(v0:0<=s.V)(v1:s.V<=900000)(x:kF k ns s t x') :
  Zq 18 #[Pq pb,.string (str n),.slice A (K ns) cap,.string (str t)] w λ e I=>FtP w I L pb x' e:=by
 obtain⟨rfl,_⟩:=FH r;rcases x with⟨rfl,rfl,c,d,rfl,g⟩|⟨rfl,rfl,a,b,N,C,H,F,rfl,v,rfl⟩|⟨rfl,rfl,g⟩|⟨rfl,rfl,rfl,rfl⟩|⟨rfl,rfl,rfl,rfl⟩|⟨m,g⟩
 rcases g with⟨f,rfl⟩|⟨f,j,rfl,u,rfl⟩
 exact wt w S h f;exact zf w S h f u;exact LX w S h v;rcases g with f|f|⟨f,z,l,q,y,p⟩
 exact pd w S i t (SQ f);exact pd w S i t (SP f);by_cases o:l=[];subst o;have B:ns=[]:=List.length_eq_zero_iff.1 (by simp at q;omega);subst B;subst p;exact vh w S;exact wu w S h (BtP.of S.wh.1 S.wh.2 q f z o y p);exact DU w S v0 v1;exact Ir w S;rcases m with rfl|rfl
 exact xP (bv:=Q) w S h i v0 v1 (SQ ⟨rfl,rfl⟩) g;exact xP (bv:=Vl) w S h i v0 v1 (SP ⟨rfl,rfl⟩) g
section
variable {L pb : Nat} {x x' : Option Ses} {line t : List UInt8}
theorem It {m:Int}(h:G' w base 3 1 v [W,H,m].length (gn [W,H,m])):∃b o cap,v=.slice (Z (O b o)) 3 cap/\Cq w b o (J W)/\Cq w b (o+1) (J H)/\Cq w b (o+2) (J m):=by
 obtain⟨A,cap,c,a,_⟩:=uV h;obtain⟨b,o,f,_,j⟩:=a 0 W rfl;obtain⟨p,l,e,_,i⟩:=a 1 H rfl;obtain⟨n,k,d,_,g⟩:=a 2 m rfl;rw[f]at e d;cases e;cases d;rw[f]at c;exact⟨b,o,cap,c,j,i,g⟩
def NwQ (N:Nat) (I:M) (po:Oa) (f:Nat) (t:Lu) (x x':Option Ses):Prop:=(1<=f/\f<=8/\po=UP/\t=bU f/\x'=x)\/(f=0/\∃s xb mb,po=Z (O xb 0)/\N<=xb/\N<=mb/\1<=s.N'/\s.N'<=6/\t=okS/\x'=Z s/\RSv I xb mb s.W s.H s.V s.Y s.N')
theorem RN (W H m:Int)(w:M)(i:(nwE W H m≠0/\t=bU (nwE W H m).toNat/\x'=x)\/(nwE W H m=0/\t=okS/\x'=Z ⟨W.toNat,H.toNat,m.toNat,0,λ _=>Vl⟩)) :
  Zq 17 #[J W,J H,J m] w λ e I=>∃(d:Oa) (f:Nat),e=VJ (.tuple #[.pointer d,J (f:Int)])/\Bq w I/\NwQ (G w.heap) I d f t x x' :=
 (KI W H m w).mono λ e I ⟨g,h⟩=>by
  rcases h with⟨b,rfl⟩|⟨b,xb,mb,k,rfl,o,n,l,j,rfl,c⟩
  refine⟨UP,1,rfl,g,SQ ⟨aa,dQ,rfl,?_⟩⟩;rcases i with⟨_,a⟩|⟨a,_⟩
  rw[b]at a;exact a;rw[b]at a;cases a;rcases i with⟨a,_⟩|⟨_,a,p⟩
  exact Q8 b a;refine⟨_,0,rfl,g,SP ⟨rfl,⟨W.toNat,H.toNat,k,0,λ _=>Vl⟩,xb,mb,rfl,l,j,o,n,a,p,?_⟩⟩;have r:((W.toNat:Nat):Int)=W:=TE (Oq c.ra.w1);have q:((H.toNat:Nat):Int)=H:=TE (Oq c.ra.h1);show RSv I xb mb ((W.toNat:Nat):Int) ((H.toNat:Nat):Int) 0 (λ _=>Vl) k;rw[r,q];exact c
theorem L8 (w:M)(S:dR w L pb x)(V:VOk 900000 x)(hl:¬1100<K line)(N:¬(5<=K line/\line.take 5=[108,111,97,100,32]))(F:gp x line t x') :
  Zq 8 #[Pq pb,.string (str line),.string (str t)] w λ e I=>FtP w I L pb x' e:=by
 have i1:¬(1100:Int)<(K line:Int):=U;have d1:=Q3 i1;have Ws:=ar line;have ap:Zq 12 #[.string (str line),.int .u8 32] w λ e I=>∃v,e=VJ v/\G' I (G w.heap) 9 1 v (K (pcs 32 line)) (cQ (pcs 32 line))/\Bq w I:=oK line 32 U w;have HS:=qH S;have HV:=qH V;have HT:=qH F;have a0:=qH N;have Y:=qH hl;clear S V F;by_cases h5:5<=K line;have i2:(5:Int)<=(K line:Int):=U;have YF:=jA line 5;have be:((str (line.take 5)).toList == [108,111,97,100,32])=false:=by
  rw[aD,Q4];exact λ h=>N ⟨h5,h⟩
 generalize str (line.take 5)=l5 at *;clear hl N;go_enter func8,ntmps8;go_upto_region 14 with fail
 rotate_left
 have i2:¬(5:Int)<=(K line:Int):=U;clear hl N;go_enter func8,ntmps8;go_upto_region 14 with fail
 all_goals
  go_wp2_with fail;refine ap.mono ?_;rintro e X ⟨v,rfl,Wb,B1⟩;obtain⟨A1,k1,rfl,ad⟩:=kG Wb;obtain⟨b1,rfl,ay,c1⟩:=ad 0 (cuA 32 line) (by rw[rS];rfl);have a3:=qH ad;have XG:K (pcs 32 line)=K (tlW line)+1:=by rw[rS];rfl
  have bi:K (pcs 32 line)<=1101:=Tg qC (Oq Y.out);have n0:(0:Int)<(K (pcs 32 line):Int):=U;have am:=qH XG;clear XG;generalize K (pcs 32 line)=C at *;obtain⟨m1,m2,m3,m4,m5,m6,m7,m8,MP⟩:=N4 X;obtain⟨r1,r2,r3,r4,r5,r6,r7,r8,⟨nm,hM⟩,bM⟩:=MP;have c8:=(bM.cell (p:=O b1 0) ay).trans c1;have Y5:K (cuA 32 line)<=Vyf:=by have:=lS 32 line;have:=Y.out;unfold Vyf;omega
  have B8:=qH (aj B1 bM);have an:Vy (Cq X b1 0 (.string (str (cuA 32 line)))/\b1<G X.heap):=⟨c1,ay⟩;clear ap Wb ad i2 Ws;have a5:=@run_makeMap Vyj;go_upto_region 16 with fail
  clear a5 r1 r2 r3 r4 r5 r6 r7 r8 c1;rcases DF Y.out a0.out with⟨l,Wl⟩|⟨k,hk,A,l⟩
  ·have Xl:=iB.u6 (P:=Vyj) (k:=9) (e:=3) (t:=59) hM Vyh underlying59 (zeroValue3 _) Y5 l;obtain⟨rfl,rfl⟩:=tG Wl HT.out;have hf:Rq 11 #[J 3] m8 (.string (str (bU 3))):=dJ 3 dQ m8;clear l Wl HT hM;go_wp2_with fail;refine Q9 hf λ w3 B3=>?_;have ao:=B8.out.trans (B3.mono B8.out.size);go_wp2;go_ret;exact FtP.of HS.out rfl ao
  ·have Xl:=iB.Ui (P:=Vyj) (k:=9) (e:=3) (t:=59) hM Vyh underlying59 (zeroValue3 _) Y5 l;have ax:=P3 k;by_cases WZ:0<=bg k/\(C:Int)≠bg k+1
   ·obtain⟨g0,g1⟩:=WZ;have Wl:cI line=none:=by
     cases hq:cw (tlW line) with
     |none=>exact(gq Y.out hk A).2.2 hq
     |some ns =>
      refine(gq Y.out hk A).2.1 ns hq ?_;have:=oG hq;have:=am.out;omega
    obtain⟨rfl,rfl⟩:=tG Wl HT.out;have hf:Rq 11 #[J 3] m8 (.string (str (bU 3))):=dJ 3 dQ m8;have g2:=Q4.2 g1;have g3:((C:Int) != bg k+1)=true:=(by unfold bne;rw[g2];rfl);clear l Wl HT hM hk A g1;generalize bg k=kc at *;go_wp2_with fail;refine Q9 hf λ w3 B3=>?_;have ao:=B8.out.trans (B3.mono B8.out.size);go_wp2;go_ret;exact FtP.of HS.out rfl ao
   ·have HC:Vy (bg k=-1\/bg k=K (tlW line)):=(by have:=am.out;unfold Vy;omega);have HK:Vy (cf (cuA 32 line)=Z k/\k≠1):=⟨hk,A⟩;have bb:=qH bM;have YC:=bX B1;obtain⟨i0,hi,VZ,Wa,Wc⟩:=info_parts Tryz.Vxg;clear l hM hk A bM B1 Y5;by_cases ab:bg k=-1;rw[ab]at Xl;clear ab WZ ax;go_upto_region 21 with fail
    rotate_left
    have g0:0<=bg k:=U;have g1:((C:Int)==bg k+1)=true:=(by rw[beq_iff_eq];omega);have g3:((C:Int) != bg k+1)=false:=(by unfold bne;rw[g1];rfl);have g2:bg k<=3:=U;clear ab WZ ax;go_upto_region 21 with fail
    simp only[g3]
    all_goals
     clear Xl c8;go_loopw [18,19] (λ nv iv wr=>∃(j:Nat) (y:List Int),iv=J ((j:Int)+1)/\G' wr (G X.heap) 3 1 nv (K y) (gn y)/\Bq X wr/\K y<=j/\j+1<=C/\Vy (cw ((tlW line).take j)=Z y))
      (λ _ i _=>C-(intOf i).toNat)
     case atStart=>exact⟨0,[],by simp,To _ _ _ _,bb.out,aa,U,rfl⟩
     case round =>
      obtain⟨j,y,rfl,g,hB,Z4,a7,Xi⟩:=hrel;have bd:=hB.size;have au:=am.out;by_cases VS:j+1<C
      ·obtain⟨u,hu⟩:∃u,(tlW line)[j]? = Z u:=⟨_,SU U⟩;have bf:K u<=1100:=by
        have h1:=Ti hu;have h2:u∈pcs 32 line:=(by rw[rS];exact List.mem_cons_of_mem _ h1);have:=lQ u h2;have:=Y.out;omega
       obtain⟨b',eb,a9,hc⟩:=a3.out (j+1) u (by rw[rS];exact hu);cases eb;have a8:=(hB.cell (p:=O b1 (j+1)) a9).trans hc;have i1:(j:Int)+1<(C:Int):=U;have i3:(0:Int)<=(j:Int)+1:=U;have i4:((j:Int)+1).toNat=j+1:=U;have a2:=mW u U wr;have F:=uU hu Xi.out;clear hc hu Xi au;go_wp2_with fail;refine a2.mono ?_;rintro e w3 ⟨hF,B3⟩;have Wy:=ak g B3;have B4:=aj hB B3;have z4:=B4.size;clear g a2 B3 hB a8;rcases hF with⟨v,hv,rfl⟩|⟨hv,v,rfl⟩
       ·rw[kB]at hv;rw[hv]at F;have n:=bX F;clear F hv;go_wp2_with (at_builtin;refine Vxk _ rfl _ _ 60 rfl (G X.heap) 3 i0 (J 0) 1 8 underlying60 hi VZ Wa Wc rfl dQ _ _ _ rfl (Wy.alloc _) (O (G w3.heap) 0) 1 1 [J v] rfl rfl ?c1 ?c2 ?c3 ?c4 ?c5 ?_)
        case c1=>exact Vye _ _ _
        case c2=>intro z hz;simp at hz;subst hz;rfl
        case c3=>unfold Vyf;omega
        case c4=>omega
        case c5=>simp;omega
        intro v' w6 VR VQ _;have B6:Bq X w6:=(B4.alloc z4 _).grown VQ sU (λ q hq=>(Wy.lt q hq).1);have O6:G' w6 (G X.heap) 3 1 v' (K (y++[v])) (gn (y++[v])):=by
         rw[Td,List.length_singleton];unfold gn at VR ⊢;rw[UE];exact VR
        clear VR VQ Wy;go_wp2;go_roundw
        case rel=>exact⟨j+1,y++[v],gQ,O6,B6,by simp;omega,U,n⟩
        case measure=>simp[intOf];omega
       ·rw[kB]at hv;rw[hv]at F;obtain⟨rfl,rfl⟩:=tG ((gq Y.out HK.out.1 HK.out.2).2.2 (xD F)) HT.out;have hf:Rq 11 #[J 3] w3 (.string (str (bU 3))):=dJ 3 dQ w3;have R:=YC.out.trans (B4.mono YC.out.size);clear F hv HT Wy B4;go_wp2_with fail;refine Q9 hf λ w5 T=>?_;have bc:=aj R T;go_wp2;go_ret;exact FtP.of HS.out rfl bc
      ·obtain rfl:j=K (tlW line):=U;rw[Tl]at Xi;have Xp:=oG Xi.out;have ag:=jD ((gq Y.out HK.out.1 HK.out.2).1 y Xi.out (Oq HC.out)) HT.out;have i1:¬(K (tlW line):Int)+1<(C:Int):=U;have c2:=(hB.cell (p:=O b1 0) an.out.2).trans an.out.1;have R:Bq w wr:=YC.out.trans (hB.mono YC.out.size);have SW:=HS.out.below R;have HL:Vy (L<=pb/\pb<G w.heap/\G w.heap<=G wr.heap):=⟨HS.out.lp,HS.out.lt,R.size⟩;have BL:Vy (Vw L w wr):=R.mono (by have:=HS.out.lp;have:=HS.out.lt;omega);have Xs:=HK.out.1;have ba:K y<=2000:=U;clear Xi a7 au Xp a3 an HT HC a0 hB;by_cases a6:k=0
       ·subst a6;obtain⟨W,H,m,rfl,Wx⟩:∃W H m,y=[W,H,m]/\((nwE W H m≠0/\t=bU (nwE W H m).toNat/\x'=x)\/(nwE W H m=0/\t=okS/\x'=Z ⟨W.toNat,H.toNat,m.toNat,0,λ _=>Vl⟩)):=by
         rcases ag with⟨_,h⟩|⟨h,_⟩|⟨h,_⟩|⟨h,_⟩
         ·exact h
         ·cases h
         ·omega
         ·omega
        rw[(FH Xs).1]at c2;have c3:Cq wr b1 0 (.string ⟨#[110,101,119]⟩):=c2;obtain⟨b,o,cap,rfl,q0,q1,q2⟩:=It g;have e0:Bq wr wr.drew:=ae.drew;have aw:=RN (t:=t) (x:=x) (x':=x') W H m wr.drew Wx;have CC:Vy (∀I,Bq wr I->Cq I b o (J W)/\Cq I b (o+1) (J H)/\Cq I b (o+2) (J m)):=λ I h=>⟨al h q0,al h q1,al h q2⟩;have B:=qH SW;clear c2 g ag Xs Wx q0 q1 q2 SW R;go_upto_region 28 with fail
        clear c3;go_region_held3 (λ I=>D I (O b o)=Z (J W)/\Cq I b (o+1) (J H)/\Cq I b (o+2) (J m)) (first|with_reducible exact CC.out _ e0|with_reducible exact CC.out _ e2)
         (first|(go_at_call 17;refine aw.mono ?_;rintro r w2 ⟨po,f,rfl,aL,hQ⟩;have e2:=e0.trans aL;clear aL;have HQ:Vy (NwQ (G wr.heap) w2 po f t x x'):=hQ;clear hQ))
        clear CC aw;rcases HQ.out with⟨f1,f8,rfl,rfl,rfl⟩|⟨rfl,s,xb,mb,rfl,z1,z2,m1,m6,rfl,rfl,RV⟩
        ·have ac:=xN (x:=Pq pb) (v:=.pointer UP) f f1 U w2;have S2:=B.out.below e2;have a4:=BL.out.trans (e2.mono (Oq HL.out));have n:Vy (dR w2 L pb x'/\Vw L w w2):=⟨S2,a4⟩;clear S2 a4 HQ e2 e0;go_wp2_with fail;refine Q9 ac λ w5 T=>?_;go_wp2;go_ret;exact⟨rfl,n.out.1.below T,n.out.2.trans (T.mono (by have:=n.out.1.lp;have:=n.out.1.lt;omega))⟩
        ·have S2:=B.out.below e2;obtain⟨p,hc⟩:=S2.o.c;have Yn:=HL.out;have n:Vy (dR (C' w2 (O pb 0) (Pq xb)) L pb (Z s)/\Vw L w (C' w2 (O pb 0) (Pq xb))):=⟨S2.put U U RV U U m1 m6,(BL.out.trans (e2.mono U)).setCell (p:=O pb 0) Yn.1 _⟩;have ac:=Be (v:=Pq xb) w2 hc S2.fz ⟨_,rfl⟩;have he:str okS=str [111,107]:=rfl;rw[he];clear S2 RV hc Yn HQ e2 e0;go_wp2_with fail;refine Q0 ac ?_;go_wp2;go_ret;exact⟨rfl,n.out.1,n.out.2⟩
       ·have k2:2<=k:=(by have:=HK.out.2;omega);have bk:((str (cuA 32 line)).toList == [110,101,119])=false:=by
         rw[aD,Q4];intro h;rw[h]at Xs;cases Xs;omega
        obtain⟨A2,aN,rfl,hO,_⟩:=uV g;rcases ag with⟨h,_⟩|⟨h,_⟩|⟨_,rfl,rfl,rfl⟩|⟨_,s,rfl,hA⟩
        ·omega
        ·omega
        ·have Zy:Cq wr pb 0 (.pointer UP):=by
          rcases SW.o with⟨_,h⟩|⟨s,_,_,h,_⟩
          ·exact h
          ·cases h
         have hf:Rq 11 #[J 8] wr (.string (str (bU 8))):=dJ 8 dQ wr;have B:Vy (dR wr L pb UP/\Bq w wr):=⟨SW,R⟩;clear g SW R Xs;generalize str (cuA 32 line)=wd at *;go_wp2_with fail;refine Q9 hf λ w5 T=>?_;go_wp2;go_ret;exact FtP.of HS.out rfl (B.out.2.trans (T.mono B.out.2.size))
        ·obtain⟨xb,mb,Zy,_⟩:=SW.has;have hV:=HV.out s rfl;have a1:=L7 (cap:=aN) wr SW Xs hO ba hV.1 hV.2 hA;clear g SW R Xs hA hV hO;generalize str (cuA 32 line)=wd at *;go_wp2_with fail;refine a1.mono ?_;rintro e w5 ⟨rfl,S5,T⟩;have n:Vy (dR w5 L pb x'/\Vw L w w5):=⟨S5,BL.out.trans T⟩;clear S5 T a1;go_wp2;go_ret;exact⟨rfl,n.out.1,n.out.2⟩
end
theorem Om {x x':Option Ses}{line t:Lu}(w:M)(S:dR w L pb x)(V:VOk 900000 x)(d:K line<=1200)(a:gp x line t x') :
  Zq 8 #[Pq pb,.string (str line),.string (str t)] w λ e I=>FtP w I L pb x' e:=by
 by_cases b:1100<K line;exact Of w S d b a;by_cases c:5<=K line/\line.take 5=[108,111,97,100,32];refine Oh (rest:=line.drop 5) w S b ?_ a;have e:=List.take_append_drop 5 line;rw[c.2]at e;exact e.symm;exact L8 w S V b c a
section
open Go.RowKit Go.Lib
theorem L9 {A:Oa}{n:Nat}(w:M)(b:80<n) :
  Eq9 5 #[.slice A n cap] w (.tuple #[.slice UP 0 0,.iface 42 (J 2)]):=by
 have a:(80:Int)<n:=U;go_enter func5,ntmps5;go_wp2;go_ret2;exact⟨rfl,rfl⟩
end
theorem kJ {P:Program}{ops:Array Oper}{rest:List Oper}{o:Oper}{a:Act}{Q9:Exit->Act->M->Prop}(k:o.guard=UP)(s x:Operand)(t d:TypeId)(i:o.op=.call { callee:=.builtin .append,args:=#[s,x],argTypes:=#[t,t] })(b:o.type=d){u v c:Vr}(f:a.eval s=u)(e:a.eval x=v)(g:(Builtin.append_ #[t,t] d #[u,v]).run P w=.ok c I)(h:wpList P ops Q9 rest (a.put o.dst c) I):wpList P ops Q9 (o::rest) a w:=by
 refine wpList_plain k λ l j=>?_;unfold Oper.wp execOp;simp only[i,b,resolve,invoke,builtin,Sem.run_bind,Sem.run_pure,Result.andThen_ok,List.map_toArray,List.map_cons,List.map_nil,f,e,g];exact j _ _ h
theorem Ma (w:M)(a:TypeId)(cap:Nat):(Builtin.append_ #[22,22] a #[.slice UP 0 0,.slice UP 0 cap]).run Vyj w=.ok (.slice UP 0 0) w:=by
 obtain⟨c,b,d⟩:=TK.1 nX;simp[Builtin.append_,run_underlying Vyi,sizeOf,typeInfo,b,Builtin.lenOf,Builtin.firstCells]
theorem Qp {A:Oa}{ls:List Lu}(w:M)(k:eE w A ls)(N:K ls<=1000)(d:TypeId):∃g c,(Builtin.append_ #[22,22] d #[.slice UP 0 0,.slice A (K ls) cap]).run Vyj w=.ok g c/\G' c (G w.heap) 9 1 g (K ls) (cQ ls)/\Bq w c:=by
 obtain⟨p,t,i⟩:=TK.1 nX;simp only[Prod.mk.injEq]at i;obtain⟨L,H,F⟩:=i;cases A with
 |none =>
  have e:ls=[]:=by
   cases ls with
   |nil=>rfl
   |cons x r=>obtain⟨b,o,h,_⟩:=k 0 x rfl;cases h
  subst e;exact⟨_,_,Ma w d cap,To _ _ _ _,ae⟩
 |some C =>
  obtain⟨n,I,B,m,z,_⟩:=run_append_own (P:=Vyj) w (G w.heap) 22 d 9 p (.string ⟨#[]⟩) 1 16 Vyi t L H F rfl dQ (.slice UP 0 0) 0 [] (To _ _ _ _) C (K ls) cap (cQ ls) (by simp[cQ]) (λ j u a=>by
   unfold cQ at a;rw[Tz]at a;cases f:ls[j]? with
   |none=>rw[f]at a;cases a
   |some l =>
    rw[f]at a;cases a;obtain⟨b,o,y,_,v⟩:=k j l f;cases y;rw[Go.WideShapes.add_plain];exact v) (by intro u a;unfold cQ at a;obtain⟨l,_,rfl⟩:=TX.1 a;rfl) mQ U aa
  rw[Tm,Vc]at m;exact⟨n,I,B,m,ae.grown z aa (λ q s=>by cases s)⟩
theorem Oo {ls:List Lu}{v1:Vr}(w:M)(L:K ls<=1000)(p:base<=G w.heap)(a:G' w base 9 1 v1 (K ls) (cQ ls))(f:TypeId):∃g c d,(Builtin.append_ #[22,22] f #[v1,.slice (Z (O (G w.heap) 0)) 1 1]).run Vyj (E w (VP #[.string ⟨#[109,97,114,107]⟩] 9))=.ok (.slice (Z (O g 0)) (K ls+1) c) d/\K ls+1<=c/\eE d (Z (O g 0)) ls/\Vw base w d:=by
 obtain⟨l,b,h⟩:=TK.1 nX;simp only[Prod.mk.injEq]at h;obtain⟨B,z,y⟩:=h;have v:Vw base w (E w (VP #[.string ⟨#[109,97,114,107]⟩] 9)):=ae.alloc p _;obtain⟨H,I,t,s,r,_⟩:=run_append_own (P:=Vyj) (E w (VP #[.string ⟨#[109,97,114,107]⟩] 9)) base 22 f 9 l (.string ⟨#[]⟩) 1 16 Vyi b B z y rfl dQ v1 (K ls) (cQ ls) (World.ownsRow.alloc a _) (O (G w.heap) 0) 1 1 [.string ⟨#[109,97,114,107]⟩] rfl (Vye _ _ _) (by intro u j;simp at j;subst j;rfl) mQ U sU;obtain⟨A,cap,rfl,k⟩:=fu s;obtain⟨g,rfl,_,o,_⟩:=k (K ls) (.string ⟨#[109,97,114,107]⟩) (by rw[TG (by simp[cQ])];simp[cQ]);refine⟨g,cap,I,t,o,λ i x b=>?_,v.grown r sU (λ q m=>(World.ownsRow.alloc a (VP #[.string ⟨#[109,97,114,107]⟩] 9)).lt q m |>.1)⟩;obtain⟨F,_⟩:=Th.1 b;obtain⟨N,e,n,_,C⟩:=k i (.string (str x)) (by
  rw[TO (by simp[cQ];exact F)];unfold cQ;rw[Tz,b];rfl)
 cases e;exact⟨g,0,rfl,n,by rw[Tm];exact C⟩
theorem Qq {x x':Option Ses}{line t:Lu}{n:Int}(h:gp x line t x')(V:VOk n x)(p:256<=n):VOk (n+60) x':=by
 intro s b;rcases h with⟨_,_,rfl⟩|⟨k,ns,o,_,g⟩
 have:=V s b;omega;rcases g with⟨_,W,H,m,_,h⟩|⟨_,m,_,h⟩|⟨_,_,h,_⟩|⟨_,a,f,h⟩
 rcases h with⟨_,_,rfl⟩|⟨_,_,rfl⟩
 have:=V s b;omega
 grind
 rcases h with⟨_,_,rfl⟩|⟨_,W,H,d,c,_,rfl⟩
 have:=V s b;omega;cases b;have c:=wP c;have j:H*W<=16*16:=Nat.mul_le_mul c.2.2.2.1 c.2.1;have r:=nU d;show (0:Int)<=blocks d/\(blocks d:Int)<=n+60;omega;rw[h]at b;cases b;have u:=V a f;rcases h with⟨_,e,_⟩|⟨_,e,_⟩|⟨_,e,_⟩|⟨_,e,_⟩|⟨_,e,_⟩|⟨_,h⟩
 grind
 grind
 grind
 grind
 grind
 rcases h with⟨_,e,_⟩|⟨l,e,_⟩
 grind
 rw[e]at b;cases b;have i:=(NW l).1;have q:edK a.W a.H a.Y (nsF ns) (λ _=>k==2) (K ns)<=60:=by grind [edK,Tg,yQ]
 show 0<=a.V+(edK a.W a.H a.Y (nsF ns) (λ _=>k==2) (K ns):Nat)/\a.V+(edK a.W a.H a.Y (nsF ns) (λ _=>k==2) (K ns):Nat)<=n+60;omega
theorem jM.at {x x':Option Ses}{ls ts:List Lu}{i:Nat}{l:Lu}(h:jM x (ls.drop i) (ts.drop i) x')(b:ls[i]? = Z l):∃t a,ts[i]? = Z t/\gp x l t a/\jM a (ls.drop (i+1)) (ts.drop (i+1)) x':=by grind [jM,gp,Th,jM.len,Ue,List.drop_eq_getElem_cons,SU]
theorem Ot (w:M):dR (E w (VP #[.pointer UP] 33)) (G w.heap) (G w.heap) none :=
 ⟨SQ ⟨rfl,by rw[Tb];rfl⟩,Um _ _ _ _,aa⟩
theorem Ou {A:Oa}{cap:Nat}{ls:List Lu}(w:M)(E9:Env w)(M9:Mx w)(st:az w)(dg:ch w)(hx:eE w A ls) :
  Zq 3 #[.slice A (K ls) cap] w λ e I=>e=VJ (.bool Q)/\Vw (G w.heap) w I:=by
 have hh:=Ik w E9 M9 st dg;have HE:Vy (∀I,Vw (G w.heap) w I->Env I/\Mx I/\az I/\ch I):=λ I hb=>⟨E9.grown hb,M9.below hb (Oq E9.z),st.below hb (Oq E9.z),dg.below hb⟩;have HX:=qH hx;clear E9 M9 st dg hx;go_enter func3,ntmps3;go_wp2_with fail;refine Q9 hh λ w1 B1=>?_;clear hh;by_cases a5:90<K ls
 ·have i1:(90:Int)<(K ls:Int):=U;go_wp2;go_ret;exact⟨rfl,B1⟩
 have i1:¬(90:Int)<(K ls:Int):=U;go_wp2;go_loopw [4] (λ iv wr=>∃i:Nat,i<=K ls/\iv=J i/\Vw (G w.heap) w wr/\Vy (∀l∈ls.take i,K l<=1200))
  (λ i _=>K ls-(intOf i).toNat)
 case atStart=>exact⟨0,Te _,rfl,B1,by intro l m;simp at m⟩
 case round =>
  clear B1;obtain⟨i,XC,rfl,j,hI⟩:=hrel;by_cases VS:i<K ls
  ·obtain⟨x,Z0⟩:∃x,ls[i]? = Z x:=⟨_,SU VS⟩;obtain⟨b,o,eA,Wv,N⟩:=HX.out i x Z0;subst eA;have a4:=(j.cell (p:=O b (o+i)) Wv).trans N;have i2:(i:Int)<(K ls:Int):=U;have a3:=ar x;by_cases aL:1200<K x
   ·have i3:(1200:Int)<(K x:Int):=U;clear N Z0;go_wp2;go_ret;exact⟨rfl,j⟩
   ·have i3:¬(1200:Int)<(K x:Int):=U;have HI:Vy (∀l∈ls.take (i+1),K l<=1200):=by
     intro l m;obtain⟨aN,he⟩:=Th.1 Z0;rw[Tx aN,he,Tn]at m;rcases m with m|m
     ·exact hI.out l m
     ·rw[List.mem_singleton.1 m];omega
    clear N Z0 hI;go_wp2;go_roundw
    case rel=>exact⟨i+1,U,gQ,j,HI⟩
    case measure=>simp[intOf];omega
  ·obtain rfl:i=K ls:=U;rw[Tl]at hI;have i2:¬(K ls:Int)<(K ls:Int):=U;obtain⟨v1,wa,r1,o1,b1⟩:=Qp (cap:=cap) wr (HX.out.below j) U 22;obtain⟨g,c,wb,r2,N,hO,b2⟩:=Oo wa U b1.size o1 22;have YU:(K ls:Int)<=(c:Int):=U;have Y4:(K ls:Int)<=(K ls:Int)+1:=U;have Bb:Vw (G w.heap) w wb:=j.trans ((b1.trans b2).mono j.size);have HO:=qH hO;clear o1 b1 b2 hO j;go_wp2_with (first|(at_builtin;refine kJ rfl _ _ 22 _ rfl rfl rfl rfl r1 ?_)|(at_builtin;refine kJ rfl _ _ 22 _ rfl rfl rfl rfl r2 ?_));clear r1 r2;by_cases a0:80<K ls
   ·have hm:=L9 (A:=Z (O g 0)) (cap:=c) wb a0;have i3:(80:Int)<(K ls:Int):=U;have Ze:=λ I=>KH (n:=2) dQ I;have e0:edV 2=.iface 42 (J 2):=rfl;rw[e0]at Ze;clear e0;go_wp2_with fail;refine Q0 hm ?_;clear hm;go_wp2_with fail;refine Q0 (Ze _) ?_;go_wp2;go_ret;exact⟨rfl,Bb⟩
   ·have i3:¬(80:Int)<(K ls:Int):=U;obtain⟨E2,M2,X,an⟩:=HE.out wb Bb;have hr:=FJ (A:=Z (O g 0)) (cap:=c) (ls:=ls) wb E2 M2 X an U HO.out (λ l m=>by have:=hI.out l m;omega);clear E2 M2 X an;go_wp2_with fail;refine hr.mono ?_;rintro e w3 ⟨B3,ts,xe,ab,T,rfl,Y⟩;have HR:=qH T;have HT:=qH Y;have B:=aj Bb B3;have Wq:=xM (c1:=c) (c2:=cap) w3 (HO.out.below B3) (HX.out.below B) U;clear hr T Y;go_wp2_with fail;refine Q9 Wq λ k B4=>?_;clear Wq;have a1:Vy (∀i t,ts[i]? = Z t->D k (O ab i)=Z (.string (str t))/\ab<G k.heap):=λ i t h=>by
     have h1:=HT.out i t h;have h2:=aB h1;exact⟨(B4.cell (p:=O ab i) h2).trans h1,Tc h2 B4.size⟩
    have aw:=B.trans (B4.mono B.size);have ap:=qH (Ot k);have bm:=mB k (VP #[.pointer UP] 33);have v:=qH aw;clear HT B3 B4 B aw Bb HO;go_upto_region 16 with fail
    generalize E k (VP #[.pointer UP] 33)=wm at *;have au:=qH bm;clear bm;have ay:=v.out.size;generalize G k.heap=L at *;go_wp2;go_loopw [9] (λ iv wr=>∃(i:Nat) (x:Option Ses),i<=K ls/\iv=J i/\dR wr L L x/\Vy (jM x (ls.drop i) (ts.drop i) xe)/\VOk (256+60*(i:Int)) x/\Vw L k wr)
     (λ i _=>K ls-(intOf i).toNat)
    case atStart=>exact⟨0,UP,Te _,rfl,ap.out,HR,λ s h=>(by cases h),au.out⟩
    case round =>
     clear ap au HR;obtain⟨i,x,XC,rfl,S,T,V,j⟩:=hrel;by_cases VS:i<K ls
     ·obtain⟨l,q⟩:∃l,ls[i]? = Z l:=⟨_,SU VS⟩;obtain⟨t,x1,ac,hT,am⟩:=T.out.at q;obtain⟨b,o,eA,Wv,N⟩:=HX.out i l q;subst eA;obtain⟨q1,X6⟩:=a1.out i t ac;have ag:=(v.out.cell (p:=O b (o+i)) Wv).trans N;have e0:=wB wr;have i4:(i:Int)<(K ls:Int):=U;have ad:=Om wr.drew (S.below e0) (λ s h=>by have:=V s h;omega) (hI.out l (Ti q)) hT;have B0:Vw L k wr.drew:=j.drew;have CC:Vy (∀I,Vw L k I->D I (O b (o+i))=Z (.string (str l))/\D I (O ab i)=Z (.string (str t))):=λ I h=>⟨(h.cell (p:=O b (o+i)) (by show b<L;omega)).trans ag,(h.cell (p:=O ab i) (by show ab<L;omega)).trans q1⟩;have ao:Vy (VOk (256+60*((i+1:Nat):Int)) x1):=by
       have:=Qq hT V U;have e:256+60*((i+1:Nat):Int)=256+60*(i:Int)+60:=U;rw[e];exact this
      have WT:=qH am;clear hT am T V N ag q1 ac q S e0;go_upto_region 19 with fail
      go_region_held3 (λ I=>D I (O b (o+i))=Z (.string (str l))/\D I (O ab i)=Z (.string (str t))) (first|with_reducible exact CC.out _ B0|with_reducible exact CC.out _ R)
       (first|(go_at_call 8;refine ad.mono ?_;rintro r w2 ⟨rfl,S2,ax⟩;have R:=B0.trans ax;clear ax;have C:Vy (dR w2 L L x1):=S2;clear S2))
      clear CC ad B0 j;have f:=qH (v.out.trans (R.mono U));go_upto_region 22 with fail
      have VY:Nonempty (cJ w2):=gB w2;rcases C.out.o with⟨rfl,hp⟩|⟨s,xb,mb,rfl,hp,_,_,F,_⟩
      ·have lp:=C.out.lt;have S0:=fL hp;clear hp;refine bF kQ kQ ?_
       repeat (go_big_quiet_step (fail))
       refine Vza ?_;rintro _ ⟨y,rfl⟩;have P:Vy (dR y.u L L UP/\Vw L k y.u):=⟨C.out.below y.h,R.trans (y.h.mono U)⟩;clear S0 VY R C f;generalize y.u=z at *;go_wp2;go_roundw
       case rel=>exact⟨i+1,UP,U,gQ,P.out.1,WT,ao.out,P.out.2⟩
       case measure=>simp[intOf];omega
      ·have lp:=C.out.lt;have WS:=bG F.ra.w1 F.ra.w2 F.ra.h1 F.ra.h2;have S0:=fL hp;have S1:=fL F.c0;have S2:=fL F.ra.c0;have S3:=fL F.ra.c1;have a2:IntKind.i64.wrap ((s.W:Int)*s.H)=(s.W:Int)*s.H:=fX U U;clear hp F;by_cases h9:90<(s.W:Int)*s.H
       ·have d9:=Q2 h9;refine bF kQ kQ ?_
        repeat (go_big_quiet_step (fail))
        refine Vza ?_;rintro _ ⟨y,rfl⟩;have P:=qH (f.out.trans (y.h.mono f.out.size));clear S0 S1 S2 S3 VY R C f;generalize y.u=z at *;go_wp2;go_ret;exact⟨rfl,P.out⟩
       ·have d9:=Q3 h9;refine bF kQ kQ ?_
        repeat (go_big_quiet_step (fail))
        refine Vza ?_;rintro _ ⟨y,rfl⟩;have P:Vy (dR y.u L L (Z s)/\Vw L k y.u):=⟨C.out.below y.h,R.trans (y.h.mono U)⟩;clear S0 S1 S2 S3 VY R C f;generalize y.u=z at *;go_wp2;go_roundw
        case rel=>exact⟨i+1,Z s,U,gQ,P.out.1,WT,ao.out,P.out.2⟩
        case measure=>simp[intOf];omega
     ·obtain rfl:i=K ls:=U;have i4:¬(K ls:Int)<(K ls:Int):=U;have f:Vw (G w.heap) w wr:=v.out.trans (j.mono ay);clear j S V T;go_wp2;go_ret;exact⟨rfl,f⟩
end Go.Proofs.YtikdmenjibkgiaaGreatDoor
