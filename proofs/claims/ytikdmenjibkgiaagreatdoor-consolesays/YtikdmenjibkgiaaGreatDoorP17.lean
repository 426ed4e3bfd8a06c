/- Texts laid together. -/
import Derived.Test.YtikdmenjibkgiaaGreatDoorP16
namespace Go.Proofs.YtikdmenjibkgiaaGreatDoor
open Go.Proofs.Tryz renaming prog->Vyj
open Go.Value renaming ownBlock->M'
open _root_.Array renaming size->G
open _root_.List renaming take_length->Tl,take_zero->Vk,not_mem_nil->Uf,take_add_one->Ty,getElem?_eq_getElem->SU,getD_eq_getElem?_getD->Tt,mem_of_getElem?->Ti,getElem_of_mem->TR,length_take->Ts,getElem_take->Vg,pairwise_iff_getElem->Ua,getElem?_eq_some_iff->Th,mem_append->Tn,mem_singleton->Tv,append_nil->TU,length->K
open Go.World renaming cell?_setCell_other->SY,cell?_setCell_same->Tf,cell?_alloc_at->SR,cell?_alloc_new->Tb,block_lt_of_cell?->SZ,cell?_alloc_old->Ve,ownsRow_nil->To,cell?->D,alloc->E,setCell->C',ownsRow->G'
open _root_.Nat renaming zero_le->Te,ne_of_lt->Uz,zero_add->Tm,lt_of_lt_of_le->Tc
open _root_.Or renaming inr->SP,inl->SQ
open _root_.Int renaming toNat_natCast->Ta
open Go.Proofs.Tryz
open _root_.Option renaming some->Z,none->UP
open _root_.Bool renaming true->Q,false->Vl
open Go renaming World->M,Value->Vr,below_drewN->Vxj,bodyPost_ret->Vxl
open Go.RowKit renaming Hid->Vy
open Go.Ending renaming returned->VJ
open Go.Obj renaming cells->VP
variable {f:Int->Option Vr}{v:Vr}{w I:M}{lb rb mb cap N' gc xc yc M9 B N b a pb c t:Nat}{W H V tz s d:Int}
set_option maxHeartbeats 8000000
set_option maxRecDepth 1000000
open Go.RowKit
section
open Go.RowKit Go.Maps
section
variable {w I : M} {lb vb eb top : Nat} {L : List Nat} {st : LSt} {f : Int → Option Vr}
theorem RLv.level (R:RLv w lb vb eb top L st f){n:Nat}(g:n∈L)(j:0<top):∃c,(Instr.mapUpdate 144 (.map (Z vb)) (J (n:Int)) (J (top:Int))).run Vyj w=.ok () c/\ai (λ k=>k=vb) w c/\RLv c lb vb eb top L ⟨λ k=>if k=n then top else st.VE k,st.es⟩ f:=by
 have t:=R.bd n g;obtain⟨c,m,b,M9⟩:=R.lv.store Tryz.Vxf (a:=(n:Int)) U U (J (top:Int));rw[Fm g j]at M9;have l:=λ o=>R.lv.mp.cell o;have e:lb≠vb:=R.nes.1;refine⟨c,m,b,b.cellOf R.c0 e,b.cellOf R.c1 e,b.cellOf R.c2 e,(b.frozen (p:=O lb 2) R.lts.1 e).trans R.fz,M9,R.em.X' b (λ h=>R.ne h.symm),λ x i=>?_,R.no,R.ne,R.bd⟩;obtain⟨s,d,r,q⟩:=R.yes x i;exact⟨s,d,r,q.map b l⟩
theorem RLv.ends {T:Nat}{es:Nat->List LE}{VE:Nat->Nat}(R:RLv w lb vb eb top L ⟨λ x=>if x∈L.take (K L)/\VE x=0 then T else VE x,es⟩ f):RLv w lb vb eb top L ⟨dP T ⟨VE,es⟩,es⟩ f:=by
 have e:lzF L (λ x=>if x∈L.take (K L)/\VE x=0 then T else VE x)=lzF L (dP T ⟨VE,es⟩):=by grind [lzF,dP,Tl]
 have a:iT w vb (lzF L (λ x=>if x∈L.take (K L)/\VE x=0 then T else VE x)):=R.lv;rw[e]at a;exact⟨R.c0,R.c1,R.c2,R.fz,a,R.em,R.yes,R.no,R.ne,R.bd⟩
theorem RLv.up (R:RLv w lb vb eb top L st f)(u:∀o,D w (O lb (o+3))=UP)(T:Nat):RLv (C' w (O lb 2) (J (T:Int))) lb vb eb T L st f/\ai (λ k=>k=lb) w (C' w (O lb 2) (J (T:Int))):=by
 have a:ai (λ k=>k=lb) w (C' w (O lb 2) (J (T:Int))):=(ai.refl (λ k=>k=lb) w).setCell (p:=O lb 2) (λ _=>rfl) _;refine⟨⟨?_,?_,?_,?_,R.lv.X' a (λ h=>R.nes.1 h.symm),R.em.X' a (λ h=>R.nes.2 h.symm),λ n m=>?_,R.no,R.ne,R.bd⟩,a⟩;rw[SY _ _ _ _ (by intro e;cases e)];exact R.c0;rw[SY _ _ _ _ (by intro e;cases e)];exact R.c1;exact Tf _ _ _ R.c2;rw[World.frozen?_setCell];exact R.fz;obtain⟨A,cap,s,r⟩:=R.yes n m;refine⟨A,cap,s,λ i e hi=>?_⟩;obtain⟨b,o,t,l,j,g,d⟩:=r i e hi;have c:b≠lb:=λ q=>by grind
 exact⟨b,o,t,a.cellOf l c,a.cellOf j c,a.cellOf g c,a.cellOf d c⟩
end
def upF (L:Ln) (f:Int->Option Vr) (i:Nat):Int->Option Value:=λ c=>if 0<=c/\c.toNat∈L.take i then f c else UP
theorem Kp (L:Ln)(f:Int->Option Vr):upF L f 0=λ _=>none:=by
 funext c
 unfold upF;rw[Q6 (λ q=>by rw[Vk]at q;exact Q8 q.2 Uf)]
theorem Kq {L:Ln}{i n:Nat}(a:L[i]? = Z n)(b:f (n:Int)=Z v):bQ (upF L f i) (n:Int) v=upF L f (i+1):=by
 funext c
 unfold bQ upF;rw[Ty,a];by_cases e:c=(n:Int)
 grind
 grind
theorem NL {L:Ln}(h:∀c:Int,¬(0<=c/\c.toNat∈L)->f c=UP):upF L f (K L)=f:=by grind [upF,Tl]
theorem Ks (L:Ln):lzF L (λ _=>0)=λ _=>none:=by grind [lzF]
structure RHd (w:M) (lb vb eb:Nat):Prop where
 c0:D w (O lb 0)=Z (.map (Z vb))
 c1:D w (O lb 1)=Z (.map (Z eb))
 c2:D w (O lb 2)=Z (J 1)
 fz:w.frozen? (O lb 2)=Vl
 c3:∀o,D w (O lb (o+3))=UP
theorem RHd.X' {vb eb:Nat}{F:Nat->Prop}(h:RHd w lb vb eb)(b:ai F w I)(a:¬F lb):RHd I lb vb eb:=by
 have c:=aB h.c0;exact⟨b.cellOf h.c0 a,b.cellOf h.c1 a,b.cellOf h.c2 a,(b.frozen (p:=O lb 2) c a).trans h.fz,λ o=>(b.cell (p:=O lb (o+3)) c a).trans (h.c3 o)⟩
theorem AE {nk:Nat}{A:Oa}{L:Ln}{es:Nat->List LE}(w:M)(G9:RGm w rb mb cap nk A L es f)(hr:L.Pairwise (·<·))(Yu:∀n∈L,n<256)(ZU:K L<=256)(B:Btw L 0 16 ⟨λ _=>0,es⟩)(m1:1<=N')(m6:N'<=6) :
  Zq 73 #[Pq rb,J (N':Int)] w λ e I=>∃lb vb eb k st f',e=VJ (Pq lb)/\Rds N' L ⟨λ _=>0,es⟩ k st/\mz N' L k st/\RLv I lb vb eb (k+1) L ⟨dP (k+1) st,st.es⟩ f'/\Bq w I:=by
 have a1:=@run_makeMap Vyj;obtain⟨W0,XT⟩:∃W0,W0=((E w (.map #[] 0)).alloc (.map #[] 0)).alloc (VP #[.map (Z (G w.heap)),.map (Z (G w.heap+1)),J 1] 146):=⟨_,rfl⟩;have BW:Bq w W0:=by
  rw[XT];exact((ae.alloc aa _).alloc sQ _).alloc sU _
 have P:RHd W0 (G w.heap+2) (G w.heap) (G w.heap+1):=by
  rw[XT];refine⟨SR _ _ _ 0 sQ,SR _ _ _ 1 sQ,SR _ _ _ 2 sQ,?_,λ o=>?_⟩
  ·rw[frozen?_alloc_cells];simp[World.frozen?]
  ·have e:G ((E w (.map #[] 0)).alloc (.map #[] 0)).heap=G w.heap+2:=(by simp);rw[<- e,Tb];simp
 have M1:iT W0 (G w.heap) (lzF L λ _=>0):=by
  rw[XT,Ks];exact((iT.made w).below (ae.alloc aa _)).below (ae.alloc aa _)
 have M2:iT W0 (G w.heap+1) (upF L f 0):=by
  rw[XT,Kp];have h:=iT.made (E w (.map #[] 0));have e:G (E w (.map #[] 0)).heap=G w.heap+1:=by simp
  rw[e]at h;exact h.below (ae.alloc aa _)
 have HG:=qH G9;have HR:=qH hr;have XE:=qH Yu;have HB:=qH B;clear hr Yu B;go_enter func73,ntmps73;go_wp2;rw[<- XT];clear a1 XT G9;go_loopw [6] (λ iv wr=>∃(i:Nat),i<=K L/\iv=J i/\RHd wr (G w.heap+2) (G w.heap) (G w.heap+1)/\iT wr (G w.heap) (lzF L λ _=>0)/\iT wr (G w.heap+1) (upF L f i)/\Bq w wr)
  (λ i _=>K L-(intOf i).toNat)
 case atStart=>exact⟨0,Te _,rfl,P,M1,M2,BW⟩
 case round =>
  clear P M1 M2 BW;obtain⟨i,hi,rfl,P,M1,M2,d⟩:=hrel;have l:=HG.out.below d;have R:=l.p0;by_cases H:i<K L
  ·obtain⟨C,z,hA,Zp,Wj⟩:=l.row i H;subst hA;have i1:(0:Int)<=(i:Int):=U;have i2:(i:Int)<(K L:Int):=U;obtain⟨n,u⟩:∃n,L[i]? = Z n:=⟨L[i],SU H⟩;have Zh:L.getD i 0=n:=(by rw[Tt,u];rfl);have VX:Cq wr.drew C (z+i) (J (n:Int)):=(by rw[<- Zh];exact Wj);have WK:=Ti u;have bc:=XE.out n WK;have Y2:=aE (a:=(n:Int)) U U;obtain⟨A',ad,am,_⟩:=l.yes n WK;have t:Bq wr wr.drew:=ae.drew;have a3:(Instr.lookup 137 (.map (Z mb)) (J (n:Int)) Vl).run Vyj wr.drew=.ok (.slice A' (K (es n)) ad) wr.drew:=(l.below t).mp.Ui aV Tryz.Vxa (mm _) Y2 am Vl;obtain⟨w3,X,K3,M3⟩:=(M2.below t).store Tryz.Vxa (a:=(n:Int)) U U (.slice A' (K (es n)) ad);rw[Kq u am]at M3;have H3:=(P.X' (F:=λ _=>False) (ai.Y' t) id).X' K3 U;have a6:=(M1.below t).X' K3 U;have B3:=(aj d t).trans (K3.Z' (aj d t).size (λ g hg=>U));have v:Cq wr.drew rb 0 (.slice (Z (O C z)) (K L) cap):=R;have a0:D wr.drew (O rb 1)=Z (.map (Z mb)):=l.p1;have c1:D wr.drew (O (G w.heap+2) 1)=Z (.map (Z (G w.heap+1))):=P.c1;clear u Zh WK Wj l am t K3 P M1 M2;go_wp2_with fail;go_region;clear a3 X v a0 c1 VX R;go_wp2;go_roundw
   case rel=>exact⟨i+1,U,gQ,H3,a6,M3,B3⟩
   case measure=>simp[intOf];omega
  ·have ei:i=K L:=U;subst ei;rw[NL l.no]at M2;have c:RLv wr (G w.heap+2) (G w.heap) (G w.heap+1) 1 L ⟨λ _=>0,es⟩ f:=⟨P.c0,P.c1,P.c2,P.fz,M1,M2,l.yes,l.no,U,XE.out⟩;have h3:=P.c3;have aN:Vy (Rds N' L ⟨λ _=>0,es⟩ 0 ⟨λ _=>0,es⟩):=rfl;clear P M1 M2 l hi H;go_wp2;clear R;go_loopg [7] N' (λ gj _ wq=>∃(k:Nat) (N:LSt) (f':Int->Option Vr),gj=N'-k/\k+1<=N'/\RLv wq (G w.heap+2) (G w.heap) (G w.heap+1) (k+1) L N f'/\Vy (∀o,D wq (O (G w.heap+2) (o+3))=UP)/\Vy (Rds N' L ⟨λ _=>0,es⟩ k N)/\Bq w wq)
   case atStart=>exact⟨0,_,f,rfl,m1,c,h3,aN,d⟩
   case round =>
    clear c aN d h3;obtain⟨k,N,f',WV,hk,c,h3,ac,d⟩:=hrel;have a9:Vy _:=WV;clear WV;have q2:=c.c2;by_cases H:k+1<N'
    ·have a5:(k:Int)+1<(N':Int):=U;have ay:=fV (show (0:Int)<=16 by omega) k;have a2:dbl 16 k<=256:=by
      have:k=0\/k=1\/k=2\/k=3\/k=4:=U;rcases this with rfl|rfl|rfl|rfl|rfl<;>decide
     have hA:=(Btw.rds (show (0:Int)<=16 by omega) HB.out ac.out).all ay;have l:=HG.out.below d;have R:=l.p0;have ax:=Ds (capN:=cap) wr c l.row ZU hA ay a2 (Nat.succ_pos k);clear hA l;go_wp2_with fail;refine ax.mono ?_;rintro e w5 ⟨r,aw,a4,f2,rfl,ab,V5,_,K5⟩;have B5:Bq w w5:=d.trans (K5.Z' d.size (λ q hq=>U));have h5:∀o,D w5 (O (G w.heap+2) (o+3))=none:=λ o=>(K5.cell (p:=O (G w.heap+2) (o+3)) c.lts.1 (λ h=>by rcases h with h|h<;>(simp at h;try omega))).trans (h3.out o);clear ax K5 d h3 c R q2;cases a4 with
     |true =>
      have Y:Vy (Rds N' L ⟨λ _=>0,es⟩ (k+1) r):=⟨N,aw,ac.out,H,ab⟩;have p2:=V5.c2;have pz:=V5.fz;have YP:=V5.up h5 (k+1+1);have B6:=B5.trans (YP.2.Z' B5.size (λ q e=>U));have h6:∀o,D (C' w5 (O (G w.heap+2) 2) (J ((k+1+1:Nat):Int))) (O (G w.heap+2) (o+3))=none:=λ o=>by
       rw[SY _ _ _ _ (by intro e;cases e)];exact h5 o
      have aL:=YP.1;have a7:Vy _:=aL;have bb:=bX B6;have a8:=bX h6;clear YP V5 B5 ab ac aL B6 h6 h5;go_wp2;go_roundg (N'-(k+1))
      case measure=>have:=a9.out;omega
      case rel=>exact⟨k+1,r,f2,rfl,U,a7.out,a8.out,Y,bb.out⟩
     |false =>
      have e2:=ab.none;subst e2;have Y:=qH ac.out;have ao:Vy (mz N' L k r):=SP ⟨r,aw,ab⟩;have V0:RLv w5 (G w.heap+2) (G w.heap) (G w.heap+1) (k+1) L ⟨λ x=>if x∈L.take 0/\(r).VE x=0 then k+1 else (r).VE x,(r).es⟩ f2:=by
       have e:(λ x=>if x∈L.take 0/\(r).VE x=0 then k+1 else (r).VE x)=(r).VE:=by
        funext x
        rw[Q6 (λ q=>by rw[Vk]at q;exact Q8 q.1 Uf)]
       rw[e];exact V5
      have B0:Bq w w5:=B5;clear V5 B5 ab h5;generalize (r)=b at *;generalize f2=fE at *;go_wp2;go_loopw [8] (λ iv wr=>∃(i:Nat),i<=K L/\iv=J i/\RLv wr (G w.heap+2) (G w.heap) (G w.heap+1) (k+1) L ⟨λ x=>if x∈L.take i/\b.VE x=0 then k+1 else b.VE x,b.es⟩ fE/\Bq w wr)
       (λ i _=>K L-(intOf i).toNat)
      case atStart=>exact⟨0,Te _,rfl,V0,B0⟩
      case round =>
       clear V0 B0;obtain⟨i,hi,rfl,c,d⟩:=hrel;have l:=HG.out.below d;have R:=l.p0;by_cases H:i<K L
       ·obtain⟨C,z,hA,Zp,Wj⟩:=l.row i H;subst hA;have i1:(0:Int)<=(i:Int):=U;have i2:(i:Int)<(K L:Int):=U;obtain⟨n,u⟩:∃n,L[i]? = Z n:=⟨L[i],SU H⟩;have Zh:L.getD i 0=n:=(by rw[Tt,u];rfl);have VX:Cq wr C (z+i) (J (n:Int)):=(by rw[<- Zh];exact Wj);have WK:=Ti u;have V:n∉L.take i:=λ hm=>by
         obtain⟨j,hj,h⟩:=TR hm;have ag:j<i:=(by rw[Ts]at hj;omega);rw[Vg]at h;have h3:=Ua.1 HR.out j i U H ag;obtain⟨h4,h5⟩:=Th.1 u;omega
        have au:Vy ((λ x=>if x∈L.take i/\b.VE x=0 then k+1 else b.VE x) n=b.VE n):=by
         show (if n∈L.take i/\b.VE n=0 then k+1 else b.VE n)=b.VE n;rw[Q6 (λ q=>V q.1)]
        have Yq:Vy (L.take (i+1)=L.take i++[n]):=(by rw[Ty,u];rfl);have c0:=c.c0;have an:∀m,(Instr.lookup 144 (.map (Z (G w.heap))) (J (n:Int)) Vl).run Vyj (wr.drewN m)=.ok (J (b.VE n:Int)) (wr.drewN m):=λ m=>by
         have h:=(c.below (Vxj ae m)).look WK;have e:=au.out;have h':(Instr.lookup 144 (.map (Z (G w.heap))) (J (n:Int)) Vl).run Vyj (wr.drewN m)=.ok (J (((λ x=>if x∈L.take i/\b.VE x=0 then k+1 else b.VE x) n:Nat):Int)) (wr.drewN m):=h;rw[e]at h';exact h'
        have ap:=qH WK;clear u Zh Wj WK V l;by_cases hz:b.VE n=0
        ·have S:((b.VE n:Int)==0)=true:=(by rw[hz];rfl);have y:Vy ((λ x=>if x=n then k+1 else (λ x=>if x∈L.take i/\b.VE x=0 then k+1 else b.VE x) x)=λ x=>if x∈L.take (i+1)/\b.VE x=0 then k+1 else b.VE x):=by
          unfold Vy
          funext x
          rw[Yq.out];by_cases e:x=n
          ·rw[Q5 e,Q5 ⟨Tn.2 (SP (Tv.2 e)),by rw[e];exact hz⟩]
          ·rw[Q6 e];show (if x∈L.take i/\b.VE x=0 then k+1 else b.VE x)=_;by_cases s:x∈L.take i/\b.VE x=0
           ·rw[Q5 s,Q5 ⟨Tn.2 (SQ s.1),s.2⟩]
           ·rw[Q6 s,Q6 (λ q=>s ⟨(Tn.1 q.1).resolve_right (λ h=>e (Tv.1 h)),q.2⟩)]
         generalize (b.VE n:Int)=lz at *;go_wp2_with fail;go_quiet (fail);have t:Bq wr (wr.drewN nq):=Vxj ae _;have VD:=c.below t;have BD:=aj d t;have W:Cq (wr.drewN nq) C (z+i) (J (n:Int)):=VX;have v:Cq (wr.drewN nq) rb 0 (.slice (Z (O C z)) (K L) cap):=R;clear c d VX R c0 an t S;generalize wr.drewN nq=W2 at *;go_wp2_with fail;have b2:Bq W2 W2.drew:=ae.drew;have V2:=VD.below b2;have B2:=aj BD b2;obtain⟨w3,X,K3,V3⟩:=V2.level ap.out (Nat.succ_pos k);have B3:=B2.trans (K3.Z' B2.size (λ g hg=>U));have W:Cq W2.drew C (z+i) (J (n:Int)):=W;have v:Cq W2.drew rb 0 (.slice (Z (O C z)) (K L) cap):=v;have c0:=V2.c0;have c2:=V2.c2;have ek:((k+1:Nat):Int)=(k:Int)+1:=U;rw[ek]at X c2;clear VD BD b2 V2 B2 K3 ek;rw[y.out]at V3;go_region;go_wp2;go_roundw
         case rel=>exact⟨i+1,U,gQ,V3,B3⟩
         case measure=>simp[intOf];omega
        ·have S:((b.VE n:Int)==0)=false:=Q4.2 U;have y:Vy ((λ x=>if x∈L.take i/\b.VE x=0 then k+1 else b.VE x)=λ x=>if x∈L.take (i+1)/\b.VE x=0 then k+1 else b.VE x):=by
          unfold Vy
          funext x
          rw[Yq.out];by_cases s:x∈L.take i/\b.VE x=0
          ·rw[Q5 s,Q5 ⟨Tn.2 (SQ s.1),s.2⟩]
          ·rw[Q6 s,Q6 (λ q=>s ⟨(Tn.1 q.1).resolve_right (λ h=>hz (by rw[<- Tv.1 h];exact q.2)),q.2⟩)]
         rw[y.out]at c;generalize (b.VE n:Int)=lz at *;go_wp2_with fail;go_quiet (fail);have t:Bq wr (wr.drewN nq):=Vxj ae _;go_wp2;go_roundw
         case rel=>exact⟨i+1,U,gQ,c.below t,aj d t⟩
         case measure=>simp[intOf];omega
       ·have ei:i=K L:=U;subst ei;have V9:=c.ends (T:=k+1);clear c l;go_wp2;go_ret;exact⟨_,_,_,k,b,fE,rfl,Y.out,ao.out,V9,d⟩
    ·have a5:¬(k:Int)+1<(N':Int):=U;have Y:=qH ac.out;have ao:Vy (mz N' L k N):=SQ U;have V0:RLv wr (G w.heap+2) (G w.heap) (G w.heap+1) (k+1) L ⟨λ x=>if x∈L.take 0/\(N).VE x=0 then k+1 else (N).VE x,(N).es⟩ f':=by
      have e:(λ x=>if x∈L.take 0/\(N).VE x=0 then k+1 else (N).VE x)=(N).VE:=by
       funext x
       rw[Q6 (λ q=>by rw[Vk]at q;exact Q8 q.1 Uf)]
      rw[e];exact c
     have B0:Bq w wr:=d;clear c d h3;generalize (N)=b at *;generalize f'=fE at *;go_wp2;go_loopw [8] (λ iv wr=>∃(i:Nat),i<=K L/\iv=J i/\RLv wr (G w.heap+2) (G w.heap) (G w.heap+1) (k+1) L ⟨λ x=>if x∈L.take i/\b.VE x=0 then k+1 else b.VE x,b.es⟩ fE/\Bq w wr)
      (λ i _=>K L-(intOf i).toNat)
     case atStart=>exact⟨0,Te _,rfl,V0,B0⟩
     case round =>
      clear V0 B0;obtain⟨i,hi,rfl,c,d⟩:=hrel;have l:=HG.out.below d;have R:=l.p0;by_cases H:i<K L
      ·obtain⟨C,z,hA,Zp,Wj⟩:=l.row i H;subst hA;have i1:(0:Int)<=(i:Int):=U;have i2:(i:Int)<(K L:Int):=U;obtain⟨n,u⟩:∃n,L[i]? = Z n:=⟨L[i],SU H⟩;have Zh:L.getD i 0=n:=(by rw[Tt,u];rfl);have VX:Cq wr C (z+i) (J (n:Int)):=(by rw[<- Zh];exact Wj);have WK:=Ti u;have V:n∉L.take i:=λ hm=>by
        obtain⟨j,hj,h⟩:=TR hm;have ag:j<i:=(by rw[Ts]at hj;omega);rw[Vg]at h;have h3:=Ua.1 HR.out j i U H ag;obtain⟨h4,h5⟩:=Th.1 u;omega
       have au:Vy ((λ x=>if x∈L.take i/\b.VE x=0 then k+1 else b.VE x) n=b.VE n):=by
        show (if n∈L.take i/\b.VE n=0 then k+1 else b.VE n)=b.VE n;rw[Q6 (λ q=>V q.1)]
       have Yq:Vy (L.take (i+1)=L.take i++[n]):=(by rw[Ty,u];rfl);have c0:=c.c0;have an:∀m,(Instr.lookup 144 (.map (Z (G w.heap))) (J (n:Int)) Vl).run Vyj (wr.drewN m)=.ok (J (b.VE n:Int)) (wr.drewN m):=λ m=>by
        have h:=(c.below (Vxj ae m)).look WK;have e:=au.out;have h':(Instr.lookup 144 (.map (Z (G w.heap))) (J (n:Int)) Vl).run Vyj (wr.drewN m)=.ok (J (((λ x=>if x∈L.take i/\b.VE x=0 then k+1 else b.VE x) n:Nat):Int)) (wr.drewN m):=h;rw[e]at h';exact h'
       have ap:=qH WK;clear u Zh Wj WK V l;by_cases hz:b.VE n=0
       ·have S:((b.VE n:Int)==0)=true:=(by rw[hz];rfl);have y:Vy ((λ x=>if x=n then k+1 else (λ x=>if x∈L.take i/\b.VE x=0 then k+1 else b.VE x) x)=λ x=>if x∈L.take (i+1)/\b.VE x=0 then k+1 else b.VE x):=by
         unfold Vy
         funext x
         rw[Yq.out];by_cases e:x=n
         ·rw[Q5 e,Q5 ⟨Tn.2 (SP (Tv.2 e)),by rw[e];exact hz⟩]
         ·rw[Q6 e];show (if x∈L.take i/\b.VE x=0 then k+1 else b.VE x)=_;by_cases s:x∈L.take i/\b.VE x=0
          ·rw[Q5 s,Q5 ⟨Tn.2 (SQ s.1),s.2⟩]
          ·rw[Q6 s,Q6 (λ q=>s ⟨(Tn.1 q.1).resolve_right (λ h=>e (Tv.1 h)),q.2⟩)]
        generalize (b.VE n:Int)=lz at *;go_wp2_with fail;go_quiet (fail);have t:Bq wr (wr.drewN nq):=Vxj ae _;have VD:=c.below t;have BD:=aj d t;have W:Cq (wr.drewN nq) C (z+i) (J (n:Int)):=VX;have v:Cq (wr.drewN nq) rb 0 (.slice (Z (O C z)) (K L) cap):=R;clear c d VX R c0 an t S;generalize wr.drewN nq=W2 at *;go_wp2_with fail;have b2:Bq W2 W2.drew:=ae.drew;have V2:=VD.below b2;have B2:=aj BD b2;obtain⟨w3,X,K3,V3⟩:=V2.level ap.out (Nat.succ_pos k);have B3:=B2.trans (K3.Z' B2.size (λ g hg=>U));have W:Cq W2.drew C (z+i) (J (n:Int)):=W;have v:Cq W2.drew rb 0 (.slice (Z (O C z)) (K L) cap):=v;have c0:=V2.c0;have c2:=V2.c2;have ek:((k+1:Nat):Int)=(k:Int)+1:=U;rw[ek]at X c2;clear VD BD b2 V2 B2 K3 ek;rw[y.out]at V3;go_region;go_wp2;go_roundw
        case rel=>exact⟨i+1,U,gQ,V3,B3⟩
        case measure=>simp[intOf];omega
       ·have S:((b.VE n:Int)==0)=false:=Q4.2 U;have y:Vy ((λ x=>if x∈L.take i/\b.VE x=0 then k+1 else b.VE x)=λ x=>if x∈L.take (i+1)/\b.VE x=0 then k+1 else b.VE x):=by
         unfold Vy
         funext x
         rw[Yq.out];by_cases s:x∈L.take i/\b.VE x=0
         ·rw[Q5 s,Q5 ⟨Tn.2 (SQ s.1),s.2⟩]
         ·rw[Q6 s,Q6 (λ q=>s ⟨(Tn.1 q.1).resolve_right (λ h=>hz (by rw[<- Tv.1 h];exact q.2)),q.2⟩)]
        rw[y.out]at c;generalize (b.VE n:Int)=lz at *;go_wp2_with fail;go_quiet (fail);have t:Bq wr (wr.drewN nq):=Vxj ae _;go_wp2;go_roundw
        case rel=>exact⟨i+1,U,gQ,c.below t,aj d t⟩
        case measure=>simp[intOf];omega
      ·have ei:i=K L:=U;subst ei;have V9:=c.ends (T:=k+1);clear c l;go_wp2;go_ret;exact⟨_,_,_,k,b,fE,rfl,Y.out,ao.out,V9,d⟩
end
theorem gs' {n x y s r S c:Int}{L:Vr}(w:M)(k:Cq w gc 0 (Pq M9))(j:Cq w xc 0 (J s))(h:Cq w yc 0 (J r))
  (z:∀I,Bq w I->Zq 123 #[Pq M9,J n] I λ e R=>e=VJ (.tuple #[J x,J y,L])/\∃m,R=I.drewN m)
  (u:∀w,Rq 145 #[J x,J y,J s,J r] w (.agg #[J S,J c])) :
  Rq 144 #[J n,Pq gc,Pq xc,Pq yc] w (.agg #[J S,J c]):=by
 have C:=aB j;have B:=aB h;have t:=bz.new w 0 0;have f:Bq w (E w (VP #[J 0,J 0] 90)):=ae.alloc aa _;have k:=al f k;go_enter func144,ntmps144;go_wp2_with fail;refine(z _ f).mono ?_;rintro e o ⟨rfl,X,l⟩;have d:Bq w o:=by rw[l];exact Vxj f _
 have a:bz o (G w.heap) 0 0:=by rw[l];exact t.below (Vxj ae _)
 have i:=(d.cell C).trans j;have g:=(d.cell B).trans h;clear l t f z k j h;go_wp2_with fail;refine Q9 (u _) λ A hb3=>?_;have T:=aj d hb3;have b:=a.below hb3;have P:=b.c0;have N:=b.c1;have W:=b.z0;have V:=b.z1;clear hb3 a d u i g;go_wp2;have q:=nF A (G w.heap) S c P N;have H:=q.1;have F:=q.2;refine Vxl (v:=.agg #[J S,J c]) (by simp[results,results144,go_sem,H,F]) rfl ⟨rfl,?_⟩;exact(T.setCell (p:=O (G w.heap) 0) aa _).setCell (p:=O (G w.heap) 1) aa _
theorem Fo {n:Int}{Y:Bn}(w:M)(i:Cq w gc 0 (Pq M9))(f:Cq w xc 0 (J (tz%W)))(e:Cq w yc 0 (J (tz/W)))(g:aq w M9 W H V Y)(j:inB W H tz=Q) :
  Rq 144 #[J n,Pq gc,Pq xc,Pq yc] w (.agg #[J (gsN W H tz n).1,J (gsN W H tz n).2]):=by
 have d:=aB g.c0;obtain⟨u1,u2,r,q⟩:=dY g.w1 j;have s:=g.w2;have t:=g.h2;unfold gsN;by_cases a:inB W H n=Q;rw[Q5 a];obtain⟨p,o,m,l⟩:=dY g.w1 a;exact gs' w i f e (λ I c=>eK n I (g.below c d) a) (λ w=>nQ _ _ _ _ w (bH U U) (bH U U) (bH U U) (bH U U));rw[Q6 a];have b:inB W H n=false:=by simpa using a
 have k:∀w,Rq 145 #[J 0,J 0,J (tz%W),J (tz/W)] w (.agg #[J (aP W 0 tz),J (aO W 0 tz)]):=λ w=>by
  have h:=nQ 0 0 (tz%W) (tz/W) w (bH U U) (bH U U) (bH U U) (bH U U);unfold aP aO;rw[Int.zero_emod,Int.zero_ediv];exact h
 exact gs' w i f e (λ I c=>Ga n I (g.below c d) b) k
theorem Rb {Y:Bn}(b:M)(j:Cq b gc 0 (Pq M9))(i:Cq b xc 0 (J (tz%W)))(f:Cq b yc 0 (J (tz/W)))(g:aq b M9 W H V Y)(e:inB W H tz=Q) :
  CN b (G b.heap) 144 [Pq gc,Pq xc,Pq yc] (gsN W H tz) :=
 ⟨λ d w=>kQ,λ w n c _=>by
  have k:∀{a:Addr}{v:Vr},D b a=Z v->D w a=Z v:=λ {a v} h=>(c.cell (SZ b a h)).trans h;exact Fo w (k j) (k i) (k f) (g.below c (aB g.c0)) e⟩
def GX (w:M) (gc xc yc M9:Nat) (W tz:Int):Prop:=D w (O gc 0)=Z (Pq M9)/\D w (O xc 0)=Z (J (tz%W))/\D w (O yc 0)=Z (J (tz/W))
theorem sI {Y:Bn}(w:M)(g:aq w M9 W H V Y)(k:inB W H tz=Q) :
  Zq 94 #[Pq M9,J tz] w λ e I=>∃gc xc yc,e=VJ (.func (.func 144) #[] #[Pq gc,Pq xc,Pq yc])/\GX I gc xc yc M9 W tz/\Bq w I:=by
 have l:=aB g.c0;have c:Bq w (E w (VP #[Pq M9] 101)):=ae.alloc aa _;have i:D (E w (VP #[Pq M9] 101)) (O (G w.heap) 0)=Z (Pq M9):=SR #[Pq M9] 101 (G w.heap) 0 rfl;have j:=eK tz _ (g.below c l) k;go_enter func94,ntmps94;go_wp2_with fail;refine j.mono ?_;rintro e a ⟨rfl,m,d⟩;have f:Bq w a:=by rw[d];exact Vxj c _
 have h:Cq a (G w.heap) 0 (Pq M9):=by rw[d];exact i
 clear j i c d;go_wp2;go_ret;refine⟨_,_,_,rfl,⟨?_,?_,?_⟩,(f.alloc f.size _).alloc (by have:=f.size;simp;omega) _⟩
 ·have b:=aB h;have b:G w.heap<G a.heap:=b;rw[Ve _ _ _ sU,Ve _ _ _ (Uz b)];exact h
 ·rw[Ve _ _ _ sQ];exact SR #[J (tz%W)] 3 (G a.heap) 0 rfl
 ·exact SR (w:=E a (VP #[J (tz%W)] 3)) #[J (tz/W)] 3 (G a.heap+1) 0 sQ
structure An (w:M) (B:Nat) (v:Vr) (s d e:Int):Prop where
 c0:D w (O B 0)=Z v
 c1:D w (O B 1)=Z (J s)
 c2:D w (O B 2)=Z (J d)
 c3:D w (O B 3)=Z (J e)
 z0:w.frozen? (O B 0)=Vl
 z1:w.frozen? (O B 1)=Vl
 z2:w.frozen? (O B 2)=Vl
 z3:w.frozen? (O B 3)=Vl
theorem An.X' {F:Nat->Prop}{e:Int}(h:An w B v s d e)(b:ai F w I)(a:¬F B):An I B v s d e:=by
 have c:=SZ w _ h.c0;exact⟨b.cellOf h.c0 a,b.cellOf h.c1 a,b.cellOf h.c2 a,b.cellOf h.c3 a,(b.frozen (p:=O B 0) c a).trans h.z0,(b.frozen (p:=O B 1) c a).trans h.z1,(b.frozen (p:=O B 2) c a).trans h.z2,(b.frozen (p:=O B 3) c a).trans h.z3⟩
theorem An.below {e:Int}(h:An w B v s d e)(a:Bq w I):An I B v s d e:=h.X' (F:=λ _=>False) (ai.Y' a) id
theorem An.new (w:M)(v:Vr)(s d e:Int):An (E w (VP #[v,J s,J d,J e] 92)) (G w.heap) v s d e:=by
 have k:∀o,D (E w (VP #[v,J s,J d,J e] 92)) (O (G w.heap) o)=#[v,J s,J d,J e][o]? := λ o=>Tb ..;have f:=bC w #[v,J s,J d,J e] 92 (G w.heap) aa;exact⟨k 0,k 1,k 2,k 3,f 0,f 1,f 2,f 3⟩
theorem An.set {v0:Vr}{b d0 c:Int}(A:An w B v0 b d0 c)(v:Vr)(s d e:Int):An ((((C' w (O B 0) v).setCell (O B 1) (J s)).setCell (O B 2) (J d)).setCell (O B 3) (J e)) B v s d e:=by
 have a:∀{i j:Nat},i≠j->(O B i:Addr)≠O B j:=λ h q=>h (Addr.mk.inj q).2.1;refine⟨?_,?_,?_,?_,by simpa using A.z0,by simpa using A.z1,by simpa using A.z2,by simpa using A.z3⟩;rw[SY _ _ _ _ (a dQ),SY _ _ _ _ (a dQ),SY _ _ _ _ (a dQ)];exact Tf _ _ _ A.c0;rw[SY _ _ _ _ (a dQ),SY _ _ _ _ (a dQ)];refine Tf _ _ _ (u:=J b) ?_;rw[SY _ _ _ _ (a dQ)];exact A.c1;rw[SY _ _ _ _ (a dQ)];refine Tf _ _ _ (u:=J d0) ?_;rw[SY _ _ _ _ (a dQ),SY _ _ _ _ (a dQ)];exact A.c2;refine Tf _ _ _ (u:=J c) ?_;rw[SY _ _ _ _ (a dQ),SY _ _ _ _ (a dQ),SY _ _ _ _ (a dQ)];exact A.c3
theorem qz (w:M)(B:Nat)(v:Vr)(s d e:Int):ai (λ k=>k=B) w ((((C' w (O B 0) v).setCell (O B 1) (J s)).setCell (O B 2) (J d)).setCell (O B 3) (J e)):=by grind [ai.setCell,ai.refl]
theorem ku {a:M}(h:Below N a w)(b:N<=B)(v:Vr)(s d e:Int):Below N a ((((C' w (O B 0) v).setCell (O B 1) (J s)).setCell (O B 2) (J d)).setCell (O B 3) (J e)):=by grind [Go.RowKit.Below.setCell]
section
open Go.RowKit Go.Maps
theorem GY {a:Int}{Y:Bn}{p:Int->Bool}(w:M)(g:aq w b W H V Y)(s:az w)(c:b<G w.heap)(d:inB W H a=Q)(i:Y a.toNat=Vl)
  (f:∀(I:M) (n:Int),Bq w I->inB W H n=Q->Zq 196 #[J n,Pq rb] I λ e h=>e=VJ (.bool (p n))/\Bq I h) :
  Zq 165 #[Pq b,J a,.func (.func 196) #[] #[Pq rb]] w λ e I=>∃v l,e=VJ v/\G' I (G w.heap) 203 4 v (K l) (ct W a l)/\(l.Pairwise (·<·)/\∀n:Nat,n∈l↔Dir W H Y a n/\p n=Q)/\Bq w I :=
 vI (cs:=[Pq rb]) w g s c d i (λ _ _=>kQ) f
theorem Kt {xb:Nat}{Y:Bn}(w:M)(n:Int)(c:Cq w xb 0 (Pq rb))(d:Cq w rb 0 (Pq pb))(g:aq w pb W H V Y)(s:az w)(b:inB W H n=Q) :
  Rq 196 #[J n,Pq xb] w (.bool (aY W H Y n)):=by
 have a:=tP n w g s b;generalize aY W H Y n=r at *;go_enter func196,ntmps196;go_wp2_with fail;refine QQ a λ m=>?_;clear a;go_wp2;go_ret;exact⟨rfl,Vxj ae _⟩
theorem NM {rb:Nat}{c:Int}{Y:Bn}(w:M)(G9:eh w rb pb mb W H V Y)(s:az w)(z:inB W H c=Q)(C:Y c.toNat=Vl) :
  Zq 146 #[Pq rb,J c] w λ e I=>∃v l,e=VJ (.tuple #[v,.nilIface])/\G' I (G w.heap) 203 4 v (K l) (ct W c l)/\(l.Pairwise (·<·)/\∀n:Nat,n∈l↔Dir W H Y c n/\aY W H Y n=Q)/\Bq w I:=by
 obtain⟨f,G9,S⟩:=G9;obtain⟨l1,l2,X⟩:=G9.lts;have r:Bq w (E w (VP #[Pq rb] 150)):=ae.alloc aa _;have u:D (E w (VP #[Pq rb] 150)) (O (G w.heap) 0)=Z (Pq rb):=SR #[Pq rb] 150 (G w.heap) 0 rfl;have g:=G9.below r;have k:=kN c (E w (VP #[Pq rb] 150)) g.ga;have N:=g.p0;rw[nw z C,nM]at k;clear G9 S;go_enter func146,ntmps146;go_wp2_with fail;refine Q9 k λ i b=>?_;have q:=aj r b;have o:=g.below b;have L:=o.p0;have F:=(b.cell (p:=O (G w.heap) 0) sQ).trans u;have t:=s.below q U;have A:=q.size;have B:=GY (rb:=G w.heap) (p:=λ n=>aY W H Y n) i o.ga t U z C (λ I n m P=>by
  have x:∀{a:Addr}{v:Vr},D i a=Z v->D I a=Z v:=λ {a v} h=>(m.cell (SZ i a h)).trans h;exact Kt I n (x F) (x L) (o.ga.below m U) (t.below m U) P)
 clear k N u g r b;go_wp2_with fail;refine B.mono ?_;rintro e T ⟨v,l,rfl,d,y,j⟩;clear B;have R:=qH y;clear y;go_wp2;go_ret2;exact⟨v,l,rfl,cu d A,R.out,q.trans (j.mono A)⟩
end
section
open Go.RowKit Go.Lib
theorem Ku {Y:Bn}:∀{st:Ln}{a i:Nat},NrC W H Y a st->i<K st->∃t,st[i]? = Z t/\(∃z,On W H Y (((st.take i).getLast?).getD a:Nat) (t:Int) z)/\ff2 W H Y (((st.take i).getLast?).getD a:Nat) t=0
 |[],_,i,_,hi=>Q8 hi (Nat.not_lt_zero i)
 |t::st,a,0,⟨h,g,_⟩,_=>⟨t,rfl,h,g⟩
 |t::st,a,i+1,⟨_,_,f⟩,hi=>by
  obtain⟨b,d,c⟩:=Ku f (Nat.lt_of_succ_lt_succ hi);have e:(((t::st).take (i+1)).getLast?).getD a=((st.take i).getLast?).getD t:=by grind
  rw[e];exact⟨b,d,c⟩
theorem xp {st:Ln}{i:Nat}(h:st[i]? = Z t):st.take (i+1)=st.take i++[t]:=by grind [Th,List.take_succ_eq_append_getElem]
theorem GZ (l:Ln)(t a:Nat):((l++[t]).getLast?).getD a=t:=by simp
theorem G8 {gl:Nat}{Y:Bn}{st:Ln}(w:M)(g:aq w b W H V Y)(s:az w)(d:ch w)(hr:pZ w gl 0 st)(hn:NrC W H Y a st)(hl:K st<=50000) :
  Zq 148 #[Pq b,J (a:Int),.slice (Z (O gl 0)) (K st) cap] w λ e I=>∃v l,e=VJ v/\G' I (G w.heap) 3 1 v (K (a::l)) (aH (a::l))/\JnR W H Y a st l/\K l<=64*K st/\Bq w I:=by
 obtain⟨i0,hi,VZ,Wa,Wc⟩:=info_parts Tryz.Vxg;have hb:=aB g.c0;have YN:=s.pos;have b0:Bq w (E w (VP #[J (a:Int)] 3)):=ae.alloc aa _;have x:G' (E w (VP #[J (a:Int)] 3)) (G w.heap) 3 1 (.slice (Z (O (G w.heap) 0)) 1 1) [a].length (aH [a]):=World.ownsRow_lit w #[J (a:Int)] 1 aa mQ rfl;have HN:=qH hn;have HR:=qH hr;clear hn hr;go_enter func148,ntmps148;go_wp2;go_loopw [1,7,16] (λ fv v iv wr=>∃(i c:Nat) (l:Ln),i<=K st/\iv=J i/\fv=J (c:Int)/\Vy (c=((st.take i).getLast?).getD a)/\G' wr (G w.heap) 3 1 v (K (a::l)) (aH (a::l))/\Vy (JnR W H Y a (st.take i) l)/\K l<=64*i/\Bq w wr)
  (λ _ _ i _=>K st-(intOf i).toNat)
 case atStart=>exact⟨0,a,[],Te _,rfl,rfl,rfl,x,rfl,Te _,b0⟩
 case round =>
  clear x b0;obtain⟨i,c,l,XC,rfl,rfl,A,h,z,Yn,j⟩:=hrel;obtain⟨gw,ag,rfl,_,ab,ad,F,ac⟩:=fS h sQ;by_cases VS:i<K st
  ·obtain⟨t,C,L,m⟩:=Ku HN.out VS;have u:=A.out;rw[<- u]at L m;have X:=(HR.out.below j) i _ (tk C);rw[Addr.add_lit,Tm]at X;have hw:=FZ c (t:Int) wr (g.below j hb) (s.below j U) (d.below j) (Tc hb j.size) m L;have HT:=qH (xp C);have i1:(i:Int)<(K st:Int):=U;have z1:=j.size;clear u L m C;go_wp2_with fail;refine hw.mono ?_;rintro e w3 ⟨v3,f,rfl,Wy,o,Xp,R⟩;obtain⟨g3,N,rfl,Xq,Yo,an,r,am⟩:=fS Wy sQ;have n:=ak h R;have B:=aj j R;have Yz:=Xq.tail;have S:=B.size;simp only[List.length_cons]at r n F ⊢;simp only[List.tail_cons,Tm]at Yz;have y:Vy (JnR W H Y a (st.take (i+1)) (l++f)):=by
    show JnR W H Y a (st.take (i+1)) (l++f);rw[HT.out];refine JnR.snoc z.out ?_;rw[<- A.out];exact o
   have P:Vy (t=((st.take (i+1)).getLast?).getD a):=by
    show t=((st.take (i+1)).getLast?).getD a;rw[HT.out,GZ]
   clear hw o Wy h Xq j R z A X;rcases Nat.eq_zero_or_pos (K f) with h0|h0
   ·have e0:f=[]:=List.length_eq_zero_iff.1 h0;subst e0;simp only[List.length_nil,Tm]at r;rcases Decidable.em (N=1) with p|p
    ·subst p;go_wp2;go_roundw
     case rel=>exact⟨i+1,t,l,U,gQ,rfl,P.out,n,by have:=y.out;rwa [TU]at this,U,B⟩
     case measure=>simp[intOf];omega
    ·have Y4:1<N:=U;go_wp2;go_roundw
     case rel=>exact⟨i+1,t,l,U,gQ,rfl,P.out,n,by have:=y.out;rwa [TU]at this,U,B⟩
     case measure=>simp[intOf];omega
   ·go_wp2_with (at_builtin;refine wpList_append_own _ rfl _ _ 60 rfl (G w.heap) 3 i0 (J 0) 1 8 underlying60 hi VZ Wa Wc rfl dQ _ _ _ rfl n (O g3 1) (K f) (N-1) (aH f) rfl ?c0 Yz (mG _) ?c3 ?c4 ?c5 ?_)
    case c0=>rw[jl];omega
    case c3=>unfold maxLen;omega
    case c4=>omega
    case c5=>exact S
    intro v' T VR VQ _;have B6:Bq w T:=B.grown VQ S (λ q hq=>(n.lt q hq).1);have O6:G' T (G w.heap) 3 1 v' (K (a::(l++f))) (aH (a::(l++f))):=by
     have e1:K (a::(l++f))=K l+1+K f:=(by simp;omega);have e2:aH (a::(l++f))=aH (a::l)++aH f:=(by simp[aH]);rw[e1,e2];exact VR
    clear VR VQ n;go_wp2;go_roundw
    case rel=>exact⟨i+1,t,l++f,U,gQ,rfl,P.out,O6,y.out,by rw[List.length_append];omega,B6⟩
    case measure=>simp[intOf];omega
  ·have e:i=K st:=U;subst e;have k:=z.out;rw[Tl]at k;have y:=qH k;clear z k A;go_wp2;go_ret;exact⟨_,l,rfl,h,y.out,Yn,j⟩
end
theorem Lvd.below {Y:Bn}{es:Nat->List LE}(h:Lvd w N lb N' W H Y es)(a:Bq w I):Lvd I N lb N' W H Y es:=by
 obtain⟨vb,eb,k,st,f,c,b,V⟩:=h;exact⟨vb,eb,k,st,f,c,b,V.below a⟩
theorem NN {Y:Bn}{l:Ln}(b:1<=W)(e:W<=16)(k:1<=H)(j:H<=16)(f:l.Pairwise (·<·))(g:Cns W H Y c l):K l<=256/\∀n∈l,n<256:=by
 have r:=bG b e k j;have d:∀n∈l,n∈crs W H Y (W*H).toNat:=λ n a=>by
  have h:=((g n).1 a).2;have m:0<=(n:Int)/\(n:Int)<W*H:=Q1 (aR b (aI.1 h));exact cU.2 ⟨U,h⟩
 have i:l=(crs W H Y (W*H).toNat).filter (λ x=>decide (x∈l)) :=
  tO f (List.Pairwise.filter _ (iE _ _ _ _)) (λ n=>by
   rw[List.mem_filter,decide_eq_true_iff];exact⟨λ h=>⟨d n h,h⟩,λ h=>h.2⟩)
 have q:=Q7 List.length i;have p:=List.length_filter_le (λ x=>decide (x∈l)) (crs W H Y (W*H).toNat);have o:=fx W H Y (W*H).toNat;refine⟨U,λ n a=>?_⟩;have:=(cU.1 (d n a)).1;omega
theorem NO {base:Nat}{l:Ln}(h:G' w base 203 4 v (K l) (ct W (c:Int) l))(g:∀n∈l,n<256):∃A cap,v=.slice A (K (frI W c l)) cap/\vW w A (frI W c l):=by
 rw[<- lE W c l]at h;have e:K (frC W c l)=K l:=by unfold frC;rw[List.length_map]
 have j:G' w base 203 4 v (K (frC W c l)) (bB (frC W c l)):=by rw[e];exact h
 obtain⟨A,cap,rfl,d,_⟩:=eJ j;refine⟨A,cap,by rw[EM,e],λ i x hi=>?_⟩;unfold frI at hi;rw[List.getElem?_map]at hi;cases a:(frC W c l)[i]? with
 |none=>rw[a]at hi;cases hi
 |some y =>
  rw[a]at hi;cases hi;refine⟨?_,d i y a⟩;have b:=Ti a;unfold frC at b;obtain⟨m,f,rfl⟩:=List.mem_map.1 b;have:=g m f;exact aE (by grind) (by grind)
def uG (p:Vr):Array Value:=(p::List.replicate 2048 (J 0)).toArray
theorem NP (p:Oa):prog.built 213 [(0,.pointer p)]=Z (uG (.pointer p)):=kQ
theorem uH {ops:Array Oper}{rest:List Oper}{o:Oper}{a:Act}{Q9:Exit->Act->M->Prop}(d:o.guard=UP)(x:Operand)(c:o.op=.build 213 #[(0,x)])(p:Oa)
  (b:a.eval x=.pointer p) (h:wpList Vyj ops Q9 rest (a.put o.dst (.agg (uG (.pointer p)))) w):wpList Vyj ops Q9 (o::rest) a w:=by grind [Go.Proofs.Tryz.prog,uG,Go.wpList_plain,Go.wp_build,NP]
theorem NQ (p:Vr)(i:Nat)(hi:i<2048):(uG p)[1+i]? = Z (J 0):=by grind [uG]
theorem Ha {Y:Bn}(g:aq w pb W H V Y)(f:gL w pb)(s:az w)(e:3≠pb):ew (E w (.cells (uG (Pq pb)) 213)) (G w.heap) pb W H V Y (λ _ _=>0):=by
 have b:pb<G w.heap:=SZ w _ g.c0;have a:Bq w (E w (.cells (uG (Pq pb)) 213)):=ae.alloc aa _;refine⟨?_,λ c d i h=>?_,bC w _ _ _ aa,g.below a b,λ o=>(a.frozen (p:=O pb o) b).trans (f o),s.below a (Oq s.pos),U,by have:=s.pos;omega,e⟩
 grind [Tb,uG,List.getElem?_cons_zero]
 grind [Tb,Nat.add_assoc,NQ]
def PN (w I:M) (e:Ending) (W H V:Int) (Y:Bn):Prop :=
 ∃tb pb,e=VJ (Pq tb)/\iQ I tb pb W H V Y/\G w.heap<=tb/\G w.heap<=pb/\Below (G w.heap) w I
theorem Kv {Y:Bn}(w:M)(g:aq w b W H V Y)(s:az w) :
  Zq 78 #[Pq b] w λ e I=>PN w I e W H V Y:=by
 have j:=g.w1;have t:=g.w2;have F:=g.h1;have C:=g.h2;obtain⟨k1,k2⟩:=bG g.w1 g.w2 g.h1 g.h2;have s0:=s.pos;have Zy:=nH w g;go_enter func78,ntmps78;go_wp2_with (first|(go_at_call 118;refine Zy.mono ?_;rintro e h ⟨rfl,p,z,ga,gf⟩;have t0:=Ha ga gf (s.below p U) U;have YO:Bq w (E h (.cells (uG (Pq (G w.heap))) 213)):=p.alloc p.size _;have u:=t0.p0)|refine uH rfl _ rfl (Z (O (G w.heap) 0)) rfl ?_);have R:G w.heap<=G h.heap:=U;clear Zy p ga gf z;refine QQ (iX _ t0.ga) λ m=>?_;have t1:=t0.drewN m;have YC:=Vxj YO m;have Wa:((E h (.cells (uG (Pq (G w.heap))) 213)).drewN m).heap.size=G h.heap+1:=by simp
 clear t0 YO u;generalize (E h (.cells (uG (.pointer (Z (O (G w.heap) 0)))) 213)).drewN m=wb at *;obtain⟨N,B⟩:∃N:Nat,W*H=N:=⟨(W*H).toNat,U⟩;have HN:=qH B;rw[B]at k1 k2 ⊢;clear B;go_wp2;go_loopg [18] N (λ L iv wr=>∃(k:Nat) (T:Nat->Nat->Nat),k<=N/\L=N-k/\iv=J k/\ew wr (G h.heap) (G w.heap) W H V Y T/\mN W H Y T k 0/\Bq w wr)
 case atStart=>exact⟨0,_,U,rfl,rfl,t1,mN.start W H Y _,YC⟩
 case round =>
  clear t1 YC;obtain⟨k,T,hk,WV,rfl,a,i,f⟩:=hrel;have HG:=qH WV;clear WV;by_cases VS:k<N
  ·have P:(k:Int)<(N:Int):=U;have We:inB W H k=true:=Q2 ⟨U,by rw[HN.out];exact P⟩;obtain⟨x,y,n,hi,XG⟩:∃x y,atB W H x y=Q/\idx W x y=k/\Dq 123 #[Pq (G w.heap),J (k:Int)] wr (.tuple #[J x,J y,.nilIface]):=by
    obtain⟨n,hi⟩:=qt j We;exact⟨_,_,n,U,eK (k:Int) wr a.ga We⟩
   have HI:=qH hi;clear hi;obtain⟨i1,i2,i3,i4⟩:=iH.1 n;have u:=a.p0;go_wp2_with (go_at_call 123;refine QQ XG λ v=>?_);have t2:=a.drewN v;have XJ:=Vxj f v;clear a f XG u;generalize wr.drewN v=w2 at *;go_loopg [31] 8 (λ L iv wr=>∃(d:Nat) (T:Nat->Nat->Nat),d<=8/\L=8-d/\iv=J d/\ew wr (G h.heap) (G w.heap) W H V Y T/\mN W H Y T k d/\Bq w wr)
   case atStart=>exact⟨0,T,U,rfl,rfl,t2,i,XJ⟩
   case round =>
    clear t2 XJ i;obtain⟨d,T,X,Zc,rfl,a,i,f⟩:=hrel;have HD:=qH Zc;clear Zc;by_cases l:d<8
    ·have ab:(d:Int)<8:=U;have c:=GN x y d wr a l U U U U;cases r:atB W H (x+ah d) (y+af d) with
     |true =>
      rw[r]at c;have E1:=i.pass n HI.out r;go_wp2_with (go_at_call 124;refine QQ c λ o=>?_);go_roundg (8-(d+1))
      case measure=>have:=HD.out;omega
      case rel=>exact⟨d+1,T,U,rfl,gQ,a.drewN o,E1,Vxj f o⟩
     |false =>
      rw[r]at c;have A:=λ m=>og x y d (wr.drewN m) (a.drewN m) l U U U U (λ S=>by rw[Nz r]at S;cases S);go_wp2_with (first|(go_at_call 124;refine QQ c λ o=>?_)|(go_at_call 125;refine(A _).mono ?_;rintro e w4 ⟨rfl,T4,t4,C4,K4⟩));go_roundg (8-(d+1))
      case measure=>have:=HD.out;omega
      case rel=>exact⟨d+1,T4,U,rfl,gQ,t4,i.count n HI.out C4,(Vxj f o).trans (K4.Z' f.size (λ q hq=>by rw[hq];exact R))⟩
    ·have:d=8:=U;subst this;go_wp2;go_roundg (N-(k+1))
     case measure=>have:=HG.out;omega
     case rel=>exact⟨k+1,T,U,rfl,gQ,a,i.next,f⟩
  ·have:k=N:=U;subst this;go_wp2;go_ret;exact⟨_,_,rfl,⟨T,a,λ d X=>i.all j t F C (by rw[HN.out];exact Int.le_refl _) X⟩,R,aa,f⟩
section
open Go.RowKit Go.Maps Go.Sort Go.Shelf
theorem oq {Y:Bn}(w:M)(G9:eh w rb pb mb W H V Y) :
  Zq 92 #[Pq rb] w λ e I=>e=VJ (Pq (G w.heap))/\Bq w I/\G w.heap<G I.heap/\aq I (G w.heap) W H V Y/\gL I (G w.heap):=by
 obtain⟨f,G9,h⟩:=G9;have j:=G9.p0;have c:=nH w G9.ga;clear G9 h;go_enter func92,ntmps92;go_wp2_with fail;refine c.mono ?_;rintro e i ⟨rfl,a,g,d,b⟩;clear c;go_wp2;go_ret;exact⟨rfl,a,g,d,b⟩
end
section
open Go.RowKit Go.Lib
structure gG (w:M) (lo hi sb rb pb mb lb tb gb N x:Nat) (W H V V2:Int) (Y:Bn) (N':Nat):Prop where
 c0:D w (O sb 0)=Z (J (N':Int))
 c1:D w (O sb 1)=Z (Pq rb)
 c2:D w (O sb 2)=Z (Pq lb)
 c3:D w (O sb 3)=Z (Pq tb)
 fz:w.frozen? (O sb 2)=Vl
 gi:dt w rb pb mb W H V Y (λ g=>g≠tb/\g≠gb/\g≠sb)
 lv:Lvd w N lb N' W H Y (esF W H Y)
 ta:iQ w tb gb W H V2 Y
 l1:lo<=rb/\lo<=pb/\lo<=mb/\lo<=N
 l2:rb<x/\pb<x/\mb<x
 l3:x<=tb/\x<=gb/\tb<sb/\gb<sb
 l4:sb<hi
 m1:1<=N'
 m6:N'<=6
 vv:V2=V
def Sv (w:M) (lo hi sb:Nat) (W H V:Int) (Y:Bn) (N':Nat):Prop:=∃rb pb mb lb tb gb N x V2,gG w lo hi sb rb pb mb lb tb gb N x W H V V2 Y N'
section
variable {w I : M} {lo hi sb rb pb mb lb tb gb N x N' : Nat} {W H V V2 : Int} {Y : Nat → Bool}
theorem gG.gr (S:gG w lo hi sb rb pb mb lb tb gb N x W H V V2 Y N'):eh w rb pb mb W H V Y:=S.gi.graph
theorem gG.lt (S:gG w lo hi sb rb pb mb lb tb gb N x W H V V2 Y N'):sb<G w.heap:=aB S.c0
theorem gG.below (S:gG w lo hi sb rb pb mb lb tb gb N x W H V V2 Y N')(b:Bq w I):gG I lo hi sb rb pb mb lb tb gb N x W H V V2 Y N':=by
 have k:∀{a:Addr}{v:Vr},D w a=Z v->D I a=Z v:=λ {a v} h=>(b.cell (SZ w a h)).trans h;exact⟨k S.c0,k S.c1,k S.c2,k S.c3,(b.frozen (p:=O sb 2) S.lt).trans S.fz,S.gi.below b,S.lv.below b,S.ta.below b,S.l1,S.l2,S.l3,S.l4,S.m1,S.m6,S.vv⟩
theorem Sv.below (S:Sv w lo hi sb W H V Y N')(a:Bq w I):Sv I lo hi sb W H V Y N':=by
 obtain⟨rb,pb,mb,lb,tb,gb,N,x,V2,S⟩:=S;exact⟨rb,pb,mb,lb,tb,gb,N,x,V2,S.below a⟩
theorem gG.st (S:gG w lo hi sb rb pb mb lb tb gb N x W H V V2 Y N'):az w:=by
 obtain⟨T,t,_⟩:=S.ta.ok;exact t.st
theorem gG.side (S:gG w lo hi sb rb pb mb lb tb gb N x W H V V2 Y N'):1<=W/\W<=16/\1<=H/\H<=16:=by
 obtain⟨f,a,_⟩:=S.gr;exact⟨a.ga.w1,a.ga.w2,a.ga.h1,a.ga.h2⟩
theorem Sv.side (S:Sv w lo hi sb W H V Y N'):1<=W/\W<=16/\1<=H/\H<=16:=by
 obtain⟨rb,pb,mb,lb,tb,gb,N,x,V2,S⟩:=S;exact S.side
theorem Sv.mst (S:Sv w lo hi sb W H V Y N'):1<=N'/\N'<=6:=by
 obtain⟨rb,pb,mb,lb,tb,gb,N,x,V2,S⟩:=S;exact⟨S.m1,S.m6⟩
end
theorem uI {Y:Bn}(w:M)(G9:eh w rb pb mb W H V Y)(s:az w)(g:1<=W)(f:W<=16)(k:1<=H)(j:H<=16)(h:inB W H c=Q)(p:Y c=Vl) :
  Zq 146 #[Pq rb,J (c:Int)] w λ e I=>∃A cap l,e=VJ (.tuple #[.slice A (K (frI W c l)) cap,.nilIface])/\vW I A (frI W c l)/\Cnp W H Y c l/\K (frI W c l)<=1000/\Bq w I:=by
 refine(NM w G9 s h (by grind)).mono ?_;rintro e I ⟨v,l,rfl,a,⟨b,d⟩,i⟩;obtain⟨o,m⟩:=NN g f k j b d;obtain⟨A,cap,rfl,n⟩:=NO a m;exact⟨A,cap,l,rfl,n,⟨b,d⟩,by rw[EM];omega,i⟩
theorem GX.below (h:GX w gc xc yc M9 W tz)(b:Bq w I):GX I gc xc yc M9 W tz:=by
 have k:∀{a:Addr}{v:Vr},D w a=Z v->D I a=Z v:=λ {a v} h=>(b.cell (SZ w a h)).trans h;exact⟨k h.1,k h.2.1,k h.2.2⟩
def Bst (W H:Int) (Y:Bn) (N':Nat) (a t:Nat) (la lb:Ln) (stops:Ln) (s d:Int) (f:Bool):Prop :=
 ∃k st,Rds N' (crs W H Y (W*H).toNat) ⟨λ _=>0,esF W H Y⟩ k st/\mz N' (crs W H Y (W*H).toNat) k st/\nj (crs W H Y (W*H).toNat) ⟨dP (k+1) st,st.es⟩ (gsN W H t) (frI W a la) (frI W t lb) stops s d f
theorem Hb {cap2:Nat}{Y:Bn}{A p:Oa}{j i:Ln}(w:M)(B:Lvd w N lb N' W H Y (esF W H Y))(g:aq w M9 W H V Y)(G9:GX w gc xc yc M9 W (t:Int))(n:inB W H t=Q)(r:1<=N')(q:N'<=6)(u:vW w A (frI W a j))(hi:vW w p (frI W t i))(l:K (frI W a j)<=1000)(L:K (frI W t i)<=1000) :
  Zq 147 #[Pq lb,.slice A (K (frI W a j)) cap,.slice p (K (frI W t i)) cap2,.func (.func 144) #[] #[Pq gc,Pq xc,Pq yc]] w λ e I=>∃c s d b v,e=VJ (.tuple #[v,.agg #[J s,J d],.bool b])/\Bst W H Y N' a t j i c s d b/\G' I (G w.heap) 3 1 v (K c) (aH c)/\K c<=40000/\Bq w I:=by
 obtain⟨vb,eb,k,st,f,o,z,V⟩:=B;obtain⟨R,m,y⟩:=Ns (iF g.w1) g.w1 g.w2 g.h1 g.h2 q r o;refine(JJ (cs:=[Pq gc,Pq xc,Pq yc]) w V R m y (Rb w G9.1 G9.2.1 G9.2.2 g n) (PE g.w1 g.w2 g.h1 g.h2 n) u hi l L).mono ?_;rintro e I ⟨P,s,d,b,v,rfl,C,h,F,x⟩;exact⟨P,s,d,b,v,rfl,⟨k,st,o,z,C⟩,h,F,x⟩
end
section
open Go.RowKit Go.Lib
theorem Bst.ov {Y:Bn}{e lb b c:Ln}{f:Bool}(h:Bst W H Y N' a t e lb b s d f)(m:Cnp W H Y a e)(k:Cnp W H Y t lb)(j:K b<=40000)(i:f=Vl->c=[])(g:f=Q->∃l,c=a::l/\JnR W H Y a (b++[t]) l):OvR W H Y N' a t c s d f:=by grind [Bst,Cnp,JnR,OvR]
theorem Bst.near {Y:Bn}(g:1<=W)(f:W<=16)(u:1<=H)(r:H<=16){N' a t:Nat}(m:1<=N')(l:N'<=6){e lb b:Ln}{s d:Int}(h:Bst W H Y N' a t e lb b s d Q)(q:inB W H a=Q)(v:Y a=Vl)(p:inB W H t=Q)(c:Y t=Vl)(o:Cnp W H Y a e)(n:Cnp W H Y t lb):NrC W H Y a (b++[t]):=by
 obtain⟨k,st,j,w,i⟩:=h;exact(OvR.stops g f u r m l q v p c j o n i).1
theorem Bst.no {Y:Bn}{e lb b:Ln}(h:Bst W H Y N' a t e lb b s d Vl):s=0/\d=0:=by
 obtain⟨k,st,_,_,c⟩:=h;obtain⟨_,_,_,_,_,_,_,_,f,_⟩:=c;exact(f rfl).2
theorem Hc {lo hi sb tb gb x:Nat}{V2 V3:Int}{Y:Bn}(w:M)(S:gG w lo hi sb rb pb mb lb tb gb N x W H V V2 Y N')(d:ch w)(g:aq w M9 W H V3 Y)(ha:inB W H a=Q)(XP:Y a=Vl)(ht:inB W H t=Q)(an:Y t=Vl) :
  Zq 95 #[Pq sb,Pq M9,J (a:Int),J (t:Int)] w λ e I=>∃v Vq s d f,e=VJ (.agg #[v,J s,J d,J (if f then 0 else 5)])/\G' I (G w.heap) 3 1 v (K Vq) (aH Vq)/\OvR W H Y N' a t Vq s d f/\Bq w I:=by
 obtain⟨w1,w2,h1,h2⟩:=S.side;obtain⟨i0,hi,VZ,Wa,Wc⟩:=info_parts Tryz.Vxg;have hM:=aB g.c0;have b0:Bq w (E w (VP #[.slice UP 0 0,J 0,J 0,J 0] 92)):=ae.alloc aa _;have ay:=An.new w (.slice UP 0 0) 0 0 0;have S0:=S.below b0;have q1:=S0.c1;have YU:=uI _ S0.gr S0.st w1 w2 h1 h2 ha XP;go_enter func95,ntmps95;go_wp2_with fail;generalize E w (VP #[.slice UP 0 0,.int .i64 0,.int .i64 0,.int .i64 0] 92)=wa at *;refine YU.mono ?_;rintro e wb ⟨A1,a9,la,rfl,r1,au,a6,ac⟩;have S1:=S0.below ac;have ax:=ay.below ac;have B1:=aj b0 ac;have q1:=S1.c1;have Y4:=uI _ S1.gr S1.st w1 w2 h1 h2 ht an;clear YU S0 ay ac b0;go_wp2_with fail;refine Y4.mono ?_;rintro e wr ⟨A2,aw,lt,rfl,r2,ap,a0,R⟩;have S2:=S1.below R;have Yl:=ax.below R;have B2:=aj B1 R;have r1:=r1.below aa R;have HC:Vy (Cnp W H Y a la/\Cnp W H Y t lt):=⟨au,ap⟩;have c2:=S2.c2;have g2:=g.below B2 hM;have ao:M9<G wr.heap:=Tc hM B2.size;have ba:G w.heap<G wr.heap:=aB Yl.c0;clear Y4 S1 ax R B1 au ap q1;have HG:Vy (∀I,Bq wr I->_):=λ I X=>sI I (g2.below X ao) ht;have HB:Vy (∀I gc xc yc,Bq wr I->GX I gc xc yc M9 W (t:Int)->_):=λ I gc xc yc X G9=>Hb (cap:=a9) (cap2:=aw) I (S2.lv.below X) (g2.below X ao) G9 ht S2.m1 S2.m6 (r1.below aa X) (r2.below aa X) a6 a0;go_upto_region 3 with fail
 go_cut [13,14,15] from 34 to 47 (λ cv pv fv wd=>∃b s d f T vS,vS=cv/\pv=Pq T/\fv=.bool f/\bz wd T s d/\G w.heap<T/\G' wd (G w.heap+1) 3 1 vS (K b) (aH b)/\(∀q,M' vS=Z q->q≠T)/\Bst W H Y N' a t la lt b s d f/\K b<=40000/\Bq wr wd)
 case first =>
  have e0:Bq wr wr.drew:=ae.drew;have eA:Bq wr (E wr.drew (VP #[J 0,J 0] 90)):=e0.alloc e0.size _;have sA:bz (E wr.drew (VP #[J 0,J 0] 90)) (G wr.heap) 0 0:=bz.new wr.drew 0 0;have A:Vy (∀I,Bq wr I->Cq I sb 2 (Pq lb)):=λ I h=>(h.cell (SZ wr _ c2)).trans c2;clear c2 r1 r2 S2 g2 Yl;go_region_held3 (λ I=>D I (O sb 2)=Z (Pq lb)) (first|exact A.out _ e0|exact A.out _ eA|exact A.out _ n|exact A.out _ (n.alloc n.size _)|exact A.out _ C|exact A.out _ (C.alloc C.size _)|exact A.out _ ((C.setCell (p:=O _ 0) (by first|exact aa|exact n.size) _).setCell (p:=O _ 1) (by first|exact aa|exact n.size) _)|exact A.out _ (((C.alloc C.size _).setCell (p:=O _ 0) C.size _).setCell (p:=O _ 1) C.size _))
   (first
    |(go_at_call 94;first|(refine(HG.out _ e0).mono ?_;rintro r w5 ⟨gc,xc,yc,rfl,G5,VW⟩;have n:=aj e0 VW)|(refine(HG.out _ eA).mono ?_;rintro r w5 ⟨gc,xc,yc,rfl,G5,VW⟩;have n:=aj eA VW;have sl:=sA.below VW))
    |(go_at_call 147;first|(refine(HB.out _ _ _ _ n G5).mono ?_;rintro r w6 ⟨b,s,F,f,v,rfl,m,c,y,WR⟩;have C:=aj n WR;first|(have P:=sl.below WR;have g0:=P.c0;have g1:=P.c1;have g2:=P.z0;have g3:=P.z1)|skip)|(refine(HB.out _ _ _ _ (n.alloc n.size _) (G5.below (ae.alloc aa _))).mono ?_;rintro r w6 ⟨b,s,F,f,v,rfl,m,c,y,WR⟩;have C:=(n.alloc n.size _).trans (WR.mono (n.alloc n.size _).size);have P:=(bz.new w5 0 0).below WR;have g0:=P.c0;have g1:=P.c1;have g2:=P.z0;have g3:=P.z1)))
  all_goals
   go_wp2_with fail;go_meet
  ·exact⟨b,s,F,f,_,_,rfl,rfl,rfl,bz.new w6 _ _,by have:=C.size;omega,cu (World.ownsRow.alloc c _) (Oq n.size),λ q z=>Uz (c.lt q z).2,m,y,C.alloc C.size _⟩
  ·have z5:=n.size;refine⟨b,s,F,f,_,_,rfl,rfl,rfl,P.set _ _,U,cu (br c (fq w6 (G w5.heap) s F) (λ q z=>by have:=(c.lt q z).1;simp at this;omega)) sU,(λ q z=>by have:=(c.lt q z).1;simp at this;omega),m,y,?_⟩;exact(C.setCell (p:=O (G w5.heap) 0) z5 _).setCell (p:=O (G w5.heap) 1) z5 _
  ·have z5:=n.size;have z6:G wr.heap<G w5.heap:=aB sl.c0;refine⟨b,s,F,f,_,_,rfl,rfl,rfl,P.set _ _,U,cu (br c (fq w6 (G wr.heap) s F) (λ q z=>by have:=(c.lt q z).1;omega)) U,(λ q z=>by have:=(c.lt q z).1;omega),m,y,?_⟩;exact(C.setCell (p:=O (G wr.heap) 0) aa _).setCell (p:=O (G wr.heap) 1) aa _
 case rest =>
  obtain⟨b,s,F,f,T,vS,rfl,rfl,rfl,ab,hT,c,ag,m,y,hb3⟩:=hcut;have XF:=Yl.below hb3;have B3:=aj B2 hb3;have x0:=XF.c0;have x1:=XF.c1;have x2:=XF.c2;have x3:=XF.c3;have y0:=XF.z0;have y1:=XF.z1;have y2:=XF.z2;have y3:=XF.z3;clear HG HB r1 r2 Yl c2 hb3;cases f with
  |false =>
   obtain⟨e1,e2⟩:=m.no;subst e1 e2;clear ab c;go_wp2;have r:=XF.set (.slice UP 0 0) 0 0 5;refine Vxl (v:=.agg #[.slice UP 0 0,J 0,J 0,J 5]) (by simp[results,results95,go_sem,r.c0,r.c1,r.c2,r.c3]) rfl ?_;exact⟨_,[],0,0,Vl,rfl,To _ _ _ _,m.ov HC.out.1 HC.out.2 y (λ _=>rfl) (λ q=>by cases q),ku B3 aa _ _ _ _⟩
  |true =>
   have aN:=Bst.near w1 w2 h1 h2 S.m1 S.m6 m ha XP ht an HC.out.1 HC.out.2;have g3:=g.below B3 hM;have s3:az wc:=S.st.below B3 U;have d3:=d.below B3;have t0:=ab.c0;have t1:=ab.c1;have bb:T<G wc.heap:=aB t0;have a7:G w.heap<G wc.heap:=aB x0;have HJ:Vy (∀(L:M) (g7 c7:Nat),Bq w L->G' L (G w.heap+1) 3 1 (.slice (Z (O g7 0)) (K b+1) c7) (K b+1) (aH b++[J (t:Int)])->Zq 148 #[Pq M9,J (a:Int),.slice (Z (O g7 0)) (K b+1) c7] L λ e I=>∃g8 c8 l,e=VJ (.slice (Z (O g8 0)) (K l+1) c8)/\G' I (G L.heap) 3 1 (.slice (Z (O g8 0)) (K l+1) c8) (K (a::l)) (aH (a::l))/\JnR W H Y a (b++[t]) l/\Bq L I):=λ L g7 c7 X ho=>by
    have e1:K b+1=K (b++[t]):=(by simp);have e2:aH b++[J (t:Int)]=aH (b++[t]):=(by simp[aH]);rw[e1,e2]at ho;rw[e1];obtain⟨g9,c9,q1,q2,_⟩:=fS ho sQ;cases q1;refine(G8 L (g.below X hM) (S.st.below X U) (d.below X) q2 aN sU).mono ?_;rintro e I ⟨v,l,h1,h2,h3,_,h4⟩;obtain⟨g8,c8,rfl,_⟩:=fS h2 sQ;exact⟨g8,c8,l,h1,h2,h3,h4⟩
   clear g3 s3 d3 aN;go_upto_region 6 with fail
   have e0:Bq wc wc.drew:=ae.drew;have B0:=aj B3 e0;have o0:=ak c e0;have k0:ai (λ k=>M' vS=Z k) wc wc.drew:=ai.Y' e0;have A:Vy (∀I,ai (λ k=>M' vS=Z k) wc I->Cq I T 0 (J s)/\Cq I T 1 (J F)):=λ I h=>⟨h.cellOf t0 (λ q=>ag T q rfl),h.cellOf t1 (λ q=>ag T q rfl)⟩;have ad:∀q,M' vS=Z q->G w.heap<q:=λ q z=>(c.lt q z).1;have zc:G w.heap<=G wc.heap:=B3.size;have o6:=o0.alloc (VP #[J (t:Int)] 3);have B6:Bq w (E wc.drew (VP #[J (t:Int)] 3)):=B0.alloc zc _;have kA:=k0.alloc (VP #[J (t:Int)] 3);have a1:∀j u,[J (t:Int)][j]? = Z u->D (E wc.drew (VP #[J (t:Int)] 3)) ((O (G wc.heap) 0:Addr).add j)=Z u:=λ j u hj=>by
    match j,hj with
    |0,hj =>
     cases hj;exact SR (w:=wc.drew) #[J (t:Int)] 3 (G wc.heap) 0 rfl
   have a2:∀u∈[J (t:Int)],u.oneCell'=true:=λ u hu=>by simp at hu;subst hu;rfl
   have a3:K b+1<=maxLen:=(by unfold maxLen;omega);have a4:(K b+1)*8<=140737488355328:=U;have a5:G w.heap+1<=G (E wc.drew (VP #[J (t:Int)] 3)).heap:=(by simp;omega);clear t0 t1 ab c x0 x1 x2 x3 y0 y1 y2 y3;go_region_held3 (λ I=>D I (O T 0)=Z (J s)/\Cq I T 1 (J F)) (first|exact A.out _ k0|exact A.out _ kA|exact A.out _ k7|exact A.out _ k8|exact⟨(qz w8 (G w.heap) _ _ _ _).cellOf (A.out _ k8).1 (Nat.ne_of_gt hT),(qz w8 (G w.heap) _ _ _ _).cellOf (A.out _ k8).2 (Nat.ne_of_gt hT)⟩)
    (first
     |(refine step_append_lies _ rfl (.tmp 53) (.tmp 55) 60 rfl (G w.heap+1) 3 i0 (J 0) 1 8 underlying60 hi VZ Wa Wc rfl dQ _ _ _ rfl o6 ⟨G wc.heap,0,UP⟩ 1 1 [J (t:Int)] rfl rfl a1 a2 dQ a3 a4 a5 _ rfl ?_;intro g7 c7 L XW am _ bc;have B7:Bq w L:=(B6.grown am sU (λ q z=>Nat.le_of_lt (ad q z)));have k7:=kA.grown am (λ k hk _=>hk);have h8:=HJ.out L g7 c7 B7 XW)
     |(go_at_call 148;refine h8.mono ?_;rintro r w8 ⟨g8,c8,l8,rfl,aL,a8,X0⟩;have k8:=k7.below X0;have i:=XF.X' k8 (λ q=>Q8 (ad _ q) (Nat.lt_irrefl _));have x0:=i.c0;have x1:=i.c1;have x2:=i.c2;have x3:=i.c3;have y0:=i.z0;have y1:=i.z1;have y2:=i.z2;have y3:=i.z3;have B8:=aj B7 X0))
   go_wp2;have r:=i.set (.slice (Z (O g8 0)) (K l8+1) c8) s F 0;refine Vxl (v:=.agg #[.slice (Z (O g8 0)) (K l8+1) c8,J s,J F,J 0]) (by simp[results,results95,go_sem,r.c0,r.c1,r.c2,r.c3]) rfl ?_;refine⟨_,a::l8,s,F,Q,rfl,cu (br aL (qz w8 (G w.heap) _ _ _ _) (λ q z=>by have:=(aL.lt q z).1;have:=B7.size;have:G w.heap<G L.heap:=Tc a7 k7.size;omega)) B7.size,m.ov HC.out.1 HC.out.2 y (λ q=>by cases q) (λ _=>⟨l8,rfl,a8⟩),ku B8 aa _ _ _ _⟩
end
section
open Go.RowKit Go.Lib
theorem xu (W H:Int)(Y:Bn)(a t:Int):ff2 W H Y a t=0\/ff2 W H Y a t=1\/ff2 W H Y a t=4:=by grind [ff2,ffv,inB]
theorem Kw (w:M)(n:Int):Eq9 96 #[.iface 42 (J n)] w (J n):=by
 have h:∀(v:Vr) (w:M),(Instr.typeAssert (.iface 42 v) 25 42 Q).run Vyj w=.ok (.tuple #[v,.bool Q]) w:=λ v w=>kQ;go_enter func96,ntmps96;go_wp2;go_ret;exact⟨rfl,rfl⟩
theorem eq5 (w:M):(binOp .eql 25 (.iface 42 (J 5)) (.iface 42 (J 5))).run Vyj w=.ok (.bool Q) w:=kQ
theorem eq1 (w:M):(binOp .eql 25 (.iface 42 (J 1)) (.iface 42 (J 5))).run Vyj w=.ok (.bool Vl) w:=kQ
theorem eq4 (w:M):(binOp .eql 25 (.iface 42 (J 4)) (.iface 42 (J 5))).run Vyj w=.ok (.bool Vl) w:=kQ
theorem NR {lo hi sb:Nat}{Y:Bn}(a t:Int)(w:M)(S:Sv w lo hi sb W H V Y N')(d:ch w) :
  Zq 55 #[Pq sb,J a,J t] w λ e I=>∃v F s d ag,e=VJ (.agg #[v,J s,J d,J ag])/\G' I (G w.heap) 3 1 v (K F) (aH F)/\zU W H Y N' a t F s d ag/\Bq w I:=by
 obtain⟨rb,pb,mb,lb,tb,gb,N,x,V2,S⟩:=S;obtain⟨w1,w2,h1,h2⟩:=S.side;have b0:Bq w (E w (VP #[.slice UP 0 0,J 0,J 0,J 0] 92)):=ae.alloc aa _;have am:=An.new w (.slice UP 0 0) 0 0 0;have S0:=S.below b0;have q1:=S0.c1;have Zz:=oq _ S0.gr;have YN:=S.st.pos;have q5:=eq5;have q4:=eq4;have ap:=eq1;go_enter func55,ntmps55;go_wp2_with fail;generalize E w (VP #[.slice UP 0 0,.int .i64 0,.int .i64 0,.int .i64 0] 92)=wa at *;refine Zz.mono ?_;rintro e wb ⟨rfl,p,C,g1,_⟩;have L:=S0.below p;have j:=am.below p;have B1:=aj b0 p;have d1:=d.below B1;generalize an:G wa.heap=M9 at *;clear Zz S0 am q1 p an b0;rcases xu W H Y a t with u|u
 ·obtain⟨⟨Ys,XP⟩,⟨hit,ac⟩⟩:=pR u;have ja:0<=a/\a<W*H:=Q1 Ys;have jt:0<=t/\t<W*H:=Q1 hit;obtain⟨h,rfl⟩:∃h:Nat,a=(h:Int):=⟨a.toNat,U⟩;obtain⟨k,rfl⟩:∃k:Nat,t=(k:Int):=⟨t.toNat,U⟩;rw[Ta]at XP ac;by_cases B:∃z,On W H Y (h:Int) (k:Int) z
  ·have o:=FZ h (k:Int) wb g1 L.st d1 C u B;go_wp2_with fail;refine o.mono ?_;rintro e y ⟨v,l,rfl,c,ad,hl,b⟩;obtain⟨g3,XZ,rfl,_,Yo,_⟩:=fS c sQ;have R:=aj B1 b;have i:=j.below b;have g2:=g1.below b C;have X:=sI y g2 hit;have P:Vy (zU W H Y N' (h:Int) (k:Int) (h::l) (aP W h k) (aO W h k) 0):=SP ⟨u,SQ ⟨B,rfl,⟨l,rfl,ad⟩,rfl,rfl⟩⟩;have VS:G w.heap<G wb.heap:=aB j.c0;have ao:=Tc C b.size;clear o j L ad B;go_wp2_with fail;refine X.mono ?_;rintro e we ⟨gc,xc,yc,rfl,G3,hb3⟩;have B3:=aj R hb3;have m:=i.below hb3;have Wy:=ak c hb3;have ZJ:=Fo (n:=(h:Int)) we G3.1 G3.2.1 G3.2.2 (g2.below hb3 ao) hit;have ab:gsN W H (k:Int) (h:Int)=(aP W h k,aO W h k):=(by unfold gsN;rw[Q5 Ys]);rw[ab]at ZJ;clear X i G3 hb3 c ab;go_wp2_with fail;refine Q9 ZJ λ wf Ww=>?_;have B4:=aj B3 Ww;have g:=m.below Ww;have WN:=ak Wy Ww;have x0:=g.c0;have x1:=g.c1;have x2:=g.c2;have x3:=g.c3;have y0:=g.z0;have y1:=g.z1;have y2:=g.z2;have y3:=g.z3;clear ZJ m Wy Ww;generalize aP W (h:Int) (k:Int)=os at *;generalize aO W (h:Int) (k:Int)=od at *;go_wp2;have r:=g.set (.slice (Z (O g3 0)) (K l+1) XZ) os od 0;refine Vxl (v:=.agg #[.slice (Z (O g3 0)) (K l+1) XZ,J os,J od,J 0]) (by simp[results,results55,go_sem,r.c0,r.c1,r.c2,r.c3]) rfl ?_;exact⟨_,h::l,os,od,0,rfl,cu (br WN (qz wf (G w.heap) _ _ _ _) (λ q hq=>by have:=(WN.lt q hq).1;omega)) U,P.out,ku B4 aa _ _ _ _⟩
  ·have o:=IZ (h:Int) (k:Int) wb g1 L.st d1 C u B;go_wp2_with fail;refine Q9 o λ y b=>?_;have R:=aj B1 b;have i:=j.below b;have T:=Hc y (L.below b) (d1.below b) (g1.below b C) Ys XP hit ac;have VS:G w.heap<G y.heap:=aB i.c0;have HN:=qH B;clear o j L B b;go_wp2_with fail;refine T.mono ?_;rintro e we ⟨v,F,s,dd,f,rfl,c,hO,hb3⟩;have B3:=aj R hb3;have m:=i.below hb3;have x0:=m.c0;have x1:=m.c1;have x2:=m.c2;have x3:=m.c3;have y0:=m.z0;have y1:=m.z1;have y2:=m.z2;have y3:=m.z3;have P:Vy (zU W H Y N' (h:Int) (k:Int) F s dd (if f then 0 else 5)):=SP ⟨u,SP ⟨HN.out,f,by rw[Ta,Ta];exact hO,rfl⟩⟩;obtain⟨n,A,cap,rfl⟩:∃(n:Nat) (A:Oa) (cap:Nat),v=.slice A n cap:=by
    rcases c.2 with⟨rfl,_⟩|⟨g9,au,_,rfl,_⟩
    ·exact⟨_,_,_,rfl⟩
    ·exact⟨_,_,_,rfl⟩
   generalize (if f then (0:Int) else 5)=er at *;clear T i hb3 hO;go_wp2;have r:=m.set (.slice A n cap) s dd er;refine Vxl (v:=.agg #[.slice A n cap,J s,J dd,J er]) (by simp[results,results55,go_sem,r.c0,r.c1,r.c2,r.c3]) rfl ?_;exact⟨_,F,s,dd,er,rfl,cu (br c (qz we (G w.heap) _ _ _ _) (λ q hq=>by have:=(c.lt q hq).1;omega)) U,P.out,ku B3 aa _ _ _ _⟩
 ·have VY:ff2 W H Y a t≠0:=U;have o:=MB a t wb g1 C VY;have P:Vy (zU W H Y N' a t [] 0 0 (ff2 W H Y a t)):=SQ ⟨VY,rfl,rfl,rfl,rfl⟩;rw[kX VY]at o;generalize ff2 W H Y a t=n at *;go_wp2_with fail;refine Q9 o λ y b=>?_;have R:=aj B1 b;have i:=j.below b;have ZS:=Kw y n;have x0:=i.c0;have x1:=i.c1;have x2:=i.c2;have x3:=i.c3;have y0:=i.z0;have y1:=i.z1;have y2:=i.z2;have y3:=i.z3;clear o j L b VY;rcases u with rfl|rfl
  ·go_wp2_with fail;refine Q0 ZS ?_;go_wp2;have r:=i.set (.slice UP 0 0) 0 0 1;refine Vxl (v:=.agg #[.slice UP 0 0,J 0,J 0,J 1]) (by simp[results,results55,go_sem,r.c0,r.c1,r.c2,r.c3]) rfl ?_;exact⟨_,[],0,0,1,rfl,To _ _ _ _,P.out,ku R aa _ _ _ _⟩
  ·go_wp2_with fail;refine Q0 ZS ?_;go_wp2;have r:=i.set (.slice UP 0 0) 0 0 4;refine Vxl (v:=.agg #[.slice UP 0 0,J 0,J 0,J 4]) (by simp[results,results55,go_sem,r.c0,r.c1,r.c2,r.c3]) rfl ?_;exact⟨_,[],0,0,4,rfl,To _ _ _ _,P.out,ku R aa _ _ _ _⟩
end
end Go.Proofs.YtikdmenjibkgiaaGreatDoor
