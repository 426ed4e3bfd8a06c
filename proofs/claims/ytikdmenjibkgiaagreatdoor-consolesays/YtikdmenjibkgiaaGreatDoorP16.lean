/- Texts laid together. -/
import Derived.Test.YtikdmenjibkgiaaGreatDoorP15
namespace Go.Proofs.YtikdmenjibkgiaaGreatDoor
open Go.Proofs.Tryz renaming prog->Vyj
open Go.Value renaming ownBlock->M'
open _root_.Array renaming size->G
open _root_.Int renaming toNat_natCast->Ta,add_assoc->TT
open _root_.Nat renaming zero_le->Te,not_lt_zero->TW,le_trans->Tg,mul_le_mul->Uo
open _root_.List renaming getElem?_eq_getElem->SU,mem_of_getElem?->Ti,getD_eq_getElem?_getD->Tt,take_add_one->Ty,mem_filter->TS,take_length->Tl,length_map->TA,getElem?_map->Tz,length->K
open Go.World renaming cell?_alloc_at->SR,block_lt_of_cell?->SZ,ownsRow_nil->To,cell?->D,alloc->E,ownsRow->G'
open _root_.Or renaming inl->SQ,inr->SP
open Go.Proofs.Tryz
open _root_.Option renaming some->Z,none->UP
open _root_.Bool renaming true->Q,false->Vl
open Go renaming World->M,Value->Vr,below_drewN->Vxj,wpList_append_own->Vxk
open Go.RowKit renaming Hid->Vy
open Go.Obj renaming cells->VP
set_option maxHeartbeats 8000000
set_option maxRecDepth 1000000
open Go.RowKit
theorem QZ {b:Nat}{W H V:Int}{Y:Bn}(w:M)(g:bo w b W H V Y):∃e:Int->Int->Oi,∀c,inB W H c=Q->cL (aF W H Y) c (e c):=by
 have h:∀c,∃F,inB W H c=Q->cL (aF W H Y) c F:=λ c=>by
  by_cases a:inB W H c=Q;obtain⟨F,d⟩:=NG w g a;exact⟨F,λ _=>d⟩;exact⟨λ _=>UP,λ h=>Q8 h a⟩
 exact⟨λ c=>Classical.choose (h c),λ c a=>Classical.choose_spec (h c) a⟩
theorem Dn {j:Nat}{W H V:Int}{Y:Bn}(w:M)(g:bo w j W H V Y)(v:j<G w.heap) :
  Zq 72 #[Pq j] w λ e I=>∃i k A p a R f,e=.returned (Pq i)/\RGt I j i k W H V Y A p a R (crs W H Y (W*H).toNat) f/\Eds I W H Y (crs W H Y (W*H).toNat) f (K (crs W H Y (W*H).toNat))/\Bq w I/\∀b o,A=Z (O b o)->G w.heap<=b:=by
 have r:=g.w1;obtain⟨m,l⟩:=QZ w g;have d:∀c,dG W H Y c->cL (aF W H Y) c (m c):=λ c s=>l c (aR r s);refine(NH (R:=λ n=>nN n (m n)) w g v (λ n=>Ch _ _) (λ n=>Ci _ _) (λ n=>NA n (m n)) d rfl (λ n I q u t=>PK n I u t (aR r q) (d _ q))).mono ?_;rintro e I ⟨i,k,A,p,a,f,h⟩;exact⟨i,k,A,p,a,_,f,h⟩
theorem NJ {st:LSt}{n:Nat}{B:Int->Oi}{x:Nat}(h:∀m e s d,m<K (st.es x)->(st.es x)[m]? = Z e->(st.VE e.to=0/\e.to≠n)->B (x:Int)=Z (s,d)->∃a b,B (e.to:Int)=Z (a,b)/\val a b<=val s d+val e.s e.d):qy (apE st n) B x:=λ {s d e} g k=>by
 obtain⟨f,c⟩:=tE.1 k;obtain⟨m,j,i⟩:=List.getElem_of_mem f;exact h m e s d j (by grind) c g
theorem Dp (a s d:Int):bE (λ _=>UP) a s d=true:=rfl
theorem Dr {lb vb eb bA capN n o:Nat}{A:Oa}{L:Ln}{st:LSt}{f:Int->Option Vr}(w:M)(G9:RLv w lb vb eb bA L st f)(O9:Okl L 512 st)(VU:bP w A (K L) (λ i=>(L.getD i 0:Nat)))(ZU:K L<=256)(ho:o∈L) :
  Zq 161 #[Pq lb,.slice A (K L) capN,J (o:Int),J (n:Int)] w λ e I=>∃cb ib B,e=.returned (.tuple #[.map (Z cb),.map (Z ib)])/\Lbs I (G w.heap) cb ib B/\Apt L st n o B/\Bq w I:=by
 have b0:=@run_makeMap Vyj;have bZ:=G9.bd o ho;have a2:=aE (a:=(o:Int)) U U;have EO:=PM O9 G9.bd n;have cs:=qH EO;have cx:Vy (∀a,K (st.es a)<=256):=λ a=>O9.len G9.bd a;have XE:Vy (∀{a e},e∈st.es a->0<=e.s/\0<=e.d/\e.s<=512/\e.d<=512):=λ he=>O9.bd he;have cv:Vy (∀{a e},e∈st.es a->e.to∈L):=λ he=>(O9.cor.ends he).2;have bs:=qH G9.bd;have b1:Bq w (E w (.map #[] 0)):=ae.alloc aa _;have m1:=bj.made w Vyj 3;obtain⟨w1,ce,a3,bk⟩:=m1.store aV Tryz.Vxc mQ a2 (.agg #[J 0,J 0]);have K1:=aA bk;have S:Bq w w1:=b1.trans (K1.Z' b1.size (λ g hg=>U));have m2:=bj.made w1 Vyj 3;obtain⟨w2,ci,ZW,bi⟩:=m2.store aV Tryz.underBb mQ a2 (.bool Q);have K2:=aA bi;have b2:Bq w1 (E w1 (.map #[] 0)):=ae.alloc aa _;have v:Bq w w2:=(aj S b2).trans (K2.Z' (aj S b2).size (λ g hg=>by have:=S.size;omega));have c3:G w.heap<G w1.heap:=a3.lt;have l0:Lbs w2 (G w.heap) (G w.heap) (G w1.heap) (aC (λ _=>UP) (o:Int) 0 0):=by
  refine⟨?_,?_,aa,U,U⟩
  ·have h:=(a3.X' (F:=λ _=>False) (ai.Y' b2) id).X' K2 U;have e:=oj (a:=(o:Int)) (λ _=>UP) U U 0 0;rw[j9]at e;rw[<- e,<- zk];exact h
  ·have e:=oj (a:=(o:Int)) (λ _=>UP) U U 0 0;rw[j9]at e;rw[<- e,<- Kl];exact ZW
 have bp:Vy (RB L (apE st n) [⟨(o:Int),0,0,0⟩] (aC (λ _=>UP) (o:Int) 0 0)):=by
  have h:=(RB.start L (apE st n)).in EO (e:=⟨(o:Int),0,0,0⟩) ⟨Int.le_refl 0,(by show (0:Int)<=1048576;decide),Int.le_refl 0,(by show (0:Int)<=1048576;decide)⟩
  have e:inR L (λ _=>UP) ⟨(o:Int),0,0,0⟩=aC (λ _=>UP) (o:Int) 0 0:=by
   unfold inR;rw[Q5 ⟨Q2 ⟨by show (0:Int)<=(o:Int);omega,by show ((o:Int)).toNat∈L;rw[Ta];exact ho⟩,Dp _ _ _⟩]
  rw[e]at h;exact h
 have HG:=qH G9;have cn:=qH VU;have Xt:=qH ZU;generalize aC (λ _=>UP) (o:Int) 0 0=B0 at *;clear m1 a3 bk K1 S m2 ZW bi K2 b2 b1 EO O9 G9 VU ZU bZ;go_enter func161,ntmps161;go_wp2;generalize G w1.heap=ib at *;clear b0 ce ci a2;clear w1;go_loopg [12] (iV 109969568169985 B0 256+1) (λ gk av wr=>∃(p:Bool) (B:Int->Oi),av=.bool p/\gk=iV 109969568169985 B 256+(if p then 1 else 0)/\Lbs wr (G w.heap) (G w.heap) ib B/\Vy (RB L (apE st n) [⟨(o:Int),0,0,0⟩] B)/\Vy (p=Vl->∀x∈L,qy (apE st n) B x)/\Bq w wr)
 case atStart=>exact⟨Q,B0,rfl,rfl,l0,bp,λ q=>(by cases q),v⟩
 case round =>
  clear l0 bp v B0;obtain⟨p,B,rfl,WV,a0,H,a5,R⟩:=hrel;have bx:Vy _:=WV;clear WV;cases p with
  |true =>
   clear a5;go_wp2;go_loopw [12,13] (λ av iv wr=>∃(p:Bool) (i:Nat) (B':Int->Oi),av=.bool p/\iv=J i/\i<=K L/\Lbs wr (G w.heap) (G w.heap) ib B'/\Vy (RB L (apE st n) [⟨(o:Int),0,0,0⟩] B')/\Vy (p=Q->iV 109969568169985 B' 256<iV 109969568169985 B 256)/\Vy (p=Vl->B'=B/\∀j,j<i->qy (apE st n) B (L.getD j 0))/\Bq w wr)
    (λ _ i _=>K L-(intOf i).toNat)
   case atStart=>exact⟨Vl,0,B,rfl,rfl,Te _,a0,H,λ q=>(by cases q),λ _=>⟨rfl,λ j hj=>Q8 hj (TW j)⟩,R⟩
   case round =>
    clear a0 H R;obtain⟨p,i,S,rfl,rfl,cN,T,H,YZ,C,R⟩:=hrel;have ZU:K L<=256:=Xt.out;by_cases VS:i<K L
    ·obtain⟨ba,oa,hA,Zp,Wj⟩:=(cn.out.below R) i VS;subst hA;have i1:(0:Int)<=(i:Int):=U;have i2:(i:Int)<(K L:Int):=U;obtain⟨x,hx⟩:∃x,L.getD i 0=x:=⟨_,rfl⟩;have VX:Cq wr ba (oa+i) (J (x:Int)):=(by rw[<- hx];exact Wj);have a1:x∈L:=(by rw[<- hx,bL _ _ VS];exact List.getElem_mem VS);have a8:Vy (L.getD i 0=x/\x∈L):=⟨hx,a1⟩;have cK:=bs.out x a1;have Zd:=aE (a:=(x:Int)) U U;have Zu:=T.is Zd;have cl:=bX R;clear hx a1 Wj;cases X:S (x:Int) with
     |none =>
      rw[X]at Zu;have Zu:(Instr.lookup 250 (.map (Z ib)) (J (x:Int)) Vl).run Vyj wr=.ok (.bool Vl) wr:=Zu;have a7:Vy (p=Vl->S=B/\∀j,j<i+1->qy (apE st n) B (L.getD j 0)):=λ q=>by
       obtain⟨e1,e2⟩:=C.out q;refine⟨e1,λ j hj=>?_⟩;by_cases ej:j<i
       ·exact e2 j ej
       ·have:j=i:=U;subst this;rw[a8.out.1];exact GW (by rw[<- e1];exact X)
      clear C;go_wp2;go_roundw
      case rel=>exact⟨p,i+1,S,rfl,gQ,U,T,H,YZ,a7.out,R⟩
      case measure=>simp[intOf];omega
     |some c0 =>
      rw[X]at Zu
      replace Zu:(Instr.lookup 250 (.map (Z ib)) (J (x:Int)) Vl).run Vyj wr=.ok (.bool Q) wr:=Zu
      have r:Vy (∃s d,S (x:Int)=Z (s,d)):=⟨c0.1,c0.2,X⟩;clear X c0;go_wp2;clear VX Zu;obtain⟨WB,b4⟩:∃WB,WB=wr:=⟨_,rfl⟩;go_loopw [12,15] (λ av kv wr=>∃(p:Bool) (k:Nat) (B':Int->Oi),av=.bool p/\kv=J k/\k<=K (st.es x)/\Lbs wr (G w.heap) (G w.heap) ib B'/\Vy (RB L (apE st n) [⟨(o:Int),0,0,0⟩] B')/\Vy (∃s d,B' (x:Int)=Z (s,d))/\Vy (p=Q->iV 109969568169985 B' 256<iV 109969568169985 B 256)/\Vy (p=Vl->B'=B/\(∀j,j<i->qy (apE st n) B (L.getD j 0))/\∀m e s d,m<k->(st.es x)[m]? = Z e->(st.VE e.to=0/\e.to≠n)->B (x:Int)=Z (s,d)->∃t u,B (e.to:Int)=Z (t,u)/\val t u<=val s d+val e.s e.d)/\Bq w wr)
       (λ _ k _=>K (st.es x)-(intOf k).toNat)
      case atStart=>exact⟨p,0,S,rfl,rfl,Te _,T,H,r,YZ,λ q=>⟨(C.out q).1,(C.out q).2,λ m _ _ _ hm=>Q8 hm (TW m)⟩,R⟩
      case round =>
       clear T H R YZ C b4 WB cl r;obtain⟨p,k,v,rfl,rfl,hk,aN,H,r,YZ,C,R⟩:=hrel;have Gr:=HG.out.below R;have p1:=Gr.c1;have p0:=Gr.c0;obtain⟨A',cz,b8,VU,_⟩:=Gr.edges a8.out.2;have cS:K (st.es x)<=256:=cx.out x;by_cases b3:k<K (st.es x)
       ·obtain⟨e,he⟩:∃e,(st.es x)[k]? = Z e:=⟨(st.es x)[k],SU b3⟩;obtain⟨bb,oo,b6,d0,d1,d2,d3⟩:=VU k e he;subst b6;have k1:(0:Int)<=(k:Int):=U;have k2:(k:Int)<(K (st.es x):Int):=U;have a4:=Ti he;have ao:=cv.out a4;have Wq:=bs.out _ ao;have am:=aE (a:=(e.to:Int)) U U;have HE:Vy ((st.es x)[k]? = Z e/\e∈st.es x/\e.to∈L):=⟨he,a4,ao⟩;have b5:Bq wr (E wr (VP #[J (e.to:Int),J e.s,J e.d,J e.U6] 203)):=ae.alloc aa _;have y0:D (E wr (VP #[J (e.to:Int),J e.s,J e.d,J e.U6] 203)) (O (G wr.heap) 0)=Z (J (e.to:Int)):=SR #[J (e.to:Int),J e.s,J e.d,J e.U6] 203 (G wr.heap) 0 rfl;have y1:D (E wr (VP #[J (e.to:Int),J e.s,J e.d,J e.U6] 203)) (O (G wr.heap) 1)=Z (J e.s):=SR #[J (e.to:Int),J e.s,J e.d,J e.U6] 203 (G wr.heap) 1 rfl;have y2:D (E wr (VP #[J (e.to:Int),J e.s,J e.d,J e.U6] 203)) (O (G wr.heap) 2)=Z (J e.d):=SR #[J (e.to:Int),J e.s,J e.d,J e.U6] 203 (G wr.heap) 2 rfl;have aL:=aN.below b5;have B5:=aj R b5;have ax:=Gr.below b5;have b9:=λ m=>(ax.below (Vxj ae m)).look ao;have g0:=ax.c0;clear Gr VU aN R he a4 ao p0 b5;go_upto_region 15 with fail
        clear b8 d0 d1 d2 d3 p1;generalize E wr (VP #[.int .i64 (e.to:Int),.int .i64 e.s,.int .i64 e.d,.int .i64 e.U6] 203)=w5 at *;generalize G wr.heap=Y9 at *;go_cut [73] from 60 to 73 (λ b wd=>b=.bool (!decide (st.VE e.to=0/\e.to≠n))/\Bq w5 wd)
        case first =>
         clear aL ax y1 y2;have V:st.VE e.to=0↔(st.VE e.to:Int)=0:=U;have W:e.to=n↔(e.to:Int)=(n:Int):=U;have XN:0<=(st.VE e.to:Int):=U;generalize (st.VE e.to:Int)=ay at *;generalize (e.to:Int)=et at *;generalize (n:Int)=nz at *;by_cases q1:ay=0
         ·have d1:decide (0<ay)=false:=Q3 U;by_cases q2:et=nz
          ·have hr:decide (st.VE e.to=0/\e.to≠n)=false:=Q3 (λ h=>h.2 (W.2 q2));have d2:(et==nz)=true:=beq_iff_eq.2 q2;have ab:Vy _:=hr;clear hr V W q1 q2 XN;go_quiet (fail);go_wp2_with fail;go_meet;exact⟨by rw[ab.out];rfl,Vxj ae _⟩
          ·have hr:decide (st.VE e.to=0/\e.to≠n)=true:=Q2 ⟨V.2 q1,λ h=>q2 (W.1 h)⟩;have d2:(et==nz)=false:=Q4.2 q2;have ab:Vy _:=hr;clear hr V W q1 q2 XN;go_quiet (fail);go_wp2_with fail;go_meet;exact⟨by rw[ab.out];rfl,Vxj ae _⟩
         ·have d1:decide (0<ay)=true:=Q2 U;have hr:decide (st.VE e.to=0/\e.to≠n)=false:=Q3 (λ h=>q1 (V.1 h.1));have ab:Vy _:=hr;clear hr V W q1 XN;go_quiet (fail);go_wp2_with fail;go_meet;exact⟨by rw[ab.out];rfl,Vxj ae _⟩
        case rest =>
         obtain⟨rfl,WR⟩:=hcut;have ad:=aL.below WR;have B6:=aj B5 WR;have kc:∀{y:Addr}{z:Vr},D w5 y=Z z->D wc y=Z z:=λ {y z} h=>(WR.cell (SZ w5 y h)).trans h;have y0:=kc y0;have y1:=kc y1;have y2:=kc y2;clear kc WR aL B5 b9 g0 ax;cases hq:decide (st.VE e.to=0/\e.to≠n) with
         |false =>
          have a9:Vy (p=Vl->v=B/\(∀j,j<i->qy (apE st n) B (L.getD j 0))/\∀m e s d,m<k+1->(st.es x)[m]? = Z e->(st.VE e.to=0/\e.to≠n)->B (x:Int)=Z (s,d)->∃t u,B (e.to:Int)=Z (t,u)/\val t u<=val s d+val e.s e.d):=λ q=>by
           obtain⟨e1,e2,e3⟩:=C.out q;refine⟨e1,e2,λ m e' s2 d2 hm P an X2=>?_⟩;by_cases em:m<k
           ·exact e3 m e' s2 d2 em P an X2
           ·have:m=k:=U;subst this;rw[HE.out.1]at P;cases P;exact Q8 an (of_decide_eq_false hq)
          clear C hq y0 y1 y2;go_wp2;go_roundw
          case rel=>exact⟨p,k+1,v,rfl,gQ,U,ad,H,r,YZ,a9.out,B6⟩
          case measure=>simp[intOf];omega
         |true =>
          have bl:=Q1 hq;obtain⟨s,d,ap⟩:=r.out;have au:=ad.co Zd;rw[ap]at au
          replace au:(Instr.lookup 251 (.map (Z (G w.heap))) (J (x:Int)) Vl).run Vyj wc=.ok (.agg #[J s,J d]) wc:=au
          have a6:=H.out.big ap;have Yu:=XE.out HE.out.2.1;have bI:okC s d:=(by unfold okC;omega);have bD:okC e.s e.d:=(by unfold okC;omega);have be:okC (s+e.s) (d+e.d):=(by unfold okC;omega);have XG:=nI s d e.s e.d wc bI bD;have bq:Vy _:=ad;have cy:=qH (tE.2 ⟨HE.out.2.1,bl⟩);have aw:=qH ap;clear a6 Yu ad hq bl ap r;go_wp2_with fail;clear au;refine Q9 XG λ w6 WR=>?_;have b7:=WR.alloc WR.size (VP #[J (s+e.s),J (d+e.d)] 90);have z7:=bz.new w6 (s+e.s) (d+e.d);have ac:=bq.out.below b7;have y0:=al b7 y0;have B7:=aj B6 b7;have t126:=ac.is am;have t125:=ac.co am;have x0:=z7.c0;have x1:=z7.c1;have bn:Vy _:=z7;have bw:Vy _:=ac;clear XG WR b7 y1 y2 bq B6 z7 ac;go_upto_region 17 with fail
          generalize E w6 (VP #[.int .i64 (s+e.s),.int .i64 (d+e.d)] 90)=w7 at *;generalize G w6.heap=Z9 at *;go_cut [93] from 80 to 93 (λ b wd=>b=.bool (bE v (e.to:Int) (s+e.s) (d+e.d))/\Bq w7 wd)
          case first =>
           cases Y:v (e.to:Int) with
           |none =>
            have bM:bE v (e.to:Int) (s+e.s) (d+e.d)=true:=(by unfold bE;rw[Y]);rw[Y]at t126
            replace t126:(Instr.lookup 250 (.map (Z ib)) (J (e.to:Int)) Vl).run Vyj w7=.ok (.bool Vl) w7:=t126
            clear t125;go_wp2_with fail;go_meet;exact⟨by rw[bM],ae⟩
           |some c =>
            obtain⟨t,u⟩:=c;have a6:=H.out.big Y;have bc:okC t u:=(by unfold okC;omega);have cj:decide (j6 (s+e.s) (d+e.d) t u<0)=bE v (e.to:Int) (s+e.s) (d+e.d):=by
             unfold bE;rw[Y,ka _ _ _ _ be bc];exact decide_eq_decide.2 (pY _ _)
            rw[Y]at t126 t125
            replace t126:(Instr.lookup 250 (.map (Z ib)) (J (e.to:Int)) Vl).run Vyj w7=.ok (.bool Q) w7:=t126
            replace t125:(Instr.lookup 251 (.map (Z (G w.heap))) (J (e.to:Int)) Vl).run Vyj w7=.ok (.agg #[J t,J u]) w7:=t125
            have cg:=vD (s+e.s) (d+e.d) t u w7 be bc;clear a6;go_wp2_with (first|(go_at_call 113;refine Q9 cg λ w8 X0=>?_));go_meet;exact⟨by rw[<- cj],X0⟩
          case rest =>
           obtain⟨rfl,X0⟩:=hcut;have N:=bw.out.below X0;have z8:=bn.out.below X0;have B8:=aj B7 X0;have y0:=al X0 y0;have x0:=z8.c0;have x1:=z8.c1;clear t126 t125 X0 bw bn B7;cases hq:bE v (e.to:Int) (s+e.s) (d+e.d) with
           |false =>
            have a9:Vy (p=Vl->v=B/\(∀j,j<i->qy (apE st n) B (L.getD j 0))/\∀m e s d,m<k+1->(st.es x)[m]? = Z e->(st.VE e.to=0/\e.to≠n)->B (x:Int)=Z (s,d)->∃t u,B (e.to:Int)=Z (t,u)/\val t u<=val s d+val e.s e.d):=λ q=>by
             obtain⟨e1,e2,e3⟩:=C.out q;refine⟨e1,e2,λ m e' s2 d2 hm P an X2=>?_⟩;by_cases em:m<k
             ·exact e3 m e' s2 d2 em P an X2
             ·have:m=k:=U;subst this;rw[HE.out.1]at P;cases P;rw[<- e1,aw.out]at X2;cases X2;obtain⟨t,u,j1,j2⟩:=mZ hq;rw[aK]at j2;exact⟨t,u,by rw[<- e1];exact j1,j2⟩
            have r:Vy (∃s d,v (x:Int)=Z (s,d)):=⟨s,d,aw.out⟩;clear C x0 x1 y0 z8 hq;go_wp2;go_roundw
            case rel=>exact⟨p,k+1,v,rfl,gQ,U,N,H,r,YZ,a9.out,B8⟩
            case measure=>simp[intOf];omega
           |true =>
            obtain⟨r1,r2⟩:=H.out.low cs.out aw.out cy.out hq;have cp:=qH r1;have cr:Vy (Q=Q->iV 109969568169985 (aC v (e.to:Int) (s+e.s) (d+e.d)) 256<iV 109969568169985 B 256):=λ _=>by
             cases p with
             |true=>have:=YZ.out rfl;omega
             |false=>have:=(C.out rfl).1;subst this;exact r2
            have r:Vy (∃t u,aC v (e.to:Int) (s+e.s) (d+e.d) (x:Int)=Z (t,u)):=by
             by_cases ex:(x:Int)=(e.to:Int)
             ·rw[ex];exact⟨_,_,bJ _ _ _ _⟩
             ·exact⟨s,d,by rw[aS _ _ _ ex];exact aw.out⟩
            obtain⟨w9,c4,K9,m9,bf⟩:=N.put1 am U U (s+e.s) (d+e.d);obtain⟨YI,c2,bm,cd⟩:=Lbs.put2 N.nb m9 bf am U U;have B9:=B8.trans (K9.Z' B8.size (λ g hg=>by rw[hg];exact N.nb.1));have Zk:=B9.trans (bm.Z' B9.size (λ g hg=>by rw[hg];exact N.nb.2.1));have y9:Cq w9 Y9 0 (J (e.to:Int)):=K9.cellOf y0 (λ q=>by
             have h':=N.cm.cell 0;rw[<- q,y0]at h';cases h')
            clear r1 r2 YZ C hq N z8 B8 B9 K9 bm m9 bf;go_wp2;go_roundw
            case rel=>exact⟨Q,k+1,_,rfl,gQ,U,cd,cp.out,r.out,cr.out,λ q=>(by cases q),Zk⟩
            case measure=>simp[intOf];omega
       ·have ek:k=K (st.es x):=U;subst ek;have a7:Vy (p=Vl->v=B/\∀j,j<i+1->qy (apE st n) B (L.getD j 0)):=λ q=>by
         obtain⟨e1,e2,e3⟩:=C.out q;refine⟨e1,λ j hj=>?_⟩;by_cases ej:j<i
         ·exact e2 j ej
         ·have:j=i:=U;subst this;rw[a8.out.1];exact NJ e3
        clear C Gr VU p0;go_wp2;go_roundw
        case rel=>exact⟨p,i+1,v,rfl,gQ,U,aN,H,YZ,a7.out,R⟩
        case measure=>simp[intOf];omega
    ·have ei:i=K L:=U;subst ei;go_wp2;go_roundg (iV 109969568169985 S 256+(if p then 1 else 0))
     case measure =>
      have h1:=bx.out;cases p with
      |true=>have h2:=YZ.out rfl;simp at h1 ⊢;omega
      |false=>have h2:=(C.out rfl).1;subst h2;simp at h1 ⊢;omega
     case rel =>
      exact⟨p,S,rfl,rfl,T,H,λ q=>NI (C.out q),R⟩
  |false =>
   have cc:Vy (Apt L st n o B):=⟨H.out,a5.out rfl⟩;clear a5 H bx;go_wp2;go_ret2;exact⟨_,_,B,rfl,a0,cc.out,R⟩
section
variable {w I : M} {m : Nat} {A : Option Addr}
theorem dS.map {l:List LE}(h:dS w A l)(b:ai (λ k=>k=m) w I)(a:∀o,D w (O m o)=UP):dS I A l:=by grind [dS,ai.cellOf]
theorem bP.map {n:Nat}{xs:Nat->Int}(h:bP w A n xs)(c:ai (λ k=>k=m) w I)(d:∀o,D w (O m o)=UP):bP I A n xs:=λ i e=>by
 obtain⟨b,o,j,g,a⟩:=h i e;have f:¬b=m:=λ q=>by rw[q,d]at a;cases a
 exact⟨b,o,j,Nat.lt_of_lt_of_le g c.size,c.cellOf a f⟩
end
def nzF (nr:Bn):Int->Option Value:=λ i=>if 0<=i/\nr i.toNat=Q then Z (.bool Q) else UP
theorem NK (nr:Bn)(m:Nat):bQ (nzF nr) (m:Int) (.bool Q)=nzF (λ k=>nr k || m==k):=by grind [bQ,nzF]
theorem Ko:nzF (λ _=>Vl)=λ _=>none:=by grind [nzF]
structure RRS (w wr:M) (lb vb eb nb t:Nat) (L:Ln) (A:Oa) (st:LSt) (f:Int->Option Vr) (nr:Bn):Prop where
 lv:RLv wr lb vb eb t L st f
 nm:iT wr nb (nzF nr)
 row:bP wr A (K L) (λ i=>(L.getD i 0:Nat))
 ne:nb≠vb/\nb≠eb/\nb≠lb
 hn:G w.heap<=nb
 kp:ai (λ k=>k=vb\/k=eb) w wr
 nl:∀n,nr n=Q->n∈L
section
variable {w wr wq : M} {lb vb eb nb t : Nat} {L : List Nat} {A : Option Addr} {st : LSt} {f : Int → Option Vr} {nr : Nat → Bool}
theorem RRS.below (R:RRS w wr lb vb eb nb t L A st f nr)(a:Bq wr wq):RRS w wq lb vb eb nb t L A st f nr :=
 ⟨R.lv.below a,R.nm.below a,R.row.below a,R.ne,R.hn,R.kp.below a,R.nl⟩
theorem RRS.skip (R:RRS w wr lb vb eb nb t L A st f nr){n:Nat}(c:n∈L):(Instr.lookup 250 (.map (Z nb)) (J (n:Int)) Vl).run Vyj wr=.ok (.bool (nr n)) wr:=by
 have b:=aE (a:=(n:Int)) U (Oq (R.lv.bd n c));cases h:nr n with
 |true=>exact R.nm.mp.Ui aV Tryz.underBb (yO _) b (v:=.bool Q) (by grind [nzF,Ta]) Vl
 |false=>exact R.nm.mp.u6 aV Tryz.underBb (yO _) b (by grind [nzF,Ta]) Vl
theorem RRS.near (R:RRS w wr lb vb eb nb t L A st f nr){m:Nat}(j:m∈L):∃b,(Instr.mapUpdate 250 (.map (Z nb)) (J (m:Int)) (.bool Q)).run Vyj wr=.ok () b/\ai (λ k=>k=nb) wr b/\RRS w b lb vb eb nb t L A st f (λ k=>nr k || m==k):=by
 have r:=R.lv.bd m j;obtain⟨b,l,c,g⟩:=R.nm.store Tryz.underBb (a:=(m:Int)) U U (.bool Q);rw[NK]at g;have d:=λ o=>R.nm.mp.cell o;refine⟨b,l,c,R.lv.X' c (λ h=>R.ne.2.2 h.symm) (λ h=>R.ne.1 h.symm) (λ h=>R.ne.2.1 h.symm) (R.lv.off d),g,R.row.map c d,R.ne,R.hn,R.kp.trans c (λ i q e=>by have:=R.hn;omega),λ n p=>?_⟩;rcases Bool.or_eq_true_iff.1 p with h|h
 exact R.nl n h
 grind
theorem RRS.level (R:RRS w wr lb vb eb nb t L A st f nr){n:Nat}(j:n∈L)(r:0<t):∃c,(Instr.mapUpdate 144 (.map (Z vb)) (J (n:Int)) (J (t:Int))).run Vyj wr=.ok () c/\ai (λ k=>k=vb) wr c/\RRS w c lb vb eb nb t L A ⟨λ k=>if k=n then t else st.VE k,st.es⟩ f nr:=by
 have B:=R.lv.bd n j;obtain⟨c,s,b,m⟩:=R.lv.lv.store Tryz.Vxf (a:=(n:Int)) U U (J (t:Int));rw[Fm j r]at m;have l:=λ o=>R.lv.lv.mp.cell o;have g:lb≠vb:=R.lv.nes.1;refine⟨c,s,b,⟨b.cellOf R.lv.c0 g,b.cellOf R.lv.c1 g,b.cellOf R.lv.c2 g,(b.frozen (p:=O lb 2) R.lv.lts.1 g).trans R.lv.fz,m,R.lv.em.X' b (λ h=>R.lv.ne h.symm),λ x q=>?_,R.lv.no,R.lv.ne,R.lv.bd⟩,R.nm.X' b R.ne.1,R.row.map b l,R.ne,R.hn,R.kp.trans b (λ i z e=>SQ e),R.nl⟩;obtain⟨y,d,v,u⟩:=R.lv.yes x q;exact⟨y,d,v,u.map b l⟩
theorem RRS.Vxh (R:RRS w wr lb vb eb nb t L A st f nr){a cap':Nat}{A':Oa}{l:List LE}(s:a∈L)(r:dS wr A' l):∃h,(Instr.mapUpdate 137 (.map (Z eb)) (J (a:Int)) (.slice A' (K l) cap')).run Vyj wr=.ok () h/\ai (λ k=>k=eb) wr h/\RRS w h lb vb eb nb t L A ⟨st.VE,fU st.es a l⟩ (bQ f (a:Int) (.slice A' (K l) cap')) nr:=by
 have F:=R.lv.bd a s;obtain⟨h,u,d,B⟩:=R.lv.em.store Tryz.Vxa (a:=(a:Int)) U U (.slice A' (K l) cap');have m:=λ o=>R.lv.em.mp.cell o;have g:lb≠eb:=R.lv.nes.2;refine⟨h,u,d,⟨d.cellOf R.lv.c0 g,d.cellOf R.lv.c1 g,d.cellOf R.lv.c2 g,(d.frozen (p:=O lb 2) R.lv.lts.1 g).trans R.lv.fz,R.lv.lv.X' d R.lv.ne,B,λ x q=>?_,λ c n=>?_,R.lv.ne,R.lv.bd⟩,R.nm.X' d R.ne.2.1,R.row.map d m,R.ne,R.hn,R.kp.trans d (λ i C e=>SP e),R.nl⟩;show ∃j b,bQ f (a:Int) (.slice A' (K l) cap') (x:Int)=Z (.slice j (K (fU st.es a l x)) b)/\dS h j (fU st.es a l x);unfold fU;by_cases e:x=a;subst e;rw[Q5 rfl];exact⟨A',cap',cF _ _ _,r.map d m⟩;rw[Q6 e,du _ _ U];obtain⟨j,b,y,v⟩:=R.lv.yes x q;exact⟨j,b,y,v.map d m⟩;have z:c≠(a:Int):=λ e=>n (by grind);rw[du _ _ z];exact R.lv.no c n
theorem RRS.start (G9:RLv w lb vb eb t L st f)(a:bP w A (K L) (λ i=>(L.getD i 0:Nat))):RRS w (E w (.map #[] 0)) lb vb eb (G w.heap) t L A st f (λ _=>Vl):=by
 have b:Bq w (E w (.map #[] 0)):=ae.alloc aa _;have c:=G9.lts;refine⟨G9.below b,?_,a.below b,⟨U,U,U⟩,aa,ai.Y' b,λ n h=>by cases h⟩;rw[Ko];exact iT.made w
end
section
open Go.RowKit Go.Maps
theorem Ra {w I:M}{m:Nat}{t r p n l j:Addr}{v1 v2 v3 g f d:Vr}(x:ai (λ k=>k=m) w I)(u:∀o,D w (O m o)=UP)(h:D w t=Z v1/\D w r=Z v2/\D w p=Z v3/\D w n=Z g/\D w l=Z f/\D w j=Z d) :
  I.cell? t=Z v1/\D I r=Z v2/\D I p=Z v3/\D I n=Z g/\D I l=Z f/\D I j=Z d:=by
 have c:∀{a:Addr}{v:Vr},D w a=Z v->D I a=Z v:=λ {a v} q=>x.cellOf q (λ e=>by
  obtain⟨b,o,s⟩:=a;have i:=World.cell?_spot q;simp only at i e;subst i e;rw[u]at q;cases q)
 exact⟨c h.1,c h.2.1,c h.2.2.1,c h.2.2.2.1,c h.2.2.2.2.1,c h.2.2.2.2.2⟩
theorem Ds {lb vb eb t capN:Nat}{A:Oa}{L:Ln}{st:LSt}{f:Int->Option Vr}{K9:Int}(w:M)(G9:RLv w lb vb eb t L st f)(VU:bP w A (K L) (λ i=>(L.getD i 0:Nat)))(ZU:K L<=256)(hA:All L t K9 st (λ _=>Vl))(gj:0<=K9)(hK:K9<=256)(ht:0<t) :
  Zq 117 #[Pq lb,.slice A (K L) capN] w λ e I=>∃C WD R f',e=.returned (.bool R)/\Rnd t L st (λ _=>Vl) C WD R/\RLv I lb vb eb t L C f'/\bP I A (K L) (λ i=>(L.getD i 0:Nat))/\ai (λ k=>k=vb\/k=eb) w I:=by
 have ge:=@run_makeMap Vyj;have e7:=RRS.start G9 VU;have XE:=qH G9.bd;obtain⟨db,eq,VZ,Wa,Wc⟩:=info_parts Tryz.infoE;obtain⟨i3,gf,gc,gb,ga⟩:=info_parts Tryz.Vxg;go_enter func117,ntmps117;go_wp2;clear ge G9 VU;go_loopw [5,7] (λ gv iv wr=>∃(i:Nat) (C:LSt) (nr:Bn) (f':Int->Option Vr) (R:Bool),i<=K L/\iv=J i/\gv=.bool R/\RRS w wr lb vb eb (G w.heap) t L A C f' nr/\Vy (Rnd t (L.take i) st (λ _=>Vl) C nr R)/\Vy (All L t K9 C nr))
  (λ _ i _=>K L-(intOf i).toNat)
 case atStart=>exact⟨0,st,λ _=>Vl,f,Vl,Te _,rfl,rfl,e7,⟨rfl,rfl,rfl⟩,hA⟩
 case round =>
  clear e7;obtain⟨i,C,nr,f',R,hi,rfl,rfl,RS,HR,HA⟩:=hrel;by_cases VS:i<K L
  ·obtain⟨ba,oa,go,Zp,Wj⟩:=RS.row i VS;subst go;obtain⟨n,hn⟩:∃n,L[i]? = Z n:=⟨L[i],SU VS⟩;have Zh:L.getD i 0=n:=(by rw[Tt,hn];rfl);have VX:Cq wr ba (oa+i) (J (n:Int)):=(by rw[<- Zh];exact Wj);have WK:=Ti hn;have hO:=XE.out n WK;have Y2:=aE (a:=(n:Int)) U U;have Yq:Vy (L.take (i+1)=L.take i++[n]):=(by rw[Ty,hn];rfl);have i1:(0:Int)<=(i:Int):=U;have i2:(i:Int)<(K L:Int):=U;have c0:=RS.lv.c0;have cg:=RS.lv.look WK;have Zu:=RS.skip WK;have cK:=qH WK;clear hn Zh WK Wj;by_cases ab:0<C.VE n\/nr n=Q
   ·have aN:Vy (Rnd t (L.take (i+1)) st (λ _=>Vl) C nr R):=by
     rw[Yq.out];have h1:=HR.out.snoc (n:=n) (st2:=C) (nr2:=nr) (g2:=Vl) (SQ ⟨ab,rfl,rfl,rfl⟩);rw[Bool.or_false]at h1;exact h1
    by_cases XN:0<C.VE n
    ·have hd:decide (0<(C.VE n:Int))=true:=Q2 U;clear ab HR XN;generalize (C.VE n:Int)=lz at *;go_wp2;go_roundw
     case rel=>exact⟨i+1,C,nr,f',R,U,gQ,rfl,RS,aN.out,HA.out⟩
     case measure=>simp[intOf];omega
    ·have Y3:nr n=true:=ab.resolve_left XN;have hz:(C.VE n:Int)=0:=U;rw[hz]at cg;rw[Y3]at Zu;clear ab HR XN Y3 hz;go_wp2;go_roundw
     case rel=>exact⟨i+1,C,nr,f',R,U,gQ,rfl,RS,aN.out,HA.out⟩
     case measure=>simp[intOf];omega
   ·have hz:(C.VE n:Int)=0:=by
     have:¬0<C.VE n:=λ h=>ab (SQ h);omega
    have Y3:nr n=false:=by
     cases h:nr n with
     |false=>rfl
     |true=>exact Q8 (SP h) ab
    rw[hz]at cg;rw[Y3]at Zu;have bZ:=qH ab;have O9:Okl L 512 C:=⟨HA.out.lin.esy,HA.out.cor,λ V=>by
     obtain⟨p1,p2⟩:=HA.out.bdd.pos V;obtain⟨p3,p4⟩:=HA.out.bdd.new V;exact⟨p1,p2,U,U⟩⟩
    have HO:=qH O9;obtain⟨p,hp⟩:∃p:LE->LE->Bool,∀a b,p a b=Q↔zg C n a b:=⟨λ a b=>@decide (zg C n a b) (Classical.propDecidable _),λ a b=>@decide_eq_true_iff _ (Classical.propDecidable _)⟩;have HP:=qH hp;have dp:K (C.es n)<=256:=O9.len XE.out n;have cy:=qH RS;clear ab hp O9 hz Y3;go_wp2;clear VX c0 cg Zu RS;obtain⟨W1,ce⟩:∃W1,W1=wr:=⟨_,rfl⟩;rw[<- ce]at cy;go_loopw [9,10] (λ ev kv wr=>∃(k:Nat),k<=K (C.es n)/\kv=J k/\G' wr (G W1.heap) 203 4 ev (K (fh (λ e=>C.VE e.to==0) (C.es n) k)) (bB (fh (λ e=>C.VE e.to==0) (C.es n) k))/\Bq W1 wr)
     (λ _ k _=>K (C.es n)-(intOf k).toNat)
    case atStart=>exact⟨0,Te _,rfl,To _ _ _ _,by rw[ce];exact ae⟩
    case round =>
     clear ce;obtain⟨k,hk,rfl,S,X⟩:=hrel;have RS:=cy.out.below X;have c1:=RS.lv.c1;obtain⟨A',b8,bl,WI⟩:=RS.lv.yes n cK.out;have bp:(Instr.lookup 137 (.map (Z eb)) (J (n:Int)) Vl).run Vyj wr=.ok (.slice A' (K (C.es n)) b8) wr:=RS.lv.em.mp.Ui aV Tryz.Vxa (mm _) Y2 bl Vl;by_cases ac:k<K (C.es n)
     ·as_aux_lemma =>
       obtain⟨e,V⟩:∃e,(C.es n)[k]? = Z e:=⟨(C.es n)[k],SU ac⟩;obtain⟨bb,oo,gr,q0,q1,q2,q3⟩:=WI k e V;subst gr;have k1:(0:Int)<=(k:Int):=U;have k2:(k:Int)<(K (C.es n):Int):=U;have a5:=(HO.out.cor.ends (Ti V)).2;have c0:=RS.lv.c0;have ep:∀m,(Instr.lookup 137 (.map (Z eb)) (J (n:Int)) Vl).run Vyj (wr.drewN m)=.ok (.slice (Z (O bb oo)) (K (C.es n)) b8) (wr.drewN m):=λ m=>(RS.lv.below (Vxj ae m)).em.mp.Ui aV Tryz.Vxa (mm _) Y2 bl Vl;have hf:=λ m=>(RS.lv.below (Vxj ae m)).look a5;have en:(C.VE e.to==0)=((C.VE e.to:Int)==0):=by
        by_cases q:C.VE e.to=0
        ·rw[q];rfl
        ·rw[Q4.2 q,Q4.2 (show (C.VE e.to:Int)≠0 by omega)]
       have b4:Vy _:=en;clear en;have cv:Vy ((C.VE e.to==0)=Q->fh (λ e=>C.VE e.to==0) (C.es n) (k+1)=fh (λ e=>C.VE e.to==0) (C.es n) k++[e]):=λ h=>x9 (p:=λ e=>C.VE e.to==0) V h;have Y6:Vy ((C.VE e.to==0)=Vl->fh (λ e=>C.VE e.to==0) (C.es n) (k+1)=fh (λ e=>C.VE e.to==0) (C.es n) k):=λ h=>Ct (p:=λ e=>C.VE e.to==0) V h;have hR:K (fh (λ e=>C.VE e.to==0) (C.es n) k)<=256:=Tg yb dp;have hH:Vy (leV e=[J (e.to:Int),J e.s,J e.d,J e.U6]):=rfl;clear V a5 RS bl WI;cases ao:(C.VE e.to==0) with
       |false =>
        have HS:=Y6.out ao;have hz:=b4.out.symm.trans ao;clear cv Y6 b4 ao;generalize (C.VE e.to:Int)=lz at *;go_wp2_with fail;go_quiet (fail);go_wp2;have b9:Bq wr (wr.drewN nq):=Vxj ae _;have eX:=ak S b9;rw[<- HS]at eX;go_roundw
        case rel=>exact⟨k+1,U,gQ,eX,aj X b9⟩
        case measure=>simp[intOf];omega
       |true =>
        have HS:Vy _:=cv.out ao;have hz:=b4.out.symm.trans ao;clear cv Y6 b4 ao;generalize (C.VE e.to:Int)=lz at *;generalize fh (λ e=>C.VE e.to==0) (C.es n) k=F at *;go_wp2_with fail;go_quiet (fail);have b9:Bq wr (wr.drewN nq):=Vxj ae _;have Yf:=ak S b9;have B9:=aj X b9;have q0:Cq (wr.drewN nq) bb (oo+k*4) (J (e.to:Int)):=q0;have q1:Cq (wr.drewN nq) bb (oo+k*4+1) (J e.s):=q1;have q2:Cq (wr.drewN nq) bb (oo+k*4+2) (J e.d):=q2;have q3:Cq (wr.drewN nq) bb (oo+k*4+3) (J e.U6):=q3;have c1:Cq (wr.drewN nq) lb 1 (.map (Z eb)):=c1;have gE:=ep nq;clear S X b9 bp ep hf c0 hz;generalize wr.drewN nq=W2 at *;generalize (e.to:Int)=et at *;generalize e.s=es at *;generalize e.d=ed at *;generalize e.U6=em at *;go_wp2_with (at_builtin;refine Vxk _ rfl _ _ 140 rfl (G W1.heap) 203 db (.agg #[J 0,J 0,J 0,J 0]) 4 32 Tryz.Vxb eq VZ Wa Wc rfl dQ _ _ _ rfl (Yf.alloc _) (O (G W2.heap) 0) 1 1 [J et,J es,J ed,J em] rfl rfl (bO _ _ _ _ _ _) (by intro u hu;simp at hu;rcases hu with rfl|rfl|rfl|rfl<;>rfl) ?c3 ?c4 ?c5 ?_)
        case c3=>unfold maxLen;omega
        case c4=>have:=B9.size;omega
        case c5=>have:=B9.size;simp;omega
        intro bi W4 Wz Wh _;have Wn:=λ q hq=>(Yf.lt q hq).1;have ad:Bq W1 W4:=(B9.alloc B9.size _).grown Wh (by simp;have:=B9.size;omega) Wn;have hr:G' W4 (G W1.heap) 203 4 bi (K (F++[e])) (bB (F++[e])):=by
         rw[fP,eQ,hH.out]
         simpa using Wz
        clear Wz Wn Yf B9 q0 q1 q2 q3 c1 gE Wh;go_wp2;go_roundw
        case rel=>exact⟨k+1,U,gQ,by rw[HS.out];exact hr,ad⟩
        case measure=>simp[intOf];omega
     ·have ek:k=K (C.es n):=U;subst ek;have fn:Vy (fh (λ e=>C.VE e.to==0) (C.es n) (K (C.es n))=feF C n):=yd;rw[fn.out]at S;have XY:K (feF C n)<=256:=Tg (List.length_filter_le _ _) dp;have Yr:Vy (∀e∈feF C n,e∈C.es n/\e.to∈L):=λ e V=>⟨(TS.1 V).1,(HO.out.cor.ends (TS.1 V).1).2⟩;have fm:Vy (∃l,feF C n=l):=⟨_,rfl⟩;obtain⟨l,hl⟩:=fm.out;have a0:=qH hl;rw[hl]at S XY Yr;obtain⟨A3,XZ,rfl,Xq,_⟩:=eJ S;have b2:=qH RS;have aL:=qH Xq;clear hl fm fn S RS Xq WI bl hk X cy;go_wp2;clear bp c1 ac;obtain⟨WE,cd⟩:∃WE,WE=wr:=⟨_,rfl⟩;rw[<- cd]at b2 aL;go_loopw [11,12,13] (λ fv mv av wr=>∃(a:Nat),a<=K l/\av=J a/\G' wr (G WE.heap) 3 1 fv (K (mTo p n l a)) (aH ((mTo p n l a).map Prod.fst))/\G' wr (G WE.heap) 203 4 mv (K (mTo p n l a)) (bB ((mTo p n l a).map Prod.snd))/\Bq WE wr)
       (λ _ _ a _=>K l-(intOf a).toNat)
      case atStart=>exact⟨0,Te _,rfl,by rw[ri];exact To _ _ _ _,by rw[ri];exact To _ _ _ _,by rw[cd];exact ae⟩
      case round =>
       clear cd;obtain⟨a,ha,rfl,Zv,Z5,X⟩:=hrel;by_cases Y5:a<K l
       ·obtain⟨H,a4⟩:∃H,l[a]? = Z H:=⟨l[a],SU Y5⟩;have Yj:=aL.out.below X;obtain⟨b3,o3,gm,q0,q1,q2,q3⟩:=Yj a H a4;subst gm;have a1:(0:Int)<=(a:Int):=U;have a2:(a:Int)<(K l:Int):=U;have bw:=Yr.out H (Ti a4);have RS:=b2.out.below X;have dv:=Dr (n:=n) (o:=H.to) (capN:=capN) wr RS.lv HO.out RS.row ZU bw.2;have Xm:Vy (mTo p n l (a+1)=mTo p n l a++dL p n H (l.drop (a+1))):=vQ a4;have hP:=rk p n l a;have hU:a*K l<=256*256:=Uo U XY;obtain⟨e1,e2,e3,e4⟩:=HO.out.bd bw.1;have b7:Vy (l[a]? = Z H/\H.to∈L/\0<=H.s/\0<=H.d/\H.s<=512/\H.d<=512):=⟨a4,bw.2,e1,e2,e3,e4⟩;clear a4 bw e1 e2 e3 e4 RS Yj;go_wp2_with fail;refine dv.mono ?_;rintro r w5 ⟨cb,ib,B,rfl,LB,dy,VW⟩;have fz:=qH dy;have B5:=aj X VW;have aw:=ak Zv VW;have au:=ak Z5 VW;obtain⟨W3,dx⟩:∃W3,W3=G wr.heap:=⟨_,rfl⟩;rw[<- dx]at LB;clear dv dy X Zv Z5 q0 q1 q2 q3 VW dx;go_wp2;go_loopw [11,12,16] (λ fv mv bv wr=>∃(j:Nat),j<=K (l.drop (a+1))/\bv=J ((a:Int)+1+(j:Int))/\G' wr (G WE.heap) 3 1 fv (K (mTo p n l a++dL p n H ((l.drop (a+1)).take j))) (aH ((mTo p n l a++dL p n H ((l.drop (a+1)).take j)).map Prod.fst))/\G' wr (G WE.heap) 203 4 mv (K (mTo p n l a++dL p n H ((l.drop (a+1)).take j))) (bB ((mTo p n l a++dL p n H ((l.drop (a+1)).take j)).map Prod.snd))/\Lbs wr W3 cb ib B/\Bq WE wr)
         (λ _ _ b _=>K l-(intOf b).toNat)
        case atStart =>
         have e0:mTo p n l a++dL p n H ((l.drop (a+1)).take 0)=mTo p n l a:=(by rw[List.take_zero];exact List.append_nil _);refine⟨0,Te _,by simp,?_,?_,LB,B5⟩
         ·rw[e0];exact aw
         ·rw[e0];exact au
        case round =>
         clear LB B5 aw au;obtain⟨j,hj,rfl,Zv,Z5,LB,X⟩:=hrel;have bn:K (l.drop (a+1))=K l-(a+1):=List.length_drop;have c6:Vy _:=bn;by_cases YX:a+1+j<K l
         ·as_aux_lemma =>
           have cj:(l.drop (a+1))[j]? = l[a+1+j]? := List.getElem?_drop;obtain⟨N,a3⟩:∃N,l[a+1+j]? = Z N:=⟨l[a+1+j],SU YX⟩;rw[a3]at cj;have Yj:=aL.out.below X;obtain⟨ee,da,a7,_,p1,p2,_⟩:=Yj a H b7.out.1;cases a7;obtain⟨ee,da,a7,r0,r1,r2,_⟩:=Yj (a+1+j) N a3;cases a7;have ci:=Yr.out N (Ti a3);obtain⟨e1,e2,e3,e4⟩:=HO.out.bd ci.1;obtain⟨_,_,g1,g2,g3,g4⟩:=b7.out;have fE:okC H.s H.d:=(by unfold okC;omega);have fA:okC N.s N.d:=(by unfold okC;omega);have c9:okC (H.s+N.s) (H.d+N.d):=(by unfold okC;omega);have hN:=XE.out _ ci.2;have dd:=aE (a:=(N.to:Int)) U U;have j1:(0:Int)<=(a:Int)+1+(j:Int):=U;have j2:(a:Int)+1+(j:Int)<(K l:Int):=U;have j3:((a:Int)+1+(j:Int)).toNat=a+1+j:=U;have fs:Vy (l[a+1+j]? = Z N/\(l.drop (a+1))[j]? = Z N):=⟨a3,cj⟩;have cz:Vy (p H N=bE B (N.to:Int) (H.s+N.s) (H.d+N.d)):=by
            have h:=(HP.out H N).trans (fz.out.need (b:=N) b7.out.2.1);cases h1:p H N with
            |true=>exact(h.1 h1).symm
            |false =>
             cases h2:bE B (N.to:Int) (H.s+N.s) (H.d+N.d) with
             |false=>rfl
             |true=>rw[h.2 h2]at h1;cases h1
           have g7:Vy (∀{c s d},B c=Z (s,d)->okC s d):=λ h=>by
            have:=fz.out.rb.big h;unfold okC;omega
           clear a3 cj Yj ci e1 e2 e3 e4 g1 g2 g3 g4 bn;go_upto_region 23 with fail
           go_cut [17] from 110 to 120 (λ pv wd=>∃T2,pv=Pq T2/\G wr.heap<=T2/\bz wd T2 (H.s+N.s) (H.d+N.d)/\Bq wr wd)
           case first =>
            have b0:Bq wr wr.drew:=ae.drew;have bA:Bq wr (E wr.drew (VP #[J 0,J 0] 90)):=b0.alloc b0.size _;have sA:bz (E wr.drew (VP #[J 0,J 0] 90)) (G wr.heap) 0 0:=bz.new wr.drew 0 0;have CC:Vy (∀I,Bq wr I->Cq I b3 (o3+a*4+1) (J H.s)/\Cq I b3 (o3+a*4+2) (J H.d)/\Cq I b3 (o3+(a+1+j)*4+1) (J N.s)/\Cq I b3 (o3+(a+1+j)*4+2) (J N.d)):=λ I h=>by
             have k:∀{a:Addr}{v:Vr},D wr a=Z v->D I a=Z v:=λ {a v} q=>(h.cell (SZ wr a q)).trans q;exact⟨k p1,k p2,k r1,k r2⟩
            have XG:Vy (∀I,_):=λ I=>nI H.s H.d N.s N.d I fE fA;clear p1 p2 r0 r1 r2 Zv Z5 LB X;go_region_held3 (λ I=>D I (O b3 (o3+a*4+1))=Z (J H.s)/\Cq I b3 (o3+a*4+2) (J H.d)/\Cq I b3 (o3+(a+1+j)*4+1) (J N.s)/\Cq I b3 (o3+(a+1+j)*4+2) (J N.d)) (first|exact CC.out _ b0|exact CC.out _ bA|exact CC.out _ T|exact CC.out _ (T.alloc T.size _)|exact CC.out _ ((T.setCell (p:=O (G wr.heap) 0) aa _).setCell (p:=O (G wr.heap) 1) aa _))
             (first|(go_at_call 112;refine Q9 (XG.out _) λ w6 WR=>?_;first|(have T:=aj b0 WR)|(have T:=aj bA WR;have s6:=sA.below WR;have g0:=s6.c0;have g1:=s6.c1;have g2:=s6.z0;have g3:=s6.z1)))
            all_goals
             go_wp2_with fail;go_meet
             first
              |exact⟨_,rfl,T.size,bz.new w6 _ _,T.alloc T.size _⟩
              |exact⟨_,rfl,aa,s6.set _ _,(T.setCell (p:=O (G wr.heap) 0) aa _).setCell (p:=O (G wr.heap) 1) aa _⟩
           case rest =>
            obtain⟨T2,rfl,Zw,sT,VW⟩:=hcut;have a9:=LB.below VW;have aw:=ak Zv VW;have au:=ak Z5 VW;have B5:=aj X VW;have kc:∀{y:Addr}{z:Vr},D wr y=Z z->D wc y=Z z:=λ {y z} h=>(VW.cell (SZ wr y h)).trans h;have r0:=kc r0;have t126:=a9.is dd;have t125:=a9.co dd;have u0:=sT.c0;have u1:=sT.c1;have hE:Vy (∀g,M' u11=Z g->g≠T2):=λ g hg=>by have:=(Zv.lt g hg).2;omega
            have Yw:Vy _:=sT;clear kc p1 p2 r1 r2 LB Zv Z5 X VW sT;go_upto_region 25 with fail
            go_cut [137] from 126 to 137 (λ bv wd=>bv=.bool (bE B (N.to:Int) (H.s+N.s) (H.d+N.d))/\Bq wc wd)
            case first =>
             clear aw au a9 B5 Yw;cases a6:B (N.to:Int) with
             |none =>
              have gd:bE B (N.to:Int) (H.s+N.s) (H.d+N.d)=true:=(by unfold bE;rw[a6]);rw[a6]at t126
              replace t126:(Instr.lookup 250 (.map (Z ib)) (J (N.to:Int)) Vl).run Vyj wc=.ok (.bool Vl) wc:=t126
              clear t125;go_wp2_with fail;go_meet;exact⟨by rw[gd],ae⟩
             |some c =>
              obtain⟨s',d'⟩:=c;have c8:okC s' d':=g7.out a6;have ho:decide (j6 (H.s+N.s) (H.d+N.d) s' d'<0)=bE B (N.to:Int) (H.s+N.s) (H.d+N.d):=by
               unfold bE;rw[a6,ka _ _ _ _ c9 c8];exact decide_eq_decide.2 (pY _ _)
              rw[a6]at t126 t125
              replace t126:(Instr.lookup 250 (.map (Z ib)) (J (N.to:Int)) Vl).run Vyj wc=.ok (.bool Q) wc:=t126
              replace t125:(Instr.lookup 251 (.map (Z cb)) (J (N.to:Int)) Vl).run Vyj wc=.ok (.agg #[J s',J d']) wc:=t125
              have g8:=vD (H.s+N.s) (H.d+N.d) s' d' wc c9 c8;go_wp2_with (first|(go_at_call 113;refine Q9 g8 λ w8 X0=>?_));go_meet;exact⟨by rw[<- ho],X0⟩
            case rest =>
             obtain⟨rfl,X0⟩:=hcut;have a8:=a9.below X0;have Zx:=ak aw X0;have bM:=ak au X0;have B8:=aj B5 X0;have S8:=Yw.out.below X0;clear t126 t125 u0 u1 r0 a9 aw au B5 Yw X0;cases hq:bE B (N.to:Int) (H.s+N.s) (H.d+N.d) with
             |false =>
              have HS:Vy (dL p n H ((l.drop (a+1)).take (j+1))=dL p n H ((l.drop (a+1)).take j)):=F6 fs.out.2 (cz.out.trans hq);clear hq;go_wp2;go_roundw
              case rel=>exact⟨j+1,by have:=c6.out;omega,by push_cast;rw[TT],by rw[HS.out];exact Zx,by rw[HS.out];exact bM,a8,B8⟩
              case measure=>simp[intOf];omega
             |true =>
              have fr:Vy (mTo p n l a++dL p n H ((l.drop (a+1)).take (j+1))=(mTo p n l a++dL p n H ((l.drop (a+1)).take j))++[(H.to,⟨N.to,H.s+N.s,H.d+N.d,(n:Int)⟩)]):=by
               unfold Vy;rw[Cv fs.out.2 (cz.out.trans hq),List.append_assoc]
              have hS:K (mTo p n l a++dL p n H ((l.drop (a+1)).take j))<=100000:=by
               have h1:=vR p n H ((l.drop (a+1)).take j);rw[List.length_take]at h1;rw[List.length_append];have:=c6.out;omega
              obtain⟨ee,da,a7,p0,_⟩:=(aL.out.below B8) a H b7.out.1;cases a7;have hw:Vy (leV ⟨N.to,H.s+N.s,H.d+N.d,(n:Int)⟩=[J (N.to:Int),J (H.s+N.s),J (H.d+N.d),J (n:Int)]):=rfl;clear hq cz;generalize mTo p n l a++dL p n H ((l.drop (a+1)).take j)=F at *;go_wp2_with (at_builtin;refine Vxk _ rfl _ _ 60 rfl (G WE.heap) 3 i3 (J 0) 1 8 underlying60 gf gc gb ga rfl dQ _ _ _ rfl (Zx.alloc _) (O (G wc.heap) 0) 1 1 [J (H.to:Int)] rfl rfl ?c1 ?c2 ?c3 ?c4 ?c5 ?_)
              case c1 =>
               intro j u hj
               match j,hj with
               |0,hj =>
                simp at hj;subst hj;simp only[Addr.add];exact SR (w:=wc) #[J (H.to:Int)] 3 (G wc.heap) 0 rfl
              case c2=>intro u hu;simp at hu;subst hu;rfl
              case c3=>unfold maxLen;omega
              case c4=>have:=B8.size;omega
              case c5=>have:=B8.size;simp;omega
              intro bi W4 Wz Wh _;have Wn:=λ q hq=>(Zx.lt q hq).1;have ad:Bq WE W4:=(B8.alloc B8.size _).grown Wh (by simp;have:=B8.size;omega) Wn;have ec:Bq wc (E wc (VP #[J (H.to:Int)] 3)):=ae.alloc aa _;have ey:=oV bM Zx dQ;have ap:=(ak bM ec).kept Wh (by
               cases h:M' u12 with
               |none=>exact SQ rfl
               |some g=>exact SP (ey g h))
              have cs:=((ai.refl _ wc).alloc _).grown Wh (λ k hk _=>hk);have b1:=a8.X' cs (λ h=>bK Zx a8.cm _ h rfl) (λ h=>bK Zx a8.im _ h rfl);have S9:=S8.X' cs (λ h=>hE.out T2 h rfl);have cr:G' W4 (G WE.heap) 3 1 bi (K (F++[(H.to,(⟨N.to,H.s+N.s,H.d+N.d,(n:Int)⟩:LE))])) (aH ((F++[(H.to,(⟨N.to,H.s+N.s,H.d+N.d,(n:Int)⟩:LE))]).map Prod.fst)):=by simpa [aH]using Wz
              have u0:=S9.c0;have u1:=S9.c1;clear Wz Wh Wn ec cs ey Zx bM a8 S8 B8 p0;go_wp2_with (at_builtin;refine Vxk _ rfl _ _ 140 rfl (G WE.heap) 203 db (.agg #[J 0,J 0,J 0,J 0]) 4 32 Tryz.Vxb eq VZ Wa Wc rfl dQ _ _ _ rfl (ap.alloc _) (O (G W4.heap) 0) 1 1 [J (N.to:Int),J (H.s+N.s),J (H.d+N.d),J (n:Int)] rfl rfl (bO _ _ _ _ _ _) (by intro u hu;simp at hu;rcases hu with rfl|rfl|rfl|rfl<;>rfl) ?c3 ?c4 ?c5 ?_)
              case c3=>unfold maxLen;omega
              case c4=>have:=ad.size;omega
              case c5=>have:=ad.size;simp;omega
              intro c7 W5 eY Y7 _;have eZ:=λ q hq=>(ap.lt q hq).1;have hM:Bq WE W5:=(ad.alloc ad.size _).grown Y7 (by simp;have:=ad.size;omega) eZ;have fa:G' W5 (G WE.heap) 203 4 c7 (K (F.map Prod.snd++[(⟨N.to,H.s+N.s,H.d+N.d,(n:Int)⟩:LE)])) (bB (F.map Prod.snd++[(⟨N.to,H.s+N.s,H.d+N.d,(n:Int)⟩:LE)])):=by
               rw[fP,eQ,hw.out]
               simpa using eY
              clear eY eZ;have ex:=oV cr ap dQ;have dT:Bq W4 (E W4 (VP #[J (N.to:Int),J (H.s+N.s),J (H.d+N.d),J (n:Int)] 203)):=ae.alloc aa _;have hv:=(ak cr dT).kept Y7 (by
               cases h:M' bi with
               |none=>exact SQ rfl
               |some g=>exact SP (ex g h))
              have fb:=((ai.refl _ W4).alloc _).grown Y7 (λ k hk _=>hk);have gD:=b1.X' fb (λ h=>bK ap b1.cm _ h rfl) (λ h=>bK ap b1.im _ h rfl);have hs:G' W5 (G WE.heap) 203 4 c7 (K (F++[(H.to,(⟨N.to,H.s+N.s,H.d+N.d,(n:Int)⟩:LE))])) (bB ((F++[(H.to,(⟨N.to,H.s+N.s,H.d+N.d,(n:Int)⟩:LE))]).map Prod.snd)):=by
               rw[List.map_append]
               simpa using fa
              clear u0 u1 ex dT fb Y7 fa cr ap b1 S9 ad;go_wp2;go_roundw
              case rel=>exact⟨j+1,by have:=c6.out;omega,by push_cast;rw[TT],by rw[fr.out];exact hv,by rw[fr.out];exact hs,gD,hM⟩
              case measure=>simp[intOf];omega
         ·have ej:j=K (l.drop (a+1)):=(by rw[bn]at hj ⊢;omega);have e0:mTo p n l a++dL p n H ((l.drop (a+1)).take j)=mTo p n l (a+1):=(by rw[ej,Tl,Xm.out]);rw[e0]at Zv Z5;have WH:¬((a:Int)+1+(j:Int))<(K l:Int):=U;clear bn e0 ej;go_wp2;go_roundw
          case rel=>exact⟨a+1,U,gQ,Zv,Z5,X⟩
          case measure=>simp[intOf];omega
       ·as_aux_lemma =>
         have gs:a=K l:=U;subst gs;have HQ:Vy (mTo p n l (K l)=cG p n (feF C n)):=(by unfold Vy;rw[a0.out];exact rj p n l);have hQ:(mTo p n l (K l)).length<=65536:=Tg (rk p n l (K l)) (Uo XY XY);have HE:Vy (∀x∈mTo p n l (K l),x.1∈L/\x.2.to∈L/\x.2.U6=(n:Int)):=λ x hx=>by
          rw[rj]at hx;obtain⟨⟨a,gi,gh⟩,⟨b,ds,dq⟩,hm⟩:=pn hx;exact⟨by rw[gh];exact(Yr.out a gi).2,by rw[dq];exact(Yr.out b ds).2,hm⟩
         have RS:=b2.out.below X;have Xq:=aL.out.below X;generalize mTo p n l (K l)=Q9 at *;obtain⟨AF,hT,dk,Yk⟩:=jk (l:=Q9.map Prod.fst) (by rw[TA];exact Zv);obtain⟨AM,Zg,df,YD,_⟩:=eJ (l:=Q9.map Prod.snd) (by rw[TA];exact Z5);rw[TA]at dk df Yk;subst dk df;clear Zv Z5 X b2 aL ha Y5;by_cases dn:K l<Q9.length
         ·have g9:(K l:Int)<(Q9.length:Int):=U;have aN:Vy (Rnd t (L.take (i+1)) st (λ _=>Vl) C nr R):=by
           rw[Yq.out];have h1:=HR.out.snoc (n:=n) (st2:=C) (nr2:=nr) (g2:=Vl) (SP ⟨bZ.out,p,HP.out,SQ ⟨by rw[<- HQ.out,a0.out];exact dn,rfl,rfl,rfl⟩⟩);rw[Bool.or_false]at h1;exact h1
          clear HR Yq bZ HP HE HQ a0 Yr Xq Yk YD;go_wp2;go_roundw
          case rel=>exact⟨i+1,C,nr,f',R,U,gQ,rfl,RS,aN.out,HA.out⟩
          case measure=>simp[intOf];omega
         ·have g9:¬(K l:Int)<(Q9.length:Int):=U;have hy:Vy (∀e∈l,e.to∈L):=λ e V=>(Yr.out e V).2;have hF:Vy (gF L C.es):=λ a=>⟨HO.out.esy.ord a,λ e V=>(HO.out.cor.ends V).2⟩;clear Yr;go_wp2;go_loopw [19] (λ kv wr=>∃(k:Nat),k<=K l/\kv=J k/\RRS w wr lb vb eb (G w.heap) t L (Z (O ba oa)) C f' (λ x=>nr x || (l.take k).any (λ e=>e.to==x))/\dS wr A3 l/\bP wr AF Q9.length (λ i=>((Q9.map Prod.fst).getD i 0:Nat))/\dS wr AM (Q9.map Prod.snd))
           (λ k _=>K l-(intOf k).toNat)
          case atStart =>
           refine⟨0,Te _,rfl,?_,Xq,Yk,YD⟩;have e:(λ x=>nr x || (l.take 0).any (λ e=>e.to==x))=nr:=by
            funext x
            simp
           rw[e];exact RS
          case round =>
           clear RS Xq Yk YD;obtain⟨k,hk,rfl,RS,Xq,Yk,YD⟩:=hrel;by_cases ac:k<K l
           ·obtain⟨e,V⟩:∃e,l[k]? = Z e:=⟨l[k],SU ac⟩;obtain⟨b3,o3,rfl,q0,_⟩:=Xq k e V;have a5:=hy.out e (Ti V);have k1:(0:Int)<=(k:Int):=U;have k2:(k:Int)<(K l:Int):=U;obtain⟨w8,Ya,K8,an⟩:=RS.near a5;have hc:=λ o=>RS.nm.mp.cell o;have hb:=Xq.map K8 hc;have bI:=Yk.map K8 hc;have bx:=YD.map K8 hc;have hD:Vy ((λ x=>(nr x || (l.take k).any (λ e=>e.to==x)) || e.to==x)=λ x=>nr x || (l.take (k+1)).any (λ e=>e.to==x)):=by
             unfold Vy
             funext x
             rw[Ty,V,List.any_append,Bool.or_assoc];simp
            clear RS Xq Yk YD hc K8 V a5;go_wp2;go_roundw
            case rel=>exact⟨k+1,U,gQ,by rw[<- hD.out];exact an,hb,bI,bx⟩
            case measure=>simp[intOf];omega
           ·have ek:k=K l:=U;subst ek;rw[Tl]at RS;have bD:Bq wr wr.drew:=ae.drew;have ax:=RS.below bD;have eW:=Yk.below bD;have eT:=YD.below bD;have c0:=ax.lv.c0;have c2:=ax.lv.c2;obtain⟨w8,Ya,K8,an⟩:=ax.level cK.out ht;have hc:=λ o=>ax.lv.lv.mp.cell o;have bI:=eW.map K8 hc;have bx:=eT.map K8 hc;have cc:lb≠vb:=ax.lv.nes.1;have d0:=K8.cellOf c0 cc;have d2:=K8.cellOf c2 cc;clear RS Xq Yk YD hc K8 ax eW eT bD cc hk ac;go_upto_region 34 with fail
            go_region;clear Ya c0 c2 d0 d2;go_wp2;go_loopw [20] (λ kv wr=>∃(k:Nat) (f2:Int->Option Vr),k<=Q9.length/\kv=J k/\RRS w wr lb vb eb (G w.heap) t L (Z (O ba oa)) ⟨λ x=>if x=n then t else C.VE x,bW C.es (Q9.take k)⟩ f2 (λ x=>nr x || l.any (λ e=>e.to==x))/\bP wr AF Q9.length (λ i=>((Q9.map Prod.fst).getD i 0:Nat))/\dS wr AM (Q9.map Prod.snd)/\Vy (gF L (bW C.es (Q9.take k))))
             (λ k _=>Q9.length-(intOf k).toNat)
            case atStart=>exact⟨0,f',Te _,rfl,an,bI,bx,hF⟩
            case round =>
             clear an bI bx;obtain⟨k,f2,hk,rfl,RS,Yk,YD,be⟩:=hrel;by_cases ac:k<Q9.length
             ·as_aux_lemma =>
               obtain⟨x,hx⟩:∃x,Q9[k]? = Z x:=⟨Q9[k],SU ac⟩;obtain⟨bs,bq,bk⟩:=HE.out x (Ti hx);have YK:(Q9.map Prod.fst).getD k 0=x.1:=(by rw[Tt,Tz,hx];rfl);have dl:(Q9.map Prod.snd)[k]? = Z x.2:=(by rw[Tz,hx];rfl);obtain⟨bf,of,gl,_,dz⟩:=Yk k ac;subst gl;have g0:Cq wr bf (of+k) (J (x.1:Int)):=(by rw[<- YK];exact dz);obtain⟨bm,om,gk,m0,m1,m2,m3⟩:=YD k x.2 dl;subst gk;rw[bk]at m3;have k1:(0:Int)<=(k:Int):=U;have k2:(k:Int)<(Q9.length:Int):=U;have Xm:Vy (bW C.es (Q9.take (k+1))=lay2 (bW C.es (Q9.take k)) x):=se hx;have dc:x.2=⟨x.2.to,x.2.s,x.2.d,(n:Int)⟩:=(by rw[<- bk]);have fd:Vy _:=dc;have fc:=qH bk;have ds:=XE.out _ bs;have dq:=XE.out _ bq;have Xr:=aE (a:=(x.1:Int)) U U;have Yt:=aE (a:=(x.2.to:Int)) U U;have b5:Bq wr (E wr (VP #[J (x.2.to:Int),J x.2.s,J x.2.d,J (n:Int)] 203)):=ae.alloc aa _;have y0:D (E wr (VP #[J (x.2.to:Int),J x.2.s,J x.2.d,J (n:Int)] 203)) (O (G wr.heap) 0)=Z (J (x.2.to:Int)):=SR _ _ _ 0 rfl;have y1:D (E wr (VP #[J (x.2.to:Int),J x.2.s,J x.2.d,J (n:Int)] 203)) (O (G wr.heap) 1)=Z (J x.2.s):=SR _ _ _ 1 rfl;have y2:D (E wr (VP #[J (x.2.to:Int),J x.2.s,J x.2.d,J (n:Int)] 203)) (O (G wr.heap) 2)=Z (J x.2.d):=SR _ _ _ 2 rfl;have y3:D (E wr (VP #[J (x.2.to:Int),J x.2.s,J x.2.d,J (n:Int)] 203)) (O (G wr.heap) 3)=Z (J (n:Int)):=SR _ _ _ 3 rfl;have e6:=RS.below b5;have eS:=Yk.below b5;have eC:=YD.below b5;have g5:=al b5 g0;clear hx YK dl dc bk dz RS Yk YD g0 b5;go_upto_region 39 with fail
               clear m0 m1 m2 m3;generalize E wr (VP #[.int .i64 (x.2.to:Int),.int .i64 x.2.s,.int .i64 x.2.d,.int .i64 (n:Int)] 203)=w5 at *;generalize G wr.heap=Y at *;have er:Vy (∀a,K (bW C.es (Q9.take k) a)<=256):=λ a=>be.out.len XE.out a;generalize bW C.es (Q9.take k)=W at *;have ay:Vy _:=e6;have fj:=qH eS;have fi:=qH eC;clear e6 eS eC;go_cut [] from 189 to 207 (λ wd=>∃f3,RRS w wd lb vb eb (G w.heap) t L (Z (O ba oa)) ⟨λ x=>if x=n then t else C.VE x,fU W x.1 (cX x.2 (W x.1))⟩ f3 (λ x=>nr x || l.any (λ e=>e.to==x))/\bP wd (Z (O bf of)) Q9.length (λ i=>((Q9.map Prod.fst).getD i 0:Nat))/\dS wd (Z (O bm om)) (Q9.map Prod.snd)/\Cq wd bf (of+k) (J (x.1:Int))/\Cq wd Y 0 (J (x.2.to:Int))/\Cq wd Y 1 (J x.2.s)/\Cq wd Y 2 (J x.2.d))
               case first =>
                obtain⟨A1,am,YK,Xh⟩:=ay.out.lv.yes x.1 bs;have Xh:dS w5 A1 (W x.1):=Xh;have YK:f2 (x.1:Int)=Z (.slice A1 (K (W x.1)) am):=YK;have b0:Bq w5 w5.drew:=ae.drew;have bp:(Instr.lookup 137 (.map (Z eb)) (J (x.1:Int)) Vl).run Vyj w5.drew=.ok (.slice A1 (K (W x.1)) am) w5.drew:=(ay.out.lv.below b0).em.mp.Ui aV Tryz.Vxa (mm _) Xr YK Vl;have CC:Vy (∀I,Bq w5 I->Cq I lb 1 (.map (Z eb))/\Cq I bf (of+k) (J (x.1:Int))/\Cq I Y 0 (J (x.2.to:Int))/\Cq I Y 1 (J x.2.s)/\Cq I Y 2 (J x.2.d)/\Cq I Y 3 (J (n:Int))):=λ I h=>by
                 have kk:∀{a:Addr}{v:Vr},D w5 a=Z v->D I a=Z v:=λ {a v} q=>(h.cell (SZ w5 a q)).trans q;exact⟨kk ay.out.lv.c1,kk g5,kk y0,kk y1,kk y2,kk y3⟩
                have cn:Vy (∀I,Bq w5 I->_):=λ I h=>AD (cap:=am) (x:=⟨x.2.to,x.2.s,x.2.d,(n:Int)⟩) I (Xh.below h) (be.out x.1).1 (er.out x.1);clear g5 y0 y1 y2 y3 Xh YK;go_region_held3 (λ I=>D I (O lb 1)=Z (.map (Z eb))/\Cq I bf (of+k) (J (x.1:Int))/\Cq I Y 0 (J (x.2.to:Int))/\Cq I Y 1 (J x.2.s)/\Cq I Y 2 (J x.2.d)/\Cq I Y 3 (J (n:Int))) (first|exact CC.out _ b0|exact CC.out _ T|exact C7)
                 (first|(go_at_call 162;refine(cn.out _ b0).mono ?_;rintro r w6 ⟨v6,rfl,Wu,WR⟩;obtain⟨A6,cl,rfl,YS,_⟩:=eJ Wu;have T:=aj b0 WR;obtain⟨w7,hh,K7,cp⟩:=(ay.out.below T).Vxh (a:=x.1) (cap':=cl) bs YS;have C6:=CC.out _ T;have ag:=λ o=>(ay.out.below T).lv.em.mp.cell o;have C7:=Ra K7 ag C6))
                all_goals
                 have O7:=(fj.out.below T).map K7 ag;have M7:=(fi.out.below T).map K7 ag;go_wp2_with fail;go_meet;refine⟨_,by rw[fd.out];exact cp,O7,M7,C7.2.1,C7.2.2.1,C7.2.2.2.1,C7.2.2.2.2.1⟩
               case rest =>
                obtain⟨f3,e5,eB,eA,g6,z0,z1,z2⟩:=hcut;have cS:Vy (gF L (fU W x.1 (cX x.2 (W x.1)))):=be.out.put bq;have ZO:Vy (gF L (fU (fU W x.1 (cX x.2 (W x.1))) x.2.to (cX ⟨x.1,x.2.s,x.2.d,x.2.U6⟩ (fU W x.1 (cX x.2 (W x.1)) x.2.to)))):=cS.out.put bs;have cN:Vy (lay2 W x=fU (fU W x.1 (cX x.2 (W x.1))) x.2.to (cX ⟨x.1,x.2.s,x.2.d,x.2.U6⟩ (fU W x.1 (cX x.2 (W x.1)) x.2.to))):=rfl;have gx:Vy (∀a,K (fU W x.1 (cX x.2 (W x.1)) a)<=256):=λ a=>cS.out.len XE.out a;generalize fU W x.1 (cX x.2 (W x.1))=E3 at *;have bc:=qH e5;have gw:=qH eB;have gt:=qH eA;clear e5 eB eA ay fj fi g5 y0 y1 y2 y3 be er;go_upto_region 40 with fail
                have e8:fU E3 x.2.to (cX ⟨x.1,x.2.s,x.2.d,(n:Int)⟩ (E3 x.2.to))=bW C.es (Q9.take (k+1)):=(by rw[Xm.out,cN.out,fc.out]);have hI:Vy _:=e8;have hG:Vy (gF L (bW C.es (Q9.take (k+1)))):=by
                 rw[Xm.out,cN.out];exact ZO.out
                clear e8 ZO cN fc Xm fd;obtain⟨A1,am,YK,Xh⟩:=bc.out.lv.yes x.2.to bq;have Xh:dS wc A1 (E3 x.2.to):=Xh;have YK:f3 (x.2.to:Int)=Z (.slice A1 (K (E3 x.2.to)) am):=YK;have b0:Bq wc wc.drew:=ae.drew;have bp:(Instr.lookup 137 (.map (Z eb)) (J (x.2.to:Int)) Vl).run Vyj wc.drew=.ok (.slice A1 (K (E3 x.2.to)) am) wc.drew:=(bc.out.lv.below b0).em.mp.Ui aV Tryz.Vxa (mm _) Yt YK Vl;have CC:Vy (∀I,Bq wc I->Cq I lb 1 (.map (Z eb))/\Cq I bf (of+k) (J (x.1:Int))/\Cq I Y 0 (J (x.2.to:Int))/\Cq I Y 1 (J x.2.s)/\Cq I Y 2 (J x.2.d)/\Cq I Y 0 (J (x.2.to:Int))):=λ I h=>by
                 have kk:∀{a:Addr}{v:Vr},D wc a=Z v->D I a=Z v:=λ {a v} q=>(h.cell (SZ wc a q)).trans q;exact⟨kk bc.out.lv.c1,kk g6,kk z0,kk z1,kk z2,kk z0⟩
                have cn:Vy (∀I,Bq wc I->_):=λ I h=>AD (cap:=am) (x:=⟨x.1,x.2.s,x.2.d,(n:Int)⟩) I (Xh.below h) (cS.out x.2.to).1 (gx.out x.2.to);clear g6 z0 z1 z2 Xh YK;go_region_held3 (λ I=>D I (O lb 1)=Z (.map (Z eb))/\Cq I bf (of+k) (J (x.1:Int))/\Cq I Y 0 (J (x.2.to:Int))/\Cq I Y 1 (J x.2.s)/\Cq I Y 2 (J x.2.d)/\Cq I Y 0 (J (x.2.to:Int))) (first|exact CC.out _ b0|exact CC.out _ T|exact C7)
                 (first|(go_at_call 162;refine(cn.out _ b0).mono ?_;rintro r w6 ⟨v6,rfl,Wu,WR⟩;obtain⟨A6,cl,rfl,YS,_⟩:=eJ Wu;have T:=aj b0 WR;obtain⟨w7,hh,K7,cp⟩:=(bc.out.below T).Vxh (a:=x.2.to) (cap':=cl) bq YS;have C6:=CC.out _ T;have ag:=λ o=>(bc.out.below T).lv.em.mp.cell o;have C7:=Ra K7 ag C6))
                all_goals
                 have O7:=(gw.out.below T).map K7 ag;have M7:=(gt.out.below T).map K7 ag;have an:=cp;rw[hI.out]at an;go_wp2;go_roundw
                 case rel=>exact⟨k+1,_,U,gQ,an,O7,M7,hG.out⟩
                 case measure=>simp[intOf];omega
             ·have ek:k=Q9.length:=U;subst ek;rw[Tl]at RS;have cx:Vy (eg t n C nr ⟨λ x=>if x=n then t else C.VE x,bW C.es Q9⟩ (λ x=>nr x || l.any (λ e=>e.to==x)) Q):=by
               refine SP ⟨bZ.out,p,HP.out,SP ⟨by rw[<- HQ.out,a0.out];exact dn,by rw[<- HQ.out],by rw[a0.out],rfl⟩⟩
              have aN:Vy (Rnd t (L.take (i+1)) st (λ _=>Vl) ⟨λ x=>if x=n then t else C.VE x,bW C.es Q9⟩ (λ x=>nr x || l.any (λ e=>e.to==x)) Q):=by
               rw[Yq.out];have h1:=HR.out.snoc cx.out;rw[Bool.or_true]at h1;exact h1
              have hL:=qH (HA.out.turn gj cK.out cx.out);clear cx HR HA Yq bZ HP HE HQ a0 Yk YD be;go_wp2;go_roundw
              case rel=>exact⟨i+1,_,_,f2,Q,U,gQ,rfl,RS,aN.out,hL.out⟩
              case measure=>simp[intOf];omega
  ·have ei:i=K L:=U;subst ei;have hC:Vy (Rnd t L st (λ _=>Vl) C nr R):=by
    have h:=HR.out;rw[Tl]at h;exact h
   clear HR HA;go_wp2;go_ret;exact⟨C,nr,R,f',rfl,hC.out,RS.lv,RS.row,RS.kp⟩
end
end Go.Proofs.YtikdmenjibkgiaaGreatDoor
