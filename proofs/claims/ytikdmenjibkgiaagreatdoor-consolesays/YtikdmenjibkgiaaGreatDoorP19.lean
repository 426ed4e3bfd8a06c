/- Texts laid together. -/
import Derived.Test.YtikdmenjibkgiaaGreatDoorP18
import Derived.StringKeys
import Derived.Orders
import Derived.Great.Frames
namespace Go.Proofs.YtikdmenjibkgiaaGreatDoor
open Go.Proofs.Tryz renaming underlying9->Vyh,underlying22->Vyi,prog->Vyj
open _root_.Or renaming inl->SQ,inr->SP
open _root_.Nat renaming le_trans->Tg,zero_add->Tm,zero_le->Te,mul_comm->U8,succ_mul->UX,mul_le_mul->Uo,lt_of_lt_of_le->Tc
open Go.World renaming block_lt_of_cell?->SZ,cell?_alloc_new->Tb,ownsRow_nil->To,cell?->U2,cell?_setCell_same->Tf,frozen?_setCell->TL,cell?_setCell_other->SY,frozen?_alloc_new->Um,cell?->D,alloc->E,setCell->C',ownsRow->G'
open _root_.List renaming mem_cons->TD,not_mem_nil->Uf,length_map->TA,getElem?_eq_getElem->SU,getElem?_map->Tz,getElem?_eq_some_iff->Th,take_succ_eq_append_getElem->Tx,take_of_length_le->TM,length_eq_zero_iff->TF,map_cons->UK,length_cons->Tk,length_append->Td,length_nil->Ut,getD_eq_getElem?_getD->Tt,take_length->Tl,map_append->UE,mem_filter->TS,mem_range->Up,count_le_length->Vx,range->Ud,all_eq_true->Uu,length_take->Ts,mem_of_getElem?->Ti,mem_append->Tn,length->K
open _root_.Option renaming map_eq_some_iff->TK,map_some->Vd
open _root_.Int renaming le_refl->TN,toNat_natCast->Ta
open _root_.Array renaming getElem?_eq_some_iff->Tq,getD_eq_getD_getElem?->Ub,getElem?_eq_getElem->UF,size_setIfInBounds->Uc,size->G
open Go.Value renaming slice->TQ,string->UJ
open Go.Value renaming int->VN
open Go.IntKind renaming i64->VO
open Go.Proofs.Tryz
open _root_.Option renaming some->Z,none->UP
open _root_.Bool renaming true->Q,false->Vl
open Go renaming World->M,Value->Vr,below_drewN->Vxj,wpList_append_own->Vxk,cell_one_new->Vye,maxLen->Vyf
open Go.RowKit renaming Below->Vw,Hid->Vy
open Go.Ending renaming returned->VJ
open Go.Obj renaming cells->VP
variable {w I w1:M}{d base lo hi sb cap k i L qb gf b2 f mb e j L':Nat}{a n err:Int}{v:Vr}{ns:List Int}{cs:List Vr}
set_option maxHeartbeats 8000000
set_option maxRecDepth 1000000
open Go.RowKit
section
open Go.RowKit Go.Lib
theorem qF {A:Oa}{c d:Int}(h:de w A [c,d]):∃b o,A=Z (O b o)/\Cq w b o (J c)/\Cq w b (o+1) (J d):=by
 obtain⟨b,o,e,_,g⟩:=h 0 c rfl;obtain⟨j,i,a,_,f⟩:=h 1 d rfl;rw[e]at a;cases a;exact⟨b,o,e,g,f⟩
section
variable {lo hi sb cap : Nat} {s : Ses} {A : Option Addr}
theorem Hw {c d:Int}(w:M)(E9:Env w)(S:Sv w lo hi sb s.W s.H s.V s.Y s.N')(h:de w A [c,d]) :
  Zq 27 #[Pq sb,.slice A 2 cap] w λ e I=>Bq w I/\∃t,kF 4 [c,d] s t (Z s)/\oY e t:=by
 obtain⟨b,o,rfl,l,j⟩:=qF h;have p:Bq w w.drew:=ae.drew;have x:Zq 53 #[Pq sb,J c,J d] w.drew λ e I=>Bq w I/\∃(n:Nat) (i:Vr),e=VJ (.tuple #[J (n:Int),i])/\n<=1000/\((i=.iface 42 (J 1)/\kF 4 [c,d] s (bU 1) (Z s))\/(i=.nilIface/\kF 4 [c,d] s (decDigits n) (Z s))) :=
  (Hv (c:=c) (d:=d) w.drew (S.below p)).mono λ e I ⟨F,C⟩=>⟨p.trans F,by
   rcases C with⟨f,rfl⟩|⟨f,k,rfl,z,rfl⟩
   ·refine⟨0,_,rfl,U,SQ ⟨rfl,SQ ⟨rfl,rfl,c,d,rfl,SQ ⟨?_,rfl⟩⟩⟩⟩;rcases f with f|f
    ·exact SQ f
    ·exact SP f.2
   ·refine⟨_,_,rfl,?_,SP ⟨rfl,SQ ⟨rfl,rfl,c,k,rfl,SP ⟨f,k,rfl,z,rfl⟩⟩⟩⟩;exact Tg (yM _ _ _ _ _ _) dQ⟩
 have q:Vy (∀I,Bq w I->Cq I b o (J c)/\Cq I b (o+1) (J d)):=λ I h=>⟨(h.cell (SZ w _ l)).trans l,(h.cell (SZ w _ j)).trans j⟩;have N:Vy (∀I,Bq w I->Env I):=λ I B=>E9.grown B;clear S h E9 l j;go_enter func27,ntmps27;go_upto_region 1 with fail
 go_region_held3 (λ I=>D I (O b o)=Z (J c)/\Cq I b (o+1) (J d)) (first|with_reducible exact q.out _ p|with_reducible exact q.out _ m)
  (first|(go_at_call 53;refine x.mono ?_;rintro r y ⟨m,n,i,rfl,R,v⟩))
 have L:=bX v;have u:=jw (n:Int) U U y (N.out _ m);rw[eO]at u;clear v x q;go_wp2_with fail;refine Q9 u λ P hb3=>?_;go_wp2;go_ret2;refine⟨aj m hb3,?_⟩;rcases L.out with⟨rfl,h⟩|⟨rfl,h⟩
 ·exact⟨_,h,SP ⟨decDigits n,1,aa,dQ,rfl,rfl⟩⟩
 ·exact⟨_,h,SQ rfl⟩
theorem Ll {t:Int}(w:M)(E9:Env w)(dg:ch w)(S:Sv w lo hi sb s.W s.H s.V s.Y s.N')(h:de w A [a,t]) :
  Zq 28 #[Pq sb,.slice A 2 cap] w λ e I=>Bq w I/\∃C,kF 5 [a,t] s C (Z s)/\oY e C:=by
 obtain⟨b,o,rfl,q,p⟩:=qF h;obtain⟨w1,l,N,L⟩:=S.side;have X:=(bG w1 l N L).2;have m:Bq w w.drew:=ae.drew;have z:=KO a t w.drew (S.below m) (dg.below m);have Y:Vy (∀(I:M) {f:Ln}{g k j:Int}{n:Oa}(d:Nat),Bq w I->Rt s.W s.H s.Y a t f g k j->bP I n (K f) (λ i=>((f.getD i 0:Nat):Int))->Zq 54 #[.agg #[.slice n (K f) d,J g,J k,J j]] I _):=λ I {f g k j n} d hb R ho=>FC I (E9.grown hb) w1 X R ho;have B:Vy (∀I,Bq w I->Cq I b o (J a)/\Cq I b (o+1) (J t)):=λ I h=>⟨(h.cell (SZ w _ q)).trans q,(h.cell (SZ w _ p)).trans p⟩;clear S h E9 q p dg w1 l N L X;go_enter func28,ntmps28;go_upto_region 1 with fail
 go_region_held3 (λ I=>D I (O b o)=Z (J a)/\Cq I b (o+1) (J t)) (first|with_reducible exact B.out _ m|with_reducible exact B.out _ y|with_reducible exact B.out _ T)
  (first
   |(go_at_call 55;refine z.mono ?_;rintro r l ⟨n,d,f,g,k,j,rfl,_,F,_,x,v⟩;have y:=aj m v;have u:=Y.out l d y x F;have HR:Vy (Rt s.W s.H s.Y a t f g k j):=x;clear x F Y)
   |(go_at_call 54;refine Q9 u λ w3 hb3=>?_;have T:=aj y hb3))
 go_wp2;go_ret2;exact⟨T,_,SP (SQ ⟨rfl,rfl,a,t,f,g,k,j,rfl,HR.out,rfl⟩),SQ rfl⟩
theorem AW (w:M)(g f e d c b a:Nat):de (E w (VP #[J (g:Int),J (f:Int),J (e:Int),J (d:Int),J (c:Int),J (b:Int),J (a:Int)] 3)) (Z (O (G w.heap) 0)) ([g,f,e,d,c,b,a].map (λ n:Nat=>(n:Int))):=λ i v hi=>by
 refine⟨G w.heap,0,rfl,by simp,?_⟩;rw[Tm,Tb]
 match i,hi with
 |0,hi=>cases hi;rfl
 |1,hi=>cases hi;rfl
 |2,hi=>cases hi;rfl
 |3,hi=>cases hi;rfl
 |4,hi=>cases hi;rfl
 |5,hi=>cases hi;rfl
 |6,hi=>cases hi;rfl
theorem DC {n:Nat}(w:M)(E9:Env w)(S:Sv w lo hi sb s.W s.H s.V s.Y s.N')(v0:0<=s.V)(v1:s.V<=900000) :
  Zq 30 #[Pq sb,.slice A n cap] w λ e I=>Bq w I/\∃t,kF 7 [] s t (Z s)/\oY e t:=by
 obtain⟨w1,j,v,u⟩:=S.side;obtain⟨L,F⟩:=S.mst;have WS:=(bG w1 j v u);have b1:=uN s.Y ((s.W:Int)*s.H).toNat;have b2:=fx s.W s.H s.Y ((s.W:Int)*s.H).toNat;have x:=uO (Y:=s.Y) w1 j v u (crs s.W s.H s.Y ((s.W:Int)*s.H).toNat);have b4:=S.addN_le;have X:=S.top_le;have y:=Hp w S;obtain⟨h,g,f,d,c,b,a,B,k,p⟩:∃h g f d c b a:Nat,stN s=[h,g,f,d,c,b,a]/\stV s.W s.H s.V s.Y s.N'=#[J (h:Int),J (g:Int),J (f:Int),J (d:Int),J (c:Int),J (b:Int),J (a:Int)]/\∀n∈[h,g,f,d,c,b,a],n<=1000000:=by
  refine⟨_,_,_,_,_,_,_,rfl,?_,?_⟩
  ·unfold stV;have T:(s.W:Int)*s.H=((((s.W:Int)*s.H).toNat:Nat):Int):=U;have R:((mr s.W s.H s.Y s.N':Nat)/2:Int)=((mr s.W s.H s.Y s.N'/2:Nat):Int):=U;have P:s.V=((s.V.toNat:Nat):Int):=U;rw[<- R,<- P,<- T]
  ·intro n m;simp only[TD,Uf,or_false]at m;rcases m with rfl|rfl|rfl|rfl|rfl|rfl|rfl<;>omega
 rw[k]at y;have HL:=qH B;have C:Vy (∀I:M,Env I->Zq 59 #[.slice (Z (O (G I.heap) 0)) 7 7] (E I (VP #[J (h:Int),J (g:Int),J (f:Int),J (d:Int),J (c:Int),J (b:Int),J (a:Int)] 3)) _):=λ I E'=>rP (cap:=7) (l:=[h,g,f,d,c,b,a]) _ (E'.grown (ae.alloc aa _)) (AW I h g f d c b a) sQ (λ n m=>by have:=p n m;omega);have HE:Vy (∀I,Bq w I->Env I):=λ I p=>E9.grown p;clear S E9 w1 j v u L F WS b1 b2 x b4 X B k p v0 v1;go_enter func30,ntmps30;go_wp2_with fail;refine Q9 y λ w1 r=>?_;have b2:Bq w1 (E w1 (VP #[J (h:Int),J (g:Int),J (f:Int),J (d:Int),J (c:Int),J (b:Int),J (a:Int)] 97)):=ae.alloc aa _;have z:=aj r b2;have q:∀o,D (E w1 (VP #[J (h:Int),J (g:Int),J (f:Int),J (d:Int),J (c:Int),J (b:Int),J (a:Int)] 97)) (O (G w1.heap) o)=#[J (h:Int),J (g:Int),J (f:Int),J (d:Int),J (c:Int),J (b:Int),J (a:Int)][o]? := λ o=>by rw[Tb]
 have q0:=q 0;have q1:=q 1;have q2:=q 2;have q3:=q 3;have q4:=q 4;have q5:=q 5;have q6:=q 6;have N:=C.out _ (HE.out _ z);clear y q C;go_upto_region 2 with fail
 generalize E w1 (VP #[VN VO (h:Int),VN VO (g:Int),VN VO (f:Int),VN VO (d:Int),VN VO (c:Int),VN VO (b:Int),VN VO (a:Int)] 97)=j at *;go_wp2_with fail;refine Q9 N λ w3 hb3=>?_;have x:Bq j (E j (VP #[J (h:Int),J (g:Int),J (f:Int),J (d:Int),J (c:Int),J (b:Int),J (a:Int)] 3)):=ae.alloc aa _;have B3:=z.trans ((aj x hb3).mono z.size);go_wp2;go_ret2;exact⟨B3,_,SP (SP (SP (SQ ⟨rfl,rfl,rfl,rfl⟩))),SQ (by rw[HL.out];rfl)⟩
theorem Hy {n:Nat}(w:M)(E9:Env w)(i:Mx w)(S:Sv w lo hi sb s.W s.H s.V s.Y s.N') :
  Zq 31 #[Pq sb,.slice A n cap] w λ e I=>Bq w I/\∃t,kF 8 [] s t (Z s)/\oY e t:=by
 obtain⟨w1,h,p,o⟩:=S.side;have j:=E9.z;have l:=wO s.Y s.W s.H U U U U;have c:=KV w E9 j S;have d:=λ I (m:Bq w I)=>Lc (a:=10) (b:=47) dQ (eu s.Y s.W s.H) I U (i.below m U);have q:Vy (kF 8 [] s (swp 10 47 (eu s.Y s.W s.H)) (Z s)):=SP (SP (SP (SP (SQ ⟨rfl,rfl,rfl,rfl⟩))));clear S E9 w1 h p o l i;generalize swp 10 47 (eu s.Y s.W s.H)=r at *;go_enter func31,ntmps31;go_wp2_with fail;refine Q9 c λ w1 f=>?_;have k:=d w1 f;clear d c;go_wp2_with fail;refine Q9 k λ h g=>?_;go_wp2;go_ret2;exact⟨aj f g,_,q.out,SQ rfl⟩
end
end
section
open Go.RowKit Go.Lib
theorem Lm:(prog.info? 84).map (λ i=>(i.zero,i.size,i.bytes))=Z (Z (.agg #[J 0,.bool Vl]),2,16):=kQ
theorem FD:prog.underlying 82=Z (.slice 84):=kQ
theorem AX {bv:Bool}(h:G' w base 84 2 v (K ns) (jK (ns.map λ c=>(c,bv)))):∃A cap,v=.slice A (K ns) cap/\sJ w A (K ns) (nsF ns) (λ _=>bv)/\∀b o,A=Z (O b o)->base<=b:=by
 have f:K (ns.map λ c=>(c,bv))=K ns:=TA ..;rw[<- f]at h;obtain⟨A,cap,j,g,m⟩:=KM h;rw[f]at j g;refine⟨A,cap,j,λ i hi=>?_,m⟩;obtain⟨b,o,l,k,d,a⟩:=g i hi;have e:(ns.map λ c=>(c,bv)).getD i (0,Vl)=(nsF ns i,bv):=by grind [nsF,SU]
 have p:csL (ns.map λ c=>(c,bv)) i=nsF ns i:=by unfold csL;rw[e]
 have n:bsL (ns.map λ c=>(c,bv)) i=bv:=by unfold bsL;rw[e]
 rw[p]at d;rw[n]at a;exact⟨b,o,l,k,d,a⟩
theorem Hz {cap b4:Nat}{s:Ses}{A:Oa}{bv:Bool}(w:M)(E9:Env w)(S:Sv w lo hi sb s.W s.H s.V s.Y s.N')(hh:hi<=G w.heap)(h6:10<=lo)(v0:0<=s.V)(v1:s.V<=900000)(h:de w A ns)(Ww:Cq w b4 0 (.bool bv))(hk:(k=2/\bv=Q)\/(k=3/\bv=Vl))(hl:K ns<=2000) :
  Zq 50 #[Pq sb,.slice A (K ns) cap,Pq b4] w λ e I=>∃t x',kF k ns s t (Z x')/\oY e t/\Sv I lo hi sb x'.W x'.H x'.V x'.Y x'.N'/\s.V<=x'.V/\x'.V<=s.V+60/\ai (λ b=>lo<=b/\b<hi) w I:=by
 obtain⟨i0,X7,hz⟩:=TK.1 Lm;simp only[Prod.mk.injEq]at hz;obtain⟨VZ,Wa,Wc⟩:=hz;have HX:=qH h;have HE:Vy (∀I,Bq w I->Env I):=λ I hb=>E9.grown hb;have HS:=qH S;have HK:Vy (edE s.W s.H (nsF ns) (K ns)≠0->kF k ns s (bU (edE s.W s.H (nsF ns) (K ns)).toNat) (Z s)):=λ C=>SP (SP (SP (SP (SP ⟨U,SQ ⟨C,rfl,rfl⟩⟩))));have p:(λ _:Nat=>k==2)=(λ _=>bv):=by
  funext _
  rcases hk with⟨rfl,rfl⟩|⟨rfl,rfl⟩<;>rfl
 have P:Vy (edE s.W s.H (nsF ns) (K ns)=0->kF k ns s (decDigits (edC s.Y (nsF ns) (λ _=>bv) (K ns))) (Z { s with V:=s.V+(edC s.Y (nsF ns) (λ _=>bv) (K ns):Nat),Y:=edF s.Y (nsF ns) (λ _=>bv) (K ns) })):=λ C=>by
  refine SP (SP (SP (SP (SP ⟨U,SP ⟨C,?_⟩⟩))));unfold edK edG;rw[Q5 C,Q5 C,p];exact⟨rfl,rfl⟩
 clear h E9 S hk p;go_enter func50,ntmps50;go_wp2;go_loopw [7,14] (λ v iv wr=>∃(i:Nat),i<=K ns/\iv=J i/\G' wr (G w.heap) 84 2 v i (jK ((ns.map λ c=>(c,bv)).take i))/\Bq w wr)
  (λ _ i _=>K ns-(intOf i).toNat)
 case atStart=>exact⟨0,Te _,rfl,To _ _ _ _,ae⟩
 case round =>
  obtain⟨i,XC,rfl,a,d⟩:=hrel;have ab:=d.size;have q4:=al d Ww;by_cases VS:i<K ns
  ·obtain⟨x,hx⟩:∃x,ns[i]? = Z x:=⟨_,SU VS⟩;obtain⟨b,o,eA,Wv,hc⟩:=(HX.out.below d) i x hx;subst eA;have i1:(i:Int)<(K ns:Int):=U;have HT:Vy (jK ((ns.map λ c=>(c,bv)).take (i+1))=jK ((ns.map λ c=>(c,bv)).take i)++[J x,.bool bv]):=by
    unfold Vy;have ac:(ns.map λ c=>(c,bv))[i]? = Z (x,bv):=(by rw[Tz,hx];rfl);obtain⟨ad,he⟩:=Th.1 ac;rw[Tx ad,he,AJ];rfl
   clear hx;go_wp2_with (at_builtin;refine Vxk _ rfl _ _ 82 rfl (G w.heap) 84 i0 (.agg #[J 0,.bool Vl]) 2 16 FD X7 VZ Wa Wc rfl dQ _ _ _ rfl (a.alloc _) (O (G wr.heap) 0) 1 1 [J x,.bool bv] rfl rfl (lM _ _ _ _) (by intro u hu;simp at hu;rcases hu with rfl|rfl<;>rfl) ?c3 ?c4 ?c5 ?_)
   case c3=>unfold Vyf;omega
   case c4=>omega
   case c5=>simp;omega
   intro v' w6 VR VQ _;have B6:Bq w w6:=(d.alloc ab _).grown VQ sU (λ q hq=>(a.lt q hq).1);have O6:G' w6 (G w.heap) 84 2 v' (i+1) (jK ((ns.map λ c=>(c,bv)).take (i+1))):=by
    rw[HT.out];exact VR
   clear VR VQ a d;go_wp2;go_roundw
   case rel=>exact⟨i+1,U,gQ,O6,B6⟩
   case measure=>simp[intOf];omega
  ·have e:i=K ns:=U;subst e;have eT:(ns.map λ c=>(c,bv)).take (K ns)=ns.map λ c=>(c,bv):=TM (by rw[TA];exact aa);rw[eT]at a;obtain⟨A2,L,rfl,hO,y⟩:=AX a;have ZI:=Hj (cap:=L) wr (HS.out.below d) hO (λ _ b o e=>by have:=y b o e;omega) U v0 v1;have HC:Vy (edC s.Y (nsF ns) (λ _=>bv) (K ns)<=K ns):=yQ _ _ _ _;have R:=bX d;have T:=qH (HS.out.below d);have n:=Li s.W s.H (nsF ns) (K ns);have YL:=Lj s.W s.H (nsF ns) (K ns);clear a hO y d q4 eT;go_wp2_with fail;refine ZI.mono ?_;rintro e w3 hP;clear ZI;rcases hP with⟨m,rfl,k3⟩|⟨m,k2,_,rfl,k4,k5⟩
   ·have B3:=R.out.trans (k3.mono R.out.size);have X:=jw 0 U U w3 (HE.out _ B3);have l:=HK.out m;obtain⟨f,hf⟩:∃f:Nat,edE s.W s.H (nsF ns) (K ns)=(f:Int):=⟨(edE s.W s.H (nsF ns) (K ns)).toNat,U⟩;rw[hf]at n YL m l ⊢;have j:=bX l;have g:=qH (T.out.below k3);clear l k3 hf;go_wp2_with fail;refine Q9 X λ w4 N=>?_;go_wp2;go_ret2;exact⟨_,s,j.out,SP ⟨itoa 0,f,U,U,rfl,rfl⟩,g.out.below N,TN _,U,ai.Y' (aj B3 N)⟩
   ·have r:Env w3:=(HE.out _ R.out).below (k5.Z' (B:=10) (HE.out _ R.out).z (λ q h=>U)) aa;have ag:=(ai.Y' (F:=λ b=>lo<=b/\b<hi) R.out).trans k5 (λ _ _ h=>h);have am:=Tg HC.out k2;have l:=P.out m;clear m n YL HK P T k5;generalize edC s.Y (nsF ns) (λ _=>bv) (K ns)=ec at *;have X:=jw (ec:Int) U U w3 r;rw[eO]at X;have j:=qH l;have g:=qH k4;clear l k4 r;go_wp2_with fail;refine Q9 X λ w4 N=>?_;go_wp2;go_ret2;exact⟨_,_,j.out,SQ rfl,g.out.below N,by show s.V<=s.V+(ec:Nat);omega,by show s.V+((ec:Nat):Int)<=s.V+60;omega,ag.below N⟩
end
section
open Go.RowKit Go.Lib
theorem PX:(prog.info? 114).map (λ i=>(i.zero,i.size,i.bytes))=Z (Z (.agg #[J 0,J 0]),2,16):=kQ
theorem NZ:prog.underlying 112=Z (.slice 114):=kQ
theorem Lo {n:Nat}{e:TypeId}{xs:List Vr}(h:G' w base e k v n xs):∃A cap,v=.slice A n cap/\∀i u,xs[i]? = Z u->∃b,A=Z (O b 0)/\b<G w.heap/\D w (O b i)=Z u:=by
 obtain⟨a,h⟩:=h;rcases h with⟨rfl,d⟩|⟨b,cap,g,rfl,_,c,_,_,l,f⟩
 refine⟨UP,0,by rw[d],λ i u hi=>?_⟩;have:xs=[]:=TF.1 (by rw[a,d];omega);rw[this]at hi;simp at hi;refine⟨Z (O b 0),cap,rfl,λ i u hi=>⟨b,rfl,(Tq.1 c).1,?_⟩⟩;obtain⟨j,_⟩:=Th.1 hi;rw[<- f,List.getElem?_take_of_lt (by rw[<- a];exact j)]at hi;simp only[U2,c]
 simpa using hi
theorem AY (hi:i<K ns):(gn ns)[i]? = Z (J (nsF ns i)):=by grind [gn,nsF]
theorem H8 {m:Nat}(k:K ns=2*m)(h:G' w base 114 2 v m (gn ns)):∃A cap,v=.slice A m cap/\uK w A m (λ i=>nsF ns (2*i)) (λ i=>nsF ns (2*i+1)):=by
 obtain⟨A,cap,f,a⟩:=Lo h;refine⟨A,cap,f,λ i hi=>?_⟩;obtain⟨b,e,d,j⟩:=a (2*i) _ (AY U);obtain⟨l,c,_,g⟩:=a (2*i+1) _ (AY U);rw[e]at c;cases c;exact⟨b,0,e,d,by rw[Tm,U8];exact j,by rw[Tm,U8];exact g⟩
theorem Lp (hi:i+1<K ns):gn (ns.take (i+2))=gn (ns.take i)++[J (nsF ns i),J (nsF ns (i+1))]:=by grind [gn,nsF,Tx,List.append_assoc,SU]
theorem AZ {a:Nat}:∀{l:List Lu},(∀x∈l,K x<=a)->lens l<=K l*a
 |[],_=>Te _
 |x::l,h=>by
  have d:=h x List.mem_cons_self;have c:=AZ (l:=l) (λ y b=>h y (List.mem_cons_of_mem _ b));unfold lens at c ⊢;rw[UK,List.sum_cons,Tk,UX];omega
theorem FE {a:Nat}{l:List Lu}{sep:Lu}(h:∀x∈l,K x<=a):K (join l sep)<=K l*(a+K sep):=by
 cases l with
 |nil=>exact Te _
 |cons x l =>
  have b:=AZ h;rw[join_length];have e:K (x::l)*(a+K sep)=K (x::l)*a+K (x::l)*K sep:=Nat.mul_add _ _ _;have d:K (x::l)*K sep=K l*K sep+K sep:=by rw[Tk,UX]
  have c:K sep*K l=K l*K sep:=U8 _ _;omega
theorem Lq {A:Oa}{xs:List Lu}{sep:Lu}(w:M)(c:G' w base 9 1 (.slice A (K xs) cap) (K xs) (kE xs))(q:K xs<=1000)(a:K (join xs sep)<=100000000) :
  Rq 57 #[.slice A (K xs) cap,.string (str sep)] w (.string (str (join xs sep))):=by
 rcases Nat.eq_zero_or_pos (K xs) with i|i
 have p:xs=[]:=TF.1 i;subst p;exact(mR A cap sep w).mono λ e I ⟨o,n⟩=>⟨o,by rw[n];exact ae⟩;obtain⟨s,m,e,d⟩:=fu c;cases e;have l:∀(j:Nat) x,xs[j]? = Z x->∃b,A=Z (O b 0)/\b<G w.heap/\K xs<=cap/\Cq w b j (.string (str x)):=λ j x k=>d j _ (by grind [kE]);obtain⟨b,rfl,g,f,_⟩:=l 0 _ (SU i);exact Ld b 0 cap xs sep w (λ j x k=>by
  obtain⟨r,e,_,_,h⟩:=l j x k;cases e;rw[Tm];exact h) g U f a
theorem A8 {W H:Int}{Y:Bn}{t s d:Int}{b:Ln}(w1:1<=W)(f:W*H<=256)(R:Rt W H Y a t b s d err):K (iJ b s d err)<=20000:=by
 have i:=R.bd;have g:=R.len;have h:=R.err8;unfold iJ wj;split;have e:=iA (l:=[s.toNat,d.toNat]) (by grind);have j:=iA (l:=b) (λ n c=>by have:=R.lt w1 f n c;omega);simp only[Td,Tk,Ut]at e ⊢;omega;unfold bU;have:=i7 (n:=err.toNat) U;simp only[Td,Tk,Ut];omega
def oZ (x:pE):Lu:=iJ x.Vq x.s x.d x.err
section
variable {lo hi sb cap : Nat} {s : Ses} {A : Option Addr} {ns : List Int}
theorem DD (w:M)(E9:Env w)(dg:ch w)(S:Sv w lo hi sb s.W s.H s.V s.Y s.N')(h:de w A ns)(hl:K ns<=2000) :
  Calls Vyj 29 #[.pointer (Z ⟨sb,0,UP⟩),.slice A (K ns) cap] w λ e I=>Vw (G w.heap) w I/\∃t,kF 6 ns s t (Z s)/\oY e t:=by
 have q2:(K ns:Int).tmod 2=((K ns%2:Nat):Int):=by rw[Int.ofNat_tmod];rfl
 have z2:(2:Int)≠0:=dQ;by_cases N:K ns%2=1
 ·have HA:Vy (kF 6 ns s (bU 3) (Z s)):=SP (SP (SQ ⟨rfl,rfl,SQ ⟨U,rfl⟩⟩));rw[N]at q2;clear S h E9 dg;go_enter func29,ntmps29;go_wp2;go_ret2;exact⟨ae,_,HA.out,SP ⟨[],3,dQ,dQ,rfl,rfl⟩⟩
 have an:K ns%2=0:=U;rw[an]at q2;obtain⟨m,hm⟩:∃m,K ns=2*m:=⟨K ns/2,U⟩;obtain⟨i0,X7,hz⟩:=TK.1 PX;simp only[Prod.mk.injEq]at hz;obtain⟨VZ,Wa,Wc⟩:=hz;have HX:=qH h;have HE:Vy (∀I,Vw (G w.heap) w I->Env I):=λ I hb=>E9.grown hb;have HD:Vy (∀I,Vw (G w.heap) w I->ch I):=λ I hb=>dg.below hb;have HS:Vy (∀I,Vw (G w.heap) w I->Sv I lo hi sb s.W s.H s.V s.Y s.N'):=λ I hb=>S.below hb;have R:=qH hm;clear h E9 S dg N an hm;go_enter func29,ntmps29;go_wp2_with fail;go_loopw [6,7] (λ v iv wr=>∃(i j:Nat),Vy (i=2*j)/\i<=K ns/\iv=VN VO (i:Int)/\G' wr (G w.heap) 114 2 v j (gn (ns.take i))/\Vw (G w.heap) w wr)
  (λ _ i _=>K ns-(intOf i).toNat)
 case atStart=>exact⟨0,0,rfl,Te _,rfl,To _ _ _ _,ae⟩
 case round =>
  obtain⟨i,j,n,XC,rfl,c,g⟩:=hrel;by_cases VS:i<K ns
  ·have Y:i+1<K ns:=(by have:=n.out;have:=R.out;omega);obtain⟨b,o,eA,Wv,q0⟩:=HX.out i (nsF ns i) (by unfold nsF;rw[SU VS,Tt,SU VS];rfl);obtain⟨b',o',ax,_,q1⟩:=HX.out (i+1) (nsF ns (i+1)) (by unfold nsF;rw[SU Y,Tt,SU Y];rfl);rw[eA]at ax;cases ax;subst eA;have HT:Vy (gn (ns.take (i+2))=gn (ns.take i)++[VN VO (nsF ns i),VN VO (nsF ns (i+1))]):=Lp Y;have aL:=g.size;have ZQ:j<=2000:=(by have:=n.out;omega);have i1:(i:Int)<(K ns:Int):=U;have i2:(i:Int)+1<(K ns:Int):=U;have i3:(0:Int)<=(i:Int)+1:=U;have i4:((i:Int)+1).toNat=i+1:=U;have bd:IntKind.i64.wrap ((i:Int)+1)=(i:Int)+1:=IntWalk.i64_in _ U;have wr2:IntKind.i64.wrap ((i:Int)+2)=(i:Int)+2:=IntWalk.i64_in _ U;generalize nsF ns i=fa at *;generalize nsF ns (i+1)=ta at *;have e0:=wB wr;have o6:G' (E wr.drew (VP #[VN VO fa,VN VO ta] 114)) (G w.heap) 114 2 _ j (gn (ns.take i)):=(ak c e0).alloc _;have b6:Vw (G wr.heap) wr (E wr.drew (VP #[VN VO fa,VN VO ta] 114)):=e0.alloc aa _;have B6:=aj g b6;have bc:Vw (G w.heap) w (E wr (VP #[VN VO fa,VN VO ta] 114)).drew:=(g.alloc aL _).drew;have B0:Vw (G w.heap) w wr.drew:=g.drew;have CC:Vy (∀I,Vw (G w.heap) w I->D I ⟨b,o+i,UP⟩=Z (VN VO fa)/\D I ⟨b,o+(i+1),UP⟩=Z (VN VO ta)):=λ I h=>⟨(h.cell (SZ w _ q0)).trans q0,(h.cell (SZ w _ q1)).trans q1⟩;clear q0 q1;go_upto_region 7 with fail
   go_region_held3 (λ I=>D I ⟨b,o+i,UP⟩=Z (VN VO fa)/\D I ⟨b,o+(i+1),UP⟩=Z (VN VO ta)) (first|with_reducible exact CC.out _ B0|with_reducible exact CC.out _ B6|exact CC.out _ bc|with_reducible exact CC.out _ B7)
    (first|(refine step_append_lies _ rfl (.tmp 24) (.tmp 35) 112 rfl (G w.heap) 114 i0 (.agg #[VN VO 0,VN VO 0]) 2 16 NZ X7 VZ Wa Wc rfl dQ _ _ _ rfl o6 ⟨G wr.heap,0,UP⟩ 1 1 [VN VO fa,VN VO ta] rfl rfl (lM _ _ _ _) (by intro u hu;simp at hu;rcases hu with rfl|rfl<;>rfl) dQ mQ U sU _ rfl ?_;intro g7 c7 w7 XW am _ bi;have B7:Vw (G w.heap) w w7:=(B6.grown am sU (λ q hq=>(o6.lt q hq).1))))
   have O7:=XW;rw[<- HT.out]at O7;have HI:Vy (i+2=2*(j+1)):=(by have:=n.out;unfold Vy;omega);clear XW am o6 B6 c g e0 b6 B0;go_wp2;go_roundw
   case rel=>exact⟨i+2,j+1,HI.out,U,gQ,O7,B7⟩
   case measure=>simp[intOf];omega
  ·obtain rfl:i=K ns:=U;rw[Tl]at c;have a7:j=m:=(by have:=n.out;have:=R.out;omega);subst a7;obtain⟨A2,P,rfl,hO⟩:=H8 R.out c;by_cases aw:40<j
   ·have hn:=AV (sb:=sb) (A:=A2) (cap:=P) wr aw;have ag:=mR UP 0 [59,32] wr;have HA:Vy (kF 6 ns s (bU 2) (Z s)):=SP (SP (SQ ⟨rfl,rfl,SP (SQ ⟨by have:=R.out;omega,by have:=R.out;omega,rfl⟩)⟩));have e0:(str [59,32])=⟨#[59,32]⟩:=rfl;rw[e0]at ag;clear c hO n;go_wp2_with fail;refine hn.mono ?_;rintro e C ⟨rfl,rfl⟩;clear hn;go_wp2;go_loopw [10,45] (λ v iv wr2=>v=.slice UP 0 0/\iv=VN VO 0/\wr2=C) (λ _ _ _=>0)
    case atStart=>exact⟨rfl,rfl,rfl⟩
    case round =>
     obtain⟨rfl,rfl,rfl⟩:=hrel;go_wp2_with fail;refine ag.mono ?_;rintro e w4 ⟨rfl,rfl⟩;go_wp2;go_ret2;exact⟨g,_,HA.out,SP ⟨[],2,dQ,dQ,rfl,rfl⟩⟩
   ·have hn:=Dv (cap:=P) wr (HS.out _ g) (HD.out _ g) hO U;have ay:=HS.out _ g;obtain⟨w1,w2,h1,h2⟩:=ay.side;have WS:=(bG w1 w2 h1 h2).2;have HW:Vy ((1:Int)<=s.W/\(s.W:Int)*s.H<=256):=⟨w1,WS⟩;have HJ:Vy (j<=40):=(by unfold Vy;omega);obtain⟨it,ba,hy⟩:=TK.1 DA;simp only[Prod.mk.injEq]at hy;obtain⟨a5,a4,aN⟩:=hy;clear c hO n ay w1 w2 h1 h2 WS aw;go_wp2_with fail;refine hn.mono ?_;rintro e C ⟨v3,l,rfl,Yn,B,au,hb3⟩;obtain⟨A3,XZ,rfl,ao,_⟩:=Hq B Yn;have B3:=aj g hb3;have bb:=qH ao;have ac:Vy (∃bs,xB C bs s.W s.H s.Y s.N' (λ i=>nsF ns (2*i)) (λ i=>nsF ns (2*i+1)) l):=⟨_,au⟩;have Xt:=qH Yn;clear hn B ao au hb3 g Yn;go_wp2;go_loopw [10,45] (λ v iv wr=>∃k:Nat,k<=j/\iv=VN VO k/\G' wr (G C.heap) 9 1 v k (kE ((l.map oZ).take k))/\Vw (G C.heap) C wr)
     (λ _ i _=>j-(intOf i).toNat)
    case atStart=>exact⟨0,Te _,rfl,To _ _ _ _,ae⟩
    case round =>
     obtain⟨k,hk,rfl,c,g⟩:=hrel;have BB:=aj B3 g;by_cases WY:k<j
     ·obtain⟨x,r⟩:∃x,l[k]? = Z x:=⟨_,SU (by rw[Xt.out];exact WY)⟩;obtain⟨b2,o2,e2,be,a0,a1,a2,a3⟩:=(bb.out.below g) k x r;obtain⟨bs,p⟩:=ac.out;obtain⟨hP,B⟩:=p k x r;clear p;subst e2;have i1:(k:Int)<(j:Int):=U;obtain⟨A5,Xo,e5,ap,_⟩:=kz B;cases e5;have T:=HW.out;have HT:Vy (kE ((l.map oZ).take (k+1))=kE ((l.map oZ).take k)++[.string (str (oZ x))]):=by
       unfold Vy;have a6:(l.map oZ)[k]? = Z (oZ x):=(by rw[Tz,r];rfl);obtain⟨a8,he⟩:=Th.1 a6;rw[Tx a8,he];unfold kE;rw[UE];rfl
      have b4:=mB wr (VP #[.slice x.A (K x.Vq) x.cap,VN VO x.s,VN VO x.d,VN VO x.err] 92);have X:=FC (cap:=x.cap) (E wr (VP #[.slice x.A (K x.Vq) x.cap,VN VO x.s,VN VO x.d,VN VO x.err] 92)) (HE.out _ (aj BB b4)) T.1 T.2 hP.2 (ap.below (aj g b4));have WN:=ak c b4;have B4:=aj BB b4;have ab:=qH (aj g b4);have q:∀o,D (E wr (VP #[.slice x.A (K x.Vq) x.cap,VN VO x.s,VN VO x.d,VN VO x.err] 92)) ⟨G wr.heap,o,UP⟩=#[TQ x.A (K x.Vq) x.cap,VN VO x.s,VN VO x.d,VN VO x.err][o]? := λ o=>by rw[Tb]
      have p0:=q 0;have p1:=q 1;have p2:=q 2;have p3:=q 3;have bf:=HJ.out;have e6:iJ x.Vq x.s x.d x.err=oZ x:=rfl;rw[e6]at X;clear r hP B ap T c b4 g BB q e6;generalize oZ x=tx at *;generalize K x.Vq=wl at *;generalize x.A=xA at *;generalize x.cap=xc at *;generalize x.s=xs at *;generalize x.d=xd at *;generalize x.err=xe at *;go_upto_region 13 with fail
      clear a0 a1 a2 a3;generalize E wr (VP #[.slice xA wl xc,VN VO xs,VN VO xd,VN VO xe] 92)=w4 at *;go_wp2_with fail;refine X.mono ?_;rintro e w5 ⟨rfl,VW⟩;have WA:=ak WN VW;have B5:=aj B4 VW;have L:=qH (ab.out.trans (VW.mono ab.out.size));have z5:=B5.size;clear X WN B4 ab p0 p1 p2 p3 VW;go_wp2_with (at_builtin;refine Vxk _ rfl _ _ 22 rfl (G C.heap) 9 it (.string ByteArray.empty) 1 16 Vyi ba a5 a4 aN rfl dQ _ _ _ rfl (WA.alloc _) ⟨G w5.heap,0,UP⟩ 1 1 [.string (str tx)] rfl rfl ?c1 ?c2 ?c3 ?c4 ?c5 ?_)
      case c1=>exact Vye _ _ _
      case c2=>intro z hz;simp at hz;subst hz;rfl
      case c3=>unfold Vyf;omega
      case c4=>omega
      case c5=>simp;have:=L.out.size;omega
      intro v' w6 VR VQ _;have z3:=B3.size;have B6:Vw (G C.heap) C w6:=(L.out.alloc L.out.size _).grown VQ (by simp;have:=L.out.size;omega) (λ q hq=>(WA.lt q hq).1);have O6:G' w6 (G C.heap) 9 1 v' (k+1) (kE ((l.map oZ).take (k+1))):=by
       rw[HT.out];exact VR
      clear VR VQ WA;go_wp2;go_roundw
      case rel=>exact⟨k+1,U,gQ,O6,B6⟩
      case measure=>simp[intOf];omega
     ·obtain rfl:k=j:=U;have eT:(l.map oZ).take k=l.map oZ:=TM (by rw[TA,Xt.out];exact aa);rw[eT]at c;obtain⟨A5,Xo,rfl,_⟩:=fu c;have F:K (l.map oZ)=k:=(by rw[TA,Xt.out]);have ad:∀y∈l.map oZ,K y<=20000:=λ y hy=>by
       obtain⟨x,r,rfl⟩:=List.mem_map.1 hy;obtain⟨i,hi⟩:=List.getElem?_of_mem r;obtain⟨bs,p⟩:=ac.out;exact A8 HW.out.1 HW.out.2 (p i x hi).1.2
      have YX:=FE (sep:=[59,32]) ad;rw[F]at YX;have a9:=HJ.out;have hj:=Lq (xs:=l.map oZ) (sep:=[59,32]) (cap:=Xo) (A:=A5) wr (by rw[F];exact c) U (by
       have:k*(20000+[59,32].length)<=40*(20000+2):=Uo a9 aa;omega)
      rw[F]at hj;have HA:Vy (kF 6 ns s (join (l.map oZ) [59,32]) (Z s)):=SP (SP (SQ ⟨rfl,rfl,SP (SP ⟨by have:=R.out;omega,by have:=R.out;omega,l.map (λ x=>(x.Vq,x.s,x.d,x.err)),by rw[TA,Xt.out];have:=R.out;omega,λ i x r=>by
       rw[Tz]at r;cases Xp:l[i]? with
       |none=>rw[Xp]at r;cases r
       |some y =>
        rw[Xp]at r;cases r;obtain⟨bs,p⟩:=ac.out;exact(p i y Xp).1.2,by rw[List.map_map];rfl⟩)⟩))
      generalize join (l.map oZ) [59,32]=tj at *;clear c eT F ad YX;go_wp2_with fail;refine hj.mono ?_;rintro e w4 ⟨rfl,Ww⟩;go_wp2;go_ret2;exact⟨aj BB Ww,_,HA.out,SQ rfl⟩
end
end
section
open Go.RowKit Go.Lib
def rQ (k:Nat) (ns:List Int) (X3:Lu) (x:Option Ses) (t:Lu) (x':Option Ses):Prop :=
 (k=0/\∃W H m,ns=[W,H,m]/\((nwE W H m≠0/\t=bU (nwE W H m).toNat/\x'=x)\/(nwE W H m=0/\t=okS/\x'=Z ⟨W.toNat,H.toNat,m.toNat,0,λ _=>Vl⟩))) \/
 (k=1/\∃m,ns=[m]/\((ldE (swp 47 10 X3) m≠0/\t=bU (ldE (swp 47 10 X3) m).toNat/\x'=x)\/(ldE (swp 47 10 X3) m=0/\∃W H cs,cH (swp 47 10 X3)=.good W H cs/\t=okS/\x'=Z ⟨W,H,m.toNat,blocks cs,dZ cs⟩))) \/
 (2<=k/\x=UP/\x'=UP/\t=bU 8) \/
 (2<=k/\∃s,x=Z s/\kF k ns s t x')
def SvO (w:M) (L:Nat) (x:Option Ses) (v:Vr):Prop:=(x=UP/\v=.pointer UP)\/∃s lo hi sb,x=Z s/\v=Pq sb/\L<=lo/\hi<=G w.heap/\Sv w lo hi sb s.W s.H s.V s.Y s.N'
structure fJ (w:M) (L qb:Nat) (x:Option Ses):Prop where
 c0:∃v,D w (O qb 0)=Z v/\SvO w L x v
 fz:w.frozen? (O qb 0)=Vl
 lq:qb<L
 l10:10<=qb
 ls:L<=G w.heap
def VOk (n:Int) (x:Option Ses):Prop:=∀s,x=Z s->0<=s.V/\s.V<=n
def KL (qb L:Nat):Nat->Prop:=λ k=>k=qb\/L<=k
theorem fJ.below {x:Option Ses}(S:fJ w L qb x)(a:Bq w I):fJ I L qb x:=by
 obtain⟨v,c,d⟩:=S.c0;have b:=aB c;refine⟨⟨v,(a.cell b).trans c,?_⟩,(a.frozen (p:=O qb 0) b).trans S.fz,S.lq,S.l10,Tg S.ls a.size⟩;rcases d with h|⟨s,lo,hi,sb,j,i,g,f,e⟩
 exact SQ h;exact SP ⟨s,lo,hi,sb,j,i,g,Tg f a.size,e.below a⟩
section
variable {w : M} {L qb cap : Nat} {x : Option Ses} {A : Option Addr} {ns : List Int}
def fK (w:M) (qb L k gf:Nat) (cs:List Vr):Prop:=(k=4/\gf=27/\cs=[])\/(k=5/\gf=28/\cs=[])\/(k=6/\gf=29/\cs=[])\/(k=7/\gf=30/\cs=[])\/(k=8/\gf=31/\cs=[])\/((k=2\/k=3)/\gf=50/\∃b4,cs=[Pq b4]/\b4≠qb/\b4<L/\D w (O b4 0)=Z (.bool (k==2)))
theorem fK.runs (h:fK w qb L k gf cs):∀(a:Array Vr) (w1:M),(callFunc gf a).run Vyj w1=.ok (.enter gf a) w1:=by
 intro a w1;rcases h with⟨_,rfl,_⟩|⟨_,rfl,_⟩|⟨_,rfl,_⟩|⟨_,rfl,_⟩|⟨_,rfl,_⟩|⟨_,rfl,_⟩<;>kernel_rfl
def InP (w I:M) (k lo hi sb:Nat) (ns:List Int) (s:Ses) (e:Ending):Prop:=∃t x',kF k ns s t (Z x')/\oY e t/\Sv I lo hi sb x'.W x'.H x'.V x'.Y x'.N'/\s.V<=x'.V/\x'.V<=s.V+60/\ai (λ b=>lo<=b/\b<hi) w I
theorem InP.of {s:Ses}{e:Ending}{t:Lu}(S:Sv w lo hi sb s.W s.H s.V s.Y s.N')(a:Bq w I)(h:kF k ns s t (Z s))(r:oY e t):InP w I k lo hi sb ns s e:=by grind [Sv,kF,oY,InP,Sv.below,ai.Y']
theorem H9 {k:Nat}{s:Ses}(w:M)(E9:Env w)(n:Mx w)(dg:ch w)(G9:fK w qb L k gf cs)(S:Sv w lo hi sb s.W s.H s.V s.Y s.N')(j:hi<=G w.heap)(l:10<=lo)(v0:0<=s.V)(v1:s.V<=900000)(h:de w A ns)(i:K ns<=2000)(p:bg k=-1\/bg k=K ns) :
  Zq gf (Pq sb::.slice A (K ns) cap::cs).toArray w λ e I=>InP w I k lo hi sb ns s e:=by
 rcases G9 with⟨rfl,rfl,rfl⟩|⟨rfl,rfl,rfl⟩|⟨rfl,rfl,rfl⟩|⟨rfl,rfl,rfl⟩|⟨rfl,rfl,rfl⟩|⟨o,rfl,q,rfl,_,_,m⟩
 have g:K ns=2:=by have e:bg 4=2:=rfl;omega
 match ns,g with
 |[c,d],_=>exact(Hw w E9 S h).mono λ e I ⟨f,t,b,a⟩=>InP.of S f b a
 have g:K ns=2:=by have e:bg 5=2:=rfl;omega
 match ns,g with
 |[c,d],_=>exact(Ll w E9 dg S h).mono λ e I ⟨f,t,b,a⟩=>InP.of S f b a
 exact(DD w E9 dg S h i).mono λ e I ⟨f,t,b,a⟩=>InP.of S f b a;have g:K ns=0:=by have e:bg 7=0:=rfl;omega
 obtain rfl:=TF.1 g;exact(DC w E9 S v0 v1).mono λ e I ⟨f,t,b,a⟩=>InP.of S f b a;have g:K ns=0:=by have e:bg 8=0:=rfl;omega
 obtain rfl:=TF.1 g;exact(Hy w E9 n S).mono λ e I ⟨f,t,b,a⟩=>InP.of S f b a;exact(Hz (k:=k) (bv:=k==2) w E9 S j l v0 v1 h m (by grind) i).mono λ e I h=>h
def yU (v:Lu) (ev:Vr) (t:Lu):Prop:=(ev=.nilIface/\v=t)\/∃f:Nat,1<=f/\f<=8/\t=bU f/\ev=.iface 42 (J (f:Int))
theorem oY.two {e:Ending}{t:Lu}(h:oY e t):∃v a,e=VJ (.tuple #[.string (str v),a])/\yU v a t:=by grind [oY,str,yU]
theorem yU.ret {v:Lu}{a:Vr}{t:Lu}{e:Ending}(h:yU v a t)(b:e=VJ (.tuple #[.string (str v),a])):oY e t:=by grind [yU,str,oY]
def xF (w I:M) (k L qb:Nat) (ns:List Int) (X3:Lu) (x:Option Ses) (n:Int) (e:Ending):Prop:=∃t x',rQ k ns X3 x t x'/\oY e t/\fJ I L qb x'/\VOk (n+60) x'/\ai (KL qb L) w I/\D I (O qb 1)=D w (O qb 1)
theorem Lr {l:Nat}{X3:ByteArray}{tx:Lu}(w:M)(E9:Env w)(M9:Mx w)(dg:ch w)(d:2<=k)(S:fJ w L qb x)(V:VOk n x)(hn:n<=900000)(R:b2<L)(hb3:l<L)(c2:Cq w b2 0 (Pq qb))(c3:Cq w l 0 (.func (.func gf) #[] cs.toArray))(G9:fK w qb L k gf cs)(h:de w A ns)(C:K ns<=2000)(P:bg k=-1\/bg k=K ns) :
  Zq 49 #[.slice A (K ns) cap,.string X3,Pq b2,Pq l] w λ e I=>xF w I k L qb ns tx x n e:=by
 obtain⟨v,y,hv⟩:=S.c0;rcases hv with⟨rfl,rfl⟩|⟨s,lo,hi,sb,rfl,rfl,hL,F,m⟩
 ·have HS:=qH S;have HA:Vy (rQ k ns tx UP (bU 8) UP):=SP (SP (SQ ⟨d,rfl,rfl,rfl⟩));clear E9 M9 dg V G9 h S P C;go_enter func49,ntmps49;go_wp2;go_ret2;exact⟨_,UP,HA.out,SP ⟨[],8,dQ,dQ,rfl,rfl⟩,HS.out,(λ s h=>(by cases h):VOk (n+60) UP),ai.refl _ _,rfl⟩
 ·have j:Bq w w.drew:=ae.drew;have hq:=S.l10;have f:=S.lq;have We:=H9 (cap:=cap) (L:=L) (qb:=qb) w.drew (E9.grown j) (M9.below j (Oq E9.z)) (dg.below j) (by
   rcases G9 with h|h|h|h|h|⟨h1,h2,b4,h3,Y,X,T⟩
   ·exact SQ h
   ·exact SP (SQ h)
   ·exact SP (SP (SQ h))
   ·exact SP (SP (SP (SQ h)))
   ·exact SP (SP (SP (SP (SQ h))))
   ·exact SP (SP (SP (SP (SP ⟨h1,h2,b4,h3,Y,X,T⟩))))) (m.below j) F U (V s rfl).1 (Oq (V s rfl).2) (h.below j) C P
  have ZB:Zq gf (Pq sb::.slice A (K ns) cap::cs).toArray w.drew λ e I=>∃v i t x',e=VJ (.tuple #[.string (str v),i])/\kF k ns s t (Z x')/\yU v i t/\Sv I lo hi sb x'.W x'.H x'.V x'.Y x'.N'/\s.V<=x'.V/\x'.V<=s.V+60/\ai (λ b=>lo<=b/\b<hi) w.drew I:=We.mono λ e I ⟨t,x',h1,h2,h3,Y,X,T⟩=>by
   obtain⟨v,i,k1,d⟩:=h2.two;exact⟨v,i,t,x',k1,h1,d,h3,Y,X,T⟩
  have N:=G9.runs;have u:Vy (∀I,ai (λ b=>lo<=b/\b<hi) w.drew I->Cq I l 0 (.func (.func gf) #[] cs.toArray)/\Cq I b2 0 (Pq qb)/\Cq I qb 0 (Pq sb)):=λ I o=>⟨o.cellOf c3 (λ h=>by have:=h.1;simp only at this;omega),o.cellOf c2 (λ h=>by have:=h.1;simp only at this;omega),o.cellOf y (λ h=>by have:=h.1;simp only at this;omega)⟩;have HF:Vy (∀I,ai (λ b=>lo<=b/\b<hi) w.drew I->I.frozen? (O qb 0)=Vl):=λ I o=>(o.frozen (p:=O qb 0) (aB y) (λ h=>by have:=h.1;simp only at this;omega)).trans S.fz;have HN:Vy (L<=lo/\qb<L/\10<=qb/\L<=G w.heap/\hi<=G w.heap/\0<=s.V/\s.V<=n/\2<=k):=⟨hL,f,hq,S.ls,F,(V s rfl).1,(V s rfl).2,d⟩;have K0:=ai.refl (λ b=>lo<=b/\b<hi) w.drew;clear E9 M9 dg V G9 h S P C m hq f We R hb3 F hL hn d;go_enter func49,ntmps49;go_upto_region 3 with fail
  clear c2 c3 y;go_region_held3 (λ I=>D I (O l 0)=Z (.func (.func gf) #[] cs.toArray)/\Cq I b2 0 (Pq qb)/\Cq I qb 0 (Pq sb)) (first|with_reducible exact u.out _ K0|with_reducible exact u.out _ c)
   (first|(go_at_fn (gf);refine ZB.mono ?_;rintro r w2 ⟨v,i,t,x',rfl,hA,hR,g,am,ag,c⟩))
  have HA:=qH hA;have HR:=qH hR;have Yw:=qH g;have ac:=u.out _ c;have ab:=HF.out _ c;clear hA hR g u HF ZB N;go_wp2;go_ret2;obtain⟨n1,n2,n3,n4,n5,n6,n7,n8⟩:=HN.out;have Ws:G w.heap<=G w2.heap:=c.size;refine⟨t,Z x',SP (SP (SP ⟨n8,s,rfl,HA.out⟩)),HR.out.ret rfl,⟨⟨_,ac.2.2,SP ⟨x',lo,hi,sb,rfl,rfl,n1,Tg n5 Ws,Yw.out⟩⟩,ab,n2,n3,Tg n4 Ws⟩,?_,?_,c.cell (p:=O qb 1) (show qb<G w.heap by omega) (λ q=>by have:=q.1;simp only at this;omega)⟩
  ·intro s' e;cases e;omega
  ·exact(⟨c.os,c.tape,c.output,c.size,λ b hb B=>c.block b hb (λ q=>B (SP U))⟩:ai (KL qb L) w w2)
end
end
section
open Go.RowKit Go.Lib
section
variable {w : M} {L qb cap : Nat} {x : Option Ses} {A : Option Addr} {ns : List Int}
theorem fJ.put {a:Oa}{x':Option Ses}(S:fJ w1 L qb x)(d:SvO w1 L x' (.pointer a)):fJ (C' w1 (O qb 0) (.pointer a)) L qb x'/\ai (KL qb L) w1 (C' w1 (O qb 0) (.pointer a)):=by
 obtain⟨v,e,_⟩:=S.c0;have b:ai (λ k=>k=qb) w1 (C' w1 (O qb 0) (.pointer a)):=(ai.refl (λ k=>k=qb) w1).setCell (p:=O qb 0) (λ _=>rfl) _;have c:=S.lq;have l10:=S.l10;refine⟨⟨⟨_,Tf _ _ _ e,?_⟩,by rw[TL];exact S.fz,c,l10,Tg S.ls b.size⟩,b.mono (λ k _ h=>SQ h)⟩;rcases d with h|⟨s,lo,hi,sb,l,j,i,g,f⟩
 exact SQ h;exact SP ⟨s,lo,hi,sb,l,j,i,Tg g b.size,f.keepLow b (λ k h=>U)⟩
def yV (w I:M) (qb:Nat) (xo:Oa) (ev:Vr) (e:Ending):Prop:=∃v ev2,e=VJ (.tuple #[.string (str v),ev2])/\((ev=.nilIface/\ev2=.nilIface/\v=okS/\I=C' w (O qb 0) (.pointer xo))\/(ev≠.nilIface/\ev2=ev/\I=w))
theorem xG {b:Oa}{a:Vr}(w:M)(S:fJ w L qb x)(h:a=.nilIface\/∃f:Nat,a=.iface 42 (J (f:Int))) :
  Zq 20 #[Pq qb,.pointer b,a] w λ e I=>yV w I qb b a e:=by
 obtain⟨v,c,_⟩:=S.c0;have d:=S.fz;clear S;rcases h with rfl|⟨f,rfl⟩
 ·go_enter func20,ntmps20;go_wp2;go_ret2;exact⟨okS,_,rfl,SQ ⟨rfl,rfl,rfl,rfl⟩⟩
 ·go_enter func20,ntmps20;go_wp2;go_ret2;exact⟨[],_,rfl,SP ⟨(λ h=>(by cases h)),rfl,rfl⟩⟩
def mS (w1:M) (L:Nat) (f:Int) (y:Option Ses->Prop) (xo:Oa) (ev:Vr):Prop:=(∃n:Nat,f=n/\1<=n/\n<=8/\xo=UP/\ev=.iface 42 (J (n:Int)))\/(f=0/\ev=.nilIface/\∃s,y (Z s)/\0<=s.V/\s.V<=256/\SvO w1 L (Z s) (.pointer xo))
theorem mS.ev {f:Int}{y:Option Ses->Prop}{b:Oa}{a:Vr}(h:mS w1 L f y b a):a=.nilIface\/∃f:Nat,a=.iface 42 (J (f:Int)):=by grind [mS]
theorem mS.line {d:M}{b:Lu}{f:Int}{y:Option Ses->Prop}{c:Oa}{g:Vr}{e:Ending}(u:mS w1 L f y c g)(S:fJ w1 L qb x)(V:VOk n x)(P:256<=n)(j:ai (KL qb L) w w1)(i:D w1 (O qb 1)=D w (O qb 1))(a:yV w1 d qb c g e)
  (C:f≠0->rQ k ns b x (bU f.toNat) x) (B:∀s,f=0->y (Z s)->rQ k ns b x okS (Z s)):xF w d k L qb ns b x n e:=by
 obtain⟨v,F,rfl,a⟩:=a;rcases u with⟨m,rfl,p,o,rfl,rfl⟩|⟨rfl,rfl,s,l,I,H,t⟩
 rcases a with⟨h,_⟩|⟨_,rfl,rfl⟩
 cases h;exact⟨bU m,x,C U,SP ⟨v,m,p,o,rfl,rfl⟩,S,λ s r=>by have:=V s r;omega,j,i⟩;rcases a with⟨_,rfl,rfl,rfl⟩|⟨h,_⟩
 obtain⟨A,z⟩:=S.put t;refine⟨okS,Z s,B s rfl l,SQ rfl,A,?_,j.trans z (λ k _ h=>h),(SY _ _ _ _ (λ q=>by have:=(Addr.mk.inj q).2.1;omega)).trans i⟩;intro N e;cases e;omega;exact Q8 rfl h
theorem Rp {s:Lu}{n:Nat}(h:cH s=.bad n):n<=8:=by grind [cH]
theorem Ls (t:Lu)(N':Int):ldE t N'<=8:=by grind [ldE,cH,Rp]
theorem PY (W H m:Int)(w:M)(s:az w)(g:L<=G w.heap) :
  Zq 21 #[J W,J H,J m] w λ e I=>∃b f,e=VJ (.tuple #[.pointer b,f])/\mS I L (nwE W H m) (λ x'=>x'=Z ⟨W.toNat,H.toNat,m.toNat,0,λ _=>Vl⟩) b f/\Bq w I :=
 (PT W H m w s).mono λ e I ⟨c,h⟩=>by
  rcases h with⟨a,j⟩|⟨a,sb,k,rfl,i,d⟩
  rw[a];exact⟨UP,_,j,SQ ⟨1,rfl,aa,dQ,rfl,rfl⟩,c⟩;rw[a];have o:=d.side;refine⟨_,_,i,SP ⟨rfl,rfl,_,rfl,TN _,by show (0:Int)<=256;decide,SP ⟨_,_,_,sb,rfl,rfl,g,aa,?_⟩⟩,c⟩;have n:((W.toNat:Nat):Int)=W:=U;have l:((H.toNat:Nat):Int)=H:=U;show Sv I (G w.heap) (G I.heap) sb ((W.toNat:Nat):Int) ((H.toNat:Nat):Int) 0 (λ _=>Vl) ((k:Int)).toNat;rw[n,l,Ta];exact d
theorem N1 (t:Lu)(m:Int)(w:M)(E9:Env w)(s:az w)(l:L<=G w.heap) :
  Zq 23 #[.string (str t),J m] w λ e I=>∃d i,e=VJ (.tuple #[.pointer d,i])/\mS I L (ldE t m) (λ x'=>∃W H cs,cH t=.good W H cs/\x'=Z ⟨W,H,m.toNat,blocks cs,dZ cs⟩) d i/\Bq w I :=
 (NU t m w E9 s (λ n h=>Fa h)).mono λ e I ⟨g,h⟩=>by
  rcases h with⟨c,a⟩|⟨c,sb,k,W,H,cs,a,rfl,b,o⟩
  have q:=Lk t m;have b:=Ls t m;obtain⟨n,j⟩:∃n:Nat,ldE t m=n:=⟨(ldE t m).toNat,U⟩;rw[j]at c a b ⊢;exact⟨UP,_,a,SQ ⟨n,rfl,U,U,rfl,rfl⟩,g⟩;rw[c];have f:=wP a;have p:H*W<=16*16:=Uo f.2.2.2.1 f.2.1;have r:=nU cs;refine⟨_,_,b,SP ⟨rfl,rfl,_,⟨W,H,cs,a,rfl⟩,by show (0:Int)<=blocks cs;omega,by show (blocks cs:Int)<=256;omega,SP ⟨_,_,_,sb,rfl,rfl,l,aa,?_⟩⟩,g⟩;show Sv I (G w.heap) (G I.heap) sb W H (blocks cs) (dZ cs) ((k:Int)).toNat;rw[Ta];exact o
end
end
section
open Go.RowKit Go.Lib
theorem ai.kl (a:Bq w I):ai (KL qb L) w I:=ai.Y' a
section
variable {w : M} {L qb cap : Nat} {x : Option Ses} {A : Option Addr} {ns : List Int}
theorem yV.X' {a:M}{b:Oa}{c:Vr}{e:Ending}(h:yV w1 a qb b c e):ai (λ k=>k=qb) w1 a:=by grind [yV,str,okS,ai.setCell,ai.refl]
theorem Lt {X3:ByteArray}{z:Lu}(w:M)(st:az w)(S:fJ w L qb x)(V:VOk n x)(hn:256<=n)(q:b2≠qb)(c2:Cq w b2 0 (Pq qb))(h:de w A ns)(hA:∀b o,A=Z (O b o)->qb<b)(hl:K ns=3) :
  Zq 19 #[.slice A (K ns) cap,.string X3,Pq b2] w λ e I=>xF w I 0 L qb ns z x n e:=by
 match ns,hl,h with
 |[W,H,m],_,h =>
  obtain⟨b,o,rfl,_,F⟩:=h 0 W rfl;obtain⟨_,_,X,_,C⟩:=h 1 H rfl;cases X;obtain⟨_,_,X,_,B⟩:=h 2 m rfl;cases X;have u:b≠qb:=by have:=hA b o rfl;omega
  have e0:Bq w w.drew:=ae.drew;have N:=PY (L:=L) W H m w.drew st S.ls;have ac:Vy (nwE W H m≠0->rQ 0 [W,H,m] z x (bU (nwE W H m).toNat) x):=λ T=>SQ ⟨rfl,W,H,m,rfl,SQ ⟨T,rfl,rfl⟩⟩;have ab:Vy (∀s,nwE W H m=0->Z s=Z (⟨W.toNat,H.toNat,m.toNat,0,λ _=>Vl⟩:Ses)->rQ 0 [W,H,m] z x okS (Z s)):=λ s T h1=>SQ ⟨rfl,W,H,m,rfl,SP ⟨T,rfl,h1⟩⟩;have l:Vy (∀I,Bq w I->Cq I b2 0 (Pq qb)/\Cq I b o (J W)/\Cq I b (o+1) (J H)/\Cq I b (o+2) (J m)):=λ I h=>⟨(h.cell (SZ w _ c2)).trans c2,(h.cell (SZ w _ F)).trans F,(h.cell (SZ w _ C)).trans C,(h.cell (SZ w _ B)).trans B⟩;have CK:Vy (∀w1 c,Bq w w1->ai (λ k=>k=qb) w1 c->Cq c b2 0 (Pq qb)/\Cq c b o (J W)/\Cq c b (o+1) (J H)/\Cq c b (o+2) (J m)):=λ w1 c i y=>⟨y.cellOf (l.out _ i).1 q,y.cellOf (l.out _ i).2.1 u,y.cellOf (l.out _ i).2.2.1 u,y.cellOf (l.out _ i).2.2.2 u⟩;have HS:=qH S;have HV:Vy (VOk n x/\256<=n):=⟨V,hn⟩;have HB:Vy (∀(I:M) {d:Oa}{g:Vr},Bq w I->mS I L (nwE W H m) (λ x'=>x'=Z (⟨W.toNat,H.toNat,m.toNat,0,λ _=>Vl⟩:Ses)) d g->Zq 20 #[Pq qb,.pointer d,g] I λ e WX=>yV I WX qb d g e):=λ I {d g} i t=>xG I (S.below i) t.ev;clear S V hn h hA c2 F C B st q u;go_enter func19,ntmps19;go_upto_region 1 with fail
  go_region_held3 (λ I=>D I (O b2 0)=Z (Pq qb)/\Cq I b o (J W)/\Cq I b (o+1) (J H)/\Cq I b (o+2) (J m)) (first|with_reducible exact l.out _ e0|with_reducible exact l.out _ j|with_reducible exact CK.out _ _ j k3)
   (first
    |(go_at_call 21;refine N.mono ?_;rintro r c ⟨d,g,rfl,t,R⟩;have j:=aj e0 R;have P:=HB.out c j t;have HL:Vy (mS c L (nwE W H m) (λ x'=>x'=Z (⟨W.toNat,H.toNat,m.toNat,0,λ _=>Vl⟩:Ses)) d g):=t;clear t HB)
    |(go_at_call 20;refine P.mono ?_;rintro r w3 f;have Y:Vy (yV c w3 qb d g r):=f;have k3:=f.X';obtain⟨v,ag,rfl,Wx⟩:=f;clear Wx))
  go_wp2;go_ret2;exact HL.out.line (HS.out.below j) HV.out.1 HV.out.2 (ai.kl j) (j.cell (p:=O qb 1) (show qb<G w.heap by have:=HS.out.lq;have:=HS.out.ls;omega)) (by have:=Y.out;exact this) ac.out ab.out
theorem Ia {d:Lu}(w:M)(E9:Env w)(M9:Mx w)(st:az w)(S:fJ w L qb x)(V:VOk n x)(hn:256<=n)(u:b2≠qb)(c2:Cq w b2 0 (Pq qb))(h:de w A ns)(hA:∀b o,A=Z (O b o)->qb<b)(hl:K ns=1)(ht:K d<=100000) :
  Zq 22 #[.slice A (K ns) cap,.string (str d),Pq b2] w λ e I=>xF w I 1 L qb ns d x n e:=by
 match ns,hl,h with
 |[m],_,h =>
  obtain⟨b,o,rfl,_,N⟩:=h 0 m rfl;have ZR:b≠qb:=by have:=hA b o rfl;omega
  have e0:Bq w w.drew:=ae.drew;have hz:=E9.z;have P:=Lc (a:=47) (b:=10) dQ d w.drew ht (M9.below e0 U);have C:Vy (∀I,Bq w I->Zq 23 _ I _):=λ I i=>N1 (L:=L) (swp 47 10 d) m I (E9.grown i) (st.below i (Oq st.pos)) (Tg S.ls i.size);have ad:Vy (ldE (swp 47 10 d) m≠0->rQ 1 [m] d x (bU (ldE (swp 47 10 d) m).toNat) x):=λ h0=>SP (SQ ⟨rfl,m,rfl,SQ ⟨h0,rfl,rfl⟩⟩);have ac:Vy (∀s,ldE (swp 47 10 d) m=0->(∃W H cs,cH (swp 47 10 d)=.good W H cs/\Z s=Z (⟨W,H,m.toNat,blocks cs,dZ cs⟩:Ses))->rQ 1 [m] d x okS (Z s)):=λ s h0 ⟨W,H,cs,h1,h2⟩=>SP (SQ ⟨rfl,m,rfl,SP ⟨h0,W,H,cs,h1,rfl,h2⟩⟩);have F:Vy (∀I,Bq w I->Cq I b2 0 (Pq qb)/\Cq I b o (J m)):=λ I h=>⟨(h.cell (SZ w _ c2)).trans c2,(h.cell (SZ w _ N)).trans N⟩;have CK:Vy (∀w1 g,Bq w w1->ai (λ k=>k=qb) w1 g->Cq g b2 0 (Pq qb)/\Cq g b o (J m)):=λ w1 g i K9=>⟨K9.cellOf (F.out _ i).1 u,K9.cellOf (F.out _ i).2 ZR⟩;have HS:=qH S;have HV:Vy (VOk n x/\256<=n):=⟨V,hn⟩;have HB:Vy (∀(I:M) {j:Oa}{q:Vr}{f:Int}{y:Option Ses->Prop},Bq w I->mS I L f y j q->Zq 20 #[Pq qb,.pointer j,q] I λ e WX=>yV I WX qb j q e):=λ I {j q f y} i B=>xG I (S.below i) B.ev;clear S V hn h hA c2 N st u ZR E9 M9 hz ht;generalize swp 47 10 d=tz at *;go_enter func22,ntmps22;go_upto_region 1 with fail
  go_region_held3 (λ I=>D I (O b2 0)=Z (Pq qb)/\Cq I b o (J m)) (first|with_reducible exact F.out _ e0|with_reducible exact F.out _ e1|with_reducible exact F.out _ t|with_reducible exact CK.out _ _ t k3)
   (first
    |(go_at_call 24;refine Q9 P λ w1 Y=>?_;have e1:=aj e0 Y;have R:=C.out w1 e1;clear C)
    |(go_at_call 23;refine R.mono ?_;rintro r g ⟨j,q,rfl,B,X⟩;have t:=aj e1 X;have T:=HB.out g t B;have HL:Vy (mS g L _ _ j q):=B;clear B HB)
    |(go_at_call 20;refine T.mono ?_;rintro r w3 l;have ab:Vy (yV g w3 qb j q r):=l;have k3:=l.X';obtain⟨v,am,rfl,Wx⟩:=l;clear Wx))
  go_wp2;go_ret2;exact HL.out.line (HS.out.below t) HV.out.1 HV.out.2 (ai.kl t) (t.cell (p:=O qb 1) (show qb<G w.heap by have:=HS.out.lq;have:=HS.out.ls;omega)) (by have:=ab.out;exact this) ad.out ac.out
def gH (w:M) (qb L k gf:Nat) (cs:List Vr):Prop:=∃b2,b2≠qb/\b2<L/\D w (O b2 0)=Z (Pq qb)/\((k=0/\gf=19/\cs=[Pq b2])\/(k=1/\gf=22/\cs=[Pq b2])\/(2<=k/\gf=49/\∃b3 g cs3,cs=[Pq b2,Pq b3]/\b3≠qb/\b3<L/\D w (O b3 0)=Z (.func (.func g) #[] cs3.toArray)/\fK w qb L k g cs3))
theorem gH.runs (h:gH w qb L k gf cs):∀(a:Array Vr) (w1:M),(callFunc gf a).run Vyj w1=.ok (.enter gf a) w1:=by
 intro a w1;obtain⟨_,_,_,_,h⟩:=h;rcases h with⟨_,rfl,_⟩|⟨_,rfl,_⟩|⟨_,rfl,_⟩<;>kernel_rfl
theorem PZ {c:Lu}(w:M)(E9:Env w)(v:Mx w)(st:az w)(dg:ch w)(G9:gH w qb L k gf cs)(S:fJ w L qb x)(V:VOk n x)(f:256<=n)(a:n<=900000)(h:de w A ns)(m:∀b o,A=Z (O b o)->qb<b)(i:K ns<=2000)(y:K c<=100000)(l:bg k=-1\/bg k=K ns) :
  Zq gf (.slice A (K ns) cap::.string (str c)::cs).toArray w λ e I=>xF w I k L qb ns c x n e:=by
 obtain⟨b2,t,s,d,G9⟩:=G9;rcases G9 with⟨rfl,rfl,rfl⟩|⟨rfl,rfl,rfl⟩|⟨j,rfl,B,g,u,rfl,z,r,q,p⟩
 exact Lt w st S V f t d h m (by grind [bg])
 grind [Ia,bg]
 exact Lr w E9 v dg j S V a s r d q p h i l
end
end
section
open Go.RowKit Go.Maps
def iB (P:Program) (k:TypeId) (w:M) (b:Nat) (f:Lu->Option Vr) (n:Nat):Prop :=
 ∃D9:DataW Vr,w.ownsMap P k pJ b n D9/\Maps.size D9=n/\∀a:Lu,Maps.has D9 (.string a)=(f a).isSome/\∀v,f a=Z v->∀z,D9.atKey (.string a) z=.held v
def pG (f:Lu->Option Vr) (a:Lu) (v:Vr):Lu->Option Value:=λ i=>if i=a then Z v else f i
section
variable {P : Program} {k e t : TypeId} {w : M} {b n : Nat} {f : List UInt8 → Option Vr}
theorem iB.made (w:M)(P:Program)(k:TypeId):iB P k (E w (.map #[] 0)) (G w.heap) (λ _=>UP) 0 :=
 ⟨_,World.ownsMap_made w P k pJ,rfl,λ a=>⟨rfl,λ v h=>by cases h⟩⟩
theorem iB.lt (h:iB P k w b f n):b<G w.heap:=by obtain⟨a,h,_⟩:=h;exact h.lt
theorem iB.kept (h:iB P k w b f n)(c:I.heap[b]? = w.heap[b]?):iB P k I b f n:=by
 obtain⟨j,⟨i,a,g,e⟩,d⟩:=h;exact⟨j,⟨i,a,c.trans g,e⟩,d⟩
theorem P0 (b:P.underlying k=Z .string){a:Lu}(c:K a<=Vyf):keyOf P k (.string (str a))=Z (.string a):=by grind [str,Go.WideMaps.keyOf_string_mk,ar]
theorem iB.Ui (h:iB P k w b f n)(g:P.underlying k=Z .string)(m:P.underlying t=Z (.map k e)){z:Vr}(l:(zeroValue e).run P w=.ok z w){a:Lu}(o:K a<=Vyf){v:Vr}(d:f a=Z v) :
  (Instr.lookup t (.map (Z b)) (.string (str a)) Q).run P w=.ok (.tuple #[v,.bool Q]) w:=by
 obtain⟨x,r,_,q⟩:=h;obtain⟨i,p⟩:=q a;rw[d]at i;obtain⟨s,u,j,c⟩:=r.look_ok (string_keyed g) m l (zd:=.held z) (zp:=[]) rfl (P0 g o);rw[p v d]at c;simp only[pJ,Option.some.injEq,Prod.mk.injEq,DataW.held.injEq]at c;rw[i,c.1]at j;exact j
theorem iB.u6 (h:iB P k w b f n)(g:P.underlying k=Z .string)(m:P.underlying t=Z (.map k e)){z:Vr}(j:(zeroValue e).run P w=.ok z w){a:Lu}(o:K a<=Vyf)(l:f a=UP) :
  (Instr.lookup t (.map (Z b)) (.string (str a)) Q).run P w=.ok (.tuple #[z,.bool Vl]) w:=by
 obtain⟨s,r,_,q⟩:=h;obtain⟨d,_⟩:=q a;rw[l]at d;have p:s.atKey (.string a) (.held z)=.held z:=atKey_of_not_has d _;obtain⟨u,v,i,c⟩:=r.look_ok (string_keyed g) m j (zd:=.held z) (zp:=[]) rfl (P0 g o);rw[p]at c;simp only[pJ,Option.some.injEq,Prod.mk.injEq,DataW.held.injEq]at c;rw[d,c.1]at i;exact i
theorem FF {a i:Lu}(h:i≠a):(Lit.string i)≠.string a:=λ e=>h (by cases e;rfl)
theorem FG (a:Lu):WideAt.IsKeyLit (.string a):=trivial
theorem iB.store (h:iB P k w b f n)(g:P.underlying k=Z .string)(o:P.underlying t=Z (.map k e))(q:n<Vyf){a:Lu}(s:K a<=Vyf)(v:Vr) :
  ∃I,(Instr.mapUpdate t (.map (Z b)) (.string (str a)) v).run P w=.ok () I/\iB P k I b (pG f a v) (if (f a).isSome then n else n+1)/\w.mapTurned I b:=by
 obtain⟨y,c,m,j⟩:=h;obtain⟨I,x,p,r⟩:=c.store (string_keyed g) o q (P0 g s) (val:=v) (d:=.held v) (ps:=[]) rfl;refine⟨I,x,⟨y.put (.string a) (.held v),?_,?_,λ i=>?_⟩,r⟩;have:=LM p;rw[size_put (c.tidy (string_keyed g)),(j a).1,m]at this;exact this;rw[size_put (c.tidy (string_keyed g)),(j a).1,m];by_cases hi:i=a;subst hi;unfold pG;rw[Q5 rfl];exact⟨has_put_same c.isMap (FG i) _,λ u l z=>by cases l;exact atKey_put_same c.isMap (FG i) _ _⟩;unfold pG;rw[Q6 hi,has_put_other (FF hi)];exact⟨(j i).1,λ u l z=>by rw[atKey_put_other (FF hi)];exact(j i).2 u l z⟩
end
end
section
open Go.RowKit Go.Lib
def iK (w:M) (qb L mb:Nat):Prop:=mb≠qb/\mb<L/\∃f n,iB Vyj 9 w mb f n/\∀key,(cf key=UP->f key=UP)/\∀k,cf key=Z k->∃gf cs,f key=Z (.agg #[J (bg k),.bool (k==1),.func (.func gf) #[] cs.toArray])/\gH w qb L k gf cs
theorem fK.kl (h:fK w qb L k gf cs)(a:ai (KL qb L) w I):fK I qb L k gf cs:=by grind [fK,KL,ai.cellOf]
theorem gH.kl (h:gH w qb L k gf cs)(a:ai (KL qb L) w I):gH I qb L k gf cs:=by grind [gH,KL,fK,ai.cellOf,fK.kl]
theorem iK.kl (h:iK w qb L mb)(e:ai (KL qb L) w I):iK I qb L mb:=by
 obtain⟨d,l,f,n,c,b⟩:=h;refine⟨d,l,f,n,c.kept (e.block mb c.lt (λ q=>by rcases q with q|q;exact d q;have:L<=mb:=q;omega)),λ a=>⟨(b a).1,λ k g=>?_⟩⟩;obtain⟨gf,cs,j,i⟩:=(b a).2 k g;exact⟨gf,cs,j,i.kl e⟩
def gp (x:Option Ses) (line t:Lu) (x':Option Ses):Prop:=(cI line=UP/\t=bU 3/\x'=x)\/∃k ns tx,cI line=Z (k,ns,tx)/\rQ k ns tx x t x'
structure SeC (w:M) (L qb mb:Nat) (x:Option Ses):Prop where
 s:fJ w L qb x
 c1:D w (O qb 1)=Z (.map (Z mb))
 cm:iK w qb L mb
def ObP (w I:M) (L qb mb:Nat) (line:Lu) (x:Option Ses) (n:Int) (e:Ending):Prop:=∃t x',gp x line t x'/\oY e t/\SeC I L qb mb x'/\VOk (n+60) x'/\ai (KL qb L) w I
theorem SeC.X' {x x':Option Ses}(S:SeC w L qb mb x)(b:ai (KL qb L) w I)(h:fJ I L qb x')(a:D I (O qb 1)=D w (O qb 1)):SeC I L qb mb x':=⟨h,a.trans S.c1,S.cm.kl b⟩
theorem yW (c:UInt8)(s:Lu):K (cuZ c s)<=K s:=by grind [cuZ,ez,uS,ow,Td]
theorem sM {l:Lu}(h:1100<K l):cI l=none:=by unfold cI;rw[Q5 h]
theorem mT {l:Lu}(h:¬1100<K l)(a:cf (cuA 32 l)=UP):cI l=none:=by unfold cI;rw[Q6 h,a]
theorem oH {l:Lu}(h:¬1100<K l)(b:cf (cuA 32 l)=Z k)(a:dj k (cuZ 32 l) (cuB 32 l)=UP):cI l=none:=by unfold cI;rw[Q6 h,b];simp only[a]
theorem pH {l:Lu}{t:Lu}(h:¬1100<K l)(b:cf (cuA 32 l)=Z k)(a:dj k (cuZ 32 l) (cuB 32 l)=Z (ns,t)):cI l=Z (k,ns,t):=by unfold cI;rw[Q6 h,b];simp only[a]
theorem Ib {rest:Lu}{a:Bool}{t:Lu}(h:dj k rest a=Z (ns,t)):(bg k=-1\/bg k=K ns)/\K ns<=K rest+1/\K t<=K rest:=by grind [dj,bg,cw,pcs,cuA,cuZ,oG,qC,lS,yW]
theorem stF {a b:Vr}(c:v.oneCell'=Q):(store (O (G w.heap) 2) v).run Vyj (E w (VP #[a,b,.nilFunc] 70))=.ok () (E w (VP #[a,b,v] 70)):=by
 have e:=Um w #[a,b,.nilFunc] 70 2;have d:C' (E w (VP #[a,b,.nilFunc] 70)) (O (G w.heap) 2) v=E w (VP #[a,b,v] 70):=World.setCell_alloc_new #[a,b,.nilFunc] 70 2 v;have f:D (E w (VP #[a,b,.nilFunc] 70)) (O (G w.heap) 2)=Z .nilFunc:=by rw[Tb];rfl
 rw[run_store Vyj _ _ v _ c];simp only[f,e,d];rfl
theorem Lv {L qb:Nat}{x:Option Ses}{line:Lu}(w:M)(E9:Env w)(M9:Mx w)(st:az w)(dg:ch w)(S:SeC w L qb mb x)(V:VOk n x)(hn:256<=n)(m:n<=900000)(hl:K line<=100000) :
  Zq 32 #[Pq qb,.string (str line)] w λ e I=>ObP w I L qb mb line x n e:=by
 by_cases c:1100<K line
 ·have HP:=qH (sM c);have HS:=qH S;have HV:Vy (VOk (n+60) x):=λ s hs=>by have:=V s hs;omega
  have hz:(1100:Int)<(K line:Int):=U;have Ws:=ar line;clear E9 M9 st dg S V hn m hl c;go_enter func32,ntmps32;go_wp2;go_ret2;exact⟨bU 3,x,SQ ⟨HP.out,rfl,rfl⟩,SP ⟨[],3,dQ,dQ,rfl,rfl⟩,HS.out,HV.out,ai.refl _ _⟩
 ·have hz:¬(1100:Int)<(K line:Int):=U;have Ws:=ar line;have g:=O0 line w U M9;have d:=S.c1;have a3:=E9.z;have ZS:=lS 32 line;have X5:=yW 32 line;obtain⟨a1,ZW,f,nm,B,Yg⟩:=S.cm;have y:K (cuA 32 line)<=Vyf:=by unfold Vyf;omega
  have u:∀I,(zeroValue 70).run Vyj I=.ok (.agg #[J 0,.bool Vl,.nilFunc]) I:=zeroValue70;cases N:cf (cuA 32 line) with
  |none =>
   have F:=λ l=>iB.u6 (P:=Vyj) (k:=9) (e:=70) (t:=45) (w:=w.drewN l) (B.kept rfl) Vyh underlying45 (u _) y ((Yg _).1 N);have HP:=qH (mT c N);have HS:=qH S;have HV:Vy (VOk (n+60) x):=λ s hs=>by have:=V s hs;omega
   clear E9 M9 st dg S V hn m hl c N Yg B ZS X5 y u;generalize cuA 32 line=na at *;generalize cuZ 32 line=rs at *;generalize cuB 32 line=mo at *;go_enter func32,ntmps32;go_wp2_with fail;refine g.mono ?_;rintro e w1 ⟨rfl,l,Xr⟩;have F:=F l;have d:Cq (w.drewN l) qb 1 (.map (Z mb)):=d;have T:Bq w (w.drewN l):=Vxj ae l;rw[<- Xr]at F d T;clear Xr g;have i:Bq w (E w1 (VP #[J 0,.bool Vl,.nilFunc] 70)):=T.alloc T.size _;have q:∀o,D (E w1 (VP #[J 0,.bool Vl,.nilFunc] 70)) (O (G w1.heap) o)=#[J 0,.bool Vl,.nilFunc][o]? := λ o=>by rw[Tb]
   have p0:=q 0;have p1:=q 1;have p2:=q 2;clear q;have Wq:=stF (w:=w1) (a:=J 0) (b:=.bool Vl) (v:=.nilFunc) rfl;go_upto_region 5 with fail
   clear Wq;generalize E w1 (VP #[VN VO 0,.bool Vl,.nilFunc] 70)=w2 at *;go_wp2;go_ret2;exact⟨bU 3,x,SQ ⟨HP.out,rfl,rfl⟩,SP ⟨[],3,dQ,dQ,rfl,rfl⟩,HS.out.X' (ai.kl i) (HS.out.s.below i) (i.cell (p:=O qb 1) (aB HS.out.c1)),HV.out,ai.kl i⟩
  |some k =>
   obtain⟨gf,cs,hf,hG⟩:=(Yg _).2 k N;have F:=λ l=>iB.Ui (P:=Vyj) (k:=9) (e:=70) (t:=45) (w:=w.drewN l) (B.kept rfl) Vyh underlying45 (u _) y hf;have ao:Vy (∀I,Bq w I->Zq 62 #[.agg #[J (bg k),.bool (k==1),.func (.func gf) #[] cs.toArray],.string (str (cuZ 32 line)),.bool (cuB 32 line)] I λ e H=>O3 I H k (cuZ 32 line) (cuB 32 line) e):=λ I i=>Lh I (E9.grown i) (M9.below i U) U;have HS:=qH S;have HV:Vy (VOk n x/\256<=n/\n<=900000):=⟨V,hn,m⟩;have a0:=qH hG.runs;have au:Vy (dj k (cuZ 32 line) (cuB 32 line)=UP->cI line=UP):=λ h=>oH c N h;have ap:Vy (∀ns t,dj k (cuZ 32 line) (cuB 32 line)=Z (ns,t)->cI line=Z (k,ns,t)/\(bg k=-1\/bg k=K ns)/\K ns<=2000/\K t<=100000):=λ ns t h=>by
    obtain⟨h1,h2,h3⟩:=Ib h;exact⟨pH c N h,h1,U,U⟩
   have aw:Vy (∀(I:M) {ns:List Int}{t:Lu}{A:Oa}(cap:Nat),Bq w I->de I A ns->(∀b o,A=Z (O b o)->qb<b)->K ns<=2000->K t<=100000->(bg k=-1\/bg k=K ns)->Zq gf (.slice A (K ns) cap::.string (str t)::cs).toArray I λ e H=>xF I H k L qb ns t x n e):=λ I {ns t A} cap i hO R hl ht hc=>PZ I (E9.grown i) (M9.below i U) (st.below i (Oq st.pos)) (dg.below i) (hG.kl (ai.kl i)) (S.s.below i) V hn m hO R hl ht hc;have HQ:Vy (qb<G w.heap):=aB S.c1;clear E9 M9 st dg S V hn m hl c N Yg B ZS X5 y u hf hG;generalize cuA 32 line=na at *;generalize cuZ 32 line=rs at *;generalize cuB 32 line=mo at *;go_enter func32,ntmps32;go_wp2_with fail;refine g.mono ?_;rintro e w1 ⟨rfl,l,Xr⟩;have F:=F l;have d:Cq (w.drewN l) qb 1 (.map (Z mb)):=d;have T:Bq w (w.drewN l):=Vxj ae l;rw[<- Xr]at F d T;clear Xr g;have b2:Bq w (E w1 (VP #[J (bg k),.bool (k==1),.func (.func gf) #[] cs.toArray] 70)):=T.alloc T.size _;have q:∀o,D (E w1 (VP #[J (bg k),.bool (k==1),.func (.func gf) #[] cs.toArray] 70)) (O (G w1.heap) o)=#[J (bg k),.bool (k==1),.func (.func gf) #[] cs.toArray][o]? := λ o=>by rw[Tb]
   have p0:=q 0;have p1:=q 1;have p2:=q 2;have ab:=ao.out _ b2;clear q;have Wq:=stF (w:=w1) (a:=J (bg k)) (b:=.bool (k==1)) (v:=.func (.func gf) #[] cs.toArray) rfl;go_upto_region 5 with fail
   clear d F Wq;generalize E w1 (VP #[VN VO (bg k),.bool (k==1),.func (.func gf) #[] cs.toArray] 70)=w2 at *;go_wp2_with fail;refine ab.mono ?_;rintro e X ⟨hb3,Wx⟩;have W:=aj b2 hb3;have p2:=al hb3 p2;clear p0 p1 ab;rcases Wx with⟨ns,t,A,cap,hr,rfl,hO,R⟩|⟨hr,v,t,rfl⟩
   ·obtain⟨h1,h2,h3,h4⟩:=ap.out ns t hr;have ax:=HQ.out;have aL:=b2.size;have ac:=aw.out X cap W hO (λ b o e=>by have:=R b o e;omega) h3 h4 h2;have ay:Zq gf (.slice A (K ns) cap::.string (str t)::cs).toArray X λ e H=>∃v Y C x',e=VJ (.tuple #[.string (str v),Y])/\rQ k ns t x C x'/\yU v Y C/\fJ H L qb x'/\VOk (n+60) x'/\ai (KL qb L) X H/\D H (O qb 1)=D X (O qb 1):=ac.mono λ e H ⟨C,x',k1,k2,k3,k4,k5,k6⟩=>by
     obtain⟨v,Y,j1,j2⟩:=k2.two;exact⟨v,Y,C,x',j1,k1,j2,k3,k4,k5,k6⟩
    have aN:=qH h1;have a2:=a0.out;clear h1 h2 h3 h4 hO R hr ac ax aL aw ap au ao;go_wp2_with (first|(go_at_fn (gf);refine ay.mono ?_;rintro r w4 ⟨v,Y,C,x',rfl,R,hR,am,ag,an,ad⟩));have HE:Vy (rQ k ns t x C x'/\yU v Y C/\fJ w4 L qb x'/\VOk (n+60) x'/\ai (KL qb L) X w4/\D w4 (O qb 1)=D X (O qb 1)):=⟨R,hR,am,ag,an,ad⟩;clear R hR am ag an ad;go_wp2;go_ret2;obtain⟨k1,k2,k3,k4,k5,k6⟩:=HE.out;have hK:=(ai.kl (L:=L) (qb:=qb) W).trans k5 (λ _ _ h=>h);exact⟨C,x',SP ⟨k,ns,t,aN.out,k1⟩,k2.ret rfl,HS.out.X' hK k3 (k6.trans (W.cell (p:=O qb 1) HQ.out)),k4,hK⟩
   ·have HP:=qH (au.out hr);clear hr;go_wp2;go_ret2;exact⟨bU 3,x,SQ ⟨HP.out,rfl,rfl⟩,SP ⟨[],3,dQ,dQ,rfl,rfl⟩,HS.out.X' (ai.kl W) (HS.out.s.below W) (W.cell (p:=O qb 1) HQ.out),λ s hs=>by have:=HV.out.1 s hs;omega,ai.kl W⟩
end
def xH (key:Lu):Option Value:=match cf key with
 |some k=>if k=1 then UP else Z (J (bg k))
 |none=>UP
theorem mU {b n N:Nat}{f:Lu->Option Vr}(h:iB Vyj 9 w b f n)(j:n<=N)(m:N<=100)(a:Lu)(l:K a<=100)(v:Vr) :
  ∃I,(Instr.mapUpdate 59 (.map (Z b)) (.string (str a)) v).run Vyj w=.ok () I/\(∃c,c<=N+1/\iB Vyj 9 I b (pG f a v) c)/\ai (λ k=>k=b) w I:=by
 obtain⟨I,i,g,d⟩:=h.store (e:=3) (t:=59) Vyh underlying59 mQ (a:=a) mQ v;exact⟨I,i,⟨_,by split<;>omega,g⟩,aA d⟩
theorem N3:pG (pG (pG (pG (pG (pG (pG (pG (λ _=>UP) [110,101,119] (J 3)) [98,108,111,99,107] (J (-1))) [102,114,101,101] (J (-1))) [108,111,111,107] (J 2)) [97,115,107] (J 2)) [98,97,116,99,104] (J (-1))) [115,116,97,116,115] (J 0)) [115,97,118,101] (J 0)=xH:=by
 funext key
 by_cases i:key=[110,101,119];subst i;rfl;by_cases h:key=[108,111,97,100];subst h;rfl;by_cases g:key=[98,108,111,99,107];subst g;rfl;by_cases f:key=[102,114,101,101];subst f;rfl;by_cases e:key=[108,111,111,107];subst e;rfl;by_cases d:key=[97,115,107];subst d;rfl;by_cases c:key=[98,97,116,99,104];subst c;rfl;by_cases b:key=[115,116,97,116,115];subst b;rfl;by_cases a:key=[115,97,118,101];subst a;rfl;unfold xH cf pG;simp only[Q6 i,Q6 h,Q6 g,Q6 f,Q6 e,Q6 d,Q6 c,Q6 b,Q6 a]
structure Rs (w w1 w2 w3 w4 w5 w6 w7 w8:M):Prop where
 r1:(Instr.mapUpdate 59 (.map (Z (G w.heap))) (.string ⟨#[110,101,119]⟩) (J 3)).run Vyj (E w (.map #[] 0))=.ok () w1
 r2:(Instr.mapUpdate 59 (.map (Z (G w.heap))) (.string ⟨#[98,108,111,99,107]⟩) (J (-1))).run Vyj w1=.ok () w2
 r3:(Instr.mapUpdate 59 (.map (Z (G w.heap))) (.string ⟨#[102,114,101,101]⟩) (J (-1))).run Vyj w2=.ok () w3
 r4:(Instr.mapUpdate 59 (.map (Z (G w.heap))) (.string ⟨#[108,111,111,107]⟩) (J 2)).run Vyj w3=.ok () w4
 r5:(Instr.mapUpdate 59 (.map (Z (G w.heap))) (.string ⟨#[97,115,107]⟩) (J 2)).run Vyj w4=.ok () w5
 r6:(Instr.mapUpdate 59 (.map (Z (G w.heap))) (.string ⟨#[98,97,116,99,104]⟩) (J (-1))).run Vyj w5=.ok () w6
 r7:(Instr.mapUpdate 59 (.map (Z (G w.heap))) (.string ⟨#[115,116,97,116,115]⟩) (J 0)).run Vyj w6=.ok () w7
 r8:(Instr.mapUpdate 59 (.map (Z (G w.heap))) (.string ⟨#[115,97,118,101]⟩) (J 0)).run Vyj w7=.ok () w8
 m:∃n,iB Vyj 9 w8 (G w.heap) xH n
 b:Vw (G w.heap) w w8
theorem N4 (w:M):∃w1 i g f d c b a,Rs w w1 i g f d c b a:=by
 obtain⟨w1,t,⟨n1,R,C⟩,k1⟩:=mU (iB.made w Vyj 9) (Nat.le_refl 0) dQ [110,101,119] dQ (J 3);obtain⟨i,s,⟨n2,P,B⟩,Y⟩:=mU C R dQ [98,108,111,99,107] dQ (J (-1));obtain⟨g,r,⟨n3,N,A⟩,X⟩:=mU B P dQ [102,114,101,101] dQ (J (-1));obtain⟨f,q,⟨n4,L,z⟩,W⟩:=mU A N dQ [108,111,111,107] dQ (J 2);obtain⟨d,p,⟨n5,I,y⟩,V⟩:=mU z L dQ [97,115,107] dQ (J 2);obtain⟨c,o,⟨n6,H,x⟩,T⟩:=mU y I dQ [98,97,116,99,104] dQ (J (-1));obtain⟨b,n,⟨n7,F,v⟩,S⟩:=mU x H dQ [115,116,97,116,115] dQ (J 0);obtain⟨a,m,⟨u,l8,j⟩,k8⟩:=mU v F dQ [115,97,118,101] dQ (J 0);rw[N3]at j;have l:Bq w (E w (.map #[] 0)):=ae.alloc aa _;have K9:=((((((k1.trans Y (λ _ _ h=>h)).trans X (λ _ _ h=>h)).trans W (λ _ _ h=>h)).trans V (λ _ _ h=>h)).trans T (λ _ _ h=>h)).trans S (λ _ _ h=>h)).trans k8 (λ _ _ h=>h);exact⟨w1,i,g,f,d,c,b,a,t,s,r,q,p,o,n,m,⟨u,j⟩,l.trans (K9.Z' l.size (λ k e=>Nat.le_of_eq e.symm))⟩
theorem uW (c:UInt8)(s:Lu):(cuB c s=Q->s=cuA c s++c::cuZ c s)/\(cuB c s=Vl->s=cuA c s/\cuZ c s=[]):=by grind [cuB,cuA,cuZ,ez,uS,ow]
def tlW (l:Lu):List Lu:=if cuB 32 l=Q then pcs 32 (cuZ 32 l) else []
theorem rS (l:Lu):pcs 32 l=cuA 32 l::tlW l:=Fy 32 l
theorem gq {l:Lu}(a:¬1100<K l)(b:cf (cuA 32 l)=Z k)(c:k≠1):(∀ns,cw (tlW l)=Z ns->(bg k=-1\/bg k=K ns)->cI l=Z (k,ns,[]))/\(∀ns,cw (tlW l)=Z ns->¬(bg k=-1\/bg k=K ns)->cI l=UP)/\(cw (tlW l)=UP->cI l=UP):=by grind [dj,cuZ,cuB,cw,tlW,bg,pcs,pH,oH]
theorem Lw {a:Lu}(h:cf a=Z 1):a=[108,111,97,100]:=by grind [cf]
theorem N5 {l:Lu}(d:¬1100<K l)(c:¬(5<=K l/\l.take 5=[108,111,97,100,32]))(b:cf (cuA 32 l)=Z 1):cI l=none:=by
 have a:cuB 32 l=false:=by
  cases a:cuB 32 l with
  |false=>rfl
  |true =>
   have e:=(uW 32 l).1 a;rw[Lw b]at e;refine Q8 ⟨?_,?_⟩ c;rw[e];simp;rw[e];rfl
 refine oH d b ?_;rw[a];rfl
theorem DE {l rest:Lu}(d:¬1100<K l)(e:l=[108,111,97,100]++32::rest):cI l=(fk (cuA 32 rest)).map λ v=>(1,[v],cuZ 32 rest):=by
 have a:Lib.cut l [32]=([108,111,97,100],rest,Q):=by rw[e];exact ow dQ
 have h:cuA 32 l=[108,111,97,100]:=by unfold cuA;rw[a]
 have b:cuZ 32 l=rest:=by unfold cuZ;rw[a]
 have g:cuB 32 l=true:=by unfold cuB;rw[a]
 have f:cf (cuA 32 l)=Z 1:=by rw[h];rfl
 cases c:fk (cuA 32 rest) with
 |none =>
  refine oH d f ?_;rw[b,g];unfold dj;rw[Q5 rfl,Q5 rfl,lP (KZ 32 rest)];unfold cw;rw[c]
 |some v =>
  refine pH d f ?_;rw[b,g];unfold dj;rw[Q5 rfl,Q5 rfl,lP (KZ 32 rest)];unfold cw;rw[c];rfl
def Sr (k:Nat):Lu:=if k=0 then [110,101,119] else if k=1 then [108,111,97,100] else if k=2 then [98,108,111,99,107] else if k=3 then [102,114,101,101] else if k=4 then [108,111,111,107] else if k=5 then [97,115,107] else if k=6 then [98,97,116,99,104] else if k=7 then [115,116,97,116,115] else [115,97,118,101]
theorem FH {a:Lu}(h:cf a=Z k):a=Sr k/\k<=8:=by
 unfold cf at h;split at h
 next b=>cases h;exact⟨b,dQ⟩
 split at h
 next b=>cases h;exact⟨b,dQ⟩
 split at h
 next b=>cases h;exact⟨b,dQ⟩
 split at h
 next b=>cases h;exact⟨b,dQ⟩
 split at h
 next b=>cases h;exact⟨b,dQ⟩
 split at h
 next b=>cases h;exact⟨b,dQ⟩
 split at h
 next b=>cases h;exact⟨b,dQ⟩
 split at h
 next b=>cases h;exact⟨b,dQ⟩
 split at h
 next b=>cases h;exact⟨b,dQ⟩
 cases h
theorem DF {l:Lu}(a:¬1100<K l)(c:¬(5<=K l/\l.take 5=[108,111,97,100,32])):(xH (cuA 32 l)=UP/\cI l=UP)\/∃k,cf (cuA 32 l)=Z k/\k≠1/\xH (cuA 32 l)=Z (J (bg k)):=by
 unfold xH;cases b:cf (cuA 32 l) with
 |none=>exact SQ ⟨rfl,mT a b⟩
 |some k =>
  by_cases d:k=1
  grind [N5]
  grind
theorem P3 (k:Nat):bg k=-1\/(0<=bg k/\bg k<=3):=by grind [bg]
section
open Go
theorem LC:∀{l:List Bool}{i:Nat},l[i]? = Z Vl->(l.set i Q).count Vl+1=l.count false:=by grind
section
variable {P : Program} {ops : Array Oper} {Q9 : Exit → Act → M → Prop} {md : Region.Mode} {L : Array Bool}
theorem rT (h:i∈Region.ready md ops L):L[i]? = Z false:=by
 unfold Region.ready at h;rw[TS,Bool.and_eq_true]at h;have c:=h.2.1;cases a:L[i]? with
 |none=>simp[Ub,a]at c
 |some b=>cases b with
  |false=>rfl
  |true=>simp[Ub,a]at c
theorem LD (h:i∈Region.ready md ops L):i<ops.size:=by grind [Region.ready]
theorem Ic {o:Oper}(h:i∈Region.ready md ops L)(f:ops[i]? = Z o){e:Edge}(g:e∈o.after.toList)(j:Region.binds md e=Q):L[e.on]? = Z true:=by
 unfold Region.ready at h;rw[TS,Bool.and_eq_true]at h;have c:=h.2.2;rw[f]at c;simp only[Vd,Option.getD_some]at c;have a:=Array.all_eq_true_iff_forall_mem.1 c e (Array.mem_toList_iff.1 g);rw[j]at a;cases d:L[e.on]? with
 |none=>simp[Ub,d]at a
 |some b=>cases b with
  |true=>rfl
  |false=>simp[Ub,d]at a
theorem Ie (l:L.size=ops.size)(g:∀(i:Nat) (o:Oper),ops[i]? = Z o->∀e∈o.after.toList,Edge.on e<i)(h:Region.ready md ops L=[]):∀i,i<ops.size->L[i]? = Z true:=by
 intro i
 induction i using Nat.strongRecOn with
 |_ i d =>
  intro hi;have a:i<L.size:=U;cases c:L[i] with
  |true=>rw[UF a,c]
  |false =>
   exfalso;have b:i∈Region.ready md ops L:=by
    unfold Region.ready;rw[TS,Bool.and_eq_true];refine⟨Up.2 hi,?_,?_⟩;simp[Ub,UF a,c];rw[UF hi];simp only[Vd,Option.getD_some];rw[Array.all_eq_true_iff_forall_mem];intro e f;have k:=g i ops[i] (UF hi) e (Array.mem_toList_iff.2 f);have j:=d e.on k U;simp[Ub,j]
   rw[h]at b;cases b
theorem xI {I9:Array Bool->Act->M->Prop}(f:∀L a w i,I9 L a w->i∈Region.ready md ops L->wpOp P ops Q9 i (I9 (L.setIfInBounds i Q)) a w)(b:∀L a w,I9 L a w->Region.ready md ops L=[]->Q9 .normal a w) :
  ∀(fuel:Nat) (L:Array Bool) (a:Act) (w:M),I9 L a w->L.toList.count Vl<=fuel->wpAny P md ops Q9 fuel L a w
 |0,L,a,w,d,g=>by
  have c:Region.ready md ops L=[]:=by
   cases h:Region.ready md ops L with
   |nil=>rfl
   |cons i r =>
    have e:=rT (md:=md) (ops:=ops) (L:=L) (i:=i) (by grind);have j:=LC (l:=L.toList) (i:=i) (by simpa using e);omega
  exact⟨c,b L a w d c⟩
 |fuel+1,L,a,w,d,g=>by
  refine⟨λ c=>b L a w d c,λ i hi=>?_⟩;refine wpOp_mono ?_ (f L a w i d hi);intro m I k;refine xI f b fuel _ m I k ?_;have e:=rT hi;have j:=LC (l:=L.toList) (i:=i) (by simpa using e);rw[Array.toList_setIfInBounds];omega
theorem wo {id:Nat}{a:Act}(c:P.follows .mixedOrders=Q){I9:Array Bool->Act->M->Prop}(d:I9 (Array.replicate ops.size Vl) a { w with drawn:=w.drawn+1 })(e:∀L a w i,I9 L a w->i∈Region.ready .any ops L->wpOp P ops Q9 i (I9 (L.setIfInBounds i Q)) a w)(b:∀L a w,I9 L a w->Region.ready .any ops L=[]->Q9 .normal a w) :
  (Code.region id ops Q).wp P Q9 a w:=by
 refine wp_region_any c (xI e b _ _ _ _ d ?_);rw[Array.toList_replicate];exact Tg Vx sQ
end
end
section
open Go.RowKit Go.Lib
theorem Ig (b:Bool)(w:M) :
  Zq 26 #[.bool b] w λ e I=>Bq w I/\∃a,e=VJ (.func (.func 50) #[] #[Pq a])/\G w.heap<=a/\a<G I.heap/\D I (O a 0)=Z (.bool b):=by
 have g:Bq w (E w (VP #[.bool b] 4)):=ae.alloc aa _;have c:D (E w (VP #[.bool b] 4)) (O (G w.heap) 0)=Z (.bool b):=by rw[Tb];rfl
 have f:G w.heap<G (E w (VP #[.bool b] 4)).heap:=aB c;have d:Vy (Bq w (E w (VP #[.bool b] 4))/\G w.heap<G (E w (VP #[.bool b] 4)).heap/\D (E w (VP #[.bool b] 4)) (O (G w.heap) 0)=Z (.bool b)):=⟨g,f,c⟩;clear g c f;go_enter func26,ntmps26;go_wp2;go_ret;exact⟨d.out.1,_,rfl,aa,d.out.2.1,d.out.2.2⟩
theorem xJ (qb g:Nat)(cs:List Vr)(w:M) :
  Zq 25 #[Pq qb,.func (.func g) #[] cs.toArray] w λ e I=>Bq w I/\∃d c,e=VJ (.func (.func 49) #[] #[Pq d,Pq c])/\G w.heap<=d/\d<G I.heap/\G w.heap<=c/\c<G I.heap/\D I (O d 0)=Z (Pq qb)/\D I (O c 0)=Z (.func (.func g) #[] cs.toArray):=by
 have i:D ((E w (VP #[Pq qb] 43)).alloc (VP #[.func (.func g) #[] cs.toArray] 74)) (O (G w.heap+1) 0)=Z (.func (.func g) #[] cs.toArray):=by
  have:G (E w (VP #[Pq qb] 43)).heap=G w.heap+1:=by simp
  rw[<- this,Tb];rfl
 have f:Bq w (E w (VP #[Pq qb] 43)):=ae.alloc aa _;have a:Bq w ((E w (VP #[Pq qb] 43)).alloc (VP #[.func (.func g) #[] cs.toArray] 74)):=f.alloc f.size _;have l:D (E w (VP #[Pq qb] 43)) (O (G w.heap) 0)=Z (Pq qb):=by rw[Tb];rfl
 have hb3:Bq (E w (VP #[Pq qb] 43)) ((E w (VP #[Pq qb] 43)).alloc (VP #[.func (.func g) #[] cs.toArray] 74)):=ae.alloc aa _;have h:=al hb3 l;have k:=aB i;have j:=aB h;have b:Vy (_/\_/\_/\_/\_):=⟨a,j,k,h,i⟩;clear i f a l hb3 h k j;go_enter func25,ntmps25;go_wp2;go_ret;exact⟨b.out.1,_,_,rfl,aa,b.out.2.1,Nat.le_succ _,b.out.2.2.1,b.out.2.2.2.1,b.out.2.2.2.2⟩
end
section
open Go.RowKit Go.Lib
section
variable {a : Act} {o : Oper} {w : M} {v : Vr}
theorem Ru (b:o.op=.makeFunc (.func gf) #[] #[.tmp 1])(c:a.eval (.tmp 1)=v):(execOp a.eval o).run Vyj w=.ok (.value (.func (.func gf) #[] #[v])) w:=by
 unfold execOp;subst c;simp only[b];kernel_rfl
theorem P4 (b:o.op=.makeMap 45 UP):(execOp a.eval o).run Vyj w=.ok (.value (.map (Z (G w.heap)))) (E w (.map #[] 0)):=by
 unfold execOp;simp only[b];rfl
theorem Rv {b:Nat}(c:o.op=.load 43 (.tmp 1))(d:a.eval (.tmp 1)=Pq b)(e:Cq w b 0 v):(execOp a.eval o).run Vyj w=.ok (.value v) w:=by
 unfold execOp;simp only[c,d];go_simp
 done
theorem P5 {cs:Array Vr}(b:o.op=.build 70 #[(0,.const (J n)),(2,.tmp d)])(e:a.eval (.tmp d)=.func (.func gf) #[] cs):(execOp a.eval o).run Vyj w=.ok (.value (.agg #[J n,.bool Vl,.func (.func gf) #[] cs])) w:=by
 have c:prog.built 70 [(0,J n),(2,.func (.func gf) #[] cs)]=Z #[J n,.bool Vl,.func (.func gf) #[] cs]:=kQ;unfold execOp;simp only[b];have:(#[(0,Operand.const (J n)),(2,.tmp d)].map λ (i,x)=>(i,a.eval x))=#[(0,J n),(2,.func (.func gf) #[] cs)]:=by rw[<- e];kernel_rfl
 rw[this];simp only[Sem.run_bind,run_build w 70 _ _ c,Result.andThen_ok];rfl
theorem P6 {cs:Array Vr}(b:o.op=.build 70 #[(0,.const (J n)),(1,.const (.bool Q)),(2,.tmp d)])(e:a.eval (.tmp d)=.func (.func gf) #[] cs):(execOp a.eval o).run Vyj w=.ok (.value (.agg #[J n,.bool Q,.func (.func gf) #[] cs])) w:=by
 have c:prog.built 70 [(0,J n),(1,.bool Q),(2,.func (.func gf) #[] cs)]=Z #[J n,.bool Q,.func (.func gf) #[] cs]:=kQ;unfold execOp;simp only[b];have:(#[(0,Operand.const (J n)),(1,.const (.bool Q)),(2,.tmp d)].map λ (i,x)=>(i,a.eval x))=#[(0,J n),(1,.bool Q),(2,.func (.func gf) #[] cs)]:=by rw[<- e];kernel_rfl
 rw[this];simp only[Sem.run_bind,run_build w 70 _ _ c,Result.andThen_ok];rfl
theorem P7 {key m x:Vr}(b:o.op=.insert 45 (.tmp 3) (.const key) (.tmp d))(f:a.eval (.tmp 3)=m)(e:a.eval (.tmp d)=x)(h:(Instr.mapUpdate 45 m key x).run Vyj w=.ok () I):(execOp a.eval o).run Vyj w=.ok .skip I:=by
 unfold execOp;subst f e;have c:a.eval (.const key)=key:=rfl;simp only[b,c,Sem.run_bind,h,Result.andThen_ok];rfl
theorem Qa {b:Bool}(c:o.op=.call { callee:=.value (.func 26),args:=#[.const (.bool b)],argTypes:=#[4] }):(execOp a.eval o).run Vyj w=.ok (.enter 26 #[.bool b]) w:=by
 unfold execOp;simp only[c];kernel_rfl
theorem Qb {g:Nat}{p:Vr}(b:o.op=.call { callee:=.value (.func 25),args:=#[.tmp d,.func g],argTypes:=#[43,74] })(c:a.eval (.tmp d)=p):(execOp a.eval o).run Vyj w=.ok (.enter 25 #[p,.func (.func g) #[] #[]]) w:=by
 unfold execOp;subst c;simp only[b];kernel_rfl
theorem N6 {p f:Vr}(b:o.op=.call { callee:=.value (.func 25),args:=#[.tmp d,.tmp e],argTypes:=#[43,74] })(g:a.eval (.tmp d)=p)(c:a.eval (.tmp e)=f):(execOp a.eval o).run Vyj w=.ok (.enter 25 #[p,f]) w:=by
 unfold execOp;subst g c;simp only[b];kernel_rfl
theorem Pb (b:o.op=.move (.tmp d)\/o.op=.assign (.tmp d)):(execOp a.eval o).run Vyj w=.ok (.value (a.eval (.tmp d))) w:=by
 unfold execOp;rcases b with b|b<;>simp only[b]<;>rfl
end
end
section
open Go.RowKit Go.Lib
inductive Sp where
 |top
 |ptr
 |dov (k:Nat)
 |cmv (k:Nat)
 |inv (k:Nat)
def qG (w:M) (qb:Nat):Sp->Vr->Prop
 |.top,_=>True
 |.ptr,v=>v=Pq qb
 |.dov k,v=>∃gf cs,v=.func (.func gf) #[] cs.toArray/\gH w qb (G w.heap) k gf cs
 |.cmv k,v=>∃gf cs,v=.agg #[J (bg k),.bool (k==1),.func (.func gf) #[] cs.toArray]/\gH w qb (G w.heap) k gf cs
 |.inv k,v=>∃g cs,v=.func (.func g) #[] cs.toArray/\fK w qb (G w.heap) k g cs
structure yX (w I:M):Prop where
 sz:G w.heap<=G I.heap
 c:∀p v,D w p=Z v->D I p=Z v
theorem yX.below (a:Bq w I):yX w I:=⟨a.size,λ _ _ h=>al a h⟩
theorem fK.more (h:fK w qb (G w.heap) k gf cs)(a:yX w I):fK I qb (G I.heap) k gf cs:=by
 have j:=a.sz;rcases h with h|h|h|h|h|⟨g,f,i,e,d,l,b⟩
 exact SQ h;exact SP (SQ h);exact SP (SP (SQ h));exact SP (SP (SP (SQ h)));exact SP (SP (SP (SP (SQ h))));exact SP (SP (SP (SP (SP ⟨g,f,i,e,d,U,a.c _ _ b⟩))))
theorem gH.more (h:gH w qb (G w.heap) k gf cs)(a:yX w I):gH I qb (G I.heap) k gf cs:=by
 have q:=a.sz;obtain⟨b2,n,r,m,h⟩:=h;refine⟨b2,n,U,a.c _ _ m,?_⟩;rcases h with h|h|⟨l,j,o,g,b,i,f,p,e,d⟩
 exact SQ h;exact SP (SQ h);exact SP (SP ⟨l,j,o,g,b,i,f,U,a.c _ _ e,d.more a⟩)
theorem qG.more (a:yX w I):∀{s:Sp}{v:Vr},qG w qb s v->qG I qb s v
 |.top,_,_=>trivial
 |.ptr,_,h=>h
 |.dov _,_,⟨gf,cs,h,g⟩=>⟨gf,cs,h,g.more a⟩
 |.cmv _,_,⟨gf,cs,h,g⟩=>⟨gf,cs,h,g.more a⟩
 |.inv _,_,⟨gf,cs,h,g⟩=>⟨gf,cs,h,g.more a⟩
def Sp.isTop:Sp->Bool
 |.top=>Q
 |_=>Vl
def spL:List Sp:=[.top,.dov 0,.cmv 0,.top,.dov 1,.cmv 1,.top,.ptr,.inv 2,.dov 2,.cmv 2,.top,.ptr,.inv 3,.dov 3,.cmv 3,.top,.ptr,.dov 4,.cmv 4,.top,.ptr,.dov 5,.cmv 5,.top,.ptr,.dov 6,.cmv 6,.top,.ptr,.dov 7,.cmv 7,.top,.ptr,.dov 8,.cmv 8,.top]
def spT (i:Nat):Sp:=spL.getD i .top
def dtL:Ln:=[3,4,5,0,6,7,0,8,9,10,11,0,12,13,14,15,0,16,17,18,0,19,20,21,0,22,23,24,0,25,26,27,0,28,29,30,0]
def dtT (i:Nat):Nat:=dtL.getD i 0
def jL (k:Nat):Nat:=[3,6,11,16,20,24,28,32,36].getD k 36
theorem Qc:((Ud 37).all λ i=>(spT i).isTop || (decide (dtT i≠1)&&decide (dtT i≠2)&&decide (dtT i≠3)&&decide (dtT i<31)&&(Ud 37).all λ j=>(spT j).isTop || decide (i=j) || decide (dtT i≠dtT j)))=true:=kQ
theorem yY (hi:i<37)(a:(spT i).isTop=Vl):dtT i≠1/\dtT i≠2/\dtT i≠3/\dtT i<31/\∀j,j<37->(spT j).isTop=Vl->i≠j->dtT i≠dtT j:=by grind [Sp.isTop,spT,dtT,Uu,Qc,Q3]
theorem qG.isTop :∀{s:Sp},s.isTop=Q->qG w qb s v
 |.top,_=>trivial
structure Inv (w0:M) (qb:Nat) (L:Array Bool) (a:Act) (w:M):Prop where
 ls:L.size=39
 ts:31<a.tmps.size
 df:a.defers=[]
 hb:Vw (G w0.heap) w0 w
 bq:qb<G w0.heap
 t1:a.eval (.tmp 1)=Pq (G w0.heap)
 bx:D w (O (G w0.heap) 0)=Z (Pq qb)
 rg:∀i,i<37->L[i]? = Z Q->qG w qb (spT i) (a.eval (.tmp (dtT i)))
 mp:L[0]? = Z Q->∃mb f n,a.eval (.tmp 3)=.map (Z mb)/\G w0.heap<=mb/\n+L.toList.count Vl<=39/\iB Vyj 9 w mb f n/\(∀key,cf key=UP->f key=UP)/\∀key k,cf key=Z k->L[jL k]? = Z Q->∃v,f key=Z v/\qG w qb (.cmv k) v
 m0:∀k,L[jL k]? = Z Q->L[0]? = Z Q
 m1:L[37]? = Z Q->L[0]? = Z Q/\a.eval (.tmp 31)=a.eval (.tmp 3)
 m2:L[38]? = Z Q->L[37]? = Z Q/\a.eval (.tmp 2)=a.eval (.tmp 31)
section
variable {w0 w I : M} {qb i j d : Nat} {L : Array Bool} {a : Act} {v : Vr}
theorem Ih (a:L[i]? = Z Vl):(L.setIfInBounds i Q)[i]? = Z true:=by grind
theorem bS (h:i≠j):(L.setIfInBounds i Q)[j]? = L[j]? := Array.getElem?_setIfInBounds_ne h
theorem qI (a:L[i]? = Z Vl):(L.setIfInBounds i Q).toList.count Vl+1=L.toList.count false:=by grind
theorem oJ (k:Nat):jL k<37/\jL k≠0/\(spT (jL k)).isTop=true:=by
 match k with
 |0|1|2|3|4|5|6|7|8=>exact⟨dQ,dQ,rfl⟩
 |n+9=>exact⟨by show 36<37;decide,by show 36≠0;decide,rfl⟩
theorem Inv.val (I9:Inv w0 qb L a w)(H:L[i]? = Z Vl)(hi:i<37)(x:(spT i).isTop=Vl)(z:dtT i=d)(p:Bq w I)(F:qG I qb (spT i) v):Inv w0 qb (L.setIfInBounds i Q) (a.put (Z d) v) I:=by
 have l:i≠0/\∀k,jL k≠i:=⟨λ e=>(by subst e;cases x),λ k e=>(by grind [oJ])⟩;obtain⟨d1,d2,d3,d4,d5⟩:=yY hi x;rw[z]at d1 d2 d3 d4 d5;have s:=yX.below p;have t:∀j,d≠j->(a.put (Z d) v).eval (.tmp j)=a.eval (.tmp j):=λ j h=>Act.eval_put_ne a d j v h;refine⟨by rw[Uc];exact I9.ls,by show 31<(a.tmps.setIfInBounds d v).size;rw[Uc];exact I9.ts,I9.df,I9.hb.trans (p.mono I9.hb.size),I9.bq,(t 1 d1).trans I9.t1,s.c _ _ I9.bx,λ j y b=>?_,λ b=>?_,λ k b=>?_,λ b=>?_,λ b=>?_⟩;by_cases g:i=j;subst g;have T:=I9.ts;rw[z,Act.eval_put_same a d v U];exact F;rw[bS g]at b;cases B:(spT j).isTop with
 |true=>exact qG.isTop B
 |false =>
  rw[t _ (d5 j y B g)];exact(I9.rg j y b).more s
 rw[bS l.1]at b;obtain⟨mb,f,n,r,q,W,A,S,R⟩:=I9.mp b;have V:=qI H;refine⟨mb,f,n,(t 3 d3).trans r,q,U,A.kept ((ai.Y' p:ai (λ _=>False) w I).block mb A.lt id),S,λ m k o C=>?_⟩;rw[bS (l.2 k).symm]at C;obtain⟨u,P,N⟩:=R m k o C;exact⟨u,P,N.more s⟩;rw[bS (l.2 k).symm]at b;rw[bS l.1];exact I9.m0 k b;rw[bS U]at b;obtain⟨r,q⟩:=I9.m1 b;refine⟨?_,?_⟩
 grind
 grind
 rw[bS U]at b;obtain⟨r,q⟩:=I9.m2 b;refine⟨?_,?_⟩
 grind
 grind
theorem Inv.map0 (I9:Inv w0 qb L a w)(d:L[0]? = Z Vl):Inv w0 qb (L.setIfInBounds 0 Q) (a.put (Z 3) (.map (Z (G w.heap)))) (E w (.map #[] 0)):=by
 have i:Bq w (E w (.map #[] 0)):=ae.alloc aa _;have n:=yX.below i;have s:=I9.ts;have o:∀j,3≠j->(a.put (Z 3) (.map (Z (G w.heap)))).eval (.tmp j)=a.eval (.tmp j):=λ j h=>Act.eval_put_ne a 3 j _ h;refine⟨by rw[Uc];exact I9.ls,by show 31<(a.tmps.setIfInBounds 3 _).size;rw[Uc];exact I9.ts,I9.df,I9.hb.trans (i.mono I9.hb.size),I9.bq,(o 1 dQ).trans I9.t1,n.c _ _ I9.bx,λ j g b=>?_,λ b=>?_,λ k b=>?_,λ b=>?_,λ b=>?_⟩;cases f:(spT j).isTop with
 |true=>exact qG.isTop f
 |false =>
  have r:0≠j:=λ e=>by subst e;cases f
  rw[bS r]at b;rw[o _ (yY g f).2.2.1.symm];exact(I9.rg j g b).more n
 have u:=qI d;have q:L.toList.count Vl<=39:=by
  have:=Vx (a:=Vl) (l:=L.toList);rw[Array.length_toList,I9.ls]at this;exact this
 refine⟨G w.heap,λ _=>UP,0,Act.eval_put_same a 3 _ U,I9.hb.size,U,iB.made w Vyj 9,λ _ _=>rfl,λ p k t m=>?_⟩;exfalso;rw[bS (oJ k).2.1.symm]at m;have h:=I9.m0 k m;rw[d]at h;cases h;exact Ih d;rw[bS dQ]at b;have:=(I9.m1 b).1;rw[d]at this;cases this;rw[bS dQ]at b;have:=(I9.m1 (I9.m2 b).1).1;rw[d]at this;cases this
theorem Inv.ins {key:Lu}(I9:Inv w0 qb L a w)(W:L[jL k]? = Z Vl)(H:L[0]? = Z Q)(T:cf key=Z k)(r:∀g i,cf g=Z i->jL i=jL k->g=key)(o:K key<=Vyf)(N:qG w qb (.cmv k) v):∃mb I,a.eval (.tmp 3)=.map (Z mb)/\(Instr.mapUpdate 45 (.map (Z mb)) (.string (str key)) v).run Vyj w=.ok () I/\Inv w0 qb (L.setIfInBounds (jL k) Q) a I:=by
 obtain⟨mb,f,n,F,h2,h3,h4,h5,h6⟩:=I9.mp H;obtain⟨I,P,S,C⟩:=h4.store Vyh underlying45 mQ o v;refine⟨mb,I,F,P,?_⟩;have B:=aA C;have m:yX w I:=⟨B.size,λ p u h=>by
  have R:=aB h;refine(B.cell R ?_).trans h;intro e;obtain⟨es,A,_,_,x,_⟩:=C;unfold U2 at h;rw[e,x]at h;cases h⟩
 have hc:=qI W;have X:Vw (G w0.heap) w I:=B.Z' I9.hb.size (λ q e=>U);have q:=oJ k;refine⟨by rw[Uc];exact I9.ls,I9.ts,I9.df,I9.hb.trans X,I9.bq,I9.t1,m.c _ _ I9.bx,λ j V d=>?_,λ _=>?_,λ _ _=>by rw[bS q.2.1];exact H,λ d=>?_,λ d=>?_⟩;by_cases s:jL k=j
 grind [qG.isTop]
 rw[bS s]at d;exact(I9.rg j V d).more m;refine⟨mb,_,_,F,h2,?_,S,λ g b=>?_,λ g i b l=>?_⟩;split<;>omega
 grind [pG]
 unfold pG;by_cases t:g=key;subst t;rw[T]at b;cases b;rw[Q5 rfl];exact⟨v,rfl,N.more m⟩;rw[Q6 t];have VY:jL k≠jL i:=λ e=>t (r g i b e.symm);rw[bS VY]at l;obtain⟨u,x,Y⟩:=h6 g i b l;exact⟨u,x,Y.more m⟩;rw[bS U]at d;obtain⟨z,y⟩:=I9.m1 d;exact⟨by rw[bS q.2.1];exact z,y⟩;rw[bS U]at d;obtain⟨z,y⟩:=I9.m2 d;exact⟨by rw[bS U];exact z,y⟩
theorem Inv.mv1 (I9:Inv w0 qb L a w)(i:L[37]? = Z Vl)(l:L[0]? = Z Q):Inv w0 qb (L.setIfInBounds 37 Q) (a.put (Z 31) (a.eval (.tmp 3))) w:=by
 have v:=I9.ts;have d:∀j,31≠j->(a.put (Z 31) (a.eval (.tmp 3))).eval (.tmp j)=a.eval (.tmp j):=λ j h=>Act.eval_put_ne a 31 j _ h;have x:=qI i;refine⟨by rw[Uc];exact I9.ls,by show 31<(a.tmps.setIfInBounds 31 _).size;rw[Uc];exact I9.ts,I9.df,I9.hb,I9.bq,(d 1 dQ).trans I9.t1,I9.bx,λ j g b=>?_,λ b=>?_,λ _ _=>by rw[bS dQ];exact l,λ _=>?_,λ b=>?_⟩;cases m:(spT j).isTop with
 |true=>exact qG.isTop m
 |false =>
  rw[bS U]at b;have:=(yY g m).2.2.2.1;rw[d (dtT j) (λ e=>by rw[<- e]at this;exact Q8 this dQ)];exact I9.rg j g b
 obtain⟨mb,f,n,u,t,y,s,r,q⟩:=I9.mp l;refine⟨mb,f,n,(d 3 dQ).trans u,t,U,s,r,λ c k p o=>?_⟩;rw[bS (by grind [oJ])]at o;exact q c k p o
 grind [bS,decide,Act.eval_put_same]
 rw[bS dQ]at b;have:=(I9.m2 b).1;rw[i]at this;cases this
theorem Inv.mv2 (I9:Inv w0 qb L a w)(o:L[38]? = Z Vl)(e:L[37]? = Z Q):Inv w0 qb (L.setIfInBounds 38 Q) (a.put (Z 2) (a.eval (.tmp 31))) w:=by
 have x:=I9.ts;have c:∀j,2≠j->(a.put (Z 2) (a.eval (.tmp 31))).eval (.tmp j)=a.eval (.tmp j):=λ j h=>Act.eval_put_ne a 2 j _ h;have y:=qI o;refine⟨by rw[Uc];exact I9.ls,by show 31<(a.tmps.setIfInBounds 2 _).size;rw[Uc];exact I9.ts,I9.df,I9.hb,I9.bq,(c 1 dQ).trans I9.t1,I9.bx,λ j g b=>?_,λ b=>?_,λ _ _=>by rw[bS dQ];exact(I9.m1 e).1,λ b=>?_,λ _=>?_⟩;cases i:(spT j).isTop with
 |true=>exact qG.isTop i
 |false =>
  rw[bS U]at b;rw[c _ (yY g i).2.1.symm];exact I9.rg j g b
 rw[bS dQ]at b;obtain⟨mb,f,n,t,s,z,r,q,p⟩:=I9.mp b;refine⟨mb,f,n,(c 3 dQ).trans t,s,U,r,q,λ d k m l=>?_⟩;rw[bS (by grind [oJ])]at l;exact p d k m l;rw[bS dQ]at b;obtain⟨v,u⟩:=I9.m1 b;exact⟨by rw[bS dQ];exact v,by rw[c 31 dQ,c 3 dQ];exact u⟩
 grind [bS,decide,Act.eval_put_same]
end
end
section
open Go.RowKit Go.Lib
section
variable {ops : Array Oper} {Q9 : Exit → Act → M → Prop} {w0 w : M} {qb i : Nat} {L : Array Bool} {a : Act} {o : Oper}
theorem pI (e:ops[i]? = Z o)(f:o.guard=UP){d:Nat}(g:o.dst=Z d)(c:(execOp a.eval o).run Vyj w=.ok (.value v) I)(b:Act->M->Prop)(h:b (a.put (Z d) v) I):wpOp Vyj ops Q9 i b a w:=by
 unfold wpOp;rw[e];have:Region.wanted o (yielded ops a.tmps)=true:=by unfold Region.wanted;rw[f]
 simp only[this,if_true];left;unfold Oper.wp;rw[c,Oper.upon_value,g];exact h
theorem N7 (d:ops[i]? = Z o)(e:o.guard=UP)(f:o.dst=UP)(c:(execOp a.eval o).run Vyj w=.ok .skip I)(b:Act->M->Prop)(h:b a I):wpOp Vyj ops Q9 i b a w:=by
 unfold wpOp;rw[d];have:Region.wanted o (yielded ops a.tmps)=true:=by unfold Region.wanted;rw[e]
 simp only[this,if_true];left;unfold Oper.wp;rw[c,Oper.upon_skip,f];exact h
theorem yZ {b:Array Vr}(j:ops[i]? = Z o)(l:o.guard=UP){d:Nat}(m:o.dst=Z d)(g:(execOp a.eval o).run Vyj w=.ok (.enter f b) w)(c:Act->M->Prop)(h:Zq f b w λ e I=>∃v,e=VJ v/\c (a.put (Z d) v) I):wpOp Vyj ops Q9 i c a w:=by
 unfold wpOp;rw[j];have:Region.wanted o (yielded ops a.tmps)=true:=by unfold Region.wanted;rw[l]
 simp only[this,if_true];left;unfold Oper.wp;rw[g,Oper.upon_enter];refine h.mono ?_;rintro e I ⟨v,rfl,k⟩;rw[m];exact k
theorem Qd (I9:Inv w0 qb L a w)(e:L[0]? = Z Vl)(c:ops[0]? = Z o)(d:o.guard=UP)(f:o.dst=Z 3)(b:o.op=.makeMap 45 UP):wpOp Vyj ops Q9 0 (Inv w0 qb (L.setIfInBounds 0 Q)) a w :=
 pI c d f (P4 b) _ (I9.map0 e)
theorem uX (I9:Inv w0 qb L a w)(h:L[i]? = Z Vl)(f:ops[i]? = Z o)(g:o.guard=UP)(j:o.dst=Z d)(hi:i<37)(c:spT i=.ptr)(b:dtT i=d)(e:o.op=.load 43 (.tmp 1)):wpOp Vyj ops Q9 i (Inv w0 qb (L.setIfInBounds i Q)) a w :=
 pI f g j (Rv e I9.t1 I9.bx) _ (I9.val h hi (by rw[c];rfl) b ae (by rw[c];rfl))
theorem Pc (I9:Inv w0 qb L a w)(j:L[i]? = Z Vl)(f:ops[i]? = Z o)(h:o.guard=UP)(l:o.dst=Z d)(hi:i<37)(c:spT i=.dov k)(b:dtT i=d)(e:o.op=.makeFunc (.func gf) #[] #[.tmp 1])(g:k=0/\gf=19\/k=1/\gf=22):wpOp Vyj ops Q9 i (Inv w0 qb (L.setIfInBounds i Q)) a w:=by
 refine pI f h l (Ru e I9.t1) _ (I9.val j hi (by rw[c];rfl) b ae ?_);rw[c];have m:=I9.bq;refine⟨gf,[Pq (G w0.heap)],rfl,G w0.heap,U,aB I9.bx,I9.bx,?_⟩;rcases g with⟨rfl,rfl⟩|⟨rfl,rfl⟩
 grind
 grind
theorem qJ (I9:Inv w0 qb L a w)(q:L[i]? = Z Vl)(v:L[j]? = Z Q)(n:ops[i]? = Z o)(p:o.guard=UP)(r:o.dst=Z d)(hi:i<37)(f:spT i=.cmv k)(c:dtT i=d)(m:j<37)(g:spT j=.dov k)(l:dtT j=e)(b:(k≠1/\o.op=.build 70 #[(0,.const (J (bg k))),(2,.tmp e)])\/(k=1/\o.op=.build 70 #[(0,.const (J (bg k))),(1,.const (.bool Q)),(2,.tmp e)])):wpOp Vyj ops Q9 i (Inv w0 qb (L.setIfInBounds i Q)) a w:=by
 have h:=I9.rg j m v;rw[g,l]at h;obtain⟨gf,cs,t,s⟩:=h;rcases b with⟨u,b⟩|⟨rfl,b⟩
 refine pI n p r (P5 b t) _ (I9.val q hi (by rw[f];rfl) c ae ?_);rw[f];refine⟨gf,cs,?_,s⟩;rw[show (k==1)=Vl by simpa using u];refine pI n p r (P6 b t) _ (I9.val q hi (by rw[f];rfl) c ae ?_);rw[f];exact⟨gf,cs,rfl,s⟩
theorem lT {key:Lu}(I9:Inv w0 qb L a w)(t:L[i]? = Z Vl)(z:L[0]? = Z Q)(r:L[j]? = Z Q)(p:ops[i]? = Z o)(s:o.guard=UP)(u:o.dst=UP)(hi:jL k=i)(g:j<37)(b:spT j=.cmv k)(f:dtT j=e)(n:o.op=.insert 45 (.tmp 3) (.const (.string (str key))) (.tmp e))(q:cf key=Z k)(d:∀m l,cf m=Z l->jL l=jL k->m=key)(c:K key<=Vyf):wpOp Vyj ops Q9 i (Inv w0 qb (L.setIfInBounds i Q)) a w:=by
 subst hi;have h:=I9.rg j g r;rw[b,f]at h;obtain⟨mb,I,y,x,v⟩:=I9.ins t z q d c h;exact N7 p s u (P7 n y rfl x) _ v
theorem Pd {b:Bool}(I9:Inv w0 qb L a w)(m:L[i]? = Z Vl)(h:ops[i]? = Z o)(l:o.guard=UP)(n:o.dst=Z d)(hi:i<37)(f:spT i=.inv k)(c:dtT i=d)(g:o.op=.call { callee:=.value (.func 26),args:=#[.const (.bool b)],argTypes:=#[4] })(j:k=2\/k=3)(p:b=(k==2)):wpOp Vyj ops Q9 i (Inv w0 qb (L.setIfInBounds i Q)) a w:=by
 refine yZ h l n (Qa g) _ ((Ig b w).mono ?_);rintro e I ⟨q,t,rfl,x,s,r⟩;have v:=I9.bq;have u:=I9.hb.size;refine⟨_,rfl,I9.val m hi (by rw[f];rfl) c q ?_⟩;rw[f];exact⟨50,[_],rfl,SP (SP (SP (SP (SP ⟨j,rfl,t,rfl,U,s,by rw[r,p]⟩))))⟩
theorem A9 {g p:Nat}(I9:Inv w0 qb L a w)(u:L[i]? = Z Vl)(s:L[j]? = Z Q)(q:ops[i]? = Z o)(t:o.guard=UP)(v:o.dst=Z d)(hi:i<37)(m:spT i=.dov k)(c:dtT i=d)(l:j<37)(b:spT j=.ptr)(f:dtT j=p)(n:o.op=.call { callee:=.value (.func 25),args:=#[.tmp p,.func g],argTypes:=#[43,74] })(r:k=4/\g=27\/k=5/\g=28\/k=6/\g=29\/k=7/\g=30\/k=8/\g=31):wpOp Vyj ops Q9 i (Inv w0 qb (L.setIfInBounds i Q)) a w:=by
 have h:=I9.rg j l s;rw[b,f]at h;have h:a.eval (.tmp p)=Pq qb:=h;refine yZ q t v (Qb n h) _ ((xJ qb g [] w).mono ?_);rintro e I ⟨x,F,C,rfl,R,B,P,A,z,y⟩;have N:=I9.bq;have H:=I9.hb.size;refine⟨_,rfl,I9.val u hi (by rw[m];rfl) c x ?_⟩;rw[m];refine⟨49,[_,_],rfl,F,U,B,z,SP (SP ⟨U,rfl,C,g,[],rfl,U,A,y,?_⟩)⟩;rcases r with⟨rfl,rfl⟩|⟨rfl,rfl⟩|⟨rfl,rfl⟩|⟨rfl,rfl⟩|⟨rfl,rfl⟩
 exact SQ ⟨rfl,rfl,rfl⟩;exact SP (SQ ⟨rfl,rfl,rfl⟩);exact SP (SP (SQ ⟨rfl,rfl,rfl⟩));exact SP (SP (SP (SQ ⟨rfl,rfl,rfl⟩)));exact SP (SP (SP (SP (SQ ⟨rfl,rfl,rfl⟩))))
theorem LF {p j2:Nat}(I9:Inv w0 qb L a w)(C:L[i]? = Z Vl)(A:L[j]? = Z Q)(W:L[j2]? = Z Q)(y:ops[i]? = Z o)(B:o.guard=UP)(F:o.dst=Z d)(hi:i<37)(s:spT i=.dov k)(c:dtT i=d)(r:j<37)(b:spT j=.ptr)(l:dtT j=p)(q:j2<37)(n:spT j2=.inv k)(m:dtT j2=f)(x:o.op=.call { callee:=.value (.func 25),args:=#[.tmp p,.tmp f],argTypes:=#[43,74] })(z:2<=k):wpOp Vyj ops Q9 i (Inv w0 qb (L.setIfInBounds i Q)) a w:=by
 have h:=I9.rg j r A;rw[b,l]at h;have h:a.eval (.tmp p)=Pq qb:=h;have u:=I9.rg j2 q W;rw[n,m]at u;obtain⟨g,cs,v,H⟩:=u;refine yZ y B F (N6 x h v) _ ((xJ qb g cs w).mono ?_);rintro e I ⟨t,V,T,rfl,h1,S,h3,R,P,N⟩;have Y:=I9.bq;have X:=I9.hb.size;refine⟨_,rfl,I9.val C hi (by rw[s];rfl) c t ?_⟩;rw[s];exact⟨49,[_,_],rfl,V,U,S,P,SP (SP ⟨z,rfl,T,g,cs,rfl,U,R,N,H.more (yX.below t)⟩)⟩
theorem Rw (I9:Inv w0 qb L a w)(e:L[37]? = Z Vl)(g:L[0]? = Z Q)(c:ops[37]? = Z o)(d:o.guard=UP)(f:o.dst=Z 31)(b:o.op=.move (.tmp 3)):wpOp Vyj ops Q9 37 (Inv w0 qb (L.setIfInBounds 37 Q)) a w :=
 pI c d f (Pb (SQ b)) _ (I9.mv1 e g)
theorem Rx (I9:Inv w0 qb L a w)(e:L[38]? = Z Vl)(g:L[37]? = Z Q)(c:ops[38]? = Z o)(d:o.guard=UP)(f:o.dst=Z 2)(b:o.op=.assign (.tmp 31)):wpOp Vyj ops Q9 38 (Inv w0 qb (L.setIfInBounds 38 Q)) a w :=
 pI c d f (Pb (SP b)) _ (I9.mv2 e g)
end
end
section
open Go.RowKit Go.Lib
theorem LG {c:Nat}(h:k<=8)(f:c<=8)(e:jL c=jL k):c=k:=by
 match k,c,h,f with
 |k,c,h,f =>
  have:((Ud 9).all λ a=>(Ud 9).all λ b=>decide (jL a≠jL b) || decide (a=b))=true:=kQ;have d:=Uu.1 (Uu.1 this c (Up.2 U)) k (Up.2 U);rw[e,Q3 (λ h=>h rfl),Bool.false_or]at d;exact Q1 d
theorem xK {s:Lu}(h:cf s=Z k):k<=8:=by grind [cf]
def Qe (k:Nat):Lu:=[[110,101,119],[108,111,97,100],[98,108,111,99,107],[102,114,101,101],[108,111,111,107],[97,115,107],[98,97,116,99,104],[115,116,97,116,115],[115,97,118,101]].getD k []
theorem sN {s:Lu}(h:cf s=Z k):s=Qe k:=by
 unfold cf at h
 repeat' split at h
 all_goals first|(cases h;subst_vars;rfl)|cases h
theorem DH {s t:Lu}(h:cf s=Z k)(a:cf t=Z k):s=t:=(sN h).trans (sN a).symm
theorem iU {s t:Lu}{a:Nat}(h:cf s=Z k)(b:cf t=Z a)(e:jL a=jL k):t=s:=by
 have:=LG (xK h) (xK b) e;subst this;exact DH b h
theorem dep {md:Region.Mode}{ops:Array Oper}{L:Array Bool}{o:Oper}(h:i∈Region.ready md ops L)(a:ops[i]? = Z o)(b:(o.after.toList.any λ e=>e.on==j&&(e.ground matches .data))=Q):L[j]? = Z true:=by grind [List.any_eq_true,Ic,Region.binds]
theorem LH (w:M)(R:qb<G w.heap):Zq 9 #[Pq qb] w λ e I=>Bq w I/\∃mb,G w.heap<=mb/\e=VJ (.map (Z mb))/\iK I qb (G I.heap) mb:=by
 have t:Bq w (E w (VP #[Pq qb] 43)):=ae.alloc aa _;have s:D (E w (VP #[Pq qb] 43)) (O (G w.heap) 0)=Z (Pq qb):=by rw[Tb];rfl
 have P:Vy (Bq w (E w (VP #[Pq qb] 43))/\D (E w (VP #[Pq qb] 43)) (O (G w.heap) 0)=Z (Pq qb)):=⟨t,s⟩;clear t s;go_enter func9,ntmps9;go_upto_region 1 with fail
 rename_i T
 refine wo kQ (I9:=Inv w qb) ?_ ?_ ?_
 ·have x:∀(n i:Nat),(Array.replicate n Vl)[i]? ≠ Z true:=λ n i h=>by
   obtain⟨_,u⟩:=Tq.1 h;rw[Array.getElem_replicate]at u;cases u
  exact⟨rfl,by show 31<32;decide,rfl,P.out.1.drew,R,rfl,P.out.2,λ i _ h=>Q8 h (x _ i),λ h=>Q8 h (x _ 0),λ k h=>Q8 h (x _ _),λ h=>Q8 h (x _ 37),λ h=>Q8 h (x _ 38)⟩
 ·intro L a w1 i b c;have d:=rT c;have hi:=LD c
  match i with
  |0=>exact Qd b d rfl rfl rfl rfl
  |1=>exact Pc (gf:=19) (k:=0) b d rfl rfl rfl dQ rfl rfl rfl dQ
  |2=>exact qJ (j:=1) (k:=0) b d (dep (j:=1) c rfl rfl) rfl rfl rfl dQ rfl rfl dQ rfl rfl (SQ ⟨dQ,rfl⟩)
  |3=>exact lT (j:=2) (k:=0) (key:=[110,101,119]) b d (dep (j:=0) c rfl rfl) (dep (j:=2) c rfl rfl) rfl rfl rfl rfl dQ rfl rfl rfl rfl (λ _ _ h e=>iU (k:=0) rfl h e) dQ
  |4=>exact Pc (gf:=22) (k:=1) b d rfl rfl rfl dQ rfl rfl rfl dQ
  |5=>exact qJ (j:=4) (k:=1) b d (dep (j:=4) c rfl rfl) rfl rfl rfl dQ rfl rfl dQ rfl rfl (SP ⟨rfl,rfl⟩)
  |6=>exact lT (j:=5) (k:=1) (key:=[108,111,97,100]) b d (dep (j:=0) c rfl rfl) (dep (j:=5) c rfl rfl) rfl rfl rfl rfl dQ rfl rfl rfl rfl (λ _ _ h e=>iU (k:=1) rfl h e) dQ
  |7=>exact uX b d rfl rfl rfl dQ rfl rfl rfl
  |8=>exact Pd (k:=2) b d rfl rfl rfl dQ rfl rfl rfl dQ rfl
  |9=>exact LF (j:=7) (j2:=8) (k:=2) b d (dep (j:=7) c rfl rfl) (dep (j:=8) c rfl rfl) rfl rfl rfl dQ rfl rfl dQ rfl rfl dQ rfl rfl rfl dQ
  |10=>exact qJ (j:=9) (k:=2) b d (dep (j:=9) c rfl rfl) rfl rfl rfl dQ rfl rfl dQ rfl rfl (SQ ⟨dQ,rfl⟩)
  |11=>exact lT (j:=10) (k:=2) (key:=[98,108,111,99,107]) b d (dep (j:=0) c rfl rfl) (dep (j:=10) c rfl rfl) rfl rfl rfl rfl dQ rfl rfl rfl rfl (λ _ _ h e=>iU (k:=2) rfl h e) dQ
  |12=>exact uX b d rfl rfl rfl dQ rfl rfl rfl
  |13=>exact Pd (k:=3) b d rfl rfl rfl dQ rfl rfl rfl dQ rfl
  |14=>exact LF (j:=12) (j2:=13) (k:=3) b d (dep (j:=12) c rfl rfl) (dep (j:=13) c rfl rfl) rfl rfl rfl dQ rfl rfl dQ rfl rfl dQ rfl rfl rfl dQ
  |15=>exact qJ (j:=14) (k:=3) b d (dep (j:=14) c rfl rfl) rfl rfl rfl dQ rfl rfl dQ rfl rfl (SQ ⟨dQ,rfl⟩)
  |16=>exact lT (j:=15) (k:=3) (key:=[102,114,101,101]) b d (dep (j:=0) c rfl rfl) (dep (j:=15) c rfl rfl) rfl rfl rfl rfl dQ rfl rfl rfl rfl (λ _ _ h e=>iU (k:=3) rfl h e) dQ
  |17=>exact uX b d rfl rfl rfl dQ rfl rfl rfl
  |18=>exact A9 (j:=17) (k:=4) b d (dep (j:=17) c rfl rfl) rfl rfl rfl dQ rfl rfl dQ rfl rfl rfl dQ
  |19=>exact qJ (j:=18) (k:=4) b d (dep (j:=18) c rfl rfl) rfl rfl rfl dQ rfl rfl dQ rfl rfl (SQ ⟨dQ,rfl⟩)
  |20=>exact lT (j:=19) (k:=4) (key:=[108,111,111,107]) b d (dep (j:=0) c rfl rfl) (dep (j:=19) c rfl rfl) rfl rfl rfl rfl dQ rfl rfl rfl rfl (λ _ _ h e=>iU (k:=4) rfl h e) dQ
  |21=>exact uX b d rfl rfl rfl dQ rfl rfl rfl
  |22=>exact A9 (j:=21) (k:=5) b d (dep (j:=21) c rfl rfl) rfl rfl rfl dQ rfl rfl dQ rfl rfl rfl dQ
  |23=>exact qJ (j:=22) (k:=5) b d (dep (j:=22) c rfl rfl) rfl rfl rfl dQ rfl rfl dQ rfl rfl (SQ ⟨dQ,rfl⟩)
  |24=>exact lT (j:=23) (k:=5) (key:=[97,115,107]) b d (dep (j:=0) c rfl rfl) (dep (j:=23) c rfl rfl) rfl rfl rfl rfl dQ rfl rfl rfl rfl (λ _ _ h e=>iU (k:=5) rfl h e) dQ
  |25=>exact uX b d rfl rfl rfl dQ rfl rfl rfl
  |26=>exact A9 (j:=25) (k:=6) b d (dep (j:=25) c rfl rfl) rfl rfl rfl dQ rfl rfl dQ rfl rfl rfl dQ
  |27=>exact qJ (j:=26) (k:=6) b d (dep (j:=26) c rfl rfl) rfl rfl rfl dQ rfl rfl dQ rfl rfl (SQ ⟨dQ,rfl⟩)
  |28=>exact lT (j:=27) (k:=6) (key:=[98,97,116,99,104]) b d (dep (j:=0) c rfl rfl) (dep (j:=27) c rfl rfl) rfl rfl rfl rfl dQ rfl rfl rfl rfl (λ _ _ h e=>iU (k:=6) rfl h e) dQ
  |29=>exact uX b d rfl rfl rfl dQ rfl rfl rfl
  |30=>exact A9 (j:=29) (k:=7) b d (dep (j:=29) c rfl rfl) rfl rfl rfl dQ rfl rfl dQ rfl rfl rfl dQ
  |31=>exact qJ (j:=30) (k:=7) b d (dep (j:=30) c rfl rfl) rfl rfl rfl dQ rfl rfl dQ rfl rfl (SQ ⟨dQ,rfl⟩)
  |32=>exact lT (j:=31) (k:=7) (key:=[115,116,97,116,115]) b d (dep (j:=0) c rfl rfl) (dep (j:=31) c rfl rfl) rfl rfl rfl rfl dQ rfl rfl rfl rfl (λ _ _ h e=>iU (k:=7) rfl h e) dQ
  |33=>exact uX b d rfl rfl rfl dQ rfl rfl rfl
  |34=>exact A9 (j:=33) (k:=8) b d (dep (j:=33) c rfl rfl) rfl rfl rfl dQ rfl rfl dQ rfl rfl rfl dQ
  |35=>exact qJ (j:=34) (k:=8) b d (dep (j:=34) c rfl rfl) rfl rfl rfl dQ rfl rfl dQ rfl rfl (SQ ⟨dQ,rfl⟩)
  |36=>exact lT (j:=35) (k:=8) (key:=[115,97,118,101]) b d (dep (j:=0) c rfl rfl) (dep (j:=35) c rfl rfl) rfl rfl rfl rfl dQ rfl rfl rfl rfl (λ _ _ h e=>iU (k:=8) rfl h e) dQ
  |37=>exact Rw b d (dep (j:=0) c rfl rfl) rfl rfl rfl rfl
  |38=>exact Rx b d (dep (j:=37) c rfl rfl) rfl rfl rfl rfl
  |n+39=>exact Q8 hi (Nat.not_lt.2 (Nat.le_add_left 39 n))
 ·intro L a w1 b c;have p:=Ie (md:=.any) (by rw[b.ls];rfl) (λ i o A e he=>by
   have hi:i<39:=(Tq.1 A).1
   match i with
   |0|1|2|3|4|5|6|7|8|9|10|11|12|13|14|15|16|17|18|19|20|21|22|23|24|25|26|27|28|29|30|31|32|33|34|35|36|37|38=>cases A;revert e;decide
   |n+39=>exact Q8 hi (Nat.not_lt.2 (Nat.le_add_left 39 n))) c
  have p:∀i,i<39->L[i]? = Z true:=p;obtain⟨mb,f,n,u,F,Y,y,C,B⟩:=b.mp (p 0 dQ);have N:=(b.m2 (p 38 dQ)).2;have m:=(b.m1 (p 37 dQ)).2;rw[u]at m;rw[m]at N;have HR:Vy (Bq w w1/\∃l,G w.heap<=l/\Ending.returned (.map (Z mb))=VJ (.map (Z l))/\iK w1 qb (G w1.heap) l):=by
   refine⟨b.hb,mb,F,rfl,U,y.lt,f,n,y,λ r=>⟨C r,λ k S=>?_⟩⟩;obtain⟨v,X,gf,cs,W,V⟩:=B r k S (p _ (Oq (oJ k).1));exact⟨gf,cs,by rw[X,W],V⟩
  have z:=b.df;clear b p Y y C B F c u m;obtain⟨q,g⟩:=a;have z:g=[]:=z;subst z;refine T _ _ ?_;go_wp2;go_ret;rw[show ({ tmps:=q,defers:=[] }:Act).tmps.getD 2 undef=.map (Z mb) from N];exact HR.out
end
section
open Go.RowKit Go.Lib
def AnP (w I:M) (L qb mb:Nat) (line:Lu) (x:Option Ses) (n:Int) (e:Ending):Prop:=∃t x',e=VJ (.string (str t))/\gp x line t x'/\SeC I L qb mb x'/\VOk (n+60) x'/\ai (KL qb L) w I
theorem DI {x:Option Ses}{line:Lu}(w:M)(E9:Env w)(F:Mx w)(st:az w)(dg:ch w)(S:SeC w L qb mb x)(V:VOk n x)(q:256<=n)(c:n<=900000)(u:K line<=100000) :
  Zq 10 #[Pq qb,.string (str line)] w λ e I=>AnP w I L qb mb line x n e:=by
 have o:=Lv w E9 F st dg S V q c u;have l:Vy (qb<L/\L<=G w.heap):=⟨S.s.lq,S.s.ls⟩;have HE:Vy (∀I,ai (KL qb L) w I->Env I):=λ I K9=>E9.below (K9.Z' (B:=10) E9.z (λ b h=>by have:=S.s.l10;have:=S.s.lq;rcases h with h|h;omega;have:L<=b:=h;omega)) aa;have HT:Vy (∀(k:Nat),k<=8->∀I,Env I->Zq 33 #[.iface 42 (J (k:Int))] I λ e WX=>e=VJ (.string (str (bU k)))/\Bq I WX):=λ k hk I E'=>xE k hk I E';clear E9 F st dg S V q c u;have g:Zq 32 #[Pq qb,.string (str line)] w λ e I=>∃v d t x',e=VJ (.tuple #[.string (str v),d])/\yU v d t/\gp x line t x'/\SeC I L qb mb x'/\VOk (n+60) x'/\ai (KL qb L) w I:=o.mono λ e I ⟨t,x',X,W,T,R,P⟩=>by
  obtain⟨v,d,j1,Y⟩:=W.two;exact⟨v,d,t,x',j1,Y,X,T,R,P⟩
 clear o;go_enter func10,ntmps10;go_wp2_with fail;refine g.mono ?_;rintro r w1 ⟨v,d,t,x',rfl,hR,A,C,y,j⟩;have a:Vy (gp x line t x'/\SeC w1 L qb mb x'/\VOk (n+60) x'/\ai (KL qb L) w w1):=⟨A,C,y,j⟩;have m:=HE.out _ j;clear A C y j;rcases hR with⟨rfl,rfl⟩|⟨f,f1,f8,rfl,rfl⟩
 ·clear m;go_wp2;go_ret;exact⟨v,x',rfl,a.out.1,a.out.2.1,a.out.2.2.1,a.out.2.2.2⟩
 ·have ht:=HT.out f f8 w1 m;clear m f1 f8;go_wp2_with fail;refine Q9 ht λ N i=>?_;go_wp2;go_ret;have hq:=l.out;have H:ai (KL qb L) w1 N:=ai.kl i;exact⟨_,x',rfl,a.out.1,a.out.2.1.X' H (a.out.2.1.s.below i) (i.cell (p:=O qb 1) (aB a.out.2.1.c1)),a.out.2.2.1,a.out.2.2.2.trans H (λ _ _ h=>h)⟩
end
section
open Go.RowKit Go.Lib
def jM:Option Ses->List Lu->List Lu->Option Ses->Prop
 |x,[],[],x'=>x'=x
 |x,l::ls,t::ts,x'=>∃x1,gp x l t x1/\jM x1 ls ts x'
 |_,_,_,_=>False
theorem jM.snoc:∀{x:Option Ses}{ls ts:List Lu}{a c:Option Ses}{l t:Lu},jM x ls ts a->gp a l t c->jM x (ls++[l]) (ts++[t]) c
 |_,[],[],_,_,_,_,h,b=>by cases h;exact⟨_,b,rfl⟩
 |_,_::_,_::_,_,_,_,_,⟨a,e,d⟩,b=>⟨a,e,d.snoc b⟩
theorem jM.len:∀{x:Option Ses}{ls ts:List Lu}{a:Option Ses},jM x ls ts a->K ts=K ls
 |_,[],[],_,_=>rfl
 |_,_::_,_::_,_,⟨_,_,b⟩=>by rw[Tk,Tk,b.len]
theorem fK.mono (h:fK w qb L k gf cs)(a:L<=L'):fK w qb L' k gf cs:=by grind [fK]
theorem gH.mono (h:gH w qb L k gf cs)(a:L<=L'):gH w qb L' k gf cs:=by grind [gH,fK,fK.mono]
theorem iK.mono (h:iK w qb L mb)(a:L<=L'):iK w qb L' mb:=by grind [iK,iB,Go.Proofs.Tryz.prog,cf,bg,gH,gH.mono]
theorem fJ.low {b:Nat}{x:Option Ses}(S:fJ w L qb x)(a:ai (λ k=>k=b) w I)(o:b<L)(f:b≠qb)(n:b≠3):fJ I L qb x:=by
 obtain⟨v,c,h⟩:=S.c0;have d:=aB c;refine⟨⟨v,(a.cell d (λ e=>f e.symm)).trans c,?_⟩,(a.frozen (p:=O qb 0) d (λ e=>f e.symm)).trans S.fz,S.lq,S.l10,Tg S.ls a.size⟩;rcases h with h|⟨s,lo,hi,sb,m,l,j,i,g⟩
 exact SQ h;exact SP ⟨s,lo,hi,sb,m,l,j,Tg i a.size,g.keepLow a (λ k e=>⟨U,U⟩)⟩
structure Ii (w wr:M) (ls:List Lu) (qb mb ab i:Nat):Prop where
 il:i<=K ls
 r:∃ts x,jM UP (ls.take i) ts x/\fJ wr (ab+1) qb x/\VOk (256+60*(i:Int)) x/\∀j t,ts[j]? = Z t->D wr (O ab j)=Z (.string (str t))
 c1:D wr (O qb 1)=Z (.map (Z mb))
 cm:iK wr qb ab mb
 b:Vw (G w.heap) w wr
 th:∀j,j<K ls->(∃v,D wr (O ab j)=Z v)/\wr.frozen? (O ab j)=Vl
theorem Ii.next {wr c:M}{ls:List Lu}{a:Nat}{ts:List Lu}{x x':Option Ses}{l t:Lu}(I9:Ii w wr ls qb mb a i)(R:ls[i]? = Z l)(F:jM UP (ls.take i) ts x)(n:∀j t,ts[j]? = Z t->D wr (O a j)=Z (.string (str t)))(hq:G w.heap<=qb)(P:qb<a)(X6:a<G wr.heap)(W:gp x l t x')(y:SeC c (a+1) qb mb x')(V:VOk (256+60*(i:Int)+60) x')(d:ai (KL qb (a+1)) wr c)(X:10<=G w.heap):Ii w (C' c (O a i) (.string (str t))) ls qb mb a (i+1):=by
 obtain⟨hi,T⟩:=Th.1 R;have e:ai (λ k=>k=a) c (C' c (O a i) (.string (str t))):=(ai.refl (λ k=>k=a) c).setCell (p:=O a i) (λ _=>rfl) _;have f:∀o v,D wr (O a o)=Z v->D c (O a o)=Z v:=λ o v h=>d.cellOf h (λ q=>by rcases q with q|q;have:a=qb:=q;omega;have:a+1<=a:=q;omega);have m:∀o,wr.frozen? (O a o)=Vl->c.frozen? (O a o)=false:=λ o h=>(d.frozen (p:=O a o) X6 (λ q=>by rcases q with q|q;have:a=qb:=q;omega;have:a+1<=a:=q;omega)).trans h;have B:K ts=i:=by rw[F.len,Ts];omega
 obtain⟨⟨u,L⟩,_⟩:=I9.th i hi;have I:=f _ _ L;refine⟨U,⟨ts++[t],x',?_,y.s.low e U U U,by intro s N;have:=V s N;omega,λ j A C=>?_⟩,?_,?_,I9.b.trans ((d.Z' I9.b.size (λ k q=>by rcases q with q|q;omega;have:a+1<=k:=q;omega)).trans (e.Z' (Tg I9.b.size d.size) (λ k q=>U))),λ j C=>?_⟩;rw[Tx hi,T];exact F.snoc W;by_cases r:j=i
 grind [List.getElem?_append_right,Tf]
 have Y:ts[j]? = Z A:=by grind
 rw[SY _ _ _ _ (by simp<;>omega)];exact f _ _ (n j A Y);exact(e.cell (aB y.c1) (λ q=>by have:qb=a:=q;omega)).trans y.c1;have g:iK c qb a mb:=I9.cm.kl ⟨d.os,d.tape,d.output,d.size,λ k g z=>d.block k g (λ q=>z (by rcases q with q|q;exact SQ q;have:a+1<=k:=q;exact SP U))⟩;exact g.kl ⟨e.os,e.tape,e.output,e.size,λ k g z=>e.block k g (λ q=>z (SP (by grind)))⟩;obtain⟨⟨v,H⟩,S⟩:=I9.th j C;refine⟨?_,(TL _ _ _ _).trans (m _ S)⟩;by_cases r:j=i
 grind [Tf]
 refine⟨v,?_⟩;rw[SY _ _ _ _ (by simp<;>omega)];exact f _ _ H
theorem FJ {A:Oa}{ls:List Lu}(w:M)(E9:Env w)(T:Mx w)(st:az w)(dg:ch w)(hn:K ls<=80)(y:eE w A ls)(hl:∀l∈ls,K l<=100000) :
  Zq 5 #[.slice A (K ls) cap] w λ e I=>Bq w I/\∃F x' c,jM UP ls F x'/\e=VJ (.tuple #[.slice (Z (O c 0)) (K ls) (K ls),.nilIface])/\∀i t,F[i]? = Z t->D I (O c i)=Z (.string (str t)):=by
 have hz:¬(80:Int)<K ls:=U;have X1:Bq w (E w (VP #[.pointer UP,.map UP] 47)):=ae.alloc aa _;have q:∀o,D (E w (VP #[.pointer UP,.map UP] 47)) (O (G w.heap) o)=#[Value.pointer UP,.map UP][o]? := λ o=>by rw[Tb]
 have H:=q 0;have W:=q 1;have f0:=Um w #[.pointer UP,.map UP] 47 0;have f1:=Um w #[.pointer UP,.map UP] 47 1;have L:=aB H;have Yg:=LH (qb:=G w.heap) _ L;have ao:=E9.z;have HX:Vy (eE w A ls/\Env w/\Mx w/\az w/\ch w/\∀l∈ls,K l<=100000):=⟨y,E9,T,st,dg,hl⟩;clear q E9 T st dg y hl;go_enter func5,ntmps5;go_wp2_with fail;generalize E w (VP #[.pointer UP,.map UP] 47)=w1 at *;refine Yg.mono ?_;rintro e a ⟨B,mb,ag,rfl,hC⟩;have H:=(B.cell L).trans H;have W:=(B.cell L).trans W;have f0:=(B.frozen (p:=O (G w.heap) 0) L).trans f0;have f1:=(B.frozen (p:=O (G w.heap) 1) L).trans f1;have b2:=aj X1 B;have au:G w.heap<mb:=U;clear X1 Yg B ag;obtain⟨i0,hi,VZ⟩:=TK.1 DA;simp only[Prod.mk.injEq]at VZ;obtain⟨VZ,Wa,Wc⟩:=VZ;have d:ai (λ k=>k=G w.heap) a (C' a (O (G w.heap) 1) (.map (Z mb))):=(ai.refl (λ k=>k=G w.heap) a).setCell (p:=O (G w.heap) 1) (λ _=>rfl) _;have R:=run_make (P:=Vyj) (C' a (O (G w.heap) 1) (.map (Z mb))) 22 9 i0 (.string ByteArray.empty) Vyi hi VZ .i64 .i64 (K ls:Int) (K ls:Int) U (TN _) (by rw[Wc];omega) U;simp only[Ta,Wa,Nat.mul_one]at R;have ac:G w.heap<G a.heap:=by have:=hC.2.1;omega
 have ad:G w.heap<G a.heap:=ac;have h3:=b2.trans (d.Z' b2.size (λ k e=>U));have HI:Vy (Ii w (E (C' a (O (G w.heap) 1) (.map (Z mb))) (.cells (madeCells #[UJ ByteArray.empty] (K ls)) 9)) ls (G w.heap) mb (G a.heap) 0):=by
  have Ws:(C' a (O (G w.heap) 1) (.map (Z mb))).heap.size=G a.heap:=by simp
  have C:Bq (C' a (O (G w.heap) 1) (.map (Z mb))) (E (C' a (O (G w.heap) 1) (.map (Z mb))) (.cells (madeCells #[UJ ByteArray.empty] (K ls)) 9)):=ae.alloc aa _;have d0:D (C' a (O (G w.heap) 1) (.map (Z mb))) (O (G w.heap) 0)=Z (.pointer UP):=(SY _ _ _ _ sQ).trans H;have d1:D (C' a (O (G w.heap) 1) (.map (Z mb))) (O (G w.heap) 1)=Z (.map (Z mb)):=Tf _ _ _ W;have d2:(C' a (O (G w.heap) 1) (.map (Z mb))).frozen? (O (G w.heap) 0)=false:=(TL _ _ _ _).trans f0;have an:=hC.kl ⟨d.os,d.tape,d.output,d.size,λ k h1 h2=>d.block k h1 (λ q=>h2 (SQ q))⟩;have Xg:∀j,D (E (C' a (O (G w.heap) 1) (.map (Z mb))) (.cells (madeCells #[UJ ByteArray.empty] (K ls)) 9)) (O (G a.heap) j)=(madeCells #[UJ ByteArray.empty] (K ls))[j]? := λ j=>by
   rw[<- Ws,Tb]
  have am:∀j,(E (C' a (O (G w.heap) 1) (.map (Z mb))) (.cells (madeCells #[UJ ByteArray.empty] (K ls)) 9)).frozen? (O (G a.heap) j)=false:=λ j=>by
   rw[<- Ws];exact Um _ _ _ _
  refine⟨Te _,⟨[],UP,rfl,?_,(λ s hs=>by cases hs),(λ j t h=>by cases h)⟩,al C d1,an.kl (ai.kl C),aj h3 C,λ j hj=>⟨?_,am j⟩⟩
  ·exact⟨⟨.pointer UP,al C d0,SQ ⟨rfl,rfl⟩⟩,(C.frozen (p:=O (G w.heap) 0) (aB d0)).trans d2,U,ao,by
    have:=C.size;simp⟩
  ·rw[Xg j];exact⟨_,UF (by rw[size_madeCells];exact hj)⟩
 clear H f0 d h3 b2 hC;go_wp2_with fail;clear R W f1;generalize E (C' a (O (G w.heap) 1) (.map (Z mb))) (.cells (madeCells #[UJ ByteArray.empty] (K ls)) 9)=w4 at *;generalize G a.heap=c at *;generalize ap:G w.heap=qb at *;go_loopw [6,24] (λ _ iv wr=>∃i:Nat,iv=J i/\i<=K ls/\Vy (Ii w wr ls qb mb c i))
  (λ _ i _=>K ls-(intOf i).toNat)
 case atStart=>exact⟨0,rfl,Te _,HI⟩
 case round =>
  obtain⟨i,rfl,XC,HR⟩:=hrel;by_cases VS:i<K ls
  ·obtain⟨l,y⟩:∃x,ls[i]? = Z x:=⟨_,SU VS⟩;obtain⟨N,E9,T,st,dg,Yn⟩:=HX.out;have f:=HR.out;obtain⟨F,x,S,Y,hV,m⟩:=f.r;obtain⟨b,o,eA,Wv,hc⟩:=(N.below f.b) i l y;subst eA;have X6:c<G wr.heap:=Y.ls;have ha:=DI wr (E9.grown f.b) (T.below f.b U) (st.below f.b U) (dg.below f.b) (⟨Y,f.c1,f.cm.mono (Nat.le_succ c)⟩:SeC wr (c+1) qb mb x) hV U U (Yn l (Ti y));have HC:Vy (∀g,ai (KL qb (c+1)) wr g->(∃u,D g (O c i)=Z u)/\g.frozen? (O c i)=Vl):=λ g d=>by
    obtain⟨⟨u,hu⟩,hf⟩:=f.th i VS;have hn:¬KL qb (c+1) c:=λ q=>by rcases q with q|q;have:c=qb:=q;omega;have:c+1<=c:=q;omega
    exact⟨⟨u,d.cellOf hu hn⟩,(d.frozen (p:=O c i) X6 hn).trans hf⟩
   have V:Vy (∀(g:M) (t:Lu) (x':Option Ses),gp x l t x'->SeC g (c+1) qb mb x'->VOk (256+60*(i:Int)+60) x'->ai (KL qb (c+1)) wr g->Ii w (C' g (O c i) (.string (str t))) ls qb mb c (i+1)):=λ g t x' X v n d=>f.next y S m U ad X6 X v n d U
   have i1:(i:Int)<(K ls:Int):=U;clear N E9 T st dg Yn f S Y hV m HX HR HI;go_wp2_with fail;refine ha.mono ?_;rintro e g ⟨t,x',rfl,X,v,n,d⟩;have V:=V.out g t x' X v n d;have V:=qH V;obtain⟨⟨u,hu⟩,hf⟩:=HC.out g d;clear X v n d ha HC;go_wp2;go_roundw
   case rel=>exact⟨i+1,gQ,U,V⟩
   case measure=>simp[intOf];omega
  ·have e:i=K ls:=U;subst e;go_wp2;go_ret2;have f:=HR.out;obtain⟨F,x,S,Y,hV,m⟩:=f.r;rw[Tl]at S;exact⟨f.b,F,x,c,S,rfl,m⟩
end
section
variable {x x' : Option Ses} {line t : List UInt8}
theorem tG (a:cI line=UP)(b:gp x line t x'):t=bU 3/\x'=x:=by grind [cI,gp,bU]
theorem jD {a:Lu}(b:cI line=Z (k,ns,a))(c:gp x line t x'):rQ k ns a x t x':=by grind [cI,gp,rQ]
end
theorem xL (sep y:Lu)(r:List Lu):Lib.joinTail sep (r++[y])=Lib.joinTail sep r++(sep++y):=by
 simp[Lib.joinTail]
theorem Ba:dA []=[]:=rfl
theorem mV (n:Nat):dA [n]=Lib.decDigits n:=Lib.join_one _ _
theorem Ij {l:Ln}(h:l≠[])(n:Nat):dA (l++[n])=(dA l++[32])++Lib.decDigits n:=by
 cases l with
 |nil=>exact Q8 rfl h
 |cons x l =>
  unfold dA;rw[UE,UK,List.cons_append,Lib.join_cons,Lib.join_cons,List.map_singleton,xL];simp
theorem DJ {A:Oa}{l:Ln}(w:M)(r:de w A (l.map (λ n:Nat=>(n:Int))))(W:K l<=300)(y:∀n∈l,n<=1000000000) :
  Rq 43 #[.slice A (K l) cap] w (.string (str (dA l))):=by
 have k:Vy (de w A (l.map (λ n:Nat=>(n:Int)))/\∀n∈l,n<=1000000000):=⟨r,y⟩;clear r y;go_enter func43,ntmps43;go_wp2;go_loopw [3,4] (λ v iv wr=>∃(i:Nat),i<=K l/\iv=J i/\v=.string (str (dA (l.take i)))/\Bq w wr)
  (λ _ i _=>K l-(intOf i).toNat)
 case atStart=>exact⟨0,Te _,rfl,rfl,ae⟩
 case round =>
  obtain⟨i,Y,rfl,rfl,g⟩:=hrel;by_cases j:i<K l
  ·obtain⟨x,d⟩:∃x,l[i]? = Z x:=⟨_,SU j⟩;obtain⟨b,o,L,Wv,u⟩:=(k.out.1.below g) i (x:Int) (by rw[Tz,d];rfl);subst L;have R:=k.out.2 x (Ti d);have c:K (dA (l.take i))<=21*300:=Tg (iA (λ n C=>k.out.2 n (List.mem_of_mem_take C))) (by rw[Ts];omega);have q:(i:Int)<(K l:Int):=U;have s:=λ w0=>nW x x aa U w0;have X:(str (Lib.decDigits x)).size<=20:=(by rw[ar];exact i7 R);have V:(str (dA (l.take i))).size<=6300:=(by rw[ar];exact c);have f:l.take (i+1)=l.take i++[x]:=by
    obtain⟨S,F⟩:=Th.1 d;rw[Tx S,F]
   by_cases z:i=0
   ·subst z;have m:Vy (str (dA (l.take 0))++str (Lib.decDigits x)=str (dA (l.take (0+1)))):=by
     show _=_;rw[f,bV];simp[Ba,mV]
    have I:=λ w0=>jU (a:=str (dA (l.take 0))) (b:=str (Lib.decDigits x)) U U w0;have u:Cq wr b o (J (x:Int)):=u;have q:(0:Int)<(K l:Int):=q;clear f c d j;generalize str (dA (l.take 0))=t at *;generalize str (Lib.decDigits x)=P at *;go_wp2_with (go_at_call 34;refine Q9 (s _) λ B p=>?_);go_roundw
    case rel=>exact⟨1,U,gQ,by rw[m.out],aj g p⟩
    case measure=>simp[intOf];omega
   ·have m:Vy ((str (dA (l.take i))++⟨#[32]⟩)++str (Lib.decDigits x)=str (dA (l.take (i+1)))):=by
     show _=_;have N:(⟨#[32]⟩:ByteArray)=str [32]:=rfl;rw[f,N,bV,bV,Ij (by
      intro h;have:=Q7 List.length h;rw[Ts,Ut]at this;omega)]
    have I:=λ w0=>jU (a:=str (dA (l.take i))) (b:=⟨#[32]⟩) U dQ w0;have X2:(str (dA (l.take i))++⟨#[32]⟩:ByteArray).size<=6301:=(by rw[ByteArray.size_append];have:(⟨#[32]⟩:ByteArray).size=1:=rfl;omega);have H:=λ w0=>jU (a:=str (dA (l.take i))++⟨#[32]⟩) (b:=str (Lib.decDigits x)) U U w0;have T:(0:Int)<(i:Int):=U;clear f c d j z;generalize str (dA (l.take i))=t at *;generalize str (Lib.decDigits x)=P at *;go_wp2_with (go_at_call 34;refine Q9 (s _) λ B p=>?_);go_roundw
    case rel=>exact⟨i+1,U,gQ,by rw[m.out],aj g p⟩
    case measure=>simp[intOf];omega
  ·have e:i=K l:=U;subst e;rw[Tl];go_wp2;go_ret;exact⟨rfl,g⟩
theorem jb (n m:Nat)(r:Ln):dA (n::m::r)=Lib.decDigits n++32::dA (m::r):=by
 unfold dA;rw[UK,UK,Lib.join_cons,Lib.join_cons];simp[Lib.joinTail]
theorem qK {n:Nat}{c:UInt8}(h:iw c=Vl):c∉Lib.decDigits n:=λ b=>by
 have a:=Uu.1 (qp.2 (nT n)) c b;rw[h]at a;cases a
theorem y8:∀{l:Ln},l≠[]->pcs 32 (dA l)=l.map Lib.decDigits
 |[],h=>Q8 rfl h
 |[n],_=>by
  rw[mV,lP (qK dQ)];rfl
 |n::m::r,_=>by
  rw[jb,lO (qK dQ),y8 (l:=m::r) sQ];rfl
theorem qL {c:UInt8}(h:iw c=Vl)(b:c≠32):∀l:Ln,c∉dA l
 |[]=>by rw[Ba];simp
 |[n]=>by rw[mV];exact qK h
 |n::m::r=>by
  rw[jb,Tn,TD];rintro (a|a|a);exact qK h a;exact b a;exact qL h b (m::r) a
theorem Qf {s:Nat}{b:Lu}:dA [s,d]++[58,32]++b≠bU f:=λ h=>by
 have i:=jb s d [];obtain⟨x,r,c⟩:∃x r,Lib.decDigits s=x::r:=by
  cases e:Lib.decDigits s with
  |nil=>exact Q8 e (mH s)
  |cons x r=>exact⟨x,r,rfl⟩
 rw[i,c]at h;have g:x=101:=by
  have:=Q7 List.head? h;simp[bU]at this;exact this
 have a:iw x=true:=Uu.1 (qp.2 (nT s)) x (by grind);rw[g]at a;cases a
section
open Go.RowKit Go.Lib
def bN:Bn:=λ _=>Vl
def bY:Bn:=upd (λ _=>Vl) 1 Q
def DK (a:Int):Nat:=if a=0 then 0 else if a=1 then 1 else 2
def FK (a:Int):Ln:=[1,2].drop (DK a)
theorem Ry:∀a:Fin 3,∀k:Fin 8,bu 3 1 bN (((a.val:Int))%3) (((a.val:Int))/3) k.val=Q->stS k.val=1/\stD k.val=0/\((a.val:Int),(a.val:Int)+(af k.val*3+ah k.val))∈[((0:Int),(1:Int)),(1,0),(1,2),(2,1)]:=dQ
theorem Qg {r:Int}(h:aF 3 1 bN a k r):stS k=1/\stD k=0/\(a,r)∈[((0:Int),(1:Int)),(1,0),(1,2),(2,1)]:=by
 obtain⟨d,c,b,rfl⟩:=h;have q:0<=a/\a<3*1:=Q1 c;obtain⟨n,rfl⟩:∃n:Nat,a=(n:Int):=⟨a.toNat,U⟩;exact Ry ⟨n,U⟩ ⟨k,d⟩ b
theorem cp3:∀{l:Ln}{a s d:Int},Cp 3 1 bN a l 2 s d->d=0/\s=K l/\2<=K l+DK a/\(K l+DK a=2->l=FK a)
 |[],a,s,d,⟨c,b,o⟩=>by
  subst c b o;exact⟨rfl,rfl,dQ,λ _=>dQ⟩
 |r::l,a,s,d,⟨k,c,b⟩=>by
  obtain⟨q,p,g⟩:=Qg c;obtain⟨n,m,j,f⟩:=cp3 b;rw[q]at m;rw[p]at n;refine⟨U,by rw[Tk];omega,?_⟩;rw[Tk];simp only[TD,Prod.mk.injEq,Uf,or_false]at g;have t:DK 0=0/\DK 1=1/\DK 2=2:=dQ;have i:FK 0=[1,2]/\FK 1=[2]/\FK 2=[]:=dQ;rcases g with⟨rfl,e⟩|⟨rfl,e⟩|⟨rfl,e⟩|⟨rfl,e⟩<;>(rw[e]at j f;obtain rfl:r=_:=Int.ofNat_inj.1 e;refine⟨U,λ h=>?_⟩;first|(exfalso;omega)|(rw[f U];simp only[i]))
theorem St {c:Ln}{s d:Int}(h:Rt 3 1 bN 0 2 c s d err):s=2/\d=0/\err=0/\c=[0,1,2]:=by
 have b:ff2 3 1 bN 0 2=0:=dQ;have g:Cp 3 1 bN 0 [1,2] 2 2 0:=⟨2,by unfold aF;decide,2,by unfold aF;decide,dQ,dQ,dQ⟩;obtain⟨z,o⟩:=h.yes b g.walk;obtain⟨l,m,k,t,b2,r,q⟩:=h.path b z;obtain⟨f,n,e,a⟩:=cp3 k;subst f;have p:s<=2:=by grind [val]
 have i:DK 0=0:=dQ;rw[i]at e a;have j:K l=2:=U;refine⟨U,rfl,z,?_⟩;rw[m,a j];rfl
theorem no3:∀k:Fin 8,bu 3 1 bY ((0:Int)%3) ((0:Int)/3) k.val=false:=dQ
theorem Rz {m:Ln}{s d:Int}(h:Rt 3 1 bY 0 2 m s d err):s=0/\d=0/\err=5/\m=[]:=by
 have g:ff2 3 1 bY 0 2=0:=dQ;by_cases f:∃p q,Wk (aF 3 1 bY) 0 2 p q;obtain⟨p,q,f⟩:=f;obtain⟨z,_⟩:=h.yes g f;obtain⟨l,o,i,_⟩:=h.path g z;cases l with
 |nil=>cases i.1
 |cons r l =>
  obtain⟨k,⟨n,_,j,_⟩,_⟩:=i;rw[no3 ⟨k,n⟩]at j;cases j
 obtain⟨a,b,c,e⟩:=h.no g (λ p q k=>f ⟨p,q,k⟩);exact⟨c,e,a,b⟩
theorem RD:fk [48]=Z 0:=by have:=kC (n:=0) dQ;rw[decDigits_one dQ]at this;exact this
theorem N8:fk [49]=Z 1:=by have:=kC (n:=1) dQ;rw[decDigits_one dQ]at this;exact this
theorem Su:fk [50]=Z 2:=by have:=kC (n:=2) dQ;rw[decDigits_one dQ]at this;exact this
theorem Sw:fk [51]=Z 3:=by have:=kC (n:=3) dQ;rw[decDigits_one dQ]at this;exact this
theorem gu {w:Lu}{r:List Lu}{v:Int}{l:List Int}(h:fk w=Z v)(a:cw r=Z l):cw (w::r)=Z (v::l):=by grind [cw]
theorem qM {l a z:Lu}(f:¬1100<K l)(e:l=a++32::z)(j:(32:UInt8)∉a)(g:cf a=Z k)(n:k≠1)(d:cw (pcs 32 z)=Z ns)(h:bg k=-1\/bg k=K ns):cI l=Z (k,ns,[]):=by
 have b:cut l [32]=(a,z,Q):=by rw[e];exact ow j
 have m:cuA 32 l=a:=by unfold cuA;rw[b]
 have c:cuZ 32 l=z:=by unfold cuZ;rw[b]
 have i:cuB 32 l=true:=by unfold cuB;rw[b]
 refine(gq f (by rw[m];exact g) n).1 ns ?_ h;unfold tlW;rw[Q5 i,c];exact d
theorem Qh:cI [97,115,107,32,48,32,49]=Z (5,[0,1],[]):=qM (a:=[97,115,107]) (z:=[48,32,49]) dQ rfl dQ rfl dQ (gu RD (gu N8 rfl)) (SP rfl)
theorem RE:cI [110,101,119,32,51,32,49,32,49]=Z (0,[3,1,1],[]):=qM (a:=[110,101,119]) (z:=[51,32,49,32,49]) dQ rfl dQ rfl dQ (gu Sw (gu N8 (gu N8 rfl))) (SP rfl)
theorem LI:cI [97,115,107,32,48,32,50]=Z (5,[0,2],[]):=qM (a:=[97,115,107]) (z:=[48,32,50]) dQ rfl dQ rfl dQ (gu RD (gu Su rfl)) (SP rfl)
theorem N9:cI [98,108,111,99,107,32,49]=Z (2,[1],[]):=qM (a:=[98,108,111,99,107]) (z:=[49]) dQ rfl dQ rfl dQ (gu N8 rfl) (SQ rfl)
theorem Pe {l:Lu}(h:(32:UInt8)∉l):cuA 32 l=l/\cuB 32 l=false:=by grind [cuA,cuB,uS]
theorem Qi:cI [115,97,118,101]=Z (8,[],[]):=by
 obtain⟨b,a⟩:=Pe (l:=[115,97,118,101]) dQ;refine(gq dQ (by rw[b];rfl) dQ).1 [] ?_ (SP rfl);unfold tlW;rw[Q6 (by rw[a];decide)];rfl
theorem RF:cI [102,108,121]=none:=by
 obtain⟨a,b⟩:=Pe (l:=[102,108,121]) dQ;exact mT dQ (by rw[a];rfl)
theorem Sx:bU 8=[101,114,114,111,114,32,56]:=by unfold bU;rw[decDigits_one dQ];rfl
theorem Sy:bU 5=[101,114,114,111,114,32,53]:=by unfold bU;rw[decDigits_one dQ];rfl
theorem Sz:bU 3=[101,114,114,111,114,32,51]:=by unfold bU;rw[decDigits_one dQ];rfl
theorem RH:iJ [0,1,2] 2 0 0=[50,32,48,58,32,48,32,49,32,50]:=by
 show wj [0,1,2] 2 0 0=_;unfold wj;rw[Q5 rfl,jb,jb,jb,mV,mV,decDigits_one dQ,decDigits_one dQ,decDigits_one dQ];rfl
theorem RJ:swp 10 47 (eu bY 3 1)=[116,121,112,101,32,111,99,116,105,108,101,47,104,101,105,103,104,116,32,49,47,119,105,100,116,104,32,51,47,109,97,112,47,46,64,46,47]:=by
 unfold eu jQ;rw[eO,eO,decDigits_one dQ,decDigits_one dQ];rfl
theorem jM.uncons {x x':Option Ses}{l:Lu}{ls ts:List Lu}(h:jM x (l::ls) ts x'):∃t a b,ts=t::a/\gp x l t b/\jM b ls a x':=by
 cases ts with
 |nil=>exact h.elim
 |cons t ts =>
  obtain⟨b,d,c⟩:=h;exact⟨t,ts,b,rfl,d,c⟩
theorem jM.unnil {x x':Option Ses}{ts:List Lu}(h:jM x [] ts x'):ts=[]:=by grind [jM]
def uY:List Lu:=[[97,115,107,32,48,32,49],[110,101,119,32,51,32,49,32,49],[97,115,107,32,48,32,50],[98,108,111,99,107,32,49],[97,115,107,32,48,32,50],[115,97,118,101],[102,108,121]]
def za:List Lu:=[[101,114,114,111,114,32,56],[111,107],[50,32,48,58,32,48,32,49,32,50],[49],[101,114,114,111,114,32,53],[116,121,112,101,32,111,99,116,105,108,101,47,104,101,105,103,104,116,32,49,47,119,105,100,116,104,32,51,47,109,97,112,47,46,64,46,47],[101,114,114,111,114,32,51]]
theorem LJ {ts:List Lu}{x:Option Ses}(h:jM UP uY ts x):ts=za:=by
 unfold uY at h;obtain⟨t0,Y,n,rfl,u,h⟩:=h.uncons;obtain⟨t1,X,l,rfl,c,h⟩:=h.uncons;obtain⟨t2,V,k,rfl,d,h⟩:=h.uncons;obtain⟨t3,T,j,rfl,t,h⟩:=h.uncons;obtain⟨t4,S,i,rfl,r,h⟩:=h.uncons;obtain⟨t5,R,N,rfl,q,h⟩:=h.uncons;obtain⟨t6,P,L,rfl,p,h⟩:=h.uncons;obtain rfl:=h.unnil;have F:=jD Qh u;obtain⟨rfl,rfl⟩:n=UP/\t0=bU 8:=by
  rcases F with⟨h,_⟩|⟨h,_⟩|⟨_,_,c,d⟩|⟨_,s,h,_⟩
  cases h;cases h;exact⟨c,d⟩;cases h
 have C:=jD RE c;obtain⟨rfl,rfl⟩:l=Z ⟨3,1,1,0,bN⟩/\t1=okS:=by
  rcases C with⟨_,W,H,m,e,h⟩|⟨h,_⟩|⟨h,_⟩|⟨h,_⟩
  cases e;rcases h with⟨h,_⟩|⟨_,c,d⟩
  exact Q8 dQ h;exact⟨d,c⟩;cases h;omega;omega
 have B:=jD LI d;obtain⟨rfl,rfl⟩:k=Z ⟨3,1,1,0,bN⟩/\t2=iJ [0,1,2] 2 0 0:=by
  rcases B with⟨h,_⟩|⟨h,_⟩|⟨_,h,_⟩|⟨_,s,e,h⟩
  cases h;cases h;cases h;cases e;rcases h with⟨h,_⟩|⟨_,c,a,b,I,o,w,v,g,f,rfl⟩|⟨h,_⟩|⟨h,_⟩|⟨h,_⟩|⟨h,_⟩
  cases h
  grind [St]
  cases h;cases h;cases h;omega
 have A:=jD N9 t;obtain⟨rfl,rfl⟩:j=Z ⟨3,1,1,1,bY⟩/\t3=decDigits 1:=by
  rcases A with⟨h,_⟩|⟨h,_⟩|⟨_,h,_⟩|⟨_,s,e,h⟩
  cases h;cases h;cases h;cases e;rcases h with⟨h,_⟩|⟨h,_⟩|⟨h,_⟩|⟨h,_⟩|⟨h,_⟩|⟨_,h⟩
  cases h;cases h;cases h;cases h;cases h;rcases h with⟨h,_⟩|⟨_,c,d⟩
  exact Q8 dQ h;exact⟨c,d⟩
 have z:=jD LI r;obtain⟨rfl,rfl⟩:i=Z ⟨3,1,1,1,bY⟩/\t4=bU 5:=by
  rcases z with⟨h,_⟩|⟨h,_⟩|⟨_,h,_⟩|⟨_,s,e,h⟩
  cases h;cases h;cases h;cases e;rcases h with⟨h,_⟩|⟨_,c,a,b,I,o,w,v,g,f,rfl⟩|⟨h,_⟩|⟨h,_⟩|⟨h,_⟩|⟨h,_⟩
  cases h;cases g;obtain⟨rfl,rfl,rfl,rfl⟩:=Rz f;exact⟨c,rfl⟩;cases h;cases h;cases h;omega
 have y:=jD Qi q;obtain rfl:t5=swp 10 47 (eu bY 3 1):=by
  rcases y with⟨h,_⟩|⟨h,_⟩|⟨_,h,_⟩|⟨_,s,e,h⟩
  cases h;cases h;cases h;cases e;rcases h with⟨h,_⟩|⟨h,_⟩|⟨h,_⟩|⟨h,_⟩|⟨_,_,_,h⟩|⟨h,_⟩
  cases h;cases h;cases h;cases h;exact h;omega
 obtain⟨rfl,_⟩:=tG RF p;rw[Sx,RH,Sy,RJ,Sz,decDigits_one dQ];rfl
end
section
open Go.RowKit Go.Lib
theorem dJ (k:Nat)(e:k<=1000)(w:M) :
  Rq 11 #[J (k:Int)] w (.string (str (bU k))):=by
 have a:=λ w0=>nW k k aa U w0;have f:(str (decDigits k)).size<=20:=by rw[ar];exact i7 U
 have b:Vy ((⟨#[101,114,114,111,114,32]⟩:ByteArray)++str (decDigits k)=str (bU k)):=bV [101,114,114,111,114,32] (decDigits k);generalize str (decDigits k)=g at *;go_enter func11,ntmps11;go_wp2_with (go_at_call 34;refine Q9 (a _) λ d c=>?_);go_ret;exact⟨by rw[<- b.out];rfl,c⟩
end
theorem xM {A B:Oa}{c1 c2:Nat}{l:List Lu}(w:M)(f:eE w A l)(a:eE w B l)(r:K l<=1000) :
  Rq 7 #[.slice A (K l) c1,.slice B (K l) c2] w (.bool Q):=by
 have d:Vy (eE w A l/\eE w B l):=⟨f,a⟩;clear f a;go_enter func7,ntmps7;go_wp2;go_loopw [5] (λ iv wr=>∃(i:Nat),i<=K l/\iv=J i/\Bq w wr)
  (λ i _=>K l-(intOf i).toNat)
 case atStart=>exact⟨0,Te _,rfl,ae⟩
 case round =>
  obtain⟨i,v,rfl,a⟩:=hrel;by_cases m:i<K l
  ·obtain⟨x,c⟩:∃x,l[i]? = Z x:=⟨_,SU m⟩;obtain⟨b,o,j,y,s⟩:=(d.out.1.below a) i x c;obtain⟨u,n,h,k,g⟩:=(d.out.2.below a) i x c;subst j h;have p:(i:Int)<(K l:Int):=U;have q:((str x).toList==(str x).toList)=true:=beq_self_eq_true _;clear d c;generalize str x=t at *;go_wp2;go_quiet (fail);go_wp2;go_roundw
   case rel=>exact⟨i+1,U,gQ,Vxj a _⟩
   case measure=>simp[intOf];omega
  ·have e:i=K l:=U;subst e;go_wp2;go_ret;exact⟨rfl,a⟩
theorem xN {x:Vr}(f:Nat)(g:1<=f)(b:f<=1000)(w:M) :
  Rq 16 #[x,v,J (f:Int)] w (.string (str (bU f))):=by
 have a:=dJ f b w;have e:(0:Int)<(f:Int):=U;go_enter func16,ntmps16;go_wp2_with (go_at_call 11;refine Q9 a λ d c=>?_);go_ret;exact⟨rfl,c⟩
theorem Be {u:Vr}{b:Nat}(w:M)(c:Cq w b 0 u)(f:w.frozen? (O b 0)=Vl)(a:∃p,v=.pointer p) :
  Zq 16 #[Pq b,v,J 0] w λ e I=>e=VJ (.string (str [111,107]))/\I=C' w (O b 0) v:=by
 obtain⟨p,rfl⟩:=a;go_enter func16,ntmps16;go_wp2;go_ret;exact⟨rfl,rfl⟩
theorem Ik (w:M)(E9:Env w)(j:Mx w)(st:az w)(dg:ch w) :
  Rq 4 #[] w (.bool Q):=by
 have b:Bq w (E w (VP #[.string ⟨#[97,115,107,32,48,32,49]⟩,.string ⟨#[110,101,119,32,51,32,49,32,49]⟩,.string ⟨#[97,115,107,32,48,32,50]⟩,.string ⟨#[98,108,111,99,107,32,49]⟩,.string ⟨#[97,115,107,32,48,32,50]⟩,.string ⟨#[115,97,118,101]⟩,.string ⟨#[102,108,121]⟩] 9)):=ae.alloc aa _;have c:eE (E w (VP #[.string ⟨#[97,115,107,32,48,32,49]⟩,.string ⟨#[110,101,119,32,51,32,49,32,49]⟩,.string ⟨#[97,115,107,32,48,32,50]⟩,.string ⟨#[98,108,111,99,107,32,49]⟩,.string ⟨#[97,115,107,32,48,32,50]⟩,.string ⟨#[115,97,118,101]⟩,.string ⟨#[102,108,121]⟩] 9)) (Z (O (G w.heap) 0)) uY:=eE.new w uY 9;have m:=E9.z;have h:Zq 5 #[.slice (Z (O (G w.heap) 0)) 7 7] (E w (VP #[.string ⟨#[97,115,107,32,48,32,49]⟩,.string ⟨#[110,101,119,32,51,32,49,32,49]⟩,.string ⟨#[97,115,107,32,48,32,50]⟩,.string ⟨#[98,108,111,99,107,32,49]⟩,.string ⟨#[97,115,107,32,48,32,50]⟩,.string ⟨#[115,97,118,101]⟩,.string ⟨#[102,108,121]⟩] 9)) λ e I=>∃a,e=VJ (.tuple #[.slice (Z (O a 0)) 7 7,.nilIface])/\Bq w I/\Vy (eE I (Z (O a 0)) za) :=
  (FJ (cap:=7) (ls:=uY) _ (E9.grown b) (j.below b U) (st.below b U) (dg.below b) dQ c dQ).mono λ e I ⟨p,y,x',a,q,o,d⟩=>by
   obtain rfl:=LJ q;exact⟨a,o,aj b p,λ i x hi=>⟨a,0,rfl,aB (d i x hi),by rw[Tm];exact d i x hi⟩⟩
 have g:=λ I=>KH (n:=0) dQ I;have f:edV 0=.nilIface:=rfl;rw[f]at g;clear E9 j st dg c f m;go_enter func4,ntmps4;go_wp2_with fail;refine h.mono ?_;rintro e w1 ⟨a,rfl,k,s⟩;clear h b;have b2:Bq w1 (E w1 (VP #[.string ⟨#[101,114,114,111,114,32,56]⟩,.string ⟨#[111,107]⟩,.string ⟨#[50,32,48,58,32,48,32,49,32,50]⟩,.string ⟨#[49]⟩,.string ⟨#[101,114,114,111,114,32,53]⟩,.string ⟨#[116,121,112,101,32,111,99,116,105,108,101,47,104,101,105,103,104,116,32,49,47,119,105,100,116,104,32,51,47,109,97,112,47,46,64,46,47]⟩,.string ⟨#[101,114,114,111,114,32,51]⟩] 9)):=ae.alloc aa _;have r:Rq 7 #[.slice (Z (O a 0)) 7 7,.slice (Z (O (G w1.heap) 0)) 7 7] (E w1 (VP #[.string ⟨#[101,114,114,111,114,32,56]⟩,.string ⟨#[111,107]⟩,.string ⟨#[50,32,48,58,32,48,32,49,32,50]⟩,.string ⟨#[49]⟩,.string ⟨#[101,114,114,111,114,32,53]⟩,.string ⟨#[116,121,112,101,32,111,99,116,105,108,101,47,104,101,105,103,104,116,32,49,47,119,105,100,116,104,32,51,47,109,97,112,47,46,64,46,47]⟩,.string ⟨#[101,114,114,111,114,32,51]⟩] 9)) (.bool Q):=xM (c1:=7) (c2:=7) (l:=za) _ (s.out.below b2) (eE.new w1 za 9) dQ;go_wp2_with fail;refine Q0 (g _) ?_;go_wp2_with fail;refine Q9 r λ v u=>?_;have t:=k.trans ((aj b2 u).mono k.size);go_wp2;go_ret;exact⟨rfl,t⟩
theorem LK (h:bU f=bU i):f=i:=by grind [bU,List.append_cancel_left,cE,mI]
theorem LL (Y:1<=f)(h8:f<=8)(w:M) :
  Zq 40 #[.string (str (bU f))] w λ e I=>e=VJ (.tuple #[.agg #[.slice UP 0 0,J 0,J 0,J (f:Int)],.bool Q])/\Vw (G w.heap) w I:=by
 have A:=mB w (VP #[.slice UP 0 0,J 0,J 0,J 0] 92);have s:Vy (∀o,D (E w (VP #[.slice UP 0 0,J 0,J 0,J 0] 92)) (O (G w.heap) o)=#[TQ UP 0 0,J 0,J 0,J 0][o]? /\ (E w (VP #[.slice UP 0 0,J 0,J 0,J 0] 92)).frozen? (O (G w.heap) o)=Vl):=λ o=>⟨by rw[Tb],Um _ _ _ _⟩;go_enter func40,ntmps40;go_wp2;generalize E w (VP #[.slice UP 0 0,VN VO 0,VN VO 0,VN VO 0] 92)=w1 at *;go_loopw [4] (λ iv wr=>∃(i:Nat),1<=i/\i<=f/\iv=J i/\Vw (G w.heap) w wr/\Vy (G w.heap<G wr.heap/\∀o,D wr (O (G w.heap) o)=#[TQ UP 0 0,J 0,J 0,J 0][o]? /\ wr.frozen? (O (G w.heap) o)=Vl))
  (λ i _=>9-(intOf i).toNat)
 case atStart=>exact⟨1,aa,Y,rfl,A,⟨aB (s.out 0).1,s.out⟩⟩
 case round =>
  obtain⟨i,X,W,rfl,r,l⟩:=hrel;have q:=dJ i U wr;have i1:(i:Int)<9:=U;have m:Vy (∀c,Vw (G wr.heap) wr c->G w.heap<G c.heap/\∀o,D c (O (G w.heap) o)=#[TQ UP 0 0,J 0,J 0,J 0][o]? /\ c.frozen? (O (G w.heap) o)=Vl):=λ c z=>⟨Tc l.out.1 z.size,λ o=>⟨(World.cell?_of_block (w:=wr) (a:=O (G w.heap) o) ((ai.Y' z:ai (λ _=>False) wr c).block _ l.out.1 id)).trans (l.out.2 o).1,(z.frozen (p:=O (G w.heap) o) l.out.1).trans (l.out.2 o).2⟩⟩;by_cases N:i=f
  ·subst N;have y:((str (bU i)).toList==(str (bU i)).toList)=true:=beq_self_eq_true _;clear s A l;go_wp2_with fail;refine Q9 q λ c n=>?_;obtain⟨L,j⟩:=m.out c n;have H:=(j 0).1;have F:=(j 1).1;have C:=(j 2).1;have B:=(j 3).1;have f0:=(j 0).2;have f1:=(j 1).2;have f2:=(j 2).2;have f3:=(j 3).2;have t:=aj r n;clear j m q r;have x:∀a b:Nat,a≠b->(O (G w.heap) a:Addr)≠O (G w.heap) b:=λ a b h e=>h (Q7 Addr.off e);have HQ:Vy (D ((((C' c (O (G w.heap) 0) (.slice UP 0 0)).setCell (O (G w.heap) 1) (J 0)).setCell (O (G w.heap) 2) (J 0)).setCell (O (G w.heap) 3) (J (i:Int))) (O (G w.heap) 0)=Z (.slice UP 0 0)/\D ((((C' c (O (G w.heap) 0) (.slice UP 0 0)).setCell (O (G w.heap) 1) (J 0)).setCell (O (G w.heap) 2) (J 0)).setCell (O (G w.heap) 3) (J (i:Int))) (O (G w.heap) 1)=Z (J 0)/\D ((((C' c (O (G w.heap) 0) (.slice UP 0 0)).setCell (O (G w.heap) 1) (J 0)).setCell (O (G w.heap) 2) (J 0)).setCell (O (G w.heap) 3) (J (i:Int))) (O (G w.heap) 2)=Z (J 0)/\D ((((C' c (O (G w.heap) 0) (.slice UP 0 0)).setCell (O (G w.heap) 1) (J 0)).setCell (O (G w.heap) 2) (J 0)).setCell (O (G w.heap) 3) (J (i:Int))) (O (G w.heap) 3)=Z (J (i:Int))/\Vw (G w.heap) w ((((C' c (O (G w.heap) 0) (.slice UP 0 0)).setCell (O (G w.heap) 1) (J 0)).setCell (O (G w.heap) 2) (J 0)).setCell (O (G w.heap) 3) (J (i:Int)))):=by
    generalize G w.heap=d at x H F C B L t ⊢;have g:∀(w:M) (a b:Nat) (v:Vr),a≠b->D (C' w (O d a) v) (O d b)=D w (O d b):=λ _ _ _ _ h=>SY _ _ _ _ (λ e=>by first|exact x _ _ h e|exact x _ _ h e.symm);have k:∀(w:M) (a:Nat) (v u:Vr),D w (O d a)=Z u->D (C' w (O d a) v) (O d a)=Z v:=λ _ _ _ _ h=>Tf _ _ _ h;refine⟨?_,?_,?_,?_,?_⟩
    ·rw[g _ _ _ _ dQ,g _ _ _ _ dQ,g _ _ _ _ dQ];exact k _ _ _ _ H
    ·rw[g _ _ _ _ dQ,g _ _ _ _ dQ];exact k _ _ _ _ ((g _ _ _ _ dQ).trans F)
    ·rw[g _ _ _ _ dQ];exact k _ _ _ _ ((g _ _ _ _ dQ).trans ((g _ _ _ _ dQ).trans C))
    ·exact k _ _ _ _ ((g _ _ _ _ dQ).trans ((g _ _ _ _ dQ).trans ((g _ _ _ _ dQ).trans B)))
    ·exact t.trans ((((((ai.refl (λ k=>k=d) c).setCell (p:=O d 0) (λ _=>rfl) _).setCell (p:=O d 1) (λ _=>rfl) _).setCell (p:=O d 2) (λ _=>rfl) _).setCell (p:=O d 3) (λ _=>rfl) _).Z' (Nat.le_of_lt L) (λ k e=>Nat.le_of_eq e.symm))
   go_wp2;obtain⟨V,T,S,R,P⟩:=HQ.out;refine bodyPost_ret (v:=.tuple #[.agg #[.slice UP 0 0,J 0,J 0,J (i:Int)],.bool Q]) (by simp[results,results40,go_sem,V,T,S,R]) rfl ⟨rfl,P⟩
  ·have y:((str (bU f)).toList==(str (bU i)).toList)=false:=by
    rw[aD,aD,Q4];exact λ e=>N (LK e).symm
   clear s A l;go_wp2_with fail;refine Q9 q λ c n=>?_;have t:=aj r n;have m:Vy (G w.heap<G c.heap/\∀o,D c (O (G w.heap) o)=#[TQ UP 0 0,J 0,J 0,J 0][o]? /\ c.frozen? (O (G w.heap) o)=Vl):=m.out c n;clear q r;go_wp2;go_roundw
   case rel=>exact⟨i+1,U,U,gQ,t,m⟩
   case measure=>simp[intOf];omega
theorem oK (s:Lu)(c:UInt8)(hs:K s<=1000000)(w:M) :
  Zq 12 #[.string (str s),.int .u8 (c.toNat:Int)] w λ e I=>∃v,e=VJ v/\G' I (G w.heap) 9 1 v (K (pcs c s)) (cQ (pcs c s))/\Bq w I:=by
 obtain⟨V,hi,W⟩:=TK.1 nX;simp only[Prod.mk.injEq]at W;obtain⟨VZ,Wa,Wc⟩:=W;have Ws:=ar s;go_enter func12,ntmps12;go_wp2;go_loopw [5,6,7] (λ l f i wr=>∃(j a:Nat) (d:List Lu),i=J j/\f=J a/\G' wr (G w.heap) 9 1 l (K d) (cQ d)/\Bq w wr/\Vy (K d<=a/\j<=K s+1/\((j<=K s/\a<=j/\c∉(s.drop a).take (j-a)/\pcs c s=d++pcs c (s.drop a))\/(j=K s+1/\d=pcs c s))))
  (λ _ _ i _=>K s+1-(intOf i).toNat)
 case atStart=>exact⟨0,0,[],rfl,rfl,⟨by simp[cQ],.inl ⟨rfl,rfl⟩⟩,ae,⟨by simp,U,SQ ⟨U,U,by simp,by simp⟩⟩⟩
 case round =>
  obtain⟨j,f,d,rfl,rfl,b,o,L⟩:=hrel;obtain⟨Yn,ab,L⟩:=L.out;have r:=o.size;rcases L with⟨hj,X,n,m⟩|⟨rfl,rfl⟩
  ·by_cases R:j<K s
   ·have F:=fe s j R;have k:=Ap X R;have g:=wY X R;have j1:(0:Int)<=(j:Int)/\(j:Int)<(K s:Int):=U;generalize s[j]=x at F k g;by_cases H:x=c
    ·subst H;have A:=nY s f j;have N:pcs x s=(d++[(s.drop f).take (j-f)])++pcs x (s.drop (j+1)):=by
      have h2:pcs x (s.drop f)=(s.drop f).take (j-f)::pcs x (s.drop (j+1)):=by
       conv=>lhs;rw[k]
       exact lO n
      rw[m,h2];simp
     generalize (s.drop f).take (j-f)=l at A N;have z:=qH N;have f1:(0:Int)<=(f:Int)/\(f:Int)<=(j:Int)/\(j:Int)<=(K s:Int):=U;clear N m n k g;go_wp2_with (at_builtin;refine Vxk _ rfl _ _ 22 rfl (G w.heap) 9 V (.string ⟨#[]⟩) 1 16 Vyi hi VZ Wa Wc rfl dQ _ _ _ rfl (b.alloc _) (O (G wr.heap) 0) 1 1 [.string (str l)] rfl rfl ?c1 ?c2 ?c3 ?c4 ?c5 ?_)
     case c1=>exact Vye _ _ _
     case c2=>intro u p;simp at p;subst p;rfl
     case c3=>unfold Vyf;omega
     case c4=>omega
     case c5=>simp;omega
     intro B w1 t y _;have P:=λ q C=>(b.lt q C).1;have T:Bq w w1:=(o.alloc r _).grown y sU P;have S:G' w1 (G w.heap) 9 1 B (K (d++[l])) (cQ (d++[l])):=by simpa [cQ]using t
     clear t y b o;go_wp2;go_roundw
     case rel=>exact⟨j+1,j+1,d++[l],gQ,gQ,S,T,⟨by simp;omega,U,SQ ⟨U,aa,by simp,z.out⟩⟩⟩
     case measure=>simp[intOf];omega
    ·have YU:((x.toNat:Int)==(c.toNat:Int))=false:=by
      rw[Q4];intro e;exact H (UInt8.toNat_inj.1 U)
     have HN:Vy (c∉(s.drop f).take (j+1-f)):=by
      show c∉(s.drop f).take (j+1-f);rw[g,Tn];rintro (h|h)
      ·exact n h
      ·exact H (List.mem_singleton.1 h).symm
     have z:=qH m;clear m n k g;go_wp2;go_roundw
     case rel=>exact⟨j+1,f,d,gQ,rfl,b,o,⟨Yn,U,SQ ⟨U,U,HN.out,z.out⟩⟩⟩
     case measure=>simp[intOf];omega
   ·have YX:j=K s:=U;subst YX;have Y:c∉s.drop f:=by
     rw[TM sQ]at n;exact n
    rw[lP Y]at m;have A:=nY s f (K s);rw[TM sQ]at A;generalize s.drop f=l at A m;have z:=qH m;have f1:(0:Int)<=(f:Int)/\(f:Int)<=(K s:Int):=U;clear m n Y;go_wp2_with (at_builtin;refine Vxk _ rfl _ _ 22 rfl (G w.heap) 9 V (.string ⟨#[]⟩) 1 16 Vyi hi VZ Wa Wc rfl dQ _ _ _ rfl (b.alloc _) (O (G wr.heap) 0) 1 1 [.string (str l)] rfl rfl ?c1 ?c2 ?c3 ?c4 ?c5 ?_)
    case c1=>exact Vye _ _ _
    case c2=>intro u p;simp at p;subst p;rfl
    case c3=>unfold Vyf;omega
    case c4=>omega
    case c5=>simp;omega
    intro B w1 t y _;have P:=λ q C=>(b.lt q C).1;have T:Bq w w1:=(o.alloc r _).grown y sU P;have S:G' w1 (G w.heap) 9 1 B (K (d++[l])) (cQ (d++[l])):=by simpa [cQ]using t
    clear t y b o;go_wp2;go_roundw
    case rel=>exact⟨K s+1,K s+1,d++[l],gQ,gQ,S,T,⟨by simp;omega,U,SP ⟨rfl,z.out.symm⟩⟩⟩
    case measure=>simp[intOf]
  ·go_wp2;go_ret;exact⟨_,rfl,b,o⟩
def SD (s:Lu) (e:Ending):Prop:=(∃v,qA s=Z v/\e=VJ (.tuple #[J v,.bool Q]))\/(qA s=UP/\∃v:Int,e=VJ (.tuple #[J v,.bool Vl]))
theorem mW (s:Lu)(W:K s<=1000000)(w:M) :
  Zq 13 #[.string (str s)] w λ e I=>SD s e/\Bq w I:=by
 have Y:=ar s;by_cases f:s=[45,49]
 ·subst f;have B:((str [45,49]).toList == [45,49])=true:=by rw[aD];rfl
  go_enter func13,ntmps13;go_wp2;go_ret2;exact⟨SQ ⟨-1,rfl,rfl⟩,ae⟩
 ·have B:((str s).toList == [45,49])=false:=by rw[aD,Q4];exact f
  by_cases q:4<K s
  ·have A:(4:Int)<(K s:Int):=U;have c:Vy (qA s=UP):=by
    unfold Vy qA;rw[Q6 f,Q5 (SQ q)]
   clear f q;go_enter func13,ntmps13;go_wp2;go_ret2;exact⟨SP ⟨c.out,0,rfl⟩,ae⟩
  ·have A:¬(4:Int)<(K s:Int):=U;by_cases p:K s=0
   ·have z:((K s:Int)==0)=true:=(by rw[p];rfl);have c:Vy (qA s=UP):=by
     unfold Vy qA;rw[Q6 f,Q5 (SP p)]
    clear f q p;go_enter func13,ntmps13;go_wp2;go_ret2;exact⟨SP ⟨c.out,0,rfl⟩,ae⟩
   ·have z:((K s:Int)==0)=false:=(by rw[Q4];omega);have c:Vy (qA s=if s.all iw=Q then (if Lib.decDigits (cE 0 s)=s then Z ((cE 0 s:Nat):Int) else UP) else UP):=by
     unfold Vy qA;rw[Q6 f,Q6 U]
    have N:K s<=4:=U;clear f q p;go_enter func13,ntmps13;go_wp2;clear A z B;go_loopw [4,5] (λ n i wr=>∃j:Nat,i=J j/\n=J ((cE 0 (s.take j):Nat):Int)/\wr=w/\Vy (j<=K s/\(s.take j).all iw=Q))
     (λ _ i _=>K s-(intOf i).toNat)
    case atStart=>exact⟨0,rfl,rfl,rfl,⟨U,rfl⟩⟩
    case round =>
     obtain⟨j,rfl,rfl,rfl,S⟩:=hrel;obtain⟨X,g⟩:=S.out;have C:cE 0 (s.take j)<10000:=Tc (lF _ (qp.1 g)) (Tg (Nat.pow_le_pow_right dQ (show K (s.take j)<=4 by rw[Ts];omega)) dQ);by_cases r:j<K s
     ·have l:=fe s j r;have b:=ux r;have v:s.take (j+1)=s.take j++[s[j]]:=(by rw[Tx r]);have V:(j:Int)<(K s:Int):=U;by_cases k:iw s[j]=Q
      ·have a:48<=s[j].toNat/\s[j].toNat<=57:=Q1 k;have t:Vy ((s.take (j+1)).all iw=Q):=by
        show (s.take (j+1)).all iw=Q;rw[v,List.all_append,g,List.all_cons,k];rfl
       generalize s[j]=x at l b a;generalize cE 0 (s.take j)=n at b C ⊢;have y:¬(x.toNat:Int)<48:=U;have H:¬(57:Int)<(x.toNat:Int):=U;clear v g k c;go_wp2;go_roundw
       case rel=>exact⟨j+1,gQ,by rw[b];go_num,trivial,⟨U,t.out⟩⟩
       case measure=>simp[intOf];omega
      ·have t:Vy (qA s=UP):=by
        show qA s=UP;rw[c.out,Q6 (λ R=>k (Uu.1 R _ (List.getElem_mem r)))]
       have a:s[j].toNat<48\/57<s[j].toNat:=by
        have:¬(48<=s[j].toNat/\s[j].toNat<=57):=λ h=>k (Q2 h);omega
       generalize s[j]=x at l b a;clear v g k c b;rcases a with a|a
       ·have y:(x.toNat:Int)<48:=U;go_wp2;go_ret2;exact⟨SP ⟨t.out,0,rfl⟩,ae⟩
       ·have y:¬(x.toNat:Int)<48:=U;have H:(57:Int)<(x.toNat:Int):=U;go_wp2;go_ret2;exact⟨SP ⟨t.out,0,rfl⟩,ae⟩
     ·have T:j=K s:=U;subst T;rw[Tl]at g C ⊢;have L:=nW (cE 0 s) (cE 0 s) aa U wr;have m:Vy (qA s=if Lib.decDigits (cE 0 s)=s then Z ((cE 0 s:Nat):Int) else UP):=by
       show qA s=_;rw[c.out,Q5 g]
      clear c g;generalize cE 0 s=n at *;generalize P:Lib.decDigits n=d at *;go_wp2_with fail;refine Q9 L λ w1 F=>?_;by_cases o:d=s
      ·have u:((str d).toList==(str s).toList)=true:=(by rw[o];exact beq_self_eq_true _);go_wp2;go_ret2;exact⟨SQ ⟨n,by rw[m.out,Q5 o],rfl⟩,F⟩
      ·have u:((str d).toList==(str s).toList)=false:=(by rw[aD,aD,Q4];exact o);go_wp2;go_ret2;exact⟨SP ⟨by rw[m.out,Q6 o],n,rfl⟩,F⟩
end Go.Proofs.YtikdmenjibkgiaaGreatDoor
