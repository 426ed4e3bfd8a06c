/- Texts laid together. -/
import Derived.Test.YtmaefimaeelkbaaGreatDoorP9
import Derived.Test.YtmaefimaeelkbaaGreatDoorP10
import Derived.Test.YtmaefimaeelkbaaGreatDoorRows
import Derived.ProofKit
import Derived.LaidMore
import Derived.OpenShut
import Derived.Stop.Joined
import Derived.Stop.LaidErr
import Derived.Lib.LaidTab
import Derived.Test.YtmaefimaeelkbaaGreatDoorTie
import Derived.Test.YtmaefimaeelkbaaGreatDoorCards
import Derived.ChangeMaps5
import Derived.SevenTiedAt
import Derived.Lib.SmallJoins
import Derived.Deep.Slices
import Derived.Deep.RegionHeld
namespace Go.Proofs.YtmaefimaeelkbaaGreatDoor
open _root_.Nat renaming le_trans→M5,not_lt_zero→Nz,succ_mul→O0,lt_of_lt_of_le→MN,add_assoc→OI,pow_le_pow_right→OF,add_comm→Po
open _root_.Bool renaming false_or→OS,or_false→OT,and_false→Ps,false_eq_true→Ph,false_and→N1,and_eq_true→MW
open _root_.List renaming mem_cons_of_mem→MV,mem_cons_self→M4,filter_cons_of_neg→O9,filter_cons_of_pos→Pb,length_cons→Nf,any_eq_true→Oo,length_filter_le→Nk,take_add_one→Nb,filter_append→NQ,length_append→MM,getElem?_eq_getElem→MJ,getElem?_map→NF,getElem?_take_of_lt→PC,getElem?_drop→OD,take_of_length_le→NV,all_eq_true→Pt,getElem_mem→ND,take_length→M9,take_append_drop→Pp,length_take→MY,mem_cons→Nh,cons_append→OB,getD_eq_getElem?_getD→MS,append_assoc→Nq
open Go.World renaming cell?_setCell_other→MH,cells?_some→OX
open Go.Value renaming int→PE
open Go.IntKind renaming i64→PF
open Go.Proofs.Tryz
open _root_.Option renaming some→OM,none→Pk
open _root_.Bool renaming true→Pm,false→PB
open Go renaming World→PG,Value→PH,Calls→PK
open Go.RowKit renaming Below→PI,Hid→PJ
open Go.Ending renaming returned→PM
variable {b pb W tb n fuel j:Nat}{w w':PG}{H V:Int}{c a s word t u r d:List UInt8}{bl p:Nat->Bool}{v:PH}{h:Nat->Nat}{L:List Nat}{cs:List Bool}
set_option maxHeartbeats 8000000
set_option maxRecDepth 1000000
section
open Go.RowKit
theorem cA.keep (h:cA b w w'):ai (fun k=>k=b) w w':=⟨h.os,h.tape,h.output,by rw[h.size];exact aj,fun i _ hn=>h.other i hn⟩
theorem EOk.kept {F:Nat->Prop}{W c:Int}{f f':Int->Option PH}(E:EOk w pb W H bl f c)(K:ai F w w')(hF:∀v l g,f c=OM v->w.ownsRow 0 204 4 v (List.length l) (bQ W c l)->v.ownBlock=OM g->pb<g->¬F g)(hf:f' c=f c):EOk w' pb W H bl f' c:=by
 refine⟨fun h=>?_,fun h=>hf.trans (E.no h)⟩;obtain⟨v,l,h1,h2,h3,h4⟩:=E.yes h;exact⟨v,l,hf.trans h1,bq h2 K (fun g hg=>hF v l g h1 h2 hg (h4 g hg)),h3,h4⟩
theorem Kw (w:PG):(Instr.makeMap 163 Pk).run prog w=.ok (.map (OM w.heap.size)) (w.alloc (.map #[] 0)):=by kernel_rfl
theorem Dj {rb mb c:Nat}{W:Int}(v:Bool)(w:PG)(G:dI w rb pb mb W H V bl)(hc:inB W H c=Pm)(hv:bl c=v) :
  PK prog 74 #[.pointer (OM ⟨rb,0,Pk⟩),PE PF c,.bool v] w fun e w'=>e=PM (.tuple #[.bool PB,.nilIface])/\PI w.heap.size w w':=by
 obtain⟨f,G,E⟩:=G;have p0:=G.p0;obtain⟨l1,l2,l3⟩:=G.lts;have TV:=kB w G.ga;go_enter func74,ntmps74;go_wp2_with fail;refine TV.mono ?_;rintro e w1 ⟨rfl,hb1,Rx,g1,fr1⟩;have Zq:=qY c v w1 (G.ga.below hb1 l2) hc hv;have p0:=(hb1.cell (p:=⟨rb,0,Pk⟩) l1).trans p0;clear TV G E g1 fr1;go_wp2_with fail;refine Zq.mono ?_;rintro e w2 ⟨rfl,m2,rfl⟩;clear Zq;go_wp2;go_ret2;exact⟨rfl,below_drewN hb1 _⟩
theorem FU {rb mb c:Nat}{W:Int}{Q:Nat->Prop}(v:Bool)(w:PG)(G:de w rb pb mb W H V bl Q)(hQ:PJ (∀g,w.heap.size<=g->Q g))(s:az w)(hc:inB W H c=Pm)(hv:bl c=!v)(v1:0<=V)(v2:V<=1000000)(h0:1≠pb)(h0m:1≠mb) :
  PK prog 74 #[.pointer (OM ⟨rb,0,Pk⟩),PE PF c,.bool v] w fun e w'=>e=PM (.tuple #[.bool Pm,.nilIface])/\de w' rb pb mb W H (V+1) (upd bl c v) Q/\ai (fun k=>k=pb\/k=mb) w w':=by
 obtain⟨f,G,E⟩:=G;have p0:=G.p0;obtain⟨l1,l2,l3⟩:=G.lts;obtain⟨n1,n2⟩:=G.ne;have hrp:=G.rp;have Qa:=G.ga.w1;have Xs:=G.ga.w2;have Yy:=G.ga.h1;have Xt:=G.ga.h2;have amT:=s.pos;have Rq:=bP G.ga.w1 G.ga.w2 G.ga.h1 G.ga.h2;have Qz:PJ (∀n:Nat,(n:Int)≠(c:Int)->bl n=upd bl c v n):=fun n hn=>by unfold upd;rw[if_neg (by omega)]
 have TV:=kB w G.ga;have HE:PJ (∀c:Int,EOk w pb W H bl f c):=E.1;have HQ0:PJ (∀(c:Int) v g,f c=OM v->v.ownBlock=OM g->Q g):=E.2;clear E;go_enter func74,ntmps74;go_wp2_with fail;refine TV.mono ?_;rintro e w1 ⟨rfl,hb1,Rx,g1,fr1⟩;have G1:=G.below hb1;have Zq:=uJ c v w1 G1.ga G1.fr hc hv v1 v2;have p01:=G1.p0;clear TV fr1 p0 hv;go_wp2_with fail;refine Zq.mono ?_;rintro e w2 ⟨rfl,Wo,g2,fr2⟩;clear Zq;generalize hblv:upd bl c v=Qt at *;have HBV:=ae hblv;clear hblv;have K2:=Wo.keep;have gb2:=g1.keep K2 (show w.heap.size≠pb by omega);have p02:=K2.cellOf p01 hrp;have p12:=K2.cellOf G1.p1 hrp;have m2:aZ prog 3 w2 mb f (cu (eB f) 256):=G1.mp.keep K2 (fun e=>n2 e.symm);have s2:=(s.below hb1 (by omega)).keep K2 h0;have Qd:w1.heap.size=w2.heap.size:=Wo.size.symm;have G2:GSt w2 rb pb mb W H (V+1) Qt f:=⟨p02,p12,g2,m2,G.bd,fr2,hrp⟩;have KK2:ai (fun k=>k=pb\/k=mb) w w2:=(ai.of_below hb1).trans K2 (fun _ _ h=>Or.inl h);have HE2:PJ (∀c:Int,EOk w2 pb W H bl f c):=fun c=>((HE.out c).below hb1).kept K2 (fun v l g _ _ _ hg e=>by omega) rfl;clear G1 G g1 g2 fr2 m2 p12 p01 HE K2 Wo;have WV:=Kw w2;have hT0:=aX.made w2;have B3:=aQ w2 (.map #[] 0);have P3:=hb1.size;have UD:=pL (c:=(c:Int)) (w2.alloc (.map #[] 0)) (gb2.below B3 (by omega)) (s2.below B3 (by omega)) (by simp;omega) hT0 (by omega) (by omega) hc rfl rfl;go_wp2_with fail;refine UD.mono ?_;rintro e w3 ⟨rfl,⟨T1,Tg,aft⟩,K3⟩;have p03:=K3.cellOf ((B3.cell (p:=⟨rb,0,Pk⟩) (show rb<w2.heap.size by omega)).trans p02) (show rb≠w2.heap.size by omega);have G3:=(G2.below B3).keep K3 (show rb≠w2.heap.size by omega) (show pb≠w2.heap.size by omega) (show mb≠w2.heap.size by omega);have s3:=(s2.below B3 (by omega)).keep K3 (show 1≠w2.heap.size by omega);have KK3:ai (fun k=>k=pb\/k=mb) w w3:=(KK2.below B3).trans K3 (fun i hi h=>by omega);have HE3:PJ (∀c:Int,EOk w3 pb W H bl f c):=fun c=>((HE2.out c).below B3).kept K3 (fun v l g hfc ho hg _ e=>bJ (aq ho al) hT0.mp g hg e) rfl;have HT1:PJ (∀z,T1 z=Pm↔Tch W H bl ((c:Int)%W) ((c:Int)/W) ((c:Int)/W+1+1) ((c:Int)%W-1) z):=fun z=>(aft z).trans ⟨fun h=>h.resolve_left (by decide),Or.inr⟩;have aqG:w2.heap.size+1<=w3.heap.size:=by have:=K3.size;rw[show (w2.alloc (.map #[] 0)).heap.size=w2.heap.size+1 by simp]at this;exact this
 have htb:=pL (c:=(c:Int)) w3 G3.ga s3 G3.lts.2.1 Tg (show pb≠w2.heap.size by omega) (by omega) hc rfl rfl;clear UD WV hT0 B3 G2 gb2 s2 HE2 KK2 K3 aft p02;go_wp2_with fail;refine htb.mono ?_;rintro e w4 ⟨rfl,⟨T,hT,U7⟩,K4⟩;have G4:=G3.keep K4 (show rb≠w2.heap.size by omega) (show pb≠w2.heap.size by omega) (show mb≠w2.heap.size by omega);have s4:=s3.keep K4 (show 1≠w2.heap.size by omega);have KK4:ai (fun k=>k=pb\/k=mb) w w4:=KK3.trans K4 (fun i hi h=>by omega);have HE4:PJ (∀c:Int,EOk w4 pb W H bl f c):=fun c=>(HE3.out c).kept K4 (fun v l g hfc ho hg _ e=>bJ ho Tg.mp g hg e) rfl;have HT:PJ (∀z,T z=Pm↔Tch W H bl ((c:Int)%W) ((c:Int)/W) ((c:Int)/W+1+1) ((c:Int)%W-1) z\/Tch W H Qt ((c:Int)%W) ((c:Int)/W) ((c:Int)/W+1+1) ((c:Int)%W-1) z):=fun z=>(U7 z).trans (or_congr (HT1.out z) Iff.rfl);have hz4:=K4.size;have htl:=hT.lt;generalize htbn:w2.heap.size=tb at *;clear htb G3 s3 HE3 KK3 K4 U7 Tg HT1 p03 htbn;go_wp2_with (first|(at_range;refine cw rfl _ 163 rfl 3 217 aY Tryz.underT tb _ _ rfl hT.mp ?_;intro w5 Yz RU hs5)|go_in);have b5:PI w4.heap.size w4 w5:=al.grown RU aj (by simp);have G5:=G4.below b5;have s5:=s4.below b5 (by omega);have KK5:=KK4.below b5;have HE5:PJ (∀c:Int,EOk w5 pb W H bl f c):=fun c=>(HE4.out c).below b5;generalize hrn:w4.heap.size=r at *;clear G4 s4 KK4 HE4 b5 RU;go_frame;go_loopg [] (cu T 256) (fun gk wr=>∃left cnt f',gk=cnt/\xP wr tb r T left cnt/\GSt wr rb pb mb W H (V+1) Qt f'/\az wr/\PJ (∀i:Int,T i=Pm->left i=PB->EOk wr pb W H Qt f' i)/\PJ (∀i:Int,¬(T i=Pm/\left i=PB)->EOk wr pb W H bl f' i)/\PJ (∀(c:Int) v g,f' c=OM v->v.ownBlock=OM g->Q g)/\ai (fun k=>k=pb\/k=mb) w wr)
 case atStart =>
  refine⟨_,_,f,rfl,Yz,G5,s5,fun i h1 h2=>?_,fun i _=>HE5.out i,HQ0,KK5⟩;rw[dO,h1]at h2;cases h2
 case round =>
  obtain⟨left,cnt,f',QD,QN,Gr,sr,Q4,Qc,PY,hK⟩:=hrel;go_wp2_with (first|(at_next;refine cM rfl _ rfl 3 aY tb r _ _ _ _ rfl QN ?_ ?_)|go_in)
  ·intro Ue Rf;have HF:PJ (∀i:Int,EOk wr pb W H Qt f' i):=fun i=>by
    by_cases ZJ:T i=Pm
    ·exact Q4.out i ZJ (Rf i)
    ·have hnt:=fun h=>ZJ ((HT.out i).2 h);exact(Qc.out i (fun h=>ZJ h.1)).loc Qz.out Qa Xs Yy Xt (fun h=>hnt (Or.inl h)) (fun h=>hnt (Or.inr h))
   clear Q4 Qc;go_wp2;go_ret2;rw[HBV.out];exact⟨rfl,⟨f',Gr,HF.out,PY.out⟩,hK⟩
  ·intro x v' w6 Qf Tf Se SD QE PO QI Rx TM;obtain⟨hTx,rfl⟩:=jq SD;have Tj:inB W H x=true:=by
    rcases (HT.out x).1 hTx with h|h
    ·exact aT Qa (aE.1 h.1)
    ·exact aT Qa (aE.1 h.1)
   have kr:ai (fun k=>k=r) wr w6:=(ai.refl _ _).grown QI (fun k e _=>by cases e;rfl);have hzr:=hK.size;have G6:=Gr.keep kr (show rb≠r by omega) (show pb≠r by omega) (show mb≠r by omega);have s6:=sr.keep kr (show 1≠r by omega);have K6:ai (fun k=>k=pb\/k=mb) w w6:=hK.trans kr (fun i hi h=>by omega);have RM:=ym w6 G6 s6 Tj;go_wp2_with fail;refine RM.mono ?_;rintro e w7 ⟨rfl,⟨f2,G7,Vv,E7,I7⟩,K7⟩;have Rb:=QE.keep K7 (show tb≠mb by omega) (show r≠mb by omega);have s7:=s6.keep K7 h0m;have K7':ai (fun k=>k=pb\/k=mb) w w7:=K6.trans K7 (fun i hi h=>Or.inr h);have HY:PJ (∀i:Int,T i=Pm->(left i&&!decide (i=x))=PB->EOk w7 pb W H Qt f2 i):=fun i h1 h2=>by
    by_cases e:i=x
    ·rw[e];exact E7
    ·refine((Q4.out i h1 (by rw[decide_eq_false e]at h2;simpa using h2)).kept kr (fun v l g hfc ho hg _ e=>lN ho QN g hg (by rw[e])) rfl).kept K7 (fun v l g hfc ho hg _ e=>bJ ho G6.mp g hg e) (Vv i e)
   have HN:PJ (∀i:Int,¬(T i=Pm/\(left i&&!decide (i=x))=PB)->EOk w7 pb W H bl f2 i):=fun i h=>by
    have e:i≠x:=fun e=>h ⟨by rw[e];exact hTx,by rw[decide_eq_true e];simp⟩;refine((Qc.out i (fun h2=>h ⟨h2.1,by rw[h2.2];rfl⟩)).kept kr (fun v l g hfc ho hg _ e=>lN ho QN g hg (by rw[e])) rfl).kept K7 (fun v l g hfc ho hg _ e=>bJ ho G6.mp g hg e) (Vv i e)
   have HI:PJ (∀(c:Int) v g,f2 c=OM v->v.ownBlock=OM g->Q g):=fun c v g h hg=>by
    by_cases e:c=x
    ·rw[e]at h;exact hQ.out g (M5 K6.size (I7 v g h hg))
    ·rw[Vv c e]at h;exact PY.out c v g h hg
   clear RM Q4 Qc PY Gr sr QN QE kr G6 s6 K6 K7 E7 I7 Vv;go_wp2;go_roundg Qf
   case measure=>omega
   case rel=>exact⟨_,Qf,f2,rfl,Rb,G7,s7,HY,HN,HI,K7'⟩
end
section
open Go.RowKit
theorem Dk {W:Int}(c:Nat)(v:Bool)(w:PG)(t:fB w tb pb W H V bl)(hr:inB W H c=Pm)(hv:bl c=v) :
  PK prog 73 #[.pointer (OM ⟨tb,0,Pk⟩),PE PF c,.bool v] w fun e w'=>e=PM (.tuple #[.bool PB,.nilIface])/\∃m,w'=w.drewN m:=by
 obtain⟨T,t,_⟩:=t.ok;have p0:=t.p0;go_enter func73,ntmps73;go_wp2_with (go_at_call 107;refine(qY c v _ t.ga hr hv).mono ?_;rintro e w' ⟨rfl,m,rfl⟩);go_ret2;exact⟨rfl,_,rfl⟩
theorem Dl {c:Nat}{W:Int}{v:Bool}{T:Nat->Nat->Nat}{x y:Int}(hc:idx W x y=c)(d:Nat)(w:PG)(t:du w tb pb W H V (upd bl c v) T)(hp:atB W H x y=Pm)(hR:iK W H bl T d)(hd:d<8) :
  PK prog 118 #[.pointer (OM ⟨tb,0,Pk⟩),PE PF x,PE PF y,PE PF d] w fun e w'=>Bj w w' e tb pb W H V (upd bl c v) d T:=by
 subst hc;exact vX x y d w t hp hR hd
theorem FV {W:Int}(c:Nat)(v:Bool)(w:PG)(t:fB w tb pb W H V bl)(hr:inB W H c=Pm)(hv:bl c=!v)(v1:0<=V)(v2:V<=1000000) :
  PK prog 73 #[.pointer (OM ⟨tb,0,Pk⟩),PE PF c,.bool v] w fun e w'=>e=PM (.tuple #[.bool Pm,.nilIface])/\fB w' tb pb W H (V+1) (upd bl c v)/\ai (fun k=>k=tb\/k=pb) w w':=by
 obtain⟨T,t,hR⟩:=t.ok;have p0:=t.p0;obtain⟨x,y,ha,hi,Ry⟩:∃x y,atB W H x y=Pm/\idx W x y=c/\∀w (V:Int) (bl:Nat->Bool),aw w pb W H V bl->PK prog 84 #[.pointer (OM ⟨pb,0,Pk⟩),PE PF (c:Int)] w fun e w'=>e=PM (.tuple #[PE PF x,PE PF y,.nilIface])/\∃m,w'=w.drewN m:=by
  obtain⟨ha,hi⟩:=mV t.ga.w1 hr;exact⟨_,_,ha,by omega,fun w V bl g=>dZ (c:Int) w g hr⟩
 have HI:=ae hi;clear hi;have RV:=uJ c v w t.ga t.gf hr hv v1 v2;go_enter func73,ntmps73;go_wp2_with (go_at_call 107;refine RV.mono ?_;rintro e w1 ⟨rfl,T1,G1,F1⟩;have q0:=T1.keep.cellOf p0 t.ne);have K1:=T1.keep;have t1:du w1 tb pb W H (V+1) (upd bl c v) T :=
  ⟨K1.cellOf t.p0 t.ne,fun a d ha hd=>K1.cellOf (t.ts a d ha hd) t.ne,t.fr.keep t.blocks.1 K1 t.ne,G1,F1,t.st.keep K1 t.n1,t.ne,t.n0,t.n1⟩
 have K1':ai (fun k=>k=tb\/k=pb) w w1:=K1.mono (fun _ _ h=>Or.inr h);clear T1 G1 F1 K1 RV t p0 q0;refine(Ry _ _ _ t1.ga).mono ?_;rintro e w2 ⟨rfl,m,rfl⟩;have t2:=t1.drewN m;have K2:=K1'.drewN m;clear t1 K1' Ry;generalize w1.drewN m=w2 at *;go_wp2;go_loopg [41] 8 (fun gk iv wr=>∃(k:Nat) (T':Nat->Nat->Nat),k<=8/\gk=8-k/\iv=PE PF k/\du wr tb pb W H (V+1) (upd bl c v) T'/\(∀d,d<k->iK W H (upd bl c v) T' d)/\(∀d,k<=d->d<8->iK W H bl T' d)/\ai (fun k=>k=tb\/k=pb) w wr)
 case atStart=>exact⟨0,T,by omega,rfl,rfl,t2,fun d hd=>absurd hd (Nz d),fun d _ hd=>hR d hd,K2⟩
 case round =>
  clear t2 K2 hR;obtain⟨k,T',hk,QD,rfl,tr,R1,R2,Kr⟩:=hrel;have HG:=ae QD;clear QD;by_cases PO:k<8
  ·have UA:(k:Int)<8:=(by omega);have hth:=Dl HI.out k wr tr ha (R2 k (Nat.le_refl k) PO) PO;go_wp2_with (go_at_call 118;refine hth.mono ?_;rintro e w3 ⟨rfl,T3,t3,Rk,Tu,K3⟩);go_roundg (8-(k+1))
   case measure=>have:=HG.out;omega
   case rel =>
    refine⟨k+1,T3,by omega,rfl,by go_num,t3,fun d hd=>?_,fun d hd X3=>?_,Kr.trans K3 (fun _ _ h=>Or.inl h)⟩
    ·by_cases q:d=k
     ·rw[q];exact Rk
     ·exact fun a b UR=>Tu.keep UR (R1 d (by omega) a b UR)
    ·exact fun a b UR=>(Tu.other UR (by omega)).trans (R2 d (by omega) X3 a b UR)
  ·have:k=8:=(by omega);subst this;go_wp2;go_ret2;exact⟨rfl,⟨T',tr,R1⟩,Kr⟩
end
def dX (h:Nat->Nat) (S:Int->Bool):Nat->Nat
 |0=>0
 |N+1=>dX h S N+if S (N:Int) then h N else 0
theorem Dm (h:Nat->Nat)(S:Int->Bool)(a:Int)(N:Nat)(hN:(N:Int)<=a):dX h (dK S a) N=dX h S N:=by
 induction N with
 |zero=>rfl
 |succ N ih =>
  have e:dK S a (N:Int)=S (N:Int):=by
   unfold dK;rw[decide_eq_false (by omega),OS]
  show dX h (dK S a) N+(if dK S a (N:Int) then h N else 0)=_;rw[e,ih (by omega)];rfl
theorem FW (h:Nat->Nat)(S:Int->Bool)(a:Nat)(N:Nat)(hl:a<N)(hn:S (a:Int)=PB):dX h (dK S (a:Int)) N=dX h S N+h a:=by
 induction N with
 |zero=>omega
 |succ N ih =>
  show dX h (dK S (a:Int)) N+(if dK S (a:Int) (N:Int) then h N else 0)=dX h S N+(if S (N:Int) then h N else 0)+h a;by_cases e:a=N
  ·subst e;have e1:dK S (a:Int) (a:Int)=true:=(by unfold dK;rw[decide_eq_true rfl,Bool.true_or]);rw[Dm h S (a:Int) a (Int.le_refl _),e1,hn];simp
  ·have e1:dK S (a:Int) (N:Int)=S (N:Int):=by
    unfold dK;rw[decide_eq_false (by omega),OS]
   rw[ih (by omega),e1];omega
theorem s8 (h:Nat->Nat)(N:Nat):dX h (fun _=>PB) N=0:=by
 induction N with
 |zero=>rfl
 |succ N ih =>
  show dX h (fun _=>PB) N+(if PB then h N else 0)=0;rw[ih];rfl
theorem BH (h:Nat->Nat)(S:Int->Bool)(K:Nat)(hK:∀n,h n<=K)(N:Nat):dX h S N<=N*K:=by
 induction N with
 |zero=>exact Nat.zero_le _
 |succ N ih =>
  show dX h S N+(if S (N:Int) then h N else 0)<=(N+1)*K;rw[O0];have h2:=hK N;split<;>omega
theorem zE {g:Nat->Nat}{S:Int->Bool}:∀{N:Nat},(∀n,n<N->S (n:Int)=Pm->h n=g n)->dX h S N=dX g S N
 |0,_=>rfl
 |N+1,e=>by
  show dX h S N+(if S (N:Int) then h N else 0)=dX g S N+(if S (N:Int) then g N else 0);rw[zE (fun n hn hs=>e n (by omega) hs)];cases hS:S (N:Int) with
  |true=>rw[e N (by omega) hS]
  |false=>rfl
def iq (p:Nat->Bool):Nat->Nat
 |0=>0
 |N+1=>iq p N+if p N then 1 else 0
def gG (h:Nat->Nat):Nat->Nat
 |0=>0
 |N+1=>gG h N+h N
theorem wO (h g:Nat->Nat)(N:Nat):gG (fun n=>h n+g n) N=gG h N+gG g N:=by
 induction N with
 |zero=>rfl
 |succ N ih =>
  show gG (fun n=>h n+g n) N+(h N+g N)=gG h N+h N+(gG g N+g N);rw[ih];omega
theorem ir {g:Nat->Nat}:∀{N:Nat},(∀n,n<N->h n=g n)->gG h N=gG g N
 |0,_=>rfl
 |N+1,e=>by
  show gG h N+h N=gG g N+g N;rw[ir (fun n hn=>e n (by omega)),e N (by omega)]
theorem Dn (N:Nat):gG (fun _=>0) N=0:=by
 induction N with
 |zero=>rfl
 |succ N ih=>show gG (fun _=>0) N+0=0;rw[ih]
theorem FX (p:Nat->Bool)(N:Nat):gG (fun n=>if p n then 1 else 0) N=iq p N:=by
 induction N with
 |zero=>rfl
 |succ N ih=>show gG _ N+_=iq p N+_;rw[ih]
theorem tf (R:Nat->Nat->Bool)(M:Nat):∀N,gG (fun m=>iq (fun n=>R m n) M) N=gG (fun n=>iq (fun m=>R m n) N) M
 |0=>(Dn M).symm
 |N+1=>by
  show gG (fun m=>iq (fun n=>R m n) M) N+iq (fun n=>R N n) M=gG (fun n=>iq (fun m=>R m n) N+if R N n then 1 else 0) M;rw[tf R M N,wO,FX]
theorem qI {S:Int->Bool}:∀{N:Nat},(∀n,n<N->S (n:Int)=PB->h n=0)->dX h S N=gG h N
 |0,_=>rfl
 |N+1,e=>by
  show dX h S N+(if S (N:Int) then h N else 0)=gG h N+h N;rw[qI (fun n hn hs=>e n (by omega) hs)];cases hS:S (N:Int) with
  |true=>rfl
  |false=>rw[e N (by omega) hS];rfl
theorem Dp (h:∀n,p n=PB)(N:Nat):iq p N=0:=by
 induction N with
 |zero=>rfl
 |succ N ih=>show iq p N+_=0;rw[ih,h N];rfl
theorem qJ {q:Nat->Bool}(h:∀n,p n=q n)(N:Nat):iq p N=iq q N:=by rw[show p=q from funext h]
theorem wP {q:Nat->Bool}{a:Nat}(hq:∀n,q n=(p n || n==a))(ha:p a=PB):∀{N:Nat},a<N->iq q N=iq p N+1
 |0,h=>absurd h (Nz a)
 |N+1,h=>by
  show iq q N+(if q N then 1 else 0)=iq p N+(if p N then 1 else 0)+1;by_cases e:a=N
  ·subst e;have low:∀M,M<=a->iq q M=iq p M:=fun M=>by
    induction M with
    |zero=>intro _;rfl
    |succ M ih =>
     intro hM;show iq q M+(if q M then 1 else 0)=iq p M+(if p M then 1 else 0);have e1:q M=p M:=by
      rw[hq M,beq_eq_false_iff_ne.2 (show M≠a by omega),OT]
     rw[ih (by omega),e1]
   rw[low a aj,ha,hq a,ha];simp
  ·have e1:q N=p N:=(by rw[hq N,beq_eq_false_iff_ne.2 (show N≠a by omega),OT]);rw[wP hq ha (show a<N by omega),e1];omega
theorem mj {P:LE->Bool}:∀{l:List LE},Rsg l->(∀e∈l,e.to<256)->(l.filter P).length=iq (fun k=>l.any (fun e=>e.to==k&&P e)) 256
 |[],_,_=>(Dp (fun _=>rfl) 256).symm
 |y::l,h,hb=>by
  have ih:=mj (P:=P) h.tail (fun e he=>hb e (MV _ he));have hy:=hb y (M4 ..);cases hp:P y with
  |false =>
   rw[O9 (by rw[hp];decide),ih];exact qJ (fun k=>by rw[List.any_cons,hp,Ps,OS]) 256
  |true =>
   rw[Pb hp,Nf,ih];refine(wP (a:=y.to) (fun k=>?_) ?_ hy).symm
   ·rw[List.any_cons,hp,Bool.and_true,Bool.or_comm]
    congr 1
    by_cases e:y.to=k
    ·subst e;rfl
    ·rw[beq_eq_false_iff_ne.2 e,beq_eq_false_iff_ne.2 (fun q=>e q.symm)]
   ·rw[List.any_eq_false];intro e he;have:=h.head e he;rw[beq_eq_false_iff_ne.2 (show e.to≠y.to by omega)];simp
def lV (es:Nat->List LE) (n:Nat):Nat:=((es n).filter (fun e=>decide (0<=e.mid))).length
def jK (es:Nat->List LE) (n:Nat):Nat:=((es n).filter (fun e=>decide (0<=e.mid)&&decide (n<e.to))).length
theorem Dq {es:Nat->List LE}(hE:Esy es)(hC:∀{a e},e∈es a->a∈L/\e.to∈L)(hb:∀n∈L,n<256)(PW:∀{a e},e∈es a->e.to≠a):dX (lV es) (dj L) 256=2*dX (jK es) (dj L) 256:=by
 have Ri:∀n,∀e∈es n,e.to<256:=fun n e he=>hb _ (hC he).2;have aab:∀n:Nat,dj L (n:Int)=PB->es n=[]:=fun n hn=>by
  cases h:es n with
  |nil=>rfl
  |cons y l =>
   have hm:y∈es n:=(by rw[h];exact M4 ..);have:=p9.2 (hC hm).1;rw[hn]at this;cases this
 have hA:dX (lV es) (dj L) 256=gG (lV es) 256:=qI (fun n _ hn=>by unfold lV;rw[aab n hn];rfl);have hU:dX (jK es) (dj L) 256=gG (jK es) 256:=qI (fun n _ hn=>by unfold jK;rw[aab n hn];rfl);have up:∀n,jK es n=iq (fun k=>(es n).any (fun e=>e.to==k&&(decide (0<=e.mid)&&decide (n<e.to)))) 256:=fun n=>mj (hE.ord n) (Ri n);have dn:∀n,((es n).filter (fun e=>decide (0<=e.mid)&&decide (e.to<n))).length=iq (fun k=>(es n).any (fun e=>e.to==k&&(decide (0<=e.mid)&&decide (e.to<n)))) 256:=fun n=>mj (hE.ord n) (Ri n);have sp:∀n,lV es n=jK es n+((es n).filter (fun e=>decide (0<=e.mid)&&decide (e.to<n))).length:=fun n=>by
  unfold lV jK;have key:∀l:List LE,(∀e∈l,e.to≠n)->(l.filter (fun e=>decide (0<=e.mid))).length=(l.filter (fun e=>decide (0<=e.mid)&&decide (n<e.to))).length+(l.filter (fun e=>decide (0<=e.mid)&&decide (e.to<n))).length:=fun l=>by
   induction l with
   |nil=>intro _;rfl
   |cons y l ih =>
    intro hl;have h1:=ih (fun e he=>hl e (MV _ he));have h2:=hl y (M4 ..);by_cases c1:0<=y.mid
    ·by_cases c2:n<y.to
     ·have c3:¬y.to<n:=(by omega);simp only[List.filter_cons,decide_eq_true c1,decide_eq_true c2,decide_eq_false c3,Bool.and_true,Ps,if_true,Nf,Ph,if_false];omega
     ·have c3:y.to<n:=(by omega);simp only[List.filter_cons,decide_eq_true c1,decide_eq_false c2,decide_eq_true c3,Bool.and_true,Ps,if_true,Nf,Ph,if_false];omega
    ·simp only[List.filter_cons,decide_eq_false c1,N1,Ph,if_false];exact h1
  exact key (es n) (fun e he=>PW he)
 have sw:gG (jK es) 256=gG (fun n=>((es n).filter (fun e=>decide (0<=e.mid)&&decide (e.to<n))).length) 256:=by
  rw[ir (fun n _=>up n),ir (fun n _=>dn n),tf];refine ir (fun n _=>qJ (fun k=>?_) 256);have key:∀a b:Nat,∀P:Nat->Nat->Bool,(es a).any (fun e=>e.to==b&&(decide (0<=e.mid)&&P a e.to))=Pm->(es b).any (fun e=>e.to==a&&(decide (0<=e.mid)&&P e.to b))=true:=fun a b P h=>by
   obtain⟨e,he,h1⟩:=Oo.1 h;rw[MW,MW,beq_iff_eq]at h1;obtain⟨h1,h2,h3⟩:=h1;have Q7:=hE.back he;rw[h1]at Q7 h3;refine Oo.2 ⟨_,Q7,?_⟩;show (a==a&&(decide (0<=e.mid)&&P a b))=Pm;rw[beq_self_eq_true,h2,h3];rfl
  have k1:=key k n (fun a b=>decide (a<b));have k2:=key n k (fun a b=>decide (b<a));cases h1:(es k).any (fun e=>e.to==n&&(decide (0<=e.mid)&&decide (k<e.to))) with
  |true=>exact(k1 h1).symm
  |false =>
   cases h2:(es n).any (fun e=>e.to==k&&(decide (0<=e.mid)&&decide (e.to<n))) with
   |false=>rfl
   |true=>rw[k2 h2]at h1;cases h1
 rw[hA,hU,ir (fun n _=>sp n),wO,<- sw];omega
section
open Go.RowKit Go.Maps
theorem wQ {left:Int->Bool}(hn:n<256)(Qw:n∈L)(hl:left (n:Int)=Pm) :
  dX h (fun z=>dj L z&&!(left z&&!decide (z=(n:Int)))) 256=dX h (fun z=>dj L z&&!left z) 256+h n:=by
 have e:(fun z=>dj L z&&!(left z&&!decide (z=(n:Int))))=dK (fun z=>dj L z&&!left z) (n:Int):=by
  funext z
  unfold dK;by_cases q:z=(n:Int)
  ·subst q;rw[p9.2 Qw,decide_eq_true rfl];simp
  ·rw[decide_eq_false q];simp
 rw[e,FW h _ n 256 hn (by rw[hl];simp)]
theorem Dr {N lb vb eb top:Nat}{st:LSt}{f:Int->Option PH}(w:PG)(V:cD w N lb vb eb top L st f)(Wb:∀n,(st.es n).length<=256) :
  PK prog 56 #[.pointer (OM ⟨lb,0,Pk⟩)] w fun e w'=>e=PM (PE PF ((dX (lV st.es) (dj L) 256:Nat)/2:Int))/\PI w.heap.size w w':=by
 have c2:=V.c2;have ajE:=V.lts.2.2;have em:=V.em;have HV:=ae V;have Q8:PJ (∀n∈L,n<256):=V.bd;have HEL:=ae Wb;have HFS:PJ (∀(x:Int) (v:PH),f x=OM v->∃n:Nat,x=(n:Int)/\n∈L):=fun x v h=>by
  obtain⟨h1,h2⟩:=V.no x v h;exact⟨x.toNat,by omega,h2⟩
 have QV:PJ (dX (lV st.es) (fun z=>dj L z&&!(fun i=>(f i).isSome) z) 256=0):=by
  have e:(fun z=>dj L z&&!(fun i=>(f i).isSome) z)=fun _=>false:=by
   funext z
   cases hm:dj L z with
   |false=>rfl
   |true =>
    have h3:0<=z/\z.toNat∈L:=of_decide_eq_true hm;obtain⟨v,e1,_⟩:=V.row z.toNat h3.2;rw[Int.toNat_of_nonneg h3.1]at e1;show (Pm&&!(f z).isSome)=PB;rw[e1];rfl
  unfold PJ;rw[e];exact s8 _ _
 clear V Wb;go_enter func56,ntmps56;go_wp2_with (first|(at_range;refine cw rfl _ 123 rfl 3 126 aY Tryz.underM eb _ _ rfl em ?_;intro w3 QP Sf hs3)|go_in);have B3:PI w.heap.size w w3:=al.grown Sf aj (by simp);clear Sf em c2;go_loopg [3] L.length (fun gj sv wq=>∃(left:Int->Bool) (cnt:Nat),gj=cnt/\fQ prog 3 wq eb w.heap.size f L.length left cnt/\sv=PE PF ((dX (lV st.es) (fun z=>dj L z&&!left z) 256:Nat):Int)/\PI w.heap.size w wq/\w.heap.size<wq.heap.size)
 case atStart=>exact⟨_,_,rfl,QP,by rw[QV.out];rfl,B3,by omega⟩
 case round =>
  clear QP B3 QV;obtain⟨left,cnt,hgj,QN,rfl,QA,hrq⟩:=hrel;have VF:=BH (lV st.es) (fun z=>dj L z&&!left z) 256 (fun n=>M5 (Nk _ _) (HEL.out n)) 256;go_wp2_with (first|(at_next;refine cM rfl _ rfl 3 aY eb w.heap.size _ _ _ _ rfl QN ?_ ?_)|go_in)
  ·intro Ue Rf;have e:(fun z=>dj L z&&!left z)=dj L:=by
    funext z
    rw[Rf z];simp
   rw[e]at VF ⊢;clear QN Rf e;obtain⟨zi,hzi⟩:∃zi:Int,zi=((dX (lV st.es) (dj L) 256:Nat):Int):=⟨_,rfl⟩;have hz:(0:Int)<=zi:=(by omega);have Qd:zi<=65536:=(by omega);rw[<- hzi];have HZI:PJ _:=hzi;clear hzi;have t1:Int.tdiv zi 2=zi/2:=Int.tdiv_eq_ediv_of_nonneg hz;have t2:IntKind.i64.wrap (zi/2)=zi/2:=iP (by omega) (by omega);have t3:IntKind.i64.wrap (Int.tdiv zi 2)=zi/2:=(by rw[t1];exact t2);clear VF;go_wp2;go_ret;exact⟨by rw[<- HZI.out];rfl,QA⟩
  ·intro x v w4 Qf Tf Se SD QE PO QI Rx TM;obtain⟨n,Zr,Qw⟩:=HFS.out x v SD;subst Zr;have B4:PI w.heap.size w w4:=QA.grown QI QA.size (fun k e=>by cases e;omega);have hr4:w.heap.size<w4.heap.size:=(by omega);have V4:=HV.out.below B4;obtain⟨v',e1,e2⟩:=V4.row n Qw;rw[SD]at e1;cases e1;obtain⟨A4,QY,rfl,Sq,_⟩:=dY e2;have Qv:=AG (cap:=QY) (p:=fun e=>decide (0<=e.mid)) w4 Sq (HEL.out n) (fun w' e _ _=>pK w' _ _ _ _);have WJ:PJ (dX (lV st.es) (fun z=>dj L z&&!(left z&&!decide (z=(n:Int)))) 256=dX (lV st.es) (fun z=>dj L z&&!left z) 256+lV st.es n):=wQ (Q8.out n Qw) Qw Se;have HAN:PJ (lV st.es n=((st.es n).filter (fun e=>decide (0<=e.mid))).length):=rfl;have RY:((st.es n).filter (fun e=>decide (0<=e.mid))).length<=256:=M5 (Nk _ _) (HEL.out n);clear QN QA QI Rx V4 e2 Sq SD Se Qw;go_wp2_with fail;refine Qv.mono ?_;rintro r w5 ⟨v5,rfl,Qy,PV⟩;obtain⟨A5,Q6,rfl,_⟩:=dY Qy;have Yz:=QE.keep (F:=fun _=>False) (ai.of_below PV) id id;have B5:=ak B4 PV;have hr5:=MN hr4 PV.size;clear Qv Qy PV QE B4 TM;go_wp2;go_roundg Qf
   case measure=>omega
   case rel=>exact⟨_,Qf,rfl,Yz,by rw[WJ.out,HAN.out];push_cast;rfl,B5,hr5⟩
theorem FY {es:Nat->List LE}{i:Nat}{e:LE}(he:(es n)[i]? = OM e)(h:0<=e.mid/\n<e.to):(((es n).take (i+1)).filter (fun e=>decide (0<=e.mid)&&decide (n<e.to))).length=(((es n).take i).filter (fun e=>decide (0<=e.mid)&&decide (n<e.to))).length+1:=by
 rw[Nb,he,NQ,MM];have e1:([e].filter (fun e=>decide (0<=e.mid)&&decide (n<e.to)))=[e]:=by
  rw[Pb (by rw[decide_eq_true h.1,decide_eq_true h.2];rfl)];rfl
 show _+([e].filter _).length=_;rw[e1];rfl
theorem I3 {es:Nat->List LE}{i:Nat}{e:LE}(he:(es n)[i]? = OM e)(h:¬(0<=e.mid/\n<e.to)):(((es n).take (i+1)).filter (fun e=>decide (0<=e.mid)&&decide (n<e.to))).length=(((es n).take i).filter (fun e=>decide (0<=e.mid)&&decide (n<e.to))).length:=by
 rw[Nb,he,NQ,MM];have e1:([e].filter (fun e=>decide (0<=e.mid)&&decide (n<e.to)))=[]:=by
  rw[O9 (fun q=>h (by rw[MW]at q;exact⟨of_decide_eq_true q.1,of_decide_eq_true q.2⟩))];rfl
 show _+([e].filter _).length=_;rw[e1];rfl
end
section
open Go.RowKit Go.Lib
def Fz (w:PG) (b:Nat):Prop:=gz w b/\w.cell? ⟨b,259,Pk⟩=Pk
theorem Fz.below (h:Fz w b)(hb:PI w.heap.size w w')(hl:b<w.heap.size):Fz w' b :=
 ⟨fun o=>(hb.frozen (p:=⟨b,o,Pk⟩) hl).trans (h.1 o),(hb.cell (p:=⟨b,259,Pk⟩) hl).trans h.2⟩
theorem Fz.keep {F:Nat->Prop}(h:Fz w b)(K:ai F w w')(hl:b<w.heap.size)(hn:¬F b):Fz w' b :=
 ⟨fun o=>(K.frozen (p:=⟨b,o,Pk⟩) hl hn).trans (h.1 o),(World.cell?_of_block (a:=⟨b,259,Pk⟩) (K.block b hl hn)).trans h.2⟩
theorem LJ (W H:Int)(w:PG):Fz (w.alloc (.cells (mz W H) 38)) w.heap.size:=by
 refine⟨bE w _ _ _ aj,?_⟩;rw[World.cell?_alloc_new];exact Array.getElem?_eq_none (by simp[mz])
theorem FZ {W:Int}(c:Nat)(v:Bool)(w:PG)(g:bg w b W H V bl)(f:Fz w b)(hr:inB W H c=Pm)(hv:bl c=!v)(v1:0<=V)(v2:V<=1000000) :
  PK prog 29 #[.pointer (OM ⟨b,0,Pk⟩),PE PF c,.bool v] w fun e w'=>e=PM (.tuple #[.bool Pm,PE PF 0])/\cA b w w'/\bg w' b W H (V+1) (upd bl c v)/\Fz w' b:=by
 have hc:0<=(c:Int)/\(c:Int)<W*H:=of_decide_eq_true hr;obtain⟨k1,k2⟩:=bP g.w1 g.w2 g.h1 g.h2;obtain⟨q1,q2⟩:=hc;have q3:(c:Int)<256:=by omega
 have h:=g.cs c (by omega);have c2:=g.c2;have HZ:PJ (w.cell? ⟨b,259,Pk⟩=Pk):=f.2
 replace f:=f.1
 have f1:=f 258;have f2:=f (2+c);rw[hv]at h;have hx:((!v)==v)=false:=by cases v<;>rfl
 have hG:=fun m=>DR (g.drewN m) c (by omega) v;have PW:(⟨b,2+c,Pk⟩:Addr)≠⟨b,258,Pk⟩:=bR (by omega);have c3:(w.setCell ⟨b,2+c,Pk⟩ (.bool v)).cell? ⟨b,258,Pk⟩=OM (PE PF V):=by rw[MH _ _ _ _ PW];exact c2
 have HN:PJ (∀m x y,(((w.drewN m).setCell ⟨b,2+c,Pk⟩ x).setCell ⟨b,258,Pk⟩ y).cell? ⟨b,259,Pk⟩=Pk):=fun m x y=>by
  rw[MH _ _ _ _ (bR (by omega)),MH _ _ _ _ (bR (by omega))];exact HZ.out
 go_enter func29,ntmps29;go_wp2_with (go_at_call 19;refine(ku _ _ g hr).mono ?_;rintro e w' ⟨rfl,m,rfl⟩);go_ret2;exact⟨rfl,(((cA.refl b w).drewN m).setCell _ _).setCell _ _,hG m,fun o=>by simpa using f o,HN.out m _ _⟩
end
section
open Go.ChangeShapes Go.WideShapes Go.ChangeAt Go.RowKit
theorem LK : prog.globalNamed "strconv.ErrSyntax" = OM 3 := by kernel_rfl
theorem LL:(prog.globals[3]?).map (·.type)=OM 27:=by kernel_rfl
theorem LM : prog.globalNamed "strconv.ErrRange" = OM 4 := by kernel_rfl
theorem LO:(prog.globals[4]?).map (·.type)=OM 27:=by kernel_rfl
theorem LP:(prog.globals[5]?).map (·.type)=OM 336:=by kernel_rfl
theorem Mw : prog.globalNamed "math/bits.deBruijn64tab" = OM 7 := by kernel_rfl
theorem LQ : "*" ++ "errors.errorString" = "*errors.errorString" := by decide
theorem F4 (u : TypeId) (h : prog.typeName? 3 u = OM "*errors.errorString") : u = 331 :=
 typeName_ptr_named (nm := "errors.errorString") (by rw [LQ]; kernel_rfl) (by kernel_rfl) (by decide) u (by rw [LQ]; exact h)
theorem wR:prog.cellsOf 333=1:=by kernel_rfl
theorem BI:prog.cellsOf 9=1:=by kernel_rfl
theorem F6:prog.cellsOf 336=20:=by kernel_rfl
theorem I5:(Rows.laid_internal_strconv_uint64pow10:DataW Unit)=Lib.tabData .u64 Lib.pow10Tab:=by kernel_rfl
theorem Ds {W:PG}{n:String}{g:Nat}{cs:Array PH}(hg:prog.globalNamed n=OM g)(hv:W.var? prog n=OM cs):g<W.heap.size:=by
 rcases Nat.lt_or_ge g W.heap.size with h|h
 ·exact h
 ·exfalso;unfold World.var? at hv;simp[hg,Array.getElem?_eq_none h]at hv
theorem Kx {W:PG}{r:List (String × DataW Unit)} (h : laidMet prog (("math/bits.deBruijn32tab", Rows.laid_math_bits_deBruijn32tab) :: ("math/bits.deBruijn64tab", Rows.laid_math_bits_deBruijn64tab) :: ("internal/strconv.uint64pow10", Rows.laid_internal_strconv_uint64pow10) :: ("strconv.ErrRange", Rows.laid_strconv_ErrRange) :: ("strconv.ErrSyntax", Rows.laid_strconv_ErrSyntax) :: r) W) : Env W := by
 have h2:=h.tail;have h3:=h2.tail;have h4:=h3.tail;have h5:=h4.tail;have hz:7<W.heap.size:=by
  obtain⟨ps,⟨g0,t0,XQ,f0,p0,q0,Te,ht0,hv0,hd0,_,_⟩,_,_⟩:=h2;exact Ds Mw hv0
 rw[I5]at h3;have ht:=Lib.tabIs_of_head LF LP underlying336 underlying301 (by kernel_rfl) F6 h3;obtain⟨a0,s0,hv0,-,-,-⟩:=laid_sentinel (ti:=27) (tp:=331) (te:=333) (ts:=9) h4 LM LO underlying27 F4 underlying331 underlying333 rfl rfl underlying9 wR BI;obtain⟨a1,s1,hv1,-,-,-⟩:=laid_sentinel (ti:=27) (tp:=331) (te:=333) (ts:=9) h5 LK LL underlying27 F4 underlying331 underlying333 rfl rfl underlying9 wR BI;exact⟨⟨_,_,by have h0:=World.var?_cell LK hv1 0;simpa using h0⟩,⟨_,_,by have h0:=World.var?_cell LM hv0 0;simpa using h0⟩,ht,hz⟩
end
section
open Go.ChangeShapes Go.WideShapes Go.ChangeAt Go.RowKit Go.Joins
theorem Tryz.own:ownKnob prog.godebug=none:=by kernel_rfl
theorem Tryz.laidOut:laidOutB prog=true:=by kernel_rfl
theorem Ky : prog.globalNamed "fellrunner/grid.steps" = OM 1 := by kernel_rfl
theorem Kz:(prog.globals[1]?).map (·.type)=OM 276:=by kernel_rfl
theorem LR:prog.cellsOf 275=2:=by kernel_rfl
theorem c3':prog.cellsOf 3=1:=by kernel_rfl
theorem LS : prog.globalNamed "fellrunner/reach.diagonalFirst" = OM 0 := by kernel_rfl
theorem LU:(prog.globals[0]?).map (·.type)=OM 174:=by kernel_rfl
theorem Mx:prog.cellsOf 174=8:=by kernel_rfl
theorem mm {o:Nat}(h:w.cell? ⟨b,o,Pk⟩=OM v):b<w.heap.size:=World.block_lt_of_cell? w _ h
theorem F7 {W:PG}{r:List (String × DataW Unit)} (h : laidMet prog (("fellrunner/grid.steps", Rows.laid_fellrunner_grid_steps) :: r) W) : az W := by
 obtain⟨ps,⟨g0,t0,XQ,f0,p0,q0,Te,ht0,hv0,hd0,_,_⟩,_,_⟩:=h;obtain rfl:=Option.some.inj (Ky.symm.trans Te);obtain rfl:=Option.some.inj (Kz.symm.trans ht0);obtain⟨xs,m,_,SM,hlen,hn,Wb⟩:=DataW.trod_array underlying276 hd0;simp only[Prod.mk.injEq]at SM;have Zs:=SM.1;have key:∀i,i<8->XQ.toList[2*i]? = OM (.int .i64 (ah i))/\XQ.toList[2*i+1]? = OM (.int .i64 (af i)):=by
  intro i hi;have h1:=Wb i hi;rw[LR]at h1;have hxi:∃p,xs[i]? = OM (Lib.tabData .i64 [ah i,af i],p):=by
   have PO:i<xs.length:=(by omega);refine⟨xs[i].2,?_⟩;rw[MJ PO];have e2:(xs.map (·.1))[i]? = OM xs[i].1:=(by rw[NF,MJ PO];rfl);simp only[Rows.laid_fellrunner_grid_steps,DataW.agg.injEq]at Zs;rw[<- Zs]at e2;have UB:i=0\/i=1\/i=2\/i=3\/i=4\/i=5\/i=6\/i=7:=(by omega);rcases UB with rfl|rfl|rfl|rfl|rfl|rfl|rfl|rfl <;>
    (simp at e2;exact congrArg OM (Prod.ext e2.symm rfl))
  obtain⟨p,hp⟩:=hxi;rw[hp]at h1;have h2:=Lib.cells_of_tab underlying275 underlying3 c3' LR h1;have a0:((XQ.toList.drop (i*2)).take 2)[0]? = XQ.toList[2*i]? := by
   rw[PC (by decide),OD];congr 1;omega
  have a1:((XQ.toList.drop (i*2)).take 2)[1]? = XQ.toList[2*i+1]? := by
   rw[PC (by decide),OD];congr 1;omega
  rw[h2]at a0 a1;exact⟨a0.symm,a1.symm⟩
 have cell:∀i,W.cell? ⟨1,i,Pk⟩=XQ.toList[i]? := fun i=>by
  have:=World.var?_cell Te hv0 i;rw[this];simp
 exact fun i hi=>⟨by rw[cell];exact(key i hi).1,by rw[cell];exact(key i hi).2⟩
theorem I6 {W:PG}{r:List (String × DataW Unit)} (h : laidMet prog (("fellrunner/reach.diagonalFirst", Rows.laid_fellrunner_reach_diagonalFirst) :: r) W) : bX W := by
 obtain⟨ps,⟨g0,t0,XQ,f0,p0,q0,Te,ht0,hv0,hd0,_,_⟩,_,_⟩:=h;obtain rfl:=Option.some.inj (LS.symm.trans Te);obtain rfl:=Option.some.inj (LU.symm.trans ht0);have hd1:DataW.trod (fun _=>()) prog W 0 (fun _=>Pm) PB f0 174 XQ.toList=OM (Lib.tabData .i64 [1,3,5,7,0,2,4,6],p0):=hd0;have h2:=Lib.cells_of_tab underlying174 underlying3 c3' Mx hd1;intro i hi;have:=World.var?_cell Te hv0 i;rw[this];have e:XQ[i]? = XQ.toList[i]? := by simp
 rw[e,h2];have UB:i=0\/i=1\/i=2\/i=3\/i=4\/i=5\/i=6\/i=7:=by omega
 rcases UB with rfl|rfl|rfl|rfl|rfl|rfl|rfl|rfl<;>rfl
abbrev nH : List (String × DataW Unit) := [("math/bits.deBruijn32tab", Rows.laid_math_bits_deBruijn32tab), ("math/bits.deBruijn64tab", Rows.laid_math_bits_deBruijn64tab), ("internal/strconv.uint64pow10", Rows.laid_internal_strconv_uint64pow10), ("strconv.ErrRange", Rows.laid_strconv_ErrRange), ("strconv.ErrSyntax", Rows.laid_strconv_ErrSyntax), ("fellrunner/grid.steps", Rows.laid_fellrunner_grid_steps), ("fellrunner/reach.diagonalFirst", Rows.laid_fellrunner_reach_diagonalFirst)]
theorem KC {W:PG}(h:laidMetH prog nH W):Env W/\az W/\bX W:=by
 rw[MakeChecks.laidMetH_plain _ _ _ (by kernel_rfl)]at h;have h5:=h.tail.tail.tail.tail.tail;exact⟨Kx h,F7 h5,I6 h5.tail⟩
theorem I8 (os:Os)(args:Array PH):laidMetH prog nH ((World.doorLaid prog 80 os).forCall (fun _ _=>0) ⟨#[],args,[]⟩).memory :=
 laidMetH_of_parts3 (fuel:=8) (laidMet_of_run' 8 (by kernel_rfl) (by kernel_rfl)) (by kernel_rfl) (by kernel_rfl)
theorem c36:prog.cellsOf 113=2:=by kernel_rfl
theorem c62:prog.cellsOf 78=2:=by kernel_rfl
theorem c4':prog.cellsOf 4=1:=by kernel_rfl
def ks (w:PG) (A:Option Addr) (n:Nat) (fs ts:Nat->Int):Prop:=∀i,i<n->∃b o,A=OM ⟨b,o,Pk⟩/\b<w.heap.size/\w.cell? ⟨b,o+i*2,Pk⟩=OM (PE PF (fs i))/\w.cell? ⟨b,o+i*2+1,Pk⟩=OM (PE PF (ts i))
theorem ks.below {A:Option Addr}{fs ts:Nat->Int}(h:ks w A n fs ts)(hb:PI w.heap.size w w'):ks w' A n fs ts:=fun i hi=>by
 obtain⟨b,o,h1,h2,h3,h4⟩:=h i hi;exact⟨b,o,h1,MN h2 hb.size,(hb.cell (p:=⟨b,o+i*2,Pk⟩) h2).trans h3,(hb.cell (p:=⟨b,o+i*2+1,Pk⟩) h2).trans h4⟩
def gu (w:PG) (A:Option Addr) (n:Nat) (cs:Nat->Int) (bs:Nat->Bool):Prop:=∀i,i<n->∃b o,A=OM ⟨b,o,Pk⟩/\b<w.heap.size/\w.cell? ⟨b,o+i*2,Pk⟩=OM (PE PF (cs i))/\w.cell? ⟨b,o+i*2+1,Pk⟩=OM (.bool (bs i))
theorem gu.below {A:Option Addr}{cs:Nat->Int}{bs:Nat->Bool}(h:gu w A n cs bs)(hb:PI w.heap.size w w'):gu w' A n cs bs:=fun i hi=>by
 obtain⟨b,o,h1,h2,h3,h4⟩:=h i hi;exact⟨b,o,h1,MN h2 hb.size,(hb.cell (p:=⟨b,o+i*2,Pk⟩) h2).trans h3,(hb.cell (p:=⟨b,o+i*2+1,Pk⟩) h2).trans h4⟩
section
variable {H : Type} {enc : TypeId × PH → H} {W : PG} {sp : Nat → Bool} {held : Bool}
theorem KD {c1 c2:PH}{x:DataW H×List MemPlace}(h:DataW.trod enc prog W 0 sp held fuel 113 [c1,c2]=OM x):∃s d,c1=.int .i64 s/\c2=.int .i64 d:=by
 obtain⟨xs,n,_,_,_,hl,hf⟩:=DataW.trod_struct underlying113 h;have f0:DataW.trod enc prog W 0 sp held n 3 (([c1,c2].drop 0).take (prog.cellsOf 3))=xs[0]? := hf 0 _ rfl;have f1:DataW.trod enc prog W 0 sp held n 3 (([c1,c2].drop 1).take (prog.cellsOf 3))=xs[1]? := hf 1 _ rfl;have hl':xs.length=2:=hl;rw[MJ (by omega),c3']at f0 f1;obtain⟨s,e0,_⟩:=DataW.trod_int underlying3 f0;obtain⟨d,e1,_⟩:=DataW.trod_int underlying3 f1;simp at e0 e1;exact⟨s,d,e0,e1⟩
theorem I9 {c1 c2:PH}{x:DataW H×List MemPlace}(h:DataW.trod enc prog W 0 sp held fuel 78 [c1,c2]=OM x):∃s d,c1=.int .i64 s/\c2=.bool d:=by
 obtain⟨xs,n,_,_,_,hl,hf⟩:=DataW.trod_struct underlying78 h;have f0:DataW.trod enc prog W 0 sp held n 3 (([c1,c2].drop 0).take (prog.cellsOf 3))=xs[0]? := hf 0 _ rfl;have f1:DataW.trod enc prog W 0 sp held n 4 (([c1,c2].drop 1).take (prog.cellsOf 4))=xs[1]? := hf 1 _ rfl;have hl':xs.length=2:=hl;rw[MJ (by omega)]at f0 f1;rw[c3']at f0;rw[c4']at f1;obtain⟨s,e0,_⟩:=DataW.trod_int underlying3 f0;obtain⟨d,e1,_⟩:=DataW.trod_bool underlying4 f1;simp at e0 e1;exact⟨s,d,e0,e1⟩
theorem Ja {c:PH}{x:DataW H×List MemPlace}(h:DataW.trod enc prog W 0 sp held fuel 43 [c]=OM x) :
  ∃A n cap fs ts,c=.slice A n cap/\n<=maxLen/\ks W A n fs ts:=by
 rcases Go.Deep.open_slice underlying43 h with⟨Qp,_⟩|⟨a,len,cap,m,k,D,Pl,Qp,_,hl,hm,Tl,_,hx⟩
 ·simp at Qp;exact⟨Pk,0,0,fun _=>0,fun _=>0,Qp,by unfold maxLen;simp,fun i hi=>absurd hi (Nz i)⟩
 ·simp at Qp;have hlm:len<=m:=by rw[Tl];split<;>omega
  rw[c36]at hx;have Vi:0<len->a.spot=none:=by
   intro h0;obtain⟨Zd,h1,_⟩:=hx 0 (by omega);obtain⟨_,hlen,hc⟩:=OX h1;have g0:=hc 0 (by omega);rw[Go.Deep.add_add,MJ (by omega)]at g0
   simpa [Addr.add]using World.cell?_spot g0
  have key:∀i,i<len->∃y:Int×Int,∃b o,a=⟨b,o,Pk⟩/\W.cell? ⟨b,o+i*2,Pk⟩=OM (PE PF y.1)/\W.cell? ⟨b,o+i*2+1,Pk⟩=OM (PE PF y.2):=by
   intro i hi;obtain⟨Zd,h1,h2⟩:=hx i (by omega);obtain⟨_,hlen,hc⟩:=OX h1
   match Zd,hlen with
   |[c0,c1],_ =>
    obtain⟨y1,y2,rfl,rfl⟩:=KD h2;have g0:=hc 0 (by omega);have g1:=hc 1 (by omega);rw[Go.Deep.add_add]at g0 g1;simp at g0 g1;have hs:=Vi (by omega);obtain⟨b,o,spot⟩:=a;simp only at hs;subst hs;rw[Go.WideShapes.add_plain]at g0 g1;exact⟨(y1,y2),b,o,rfl,g0,by rw[OI];exact g1⟩
  obtain⟨xs,YA⟩:=@Go.Deep.choose_lt (Int×Int) ⟨(0,0)⟩ len _ key;refine⟨OM a,len,cap,fun i=>(xs i).1,fun i=>(xs i).2,Qp,M5 hl hm,fun i hi=>?_⟩;obtain⟨b,o,rfl,h0,h1⟩:=YA i hi;exact⟨b,o,rfl,mm h0,h0,h1⟩
theorem F8 {c:PH}{x:DataW H×List MemPlace}(h:DataW.trod enc prog W 0 sp held fuel 42 [c]=OM x) :
  ∃A n cap fs ts,c=.slice A n cap/\n<=maxLen/\gu W A n fs ts:=by
 rcases Go.Deep.open_slice underlying42 h with⟨Qp,_⟩|⟨a,len,cap,m,k,D,Pl,Qp,_,hl,hm,Tl,_,hx⟩
 ·simp at Qp;exact⟨Pk,0,0,fun _=>0,fun _=>PB,Qp,by unfold maxLen;simp,fun i hi=>absurd hi (Nz i)⟩
 ·simp at Qp;have hlm:len<=m:=by rw[Tl];split<;>omega
  rw[c62]at hx;have Vi:0<len->a.spot=none:=by
   intro h0;obtain⟨Zd,h1,_⟩:=hx 0 (by omega);obtain⟨_,hlen,hc⟩:=OX h1;have g0:=hc 0 (by omega);rw[Go.Deep.add_add,MJ (by omega)]at g0
   simpa [Addr.add]using World.cell?_spot g0
  have key:∀i,i<len->∃y:Int×Bool,∃b o,a=⟨b,o,Pk⟩/\W.cell? ⟨b,o+i*2,Pk⟩=OM (PE PF y.1)/\W.cell? ⟨b,o+i*2+1,Pk⟩=OM (.bool y.2):=by
   intro i hi;obtain⟨Zd,h1,h2⟩:=hx i (by omega);obtain⟨_,hlen,hc⟩:=OX h1
   match Zd,hlen with
   |[c0,c1],_ =>
    obtain⟨y1,y2,rfl,rfl⟩:=I9 h2;have g0:=hc 0 (by omega);have g1:=hc 1 (by omega);rw[Go.Deep.add_add]at g0 g1;simp at g0 g1;have hs:=Vi (by omega);obtain⟨b,o,spot⟩:=a;simp only at hs;subst hs;rw[Go.WideShapes.add_plain]at g0 g1;exact⟨(y1,y2),b,o,rfl,g0,by rw[OI];exact g1⟩
  obtain⟨xs,YA⟩:=@Go.Deep.choose_lt (Int×Bool) ⟨(0,PB)⟩ len _ key;refine⟨OM a,len,cap,fun i=>(xs i).1,fun i=>(xs i).2,Qp,M5 hl hm,fun i hi=>?_⟩;obtain⟨b,o,rfl,h0,h1⟩:=YA i hi;exact⟨b,o,rfl,mm h0,h0,h1⟩
end
end
section
open Go.RowKit
theorem pB (t:List UInt8)(b:Bool)(w:PG) :
  PK prog 116 #[.string (str t),.bool b] w fun e w'=>e=PM (.bool (e9 t b))/\w'=w:=by
 have QC:=aP t;have hts:=aR t;have hmt:=aR (gn Pm);have hmf:=aR (gn PB);unfold gn str at hmt hmf;simp only[if_true,Ph,if_false]at hmt hmf;have s1:(⟨#[57,50,50,51,51,55,50,48,51,54,56,53,52,55,55,53,56,48,55]⟩:ByteArray).size=19:=rfl;have s2:(⟨#[57,50,50,51,51,55,50,48,51,54,56,53,52,55,55,53,56,48,56]⟩:ByteArray).size=19:=rfl;rcases Nat.lt_trichotomy t.length 19 with h|h|h
 ·have e:e9 t b=true:=by unfold e9;simp[h]
  rw[e];have h1:(t.length:Int)<19:=by omega
  cases b
  all_goals
   go_enter func116,ntmps116;go_wp2;go_ret;exact⟨rfl,rfl⟩
 ·have e:e9 t b=(Op.bytesLess t (gn b) || t==gn b):=by unfold e9;simp[h]
  rw[e];have h1:¬(t.length:Int)<19:=by omega
  have h2:((t.length:Int)==19)=true:=by rw[beq_iff_eq];omega
  cases b
  all_goals
   go_enter func116,ntmps116;go_wp2;go_ret;exact⟨by first|rfl|(unfold gn;simp),rfl⟩
 ·have e:e9 t b=false:=by
   unfold e9;rw[decide_eq_false (by omega),decide_eq_false (by omega)];rfl
  rw[e];have h1:¬(t.length:Int)<19:=by omega
  have h2:((t.length:Int)==19)=false:=by rw[beq_eq_false_iff_ne];omega
  cases b
  all_goals
   go_enter func116,ntmps116;go_wp2;go_ret;exact⟨rfl,rfl⟩
end
section
open Go.RowKit
theorem nI (s:List UInt8)(n:Nat):(str s).extract 0 n=str (s.take n):=by
 rw[Lib.extract_eq,kh];simp[str]
theorem nJ (s:List UInt8)(n:Nat):(str s).extract n s.length=str (s.drop n):=by
 rw[Lib.extract_eq,kh]
 congr 2
 rw[NV (by simp)]
theorem uA (h:s.length<=word.length)(w:PG) :
  PK prog 70 #[.string (str s),.string (str word)] w fun e w'=>e=PM (.bool PB)/\w'=w:=by
 have h1:=aP s;have h2:=aP word;have h3:(s.length:Int)<=(word.length:Int):=by omega
 go_enter func70,ntmps70;go_wp2;go_ret;exact⟨rfl,rfl⟩
theorem wT (h:word.length<s.length)(hw:s.take word.length≠word)(w:PG) :
  PK prog 70 #[.string (str s),.string (str word)] w fun e w'=>e=PM (.bool PB)/\w'=w:=by
 have h1:=aP s;have h2:=aP word;have h3:¬(s.length:Int)<=(word.length:Int):=by omega
 have h4:(word.length:Int)<=(s.length:Int):=by omega
 have h5:=nI s word.length;have h6:=aR (s.take word.length);have h7:=aR word;have h8:(s.take word.length==word)=false:=by simpa using hw
 go_enter func70,ntmps70;go_wp2;go_ret;exact⟨rfl,rfl⟩
theorem wU (e:s=word++t)(h:20<t.length)(hm:s.length<=1000)(w:PG) :
  PK prog 70 #[.string (str s),.string (str word)] w fun e w'=>e=PM (.bool PB)/\w'=w:=by
 have hl:s.length=word.length+t.length:=by rw[e,MM]
 have h1:=aP s;have h2:=aP word;have h3:¬(s.length:Int)<=(word.length:Int):=by omega
 have h4:(word.length:Int)<=(s.length:Int):=by omega
 have h5:(str s).extract 0 word.length=str word:=by rw[nI,e,List.take_left]
 have h7:=aR word;have h8:(20:Int)<(s.length:Int)-(word.length:Int):=by omega
 clear e hl;go_enter func70,ntmps70;go_wp2;go_ret;exact⟨rfl,rfl⟩
theorem qK (u:List UInt8)(h:u≠[])(w:PG):(Instr.index 9 (.string (str u)) (PE PF 0)).run prog w=.ok (.int .u8 (u.headD 0).toNat) w:=by
 obtain⟨c,r,rfl⟩:∃c r,u=c::r:=by
  cases u with
  |nil=>exact absurd rfl h
  |cons c r=>exact⟨c,r,rfl⟩
 exact gM (c::r) 0 (by simp) w
structure Dt (s word t:List UInt8):Prop where
 h1:(str s).size=s.length
 h2:(str word).size=word.length
 h3:¬(s.length:Int)<=(word.length:Int)
 h4:(word.length:Int)<=(s.length:Int)
 h5:(str s).extract 0 word.length=str word
 h7:(str word).toList=word
 h8:¬(20:Int)<(s.length:Int)-(word.length:Int)
 h9:(str s).extract word.length s.length=str t
 ht:(str t).size=t.length
 hb:t.length<=20
 hi:∀w,(Instr.index 9 (.string (str t)) (PE PF 0)).run prog w=.ok (.int .u8 ((t.headD 0).toNat)) w
 hj:∀w,(Instr.index 9 (.string (str s)) (PE PF word.length)).run prog w=.ok (.int .u8 ((t.headD 0).toNat)) w
theorem Jb (e:s=word++t)(h:t≠[])(h20:t.length<=20):Dt s word t:=by
 have hl:s.length=word.length+t.length:=by rw[e,MM]
 have ht:t.length≠0:=by simpa using h
 obtain⟨c,r,rfl⟩:∃c r,t=c::r:=by
  cases t with
  |nil=>exact absurd rfl h
  |cons c r=>exact⟨c,r,rfl⟩
 refine⟨aP s,aP word,by omega,by omega,by rw[nI,e,List.take_left],aR word,by omega,by rw[nJ,e,List.drop_left],aP _,h20,fun w=>gM (c::r) 0 (by simp) w,fun w=>?_⟩;rw[gM s word.length (by rw[hl];simp) w]
 congr 3
 simp[e]
theorem uB (L:Dt s word u)(hu:u≠[])(SY:u.headD 0≠45)(hz:(u.head?==OM 48&&decide (1<u.length))=PB)(w:PG) :
  PK prog 70 #[.string (str s),.string (str word)] w fun e w'=>e=PM (.bool (gI u PB))/\w'=w:=by
 obtain⟨h1,h2,h3,h4,h5,h7,h8,h9,ht,hb,hi,hj⟩:=L;have hul:u.length≠0:=by simpa using hu
 have HZ:=ae hz;have e0:((u.headD 0).toNat==45)=false:=by
  rw[beq_eq_false_iff_ne];exact fun e=>SY (UInt8.toNat_inj.1 e)
 have e1:(((u.headD 0).toNat:Int)==45)=false:=by
  rw[beq_eq_false_iff_ne]at e0 ⊢;omega
 have Qp:(((u.headD 0).toNat:Int)==48)=PB\/((((u.headD 0).toNat:Int)==48)=Pm/\¬(1:Int)<(u.length:Int)):=by
  cases hq:(((u.headD 0).toNat:Int)==48) with
  |false=>exact .inl rfl
  |true =>
   refine .inr ⟨rfl,?_⟩;rw[beq_iff_eq]at hq;obtain⟨c,r,rfl⟩:∃c r,u=c::r:=by
    cases u with
    |nil=>exact absurd rfl hu
    |cons c r=>exact⟨c,r,rfl⟩
   have hq2:(c.toNat:Int)=48:=by simpa using hq
   have:c=48:=UInt8.toNat_inj.1 (by show c.toNat=48;omega);subst this;simp at hz;subst hz;simp
 clear hz SY e0 hu;generalize ((u.headD 0).toNat:Int)=x at *;rcases Qp with Qp|⟨Qp,Ql⟩
 all_goals
  go_enter func70,ntmps70;go_wp2;go_loopw [6] (fun i wr=>∃j:Nat,j<=u.length/\i=PE PF j/\wr=w/\(u.take j).all lT=Pm)
   (fun i _=>u.length-(intOf i).toNat)
  case atStart=>exact⟨0,by omega,rfl,rfl,rfl⟩
  case round =>
   obtain⟨j,hj,rfl,rfl,Qe⟩:=hrel;by_cases PO:j<u.length
   ·have hij:=gM u j PO;have Qq:(u.take (j+1)).all lT=lT u[j]:=by
     rw[Nb,MJ PO,List.all_append,Qe];simp
    have Qc:lT u[j]=PB->u.all lT=false:=fun h=>by
     rw[Bool.eq_false_iff];intro hA;rw[Pt]at hA;have:=hA u[j] (ND PO);rw[h]at this;cases this
    generalize u[j]=c at hij Qq Qc;have j1:(0:Int)<=(j:Int)/\(j:Int)<(u.length:Int):=(by omega);cases hc:lT c with
    |true =>
     rw[hc]at Qq;have hd:48<=c.toNat/\c.toNat<=57:=of_decide_eq_true hc;have d1:¬(c.toNat:Int)<48:=(by omega);have d2:¬(57:Int)<(c.toNat:Int):=(by omega);have QV:=ae Qq;clear Qq Qc hc hd;go_wp2;go_roundw
     case rel=>exact⟨j+1,by omega,by go_num,by first|rfl|trivial,QV.out⟩
     case measure=>simp[intOf];omega
    |false =>
     have YB:=Qc hc;have hd:¬(48<=c.toNat/\c.toNat<=57):=of_decide_eq_false hc;have hR:gI u PB=false:=by
      unfold gI;rw[YB,N1,Ps]
     have HX:=ae hR;clear Qq Qc YB hc hR;by_cases d1:(c.toNat:Int)<48
     ·go_wp2;go_ret;exact⟨by rw[HX.out];rfl,rfl⟩
     ·have d2:(57:Int)<(c.toNat:Int):=(by omega);go_wp2;go_ret;exact⟨by rw[HX.out];rfl,rfl⟩
   ·have Vw:j=u.length:=(by omega);subst Vw;rw[M9]at Qe;have hR:gI u PB=e9 u false:=by
     unfold gI;rw[Qe,HZ.out];simp
    have HX:=ae hR;clear hR;go_wp2_with (go_at_call 116;refine(pB u PB _).mono ?_;rintro e w' ⟨rfl,rfl⟩);go_ret;exact⟨by rw[HX.out];rfl,rfl⟩
theorem su (L:Dt s word u)(h48:u.headD 0=48)(hl:1<u.length)(w:PG) :
  PK prog 70 #[.string (str s),.string (str word)] w fun e w'=>e=PM (.bool PB)/\w'=w:=by
 obtain⟨h1,h2,h3,h4,h5,h7,h8,h9,ht,hb,hi,hj⟩:=L;rw[h48]at hi hj;have Ut:(1:Int)<(u.length:Int):=by omega
 go_enter func70,ntmps70;go_wp2;go_ret;exact⟨rfl,rfl⟩
structure BJ (t u:List UInt8):Prop where
 e1:(str t).extract 1 t.length=str u
 hu:(str u).size=u.length
 ul:(str u).toList=u
 t1:(1:Int)<=(t.length:Int)
 ln:u.length<t.length
theorem F9 (u:List UInt8):BJ (45::u) u:=by
 refine⟨by rw[nJ];rfl,aP u,aR u,?_,by simp⟩;rw[Nf];omega
theorem pC (L:Dt s word t)(M:BJ t u)(SY:t.headD 0=45)(h:u=[]\/u=[48])(w:PG) :
  PK prog 70 #[.string (str s),.string (str word)] w fun e w'=>e=PM (.bool PB)/\w'=w:=by
 obtain⟨h1,h2,h3,h4,h5,h7,h8,h9,ht,hb,hi,hj⟩:=L;obtain⟨m1,m2,m3,m4,m5⟩:=M;rw[SY]at hi hj;rcases h with rfl|rfl
 all_goals
  go_enter func70,ntmps70;go_wp2;go_ret;exact⟨rfl,rfl⟩
theorem sy (L:Dt s word t)(M:BJ t u)(SY:t.headD 0=45)(h48:u.headD 0=48)(hl:1<u.length)(w:PG) :
  PK prog 70 #[.string (str s),.string (str word)] w fun e w'=>e=PM (.bool PB)/\w'=w:=by
 obtain⟨h1,h2,h3,h4,h5,h7,h8,h9,ht,hb,hi,hj⟩:=L;obtain⟨m1,m2,m3,m4,m5⟩:=M;rw[SY]at hi hj;have ne1:(u.isEmpty)=false:=by cases u with
  |nil=>simp at hl
  |cons c r=>rfl
 have ne2:(u == [48])=false:=by
  rw[beq_eq_false_iff_ne];intro e;rw[e]at hl;simp at hl
 have hk:=qK u (by intro e;rw[e]at hl;simp at hl);rw[h48]at hk;have Ut:(1:Int)<(u.length:Int):=by omega
 clear h48;go_enter func70,ntmps70;go_wp2;go_ret;exact⟨rfl,rfl⟩
theorem uC (L:Dt s word t)(M:BJ t u)(SY:t.headD 0=45)(hu:u≠[])(hu2:u≠[48])(hz:(u.head?==OM 48&&decide (1<u.length))=PB)(w:PG) :
  PK prog 70 #[.string (str s),.string (str word)] w fun e w'=>e=PM (.bool (gI u Pm))/\w'=w:=by
 obtain⟨h1,h2,h3,h4,h5,h7,h8,h9,ht,TQ,hi,hj⟩:=L;obtain⟨m1,m2,m3,m4,m5⟩:=M;rw[SY]at hi hj;have hul:u.length≠0:=by simpa using hu
 have hb:u.length<=20:=by omega
 have HZ:=ae hz;have ne1:(u.isEmpty)=false:=by cases u with
  |nil=>exact absurd rfl hu
  |cons c r=>rfl
 have ne2:(u == [48])=false:=by rw[beq_eq_false_iff_ne];exact hu2
 have hk:=qK u hu;have Qp:(((u.headD 0).toNat:Int)==48)=false:=by
  rw[beq_eq_false_iff_ne];intro hq;obtain⟨c,r,rfl⟩:∃c r,u=c::r:=by
   cases u with
   |nil=>exact absurd rfl hu
   |cons c r=>exact⟨c,r,rfl⟩
  have hq2:(c.toNat:Int)=48:=by simpa using hq
  have:c=48:=UInt8.toNat_inj.1 (by show c.toNat=48;omega);subst this;simp at hz;subst hz;exact hu2 rfl
 have Qd:(u.length=0)=False:=by simp[hul]
 clear hz hu hu2 TQ;generalize ((u.headD 0).toNat:Int)=x at hk Qp
 all_goals
  go_enter func70,ntmps70;go_wp2;go_loopw [6] (fun i wr=>∃j:Nat,j<=u.length/\i=PE PF j/\wr=w/\(u.take j).all lT=Pm)
   (fun i _=>u.length-(intOf i).toNat)
  case atStart=>exact⟨0,by omega,rfl,rfl,rfl⟩
  case round =>
   obtain⟨j,hj,rfl,rfl,Qe⟩:=hrel;by_cases PO:j<u.length
   ·have hij:=gM u j PO;have Qq:(u.take (j+1)).all lT=lT u[j]:=by
     rw[Nb,MJ PO,List.all_append,Qe];simp
    have Qc:lT u[j]=PB->u.all lT=false:=fun h=>by
     rw[Bool.eq_false_iff];intro hA;rw[Pt]at hA;have:=hA u[j] (ND PO);rw[h]at this;cases this
    generalize u[j]=c at hij Qq Qc;have j1:(0:Int)<=(j:Int)/\(j:Int)<(u.length:Int):=(by omega);cases hc:lT c with
    |true =>
     rw[hc]at Qq;have hd:48<=c.toNat/\c.toNat<=57:=of_decide_eq_true hc;have d1:¬(c.toNat:Int)<48:=(by omega);have d2:¬(57:Int)<(c.toNat:Int):=(by omega);have QV:=ae Qq;clear Qq Qc hc hd;go_wp2;go_roundw
     case rel=>exact⟨j+1,by omega,by go_num,by first|rfl|trivial,QV.out⟩
     case measure=>simp[intOf];omega
    |false =>
     have YB:=Qc hc;have hd:¬(48<=c.toNat/\c.toNat<=57):=of_decide_eq_false hc;have hR:gI u Pm=false:=by
      unfold gI;rw[YB,N1,Ps]
     have HX:=ae hR;clear Qq Qc YB hc hR;by_cases d1:(c.toNat:Int)<48
     ·go_wp2;go_ret;exact⟨by rw[HX.out];rfl,rfl⟩
     ·have d2:(57:Int)<(c.toNat:Int):=(by omega);go_wp2;go_ret;exact⟨by rw[HX.out];rfl,rfl⟩
   ·have Vw:j=u.length:=(by omega);subst Vw;rw[M9]at Qe;have hR:gI u Pm=e9 u true:=by
     unfold gI;rw[Qe,HZ.out];simp
    have HX:=ae hR;clear hR;go_wp2_with (go_at_call 116;refine(pB u Pm _).mono ?_;rintro e w' ⟨rfl,rfl⟩);go_ret;exact⟨by rw[HX.out];rfl,rfl⟩
theorem BK {b:Bool}(h:(u.head?==OM 48&&decide (1<u.length))=Pm):gI u b=false:=by
 unfold gI;rw[h];rfl
theorem uD (hu:u≠[])(c:UInt8):u.head? = OM c↔u.headD 0=c:=by
 cases u with
 |nil=>exact absurd rfl hu
 |cons x r=>simp
theorem qL (hs:s.length<=1000)(w:PG) :
  PK prog 70 #[.string (str s),.string (str word)] w fun e w'=>e=PM (.bool (dH s word).isSome)/\w'=w:=by
 by_cases h1:s.length<=word.length
 ·have hn:dH s word=none:=qG fun v _ _ e=>by
   have:=uo v;have hl:s.length=word.length+(Lib.itoa v).length:=(by rw[e,MM]);have:(Lib.itoa v).length≠0:=by simpa using this
   omega
  rw[hn];exact uA h1 w
 ·by_cases h2:s.take word.length=word
  ·obtain⟨t,e⟩:∃t,s=word++t:=⟨s.drop word.length,by conv=>lhs;rw[<- Pp word.length s,h2]⟩;have hl:s.length=word.length+t.length:=(by rw[e,MM]);have ht:t≠[]:=by
    intro h;rw[h]at hl;simp at hl;omega
   by_cases h3:20<t.length
   ·have hn:dH s word=none:=qG fun v v1 v2 e2=>by
     rw[e]at e2;have e3:=List.append_cancel_left e2;have:=ij v v1 v2;rw[<- e3]at this;omega
    rw[hn];exact wU e h3 hs w
   ·have L:=Jb e ht (by omega);rw[show dH s word=dH (word++t) word by rw[e],Df ht];unfold IG;by_cases SY:t.head? = OM 45
    ·rw[if_pos SY];obtain⟨u,rfl⟩:∃u,t=45::u:=by
      cases t with
      |nil=>exact absurd rfl ht
      |cons c r =>
       simp at SY;exact⟨r,by rw[SY]⟩
     rw[List.tail_cons];have M:=F9 u;by_cases u1:u=[]
     ·rw[show (decide (u≠[])&&decide (u≠[48]))=PB by simp[u1],N1];exact pC L M rfl (.inl u1) w
     ·by_cases u2:u=[48]
      ·rw[show (decide (u≠[])&&decide (u≠[48]))=PB by simp[u2],N1];exact pC L M rfl (.inr u2) w
      ·rw[decide_eq_true u1,decide_eq_true u2,Bool.and_self,Bool.true_and];cases hz:(u.head?==OM 48&&decide (1<u.length)) with
       |false=>exact uC L M rfl u1 u2 hz w
       |true =>
        rw[BK hz];rw[MW,beq_iff_eq,decide_eq_true_eq]at hz;exact sy L M rfl ((uD u1 48).1 hz.1) hz.2 w
    ·rw[if_neg SY];cases hz:(t.head?==OM 48&&decide (1<t.length)) with
     |false=>exact uB L ht (fun h=>SY ((uD ht 45).2 h)) hz w
     |true =>
      rw[BK hz];rw[MW,beq_iff_eq,decide_eq_true_eq]at hz;exact su L ((uD ht 48).1 hz.1) hz.2 w
  ·have hn:dH s word=none:=qG fun v _ _ e=>by
    rw[e,List.take_left]at h2;exact h2 rfl
   rw[hn];exact wT (by omega) h2 w
theorem pV {r:Bool}(hr:(dH s bk).isSome=r)(hs:s.length<=1000)(w:PG) :
  PK prog 70 #[.string (str s),.string ⟨#[104,101,105,103,104,116,32]⟩] w fun e w'=>e=PM (.bool r)/\w'=w:=hr▸qL (word:=bk) hs w
theorem pW {r:Bool}(hr:(dH s bO).isSome=r)(hs:s.length<=1000)(w:PG) :
  PK prog 70 #[.string (str s),.string ⟨#[119,105,100,116,104,32]⟩] w fun e w'=>e=PM (.bool r)/\w'=w:=hr▸qL (word:=bO) hs w
end
section
open Go.RowKit
structure BL (s word t:List UInt8):Prop where
 h1:(str s).size=s.length
 h2:(str word).size=word.length
 h3:¬(s.length:Int)<=(word.length:Int)
 h4:(word.length:Int)<=(s.length:Int)
 h5:(str s).extract 0 word.length=str word
 h7:(str word).toList=word
 h9:(str s).extract word.length s.length=str t
 ht:(str t).size=t.length
 hl:s.length=word.length+t.length
theorem Ga (e:s=word++t)(h:t≠[]):BL s word t:=by
 have hl:s.length=word.length+t.length:=by rw[e,MM]
 have ht:t.length≠0:=by simpa using h
 exact⟨aP s,aP word,by omega,by omega,by rw[nI,e,List.take_left],aR word,by rw[nJ,e,List.drop_left],aP _,hl⟩
theorem zG (L:BL s word t)(h:9<t.length)(hs:s.length<=1000)(w:PG) :
  PK prog 71 #[.string (str s),.string (str word)] w fun e w'=>e=PM (PE PF (-1))/\PI w.heap.size w w':=by
 obtain⟨h1,h2,h3,h4,h5,h7,h9,ht,hl⟩:=L;have h8:(9:Int)<(s.length:Int)-(word.length:Int):=by omega
 clear hl;go_enter func71,ntmps71;go_wp2;go_ret;exact⟨rfl,al⟩
theorem wV (L:BL s word t)(h:¬9<t.length)(PW:t≠[])(SY:t.headD 0=45)(_hs:s.length<=1000)(w:PG) :
  PK prog 71 #[.string (str s),.string (str word)] w fun e w'=>e=PM (PE PF (-1))/\PI w.heap.size w w':=by
 obtain⟨h1,h2,h3,h4,h5,h7,h9,ht,hl⟩:=L;have h8:¬(9:Int)<(s.length:Int)-(word.length:Int):=by omega
 have hi:=qK t PW;rw[SY]at hi;have h0:t.length≠0:=by simpa using PW
 have t0:(0:Int)<(t.length:Int):=by omega
 clear hl SY;go_enter func71,ntmps71;go_wp2;go_loopw [6,7] (fun n i wr=>n=PE PF 0/\i=PE PF 0/\wr=w) (fun _ _ _=>1)
 case atStart=>exact⟨rfl,rfl,rfl⟩
 case round =>
  obtain⟨rfl,rfl,rfl⟩:=hrel;go_wp2;go_ret;exact⟨rfl,al⟩
theorem zH (hj:j<t.length):dM 0 (t.take (j+1))=dM 0 (t.take j)*10+(t[j].toNat-48):=by
 rw[Nb,MJ hj];exact mh _ _ _
theorem wW {n:Nat}(L:BL s word (Lib.decDigits n))(h:¬9<(Lib.decDigits n).length)(_hs:s.length<=1000)(w:PG) :
  PK prog 71 #[.string (str s),.string (str word)] w fun e w'=>e=PM (PE PF n)/\PI w.heap.size w w':=by
 obtain⟨h1,h2,h3,h4,h5,h7,h9,ht,hl⟩:=L;have hd:=ui n;have hv:=qp n;have afx:=lh (Lib.decDigits n) hd;have Xn:n<1000000000:=by
  rw[hv]at afx;have:10 ^ (Lib.decDigits n).length<=10 ^ 9:=OF (by decide) (by omega);omega
 have h8:¬(9:Int)<(s.length:Int)-(word.length:Int):=by omega
 have hdv:=fun w=>JU (n:=n) rfl (by omega) w;have htl:=aR (Lib.decDigits n);obtain⟨t,het⟩:∃t,Lib.decDigits n=t:=⟨_,rfl⟩;rw[het]at h9 ht hl hd hv h hdv htl;have HV:=ae hv;have TL:∀j,j<=t.length->dM 0 (t.take j)<1000000000:=fun j hj=>by
  have h1:=lh (t.take j) (fun c hc=>hd c (List.mem_of_mem_take hc));have:10 ^ (t.take j).length<=10 ^ 9:=OF (by decide) (by rw[MY];omega);omega
 clear hl afx hv het;go_enter func71,ntmps71;go_wp2;go_loopw [6,7] (fun x i wr=>∃(j q:Nat),j<=t.length/\i=PE PF j/\x=PE PF q/\q=dM 0 (t.take j)/\wr=w)
  (fun _ i _=>t.length-(intOf i).toNat)
 case atStart=>exact⟨0,0,by omega,rfl,rfl,by simp[iX],rfl⟩
 case round =>
  obtain⟨j,q,hj,rfl,rfl,hq,rfl⟩:=hrel;have hq9:=TL j hj;rw[<- hq]at hq9;by_cases PO:j<t.length
  ·have hix:=gM t j PO;have Qq:=zH PO;have hcd:=hd t[j] (ND PO);unfold isD at hcd;rw[<- hq]at Qq;have j1:(0:Int)<=(j:Int)/\(j:Int)<(t.length:Int):=(by omega);generalize t[j]=c at hix Qq hcd;have d1:¬(c.toNat:Int)<48:=(by omega);have d2:¬(57:Int)<(c.toNat:Int):=(by omega);have hu:IntKind.u8.wrap ((c.toNat:Int)-48)=((c.toNat-48:Nat):Int):=(by rw[IntKind.wrap_u8'];omega);have HS:=ae Qq;have hj9:t.length<=9:=(by omega);obtain⟨k,hk⟩:∃k,c.toNat-48=k:=⟨_,rfl⟩;have hk9:k<=9:=(by omega);have HK:=ae hk;rw[hk]at hu;clear Qq hcd hk hq;go_wp2;go_roundw
   case rel=>exact⟨j+1,q*10+k,by omega,by go_num,by go_num,by rw[HS.out,HK.out],by first|rfl|trivial⟩
   case measure=>simp[intOf];omega
  ·have Vw:j=t.length:=(by omega);subst Vw;rw[M9,HV.out]at hq;subst hq;go_wp2_with (go_at_call 51;refine(hdv _).mono ?_;rintro e w1 ⟨rfl,hb1⟩);go_ret;exact⟨rfl,hb1⟩
end
section
open Go.RowKit
def bN:List UInt8->List (List UInt8)×List UInt8
 |[]=>([],[])
 |c::r=>if c=10 then ([]::(bN r).1,(bN r).2) else match bN r with
  |([],x)=>([],c::x)
  |(a::l,x)=>((c::a)::l,x)
theorem qM (b:List UInt8):∀(a:List UInt8),10∉a->bN (a++10::b)=(a::(bN b).1,(bN b).2)
 |[],_=>by simp[bN]
 |c::r,h=>by
  simp only[Nh,not_or]at h;rw[OB];simp only[bN,qM b r h.2];rw[if_neg (fun e=>h.1 e.symm)]
theorem uE:∀(s:List UInt8),10∉s->bN s=([],s)
 |[],_=>rfl
 |c::r,h=>by
  simp only[Nh,not_or]at h;unfold bN;rw[if_neg (fun e=>h.1 e.symm),uE r h.2]
theorem eQ (s:List UInt8):bN s=match ez s with|none=>([],s)|some p=>(p.1::(bN p.2).1,(bN p.2).2):=by
 cases h:ez s with
 |none=>exact uE s (sQ h)
 |some p =>
  obtain⟨e,hn⟩:=iY (a:=p.1) (b:=p.2) h
  conv=>lhs;rw[e]
  exact qM p.2 p.1 hn
def nK (ls:List (List UInt8)):List Value:=ls.map fun l=>Value.string (str l)
theorem Jc:(prog.info? 9).map (fun i=>(i.zero,i.size,i.bytes))=OM (OM (.string ⟨#[]⟩),1,16):=by kernel_rfl
theorem Gb {f:Nat}(hf:f<=j)(hj:j<s.length):s.drop f=(s.drop f).take (j-f)++s[j]::s.drop (j+1):=by
 have h1:(s.drop f).drop (j-f)=s.drop j:=by
  rw[List.drop_drop]
  congr 1
  omega
 have h2:s.drop j=s[j]::s.drop (j+1):=List.drop_eq_getElem_cons hj;rw[<- h2,<- h1,Pp]
theorem Du {f:Nat}(hf:f<=j)(hj:j<s.length):(s.drop f).take (j+1-f)=(s.drop f).take (j-f)++[s[j]]:=by
 rw[show j+1-f=(j-f)+1 by omega,Nb,OD,show f+(j-f)=j by omega,MJ hj];rfl
theorem Jd (s:List UInt8)(f j:Nat):(str s).extract f j=str ((s.drop f).take (j-f)):=by
 rw[Lib.extract_eq,kh];rfl
theorem Dv (s:List UInt8)(hs:s.length<=1000)(w:PG) :
  PK prog 69 #[.string (str s)] w fun e w'=>∃v,e=PM (.tuple #[v,.string (str (bN s).2)])/\w'.ownsRow w.heap.size 9 1 v (bN s).1.length (nK (bN s).1)/\PI w.heap.size w w':=by
 obtain⟨i0,hi,hz⟩:=Option.map_eq_some_iff.1 Jc;simp only[Prod.mk.injEq]at hz;obtain⟨P0,P3,Qd⟩:=hz;have QC:=aP s;go_enter func69,ntmps69;go_wp2;go_loopw [4,5,6] (fun l f i wr=>∃(j from_:Nat) (ls:List (List UInt8)),j<=s.length/\from_<=j/\ls.length<=from_/\i=PE PF j/\f=PE PF from_/\10∉(s.drop from_).take (j-from_)/\bN s=(ls++(bN (s.drop from_)).1,(bN (s.drop from_)).2) /\
   wr.ownsRow w.heap.size 9 1 l ls.length (nK ls)/\PI w.heap.size w wr)
  (fun _ _ i _=>s.length-(intOf i).toNat)
 case atStart=>exact⟨0,0,[],by omega,by omega,by simp,rfl,rfl,by simp,by simp,⟨by simp[nK],.inl ⟨rfl,rfl⟩⟩,al⟩
 case round =>
  obtain⟨j,f,ls,hj,hf,Wp,rfl,rfl,hn,hL,hown,hB⟩:=hrel;have hbs:=hB.size;by_cases PO:j<s.length
  ·have hix:=gM s j PO;have hmd:=Gb hf PO;have htm:=Du hf PO;have j1:(0:Int)<=(j:Int)/\(j:Int)<(s.length:Int):=(by omega);generalize s[j]=c at hix hmd htm;by_cases hc:c=10
   ·subst hc;have hx:=Jd s f j;have Qu:bN s=((ls++[(s.drop f).take (j-f)])++(bN (s.drop (j+1))).1,(bN (s.drop (j+1))).2):=by
     have h2:bN (s.drop f)=((s.drop f).take (j-f)::(bN (s.drop (j+1))).1,(bN (s.drop (j+1))).2):=by
      conv=>lhs;rw[hmd]
      exact qM _ _ hn
     rw[hL,h2];simp
    have aqQ:ls.length+1<=j+1:=(by omega);generalize (s.drop f).take (j-f)=l at hx Qu;have HL:=ae Qu;have f1:(0:Int)<=(f:Int)/\(f:Int)<=(j:Int)/\(j:Int)<=(s.length:Int):=(by omega);clear Qu hL hn hmd htm;go_wp2_with (at_builtin;refine wpList_append_own _ rfl _ _ 146 rfl w.heap.size 9 i0 (.string ⟨#[]⟩) 1 16 underlying146 hi P0 P3 Qd rfl (by decide) _ _ _ rfl (hown.alloc _) ⟨wr.heap.size,0,Pk⟩ 1 1 [.string (str l)] rfl rfl ?c1 ?c2 ?c3 ?c4 ?c5 ?_)
    case c1=>exact cell_one_new _ _ _
    case c2=>intro u hu;simp at hu;subst hu;rfl
    case c3=>unfold maxLen;omega
    case c4=>omega
    case c5=>simp;omega
    intro v' w1 PS PR _;have PX:=fun q hq=>(hown.lt q hq).1;have B1:PI w.heap.size w w1:=(hB.alloc hbs _).grown PR (by simp;omega) PX;have O1:w1.ownsRow w.heap.size 9 1 v' (ls++[l]).length (nK (ls++[l])):=by simpa [nK]using PS
    clear PS PR hown hB;go_wp2;go_roundw
    case rel=>exact⟨j+1,j+1,ls++[l],by omega,by omega,by simp;omega,by go_num,by go_num,by simp,HL.out,O1,B1⟩
    case measure=>simp[intOf];omega
   ·have UH:((c.toNat:Int)==10)=false:=by
     rw[beq_eq_false_iff_ne];intro e;exact hc (UInt8.toNat_inj.1 (by show c.toNat=10;omega))
    have U0:10∉(s.drop f).take (j+1-f):=by
     rw[htm,List.mem_append];rintro (h|h)
     ·exact hn h
     ·exact hc (List.mem_singleton.1 h).symm
    have HN:=ae U0;have HL:=ae hL;clear U0 hL hn hmd htm;go_wp2;go_roundw
    case rel=>exact⟨j+1,f,ls,by omega,by omega,Wp,by go_num,rfl,HN.out,HL.out,hown,hB⟩
    case measure=>simp[intOf];omega
  ·have Vw:j=s.length:=(by omega);subst Vw;have Si:10∉s.drop f:=by
    rw[NV (by simp)]at hn;exact hn
   rw[uE _ Si]at hL;simp only[List.append_nil]at hL;have hx:=nJ s f;have HL:=ae hL;have f1:(0:Int)<=(f:Int)/\(f:Int)<=(s.length:Int):=(by omega);clear hL hn Si;go_wp2;go_quiet (fail);go_wp2;go_ret2;exact⟨_,by rw[HL.out];rfl,by rw[HL.out];exact hown,below_drewN hB _⟩
end
section
open Go.RowKit
def szv (v:Int):Int:=if 0<=v/\(Lib.itoa v).length<=9 then v else -1
theorem qN {v:Int}(h:aU v=Pm):szv v=v:=by
 have a:1<=v/\v<=16:=of_decide_eq_true h;have:=kg v a.1 a.2;unfold szv;rw[if_pos ⟨by omega,by omega⟩]
theorem BM {v:Int}(h:aU v=PB):aU (szv v)=false:=by
 unfold szv;split
 ·exact h
 ·decide
theorem uF {v r:Int}{Wd:ByteArray}(hW:PJ (Wd=str word))(h:PJ (dH s word=OM v))(hr:PJ (szv v=r))(hs:s.length<=1000)(w:PG) :
  PK prog 71 #[.string (str s),.string Wd] w fun e w'=>e=PM (PE PF r)/\PI w.heap.size w w':=by
 rw[hW.out,<- hr.out];obtain⟨e,v1,v2⟩:=eo.1 h.out;have L:=Ga e (uo v);unfold szv;by_cases hl:9<(Lib.itoa v).length
 ·rw[if_neg (by omega)];exact zG L hl hs w
 ·by_cases hv:0<=v
  ·rw[if_pos ⟨hv,by omega⟩];have e2:Lib.itoa v=Lib.decDigits v.toNat:=(by unfold Lib.itoa;rw[if_neg (by omega)]);rw[e2]at L hl;have:=wW L hl hs w;rw[show ((v.toNat:Nat):Int)=v by omega]at this;exact this
  ·rw[if_neg (by omega)];refine wV L hl (uo v) ?_ hs w;unfold Lib.itoa;rw[if_pos (by omega)];rfl
def KG (w:PG) (bb:Nat) (ls:List (List UInt8)):Prop:=bb<w.heap.size/\∀i,i<ls.length->w.cell? ⟨bb,i,Pk⟩=OM (.string (str (ls.getD i [])))
theorem lu {base:Nat}{ls:List (List UInt8)}(h:w.ownsRow base 9 1 v ls.length (nK ls))(PW:ls.length≠0):∃bb cap,v=.slice (OM ⟨bb,0,Pk⟩) ls.length cap/\base<=bb/\KG w bb ls:=by
 rcases h.2 with⟨hv,h0⟩|⟨g,cap,cur,hv,hb,hg,_,_,QC,htk⟩
 ·exact absurd h0 PW
 ·refine⟨g,cap,hv,hb,(Array.getElem?_eq_some_iff.1 hg).1,fun i hi=>?_⟩;subst hv;have:=h.cellAt i (by omega);rw[this];unfold nK;rw[NF,MJ hi];rw[MS,MJ hi];rfl
theorem Je {base:Nat}{ls:List (List UInt8)}(h:w.ownsRow base 9 1 v ls.length (nK ls)):∃A cap,v=.slice A ls.length cap:=by
 rcases h.2 with⟨hv,h0⟩|⟨g,cap,cur,hv,_⟩
 ·exact⟨Pk,0,by rw[hv,h0]⟩
 ·exact⟨_,_,hv⟩
theorem qO {b:List UInt8}(h:ig s=OM (a,b,c,d,r)):bN s=(a::b::c::d::(bN r).1,(bN r).2):=by
 unfold ig at h;split at h
 ·cases h
 ·rename_i h1
  split at h
  ·cases h
  ·rename_i h2
   split at h
   ·cases h
   ·rename_i h3
    split at h
    ·cases h
    ·rename_i h4
     simp at h;obtain⟨rfl,rfl,rfl,rfl,rfl⟩:=h;rw[eQ,h1];simp only;rw[eQ,h2];simp only;rw[eQ,h3];simp only;rw[eQ,h4]
theorem Gc (h:ig s=Pk):(bN s).1.length<4:=by
 unfold ig at h;rw[eQ];cases h1:ez s with
 |none=>simp
 |some p =>
  simp only[h1]at h ⊢;rw[eQ];cases h2:ez p.2 with
  |none=>simp
  |some q =>
   simp only[h2]at h ⊢;rw[eQ];cases h3:ez q.2 with
   |none=>simp
   |some x =>
    simp only[h3]at h ⊢;rw[eQ];cases h4:ez x.2 with
    |none=>simp
    |some y=>simp[h4]at h
structure Dw (w:PG) (s:List UInt8) (e:Ending) (w':PG):Prop where
 ex:∃v,e=PM (.tuple #[v,.string (str (bN s).2)])/\w'.ownsRow w.heap.size 9 1 v (bN s).1.length (nK (bN s).1)/\PI w.heap.size w w'
theorem qP (s:List UInt8)(hs:s.length<=1000)(w:PG):PK prog 69 #[.string (str s)] w (Dw w s):=(Dv s hs w).mono fun _ _ h=>⟨h⟩
theorem wX (h:1000<s.length)(w:PG) :
  PK prog 34 #[.string (str s)] w fun e w'=>e=PM (.tuple #[.pointer Pk,PE PF 2])/\PI w.heap.size w w':=by
 have QC:=aP s;have h1:(1000:Int)<(s.length:Int):=by omega
 go_enter func34,ntmps34;go_wp2;go_ret2;exact⟨rfl,al⟩
theorem zI (h:¬1000<s.length)(h4:ig s=Pk)(w:PG) :
  PK prog 34 #[.string (str s)] w fun e w'=>e=PM (.tuple #[.pointer Pk,PE PF 3])/\PI w.heap.size w w':=by
 have QC:=aP s;have h1:¬(1000:Int)<(s.length:Int):=by omega
 have hf:=Gc h4;clear h4;go_enter func34,ntmps34;go_wp2_with (go_at_call 69;refine(qP s (by omega) _).mono ?_);rintro e w1 ⟨v,rfl,hown,hb1⟩;obtain⟨A,cap,rfl⟩:=Je hown;have Vv:((bN s).1.length:Int)<4:=by omega
 generalize (bN s).1.length=n at *;go_wp2;go_ret2;exact⟨rfl,hb1⟩
theorem wY {b:List UInt8}(h:¬1000<s.length)(h4:ig s=OM (a,b,c,d,r))(hz:sizeOf4 a b c d=Pk)(w:PG) :
  PK prog 34 #[.string (str s)] w fun e w'=>e=PM (.tuple #[.pointer Pk,PE PF 3])/\PI w.heap.size w w':=by
 have QC:=aP s;have h1:¬(1000:Int)<(s.length:Int):=by omega
 obtain⟨l1,l2,l3⟩:=ko h4;have hL:=qO h4;obtain⟨B1,e1⟩:∃x,(dH b bk).isSome=x:=⟨_,rfl⟩;obtain⟨B2,e2⟩:∃x,(dH c bO).isSome=x:=⟨_,rfl⟩;have ta:=aR a;have td:=aR d;have tt:=aR eD;have tm:=aR gZ;unfold str eD at tt;unfold str gZ at tm;have hor:((a == [116,121,112,101,32,111,99,116,105,108,101])=PB)\/(((a == [116,121,112,101,32,111,99,116,105,108,101])=Pm)/\(B1=PB\/(B1=Pm/\(B2=PB\/(B2=Pm/\(d == [109,97,112])=PB))))):=by
  cases ha:(a == [116,121,112,101,32,111,99,116,105,108,101]) with
  |false=>exact .inl rfl
  |true =>
   refine .inr ⟨rfl,?_⟩;cases hB1:B1 with
   |false=>exact .inl rfl
   |true =>
    refine .inr ⟨rfl,?_⟩;cases Uz:B2 with
    |false=>exact .inl rfl
    |true =>
     refine .inr ⟨rfl,?_⟩;rw[hB1]at e1;rw[Uz]at e2;obtain⟨x,hx⟩:=Option.isSome_iff_exists.1 e1;obtain⟨y,hy⟩:=Option.isSome_iff_exists.1 e2;rw[beq_eq_false_iff_ne];intro hd;rw[beq_iff_eq]at ha;unfold sizeOf4 at hz;rw[hx,hy]at hz;simp[ha,hd,eD,gZ]at hz
 have E1:=ae e1;have E2:=ae e2;clear e1 e2 hz h4;have hn4:(bN s).1.length=4+(bN r).1.length:=by rw[hL];simp;omega
 have Rg:PJ ((bN s).1=a::b::c::d::(bN r).1):=by show _=_;rw[hL]
 clear hL;go_enter func34,ntmps34;go_wp2_with (go_at_call 69;refine(qP s (by omega) _).mono ?_);rintro e w1 ⟨v,rfl,hown,hb1⟩;obtain⟨bb,cap,rfl,X6,Qz,Qp⟩:=lu hown (by omega);have c0:w1.cell? ⟨bb,0,Pk⟩=OM (.string (str a)):=by rw[Qp 0 (by omega),Rg.out];rfl
 have c1:w1.cell? ⟨bb,1,Pk⟩=OM (.string (str b)):=by rw[Qp 1 (by omega),Rg.out];rfl
 have c2:w1.cell? ⟨bb,2,Pk⟩=OM (.string (str c)):=by rw[Qp 2 (by omega),Rg.out];rfl
 have c3:w1.cell? ⟨bb,3,Pk⟩=OM (.string (str d)):=by rw[Qp 3 (by omega),Rg.out];rfl
 have Vv:¬((bN s).1.length:Int)<4:=by omega
 have q1:(4:Int)<=((bN s).1.length:Int):=by omega
 clear hown Qp hn4;generalize (bN s).1.length=n at *;generalize (bN s).2=rs at *;rcases hor with ha|⟨ha,rfl|⟨rfl,rfl|⟨rfl,hd⟩⟩⟩
 all_goals
  go_wp2_with (go_at_call 70;refine(pV E1.out (by omega) _).mono ?_);rintro e w' ⟨rfl,rfl⟩;go_wp2_with (go_at_call 70;refine(pW E2.out (by omega) _).mono ?_);rintro e w' ⟨rfl,rfl⟩;go_wp2;go_ret2;exact⟨rfl,hb1⟩
end
section
open Go.RowKit
structure mq (s a b c d r:List UInt8) (W H:Int):Prop where
 h1:¬(1000:Int)<(s.length:Int)
 lb:b.length<=1000
 lc:c.length<=1000
 lr:r.length<=1000
 ta:(a == [116,121,112,101,32,111,99,116,105,108,101])=Pm
 td:(d == [109,97,112])=Pm
 nb:PJ (dH b bk=OM H)
 nc:PJ (dH c bO=OM W)
 n4:(bN s).1.length=4+(bN r).1.length
 ll:PJ ((bN s).1=a::b::c::d::(bN r).1)
 l2:(bN s).2=(bN r).2
theorem zJ {b:List UInt8}{W:Int}(h:¬1000<s.length)(h4:ig s=OM (a,b,c,d,r))(hz:sizeOf4 a b c d=OM (W,H)):mq s a b c d r W H:=by
 obtain⟨l1,l2,l3⟩:=ko h4;have hL:=qO h4;obtain⟨ea,eb,ec,ed,nb,nc⟩:=nj hz;exact⟨by omega,by omega,by omega,by omega,by rw[ea];rfl,by rw[ed];rfl,nb,nc,by rw[hL];simp;omega,by show _=_;rw[hL],by rw[hL]⟩
theorem uG {b:List UInt8}{W:Int}(K:mq s a b c d r W H)(hs:aU W=PB\/(aU W=Pm/\aU H=PB))(w:PG) :
  PK prog 34 #[.string (str s)] w fun e w'=>e=PM (.tuple #[.pointer Pk,PE PF 1])/\PI w.heap.size w w':=by
 have QC:=aP s;obtain⟨h1,lb,lc,lr,ha,hd,nb,nc,n4,Rg,l2⟩:=K;have ta:=aR a;have td:=aR d;have tt:=aR eD;have tm:=aR gZ;unfold str eD at tt;unfold str gZ at tm;have E1:PJ ((dH b bk).isSome=Pm):=by show _=_;rw[nb.out];rfl
 have E2:PJ ((dH c bO).isSome=Pm):=by show _=_;rw[nc.out];rfl
 have P1:PJ ((⟨#[104,101,105,103,104,116,32]⟩:ByteArray)=str bk):=rfl;have P2:PJ ((⟨#[119,105,100,116,104,32]⟩:ByteArray)=str bO):=rfl;obtain⟨zw,ezw⟩:∃z,szv W=z:=⟨_,rfl⟩;obtain⟨zh,ezh⟩:∃z,szv H=z:=⟨_,rfl⟩;have QL:aU zw=PB\/(aU zw=Pm/\aU zh=PB):=by
  rcases hs with h|⟨h,k⟩
  ·exact .inl (by rw[<- ezw];exact BM h)
  ·exact .inr ⟨by rw[<- ezw,qN h];exact h,by rw[<- ezh];exact BM k⟩
 have Z1:=ae ezw;have Z2:=ae ezh;clear ezw ezh hs;go_enter func34,ntmps34;go_wp2_with (go_at_call 69;refine(qP s (by omega) _).mono ?_);rintro e w1 ⟨v,rfl,hown,hb1⟩;obtain⟨bb,cap,rfl,X6,Qz,Qp⟩:=lu hown (by omega);have c0:w1.cell? ⟨bb,0,Pk⟩=OM (.string (str a)):=by rw[Qp 0 (by omega),Rg.out];rfl
 have c1:w1.cell? ⟨bb,1,Pk⟩=OM (.string (str b)):=by rw[Qp 1 (by omega),Rg.out];rfl
 have c2:w1.cell? ⟨bb,2,Pk⟩=OM (.string (str c)):=by rw[Qp 2 (by omega),Rg.out];rfl
 have c3:w1.cell? ⟨bb,3,Pk⟩=OM (.string (str d)):=by rw[Qp 3 (by omega),Rg.out];rfl
 have Vv:¬((bN s).1.length:Int)<4:=by omega
 have q1:(4:Int)<=((bN s).1.length:Int):=by omega
 have z1:=hb1.size;have HB:PI w.heap.size w w1.drew:=hb1.drew;clear hown Qp n4 l2;generalize (bN s).1.length=n at *;generalize (bN s).2=rs at *;go_wp2_with (go_at_call 70;refine(pV E1.out (by omega) _).mono ?_);rintro e w' ⟨rfl,rfl⟩;go_wp2_with (go_at_call 70;refine(pW E2.out (by omega) _).mono ?_);rintro e w' ⟨rfl,rfl⟩;go_wp2;go_region_held (fun w'=>w'.cell? ⟨bb,1,Pk⟩=OM (.string (str b))/\w'.cell? ⟨bb,2,Pk⟩=OM (.string (str c))) (first|(exact⟨c1,c2⟩)) (first|(go_at_call 71;refine(uF (by assumption) (by assumption) (by assumption) (by omega) _).mono ?_;rintro e w2 ⟨rfl,hb2⟩;have c1:=(hb2.cell (p:=⟨bb,1,Pk⟩) Qz).trans c1;have c2:=(hb2.cell (p:=⟨bb,2,Pk⟩) Qz).trans c2;have Qz:=MN Qz hb2.size;have HB:=ak HB hb2)|(go_at_call 28;refine(xE _ _ _ QL).mono ?_;rintro e w' ⟨rfl,rfl⟩))
 all_goals
  go_wp2;go_ret2;exact⟨rfl,HB⟩
end
section
open Go.RowKit
def dN (W:Nat):List (List UInt8)->Option (List Bool)
 |[]=>OM []
 |l::t=>if l.length=W then (match dL l with
  |none=>Pk
  |some a=>match dN W t with
   |none=>Pk
   |some x=>OM (a++x)) else Pk
theorem qQ (W:Nat):∀(k:Nat) (r:List UInt8),cP W k r=if (bN r).1.length=k/\(bN r).2=[] then dN W (bN r).1 else Pk
 |0,r=>by
  unfold cP;rw[eQ];cases h:ez r with
  |none =>
   simp only[List.length_nil,true_and];by_cases hr:r=[]
   ·simp[hr,dN]
   ·simp[hr]
  |some p =>
   have:=(iY (a:=p.1) (b:=p.2) h).1;have hr:r≠[]:=(by rw[this];simp);simp[hr]
 |k+1,r=>by
  rw[eQ];cases h:ez r with
  |none =>
   simp only[cP,h];simp
  |some p =>
   simp only[cP,h,qQ W k p.2,Nf,Nat.add_right_cancel_iff,dN];by_cases hc:(bN p.2).1.length=k/\(bN p.2).2=[]
   ·rw[if_pos hc,if_pos hc];by_cases hw:p.1.length=W
    ·simp only[hw,if_true];cases dL p.1<;>rfl
    ·simp[hw]
   ·rw[if_neg hc,if_neg hc];split
    ·cases dL p.1<;>rfl
    ·rfl
theorem tg :∀{R:List (List UInt8)}{a:List Bool},dN W R=OM a->a.length=R.length*W
 |[],a,h=>by simp[dN]at h;subst h;simp
 |l::t,a,h=>by
  unfold dN at h;split at h
  ·rename_i hw
   split at h
   ·cases h
   ·rename_i x hx
    split at h
    ·cases h
    ·rename_i y hy
     simp at h;subst h;rw[MM,iZ hx,hw,tg hy,Nf,O0];omega
  ·cases h
theorem th (l:List UInt8):∀(R:List (List UInt8)) (a:List Bool),dN W R=OM a->dN W (R++[l])=if l.length=W then (dL l).map (fun x=>a++x) else Pk
 |[],a,h=>by
  simp[dN]at h;subst h;simp only[List.nil_append,dN];split
  ·cases dL l<;>simp
  ·rfl
 |m::R,a,h=>by
  unfold dN at h;split at h
  ·rename_i hw
   split at h
   ·cases h
   ·rename_i x hx
    split at h
    ·cases h
    ·rename_i y hy
     simp at h;subst h;rw[OB];simp only[dN,hw,if_true,hx,th l R y hy];by_cases hl:l.length=W
     ·simp only[hl,if_true];cases dL l<;>simp
     ·simp[hl]
  ·cases h
theorem tj (S:List (List UInt8)):∀(R:List (List UInt8)),dN W R=Pk->dN W (R++S)=Pk
 |[],h=>by simp[dN]at h
 |m::R,h=>by
  rw[OB];simp only[dN]at h ⊢;split at h
  ·rename_i hw
   simp only[hw,if_true];cases hx:dL m with
   |none=>rfl
   |some x =>
    simp only[hx]at h ⊢;cases hy:dN W R with
    |none=>rw[tj S R hy]
    |some y=>simp[hy]at h
  ·rename_i hw
   simp[hw]
theorem Gd {R:List (List UInt8)}{y:Nat}(h:dN W (R.take (y+1))=Pk):dN W R=none:=by
 have:=tj (R.drop (y+1)) _ h
 rwa [Pp]at this
def eM (w:PG) (b:Nat) (W H:Nat) (cs:List Bool):Prop:=bg w b W H (blocks cs) (fC cs)/\Fz w b
theorem eM.false {H:Nat}(g:eM w b W H cs):eM w b W H (cs++[PB]):=by
 unfold eM;rw[ns,nt];exact g
theorem eM.drewN {H:Nat}(g:eM w b W H cs)(m:Nat):eM (w.drewN m) b W H cs:=⟨g.1.drewN m,g.2⟩
theorem Dx {H:Nat}{i:Int}(hi:i=cs.length)(w:PG)(g:eM w b W H cs)(PO:cs.length<W*H)(hm:cs.length<=1000000) :
  PK prog 29 #[.pointer (OM ⟨b,0,Pk⟩),PE PF i,.bool Pm] w fun e w'=>e=PM (.tuple #[.bool Pm,PE PF 0])/\cA b w w'/\eM w' b W H (cs++[Pm]):=by
 subst hi;have hb:=oN cs;refine(FZ cs.length Pm w g.1 g.2 (uk PO) (oM cs) (by omega) (by omega)).mono fun e w' ⟨he,hT,hG,hF⟩=>⟨he,hT,?_,hF⟩;rw[pn,<- po]at hG;exact hG
theorem zK {H:Nat}(h:aU W=Pm)(k:aU H=Pm)(w:PG):eM (w.alloc (.cells (mz W H) 38)) w.heap.size W H [] :=
 ⟨tD W H w h k,LJ W H w⟩
end
section
open Go.RowKit
structure Ge (w:PG) (W H:Nat) (e:Ending) (w':PG):Prop where
 ex:e=PM (.tuple #[.pointer (OM ⟨w.heap.size,0,Pk⟩),PE PF 0])/\PI w.heap.size w w'/\eM w' w.heap.size W H []/\w.heap.size<w'.heap.size
theorem Gf {H:Nat}(h:aU W=Pm)(k:aU H=Pm)(w:PG):PK prog 28 #[PE PF W,PE PF H] w (Ge w W H):=by
 have a:1<=(W:Int)/\(W:Int)<=16:=of_decide_eq_true h;have b:1<=(H:Int)/\(H:Int)<=16:=of_decide_eq_true k;exact(Cb _ _ w a.1 a.2 b.1 b.2).mono fun e w' ⟨he,hw⟩=>⟨he,by rw[hw];exact al.alloc aj _,by rw[hw];exact zK h k w,by rw[hw];simp⟩
theorem qR {b:List UInt8}{H:Nat}(K:mq s a b c d r W H)(hs:aU W=Pm)(Rz:aU H=Pm)(hl:(bN r).1.length≠H\/((bN r).1.length=H/\(bN r).2≠[]))(w:PG) :
  PK prog 34 #[.string (str s)] w fun e w'=>e=PM (.tuple #[.pointer Pk,PE PF 3])/\PI w.heap.size w w':=by
 have QC:=aP s;obtain⟨h1,lb,lc,lr,ha,hd,nb,nc,n4,Rg,l2⟩:=K;have ta:=aR a;have td:=aR d;have tt:=aR eD;have tm:=aR gZ;unfold str eD at tt;unfold str gZ at tm;have E1:PJ ((dH b bk).isSome=Pm):=by show _=_;rw[nb.out];rfl
 have E2:PJ ((dH c bO).isSome=Pm):=by show _=_;rw[nc.out];rfl
 have P1:PJ ((⟨#[104,101,105,103,104,116,32]⟩:ByteArray)=str bk):=rfl;have P2:PJ ((⟨#[119,105,100,116,104,32]⟩:ByteArray)=str bO):=rfl;have Z1:PJ (szv W=W):=qN hs;have Z2:PJ (szv H=H):=qN Rz;have a1:1<=(W:Int)/\(W:Int)<=16:=of_decide_eq_true hs;have a2:1<=(H:Int)/\(H:Int)<=16:=of_decide_eq_true Rz;go_enter func34,ntmps34;go_wp2_with (go_at_call 69;refine(qP s (by omega) _).mono ?_);rintro e w1 ⟨v,rfl,hown,hb1⟩;obtain⟨bb,cap,rfl,X6,Qz,Qp⟩:=lu hown (by omega);have c0:w1.cell? ⟨bb,0,Pk⟩=OM (.string (str a)):=by rw[Qp 0 (by omega),Rg.out];rfl
 have c1:w1.cell? ⟨bb,1,Pk⟩=OM (.string (str b)):=by rw[Qp 1 (by omega),Rg.out];rfl
 have c2:w1.cell? ⟨bb,2,Pk⟩=OM (.string (str c)):=by rw[Qp 2 (by omega),Rg.out];rfl
 have c3:w1.cell? ⟨bb,3,Pk⟩=OM (.string (str d)):=by rw[Qp 3 (by omega),Rg.out];rfl
 have C1:=ae c1;have C2:=ae c2;have CR:PJ (∀i,i<(bN r).1.length->w1.cell? ⟨bb,4+i,Pk⟩=OM (.string (str ((bN r).1.getD i [])))):=fun i hi=>by rw[Qp (4+i) (by omega),Rg.out,Po];rfl
 have z1:=hb1.size;have HB:=cI w1;clear hown Qp Rg;rw[n4,l2];clear n4 l2;generalize (bN r).1=R at *;generalize (bN r).2=rs at *;have trs:=aR rs;obtain⟨n,en⟩:∃n,R.length=n:=⟨_,rfl⟩;rw[en]at hl CR ⊢;have EN:=ae en;clear en;rcases hl with hl|⟨rfl,RN⟩
 have PW:¬(n:Int)=(H:Int):=by omega
 rotate_left
 have hre:rs.isEmpty=false:=by cases rs with
  |nil=>exact absurd rfl RN
  |cons _ _=>rfl
 clear RN
 all_goals
  have Vv:¬(4+(n:Int))<4:=by omega
  have q1:(4:Int)<=(4+(n:Int)):=by omega
  go_wp2_with (go_at_call 70;refine(pV E1.out (by omega) _).mono ?_);rintro e w' ⟨rfl,rfl⟩;go_wp2_with (go_at_call 70;refine(pW E2.out (by omega) _).mono ?_);rintro e w' ⟨rfl,rfl⟩;go_wp2;go_region_held (fun w'=>w'.cell? ⟨bb,1,Pk⟩=OM (.string (str b))/\w'.cell? ⟨bb,2,Pk⟩=OM (.string (str c))) (first|(exact⟨c1,c2⟩)) (first|(go_at_call 71;refine(uF (by assumption) (by assumption) (by assumption) (by omega) _).mono ?_;rintro e w2 ⟨rfl,hb2⟩;have HB:=ak HB hb2;have c1:=(HB.cell (p:=⟨bb,1,Pk⟩) Qz).trans C1.out;have c2:=(HB.cell (p:=⟨bb,2,Pk⟩) Qz).trans C2.out)|(go_at_call 28;refine(Gf hs Rz _).mono ?_;rintro e w3 ⟨rfl,hb3,hR,YC⟩;have acr:=HB.size;have HB:=ak HB hb3;have c1:=(HB.cell (p:=⟨bb,1,Pk⟩) Qz).trans C1.out;have c2:=(HB.cell (p:=⟨bb,2,Pk⟩) Qz).trans C2.out))
  all_goals
   have r1:=hR.1.c1;go_wp2;go_ret2;exact⟨rfl,hb1.trans (HB.mono z1)⟩
theorem zL {b:List UInt8}{H:Nat}(K:mq s a b c d r W H)(hs:aU W=Pm)(Rz:aU H=Pm)(hl:(bN r).1.length≠H)(w:PG) :
  PK prog 34 #[.string (str s)] w fun e w'=>e=PM (.tuple #[.pointer Pk,PE PF 3])/\PI w.heap.size w w':=qR K hs Rz (Or.inl hl) w
theorem wZ {b:List UInt8}{H:Nat}(K:mq s a b c d r W H)(hs:aU W=Pm)(Rz:aU H=Pm)(hl:(bN r).1.length=H/\(bN r).2≠[])(w:PG) :
  PK prog 34 #[.string (str s)] w fun e w'=>e=PM (.tuple #[.pointer Pk,PE PF 3])/\PI w.heap.size w w':=qR K hs Rz (Or.inr hl) w
end
section
open Go.RowKit
theorem xe {b:List UInt8}{H:Nat}(K:mq s a b c d r W H)(hs:aU W=Pm)(Rz:aU H=Pm){o:Option (List Bool)}(hl:(bN r).1.length=H/\(bN r).2=[])(ho:dN W (bN r).1=o)(w:PG) :
  PK prog 34 #[.string (str s)] w fun e w'=>((o=Pk/\e=PM (.tuple #[.pointer Pk,PE PF 3]))\/(∃cs,o=OM cs/\∃B,w.heap.size<=B/\B<w'.heap.size/\e=PM (.tuple #[.pointer (OM ⟨B,0,Pk⟩),PE PF 0])/\eM w' B W H cs))/\PI w.heap.size w w':=by
 have QC:=aP s;obtain⟨h1,lb,lc,lr,ha,hd,nb,nc,n4,Rg,l2⟩:=K;have ta:=aR a;have td:=aR d;have tt:=aR eD;have tm:=aR gZ;unfold str eD at tt;unfold str gZ at tm;have E1:PJ ((dH b bk).isSome=Pm):=by show _=_;rw[nb.out];rfl
 have E2:PJ ((dH c bO).isSome=Pm):=by show _=_;rw[nc.out];rfl
 have P1:PJ ((⟨#[104,101,105,103,104,116,32]⟩:ByteArray)=str bk):=rfl;have P2:PJ ((⟨#[119,105,100,116,104,32]⟩:ByteArray)=str bO):=rfl;have Z1:PJ (szv W=W):=qN hs;have Z2:PJ (szv H=H):=qN Rz;have a1:1<=(W:Int)/\(W:Int)<=16:=of_decide_eq_true hs;have a2:1<=(H:Int)/\(H:Int)<=16:=of_decide_eq_true Rz;go_enter func34,ntmps34;go_wp2_with (go_at_call 69;refine(qP s (by omega) _).mono ?_);rintro e w1 ⟨v,rfl,hown,hb1⟩;obtain⟨bb,cap,rfl,X6,Qz,Qp⟩:=lu hown (by omega);have c0:w1.cell? ⟨bb,0,Pk⟩=OM (.string (str a)):=by rw[Qp 0 (by omega),Rg.out];rfl
 have c1:w1.cell? ⟨bb,1,Pk⟩=OM (.string (str b)):=by rw[Qp 1 (by omega),Rg.out];rfl
 have c2:w1.cell? ⟨bb,2,Pk⟩=OM (.string (str c)):=by rw[Qp 2 (by omega),Rg.out];rfl
 have c3:w1.cell? ⟨bb,3,Pk⟩=OM (.string (str d)):=by rw[Qp 3 (by omega),Rg.out];rfl
 have C1:=ae c1;have C2:=ae c2;have CR:PJ (∀i,i<(bN r).1.length->w1.cell? ⟨bb,4+i,Pk⟩=OM (.string (str ((bN r).1.getD i [])))):=fun i hi=>by rw[Qp (4+i) (by omega),Rg.out,Po];rfl
 have z1:=hb1.size;have HB:=cI w1;clear hown Qp Rg;rw[n4,l2];clear n4 l2;generalize (bN r).1=R at *;generalize (bN r).2=rs at *;have trs:=aR rs;obtain⟨n,en⟩:∃n,R.length=n:=⟨_,rfl⟩;rw[en]at hl CR ⊢;have EN:=ae en;clear en;obtain⟨rfl,rfl⟩:=hl;have HFO:=ae ho;clear ho;have Vv:¬(4+(n:Int))<4:=by omega
 have q1:(4:Int)<=(4+(n:Int)):=by omega
 go_wp2_with (go_at_call 70;refine(pV E1.out (by omega) _).mono ?_);rintro e w' ⟨rfl,rfl⟩;go_wp2_with (go_at_call 70;refine(pW E2.out (by omega) _).mono ?_);rintro e w' ⟨rfl,rfl⟩;go_wp2;go_region_held (fun w'=>w'.cell? ⟨bb,1,Pk⟩=OM (.string (str b))/\w'.cell? ⟨bb,2,Pk⟩=OM (.string (str c))) (first|(exact⟨c1,c2⟩)) (first|(go_at_call 71;refine(uF (by assumption) (by assumption) (by assumption) (by omega) _).mono ?_;rintro e w2 ⟨rfl,hb2⟩;have HB:=ak HB hb2;have c1:=(HB.cell (p:=⟨bb,1,Pk⟩) Qz).trans C1.out;have c2:=(HB.cell (p:=⟨bb,2,Pk⟩) Qz).trans C2.out)|(go_at_call 28;refine(Gf hs Rz _).mono ?_;rintro e w3 ⟨rfl,hb3,hR,YC⟩;have acr:=HB.size;have HB:=ak HB hb3;have c1:=(HB.cell (p:=⟨bb,1,Pk⟩) Qz).trans C1.out;have c2:=(HB.cell (p:=⟨bb,2,Pk⟩) Qz).trans C2.out))
 all_goals
  have r0:=hR.1.c0;have r1:=hR.1.c1;obtain⟨B,hB⟩:∃B,w2.heap.size=B:=⟨_,rfl⟩;rw[hB]at hR YC acr r0 r1 ⊢;have Zb:=hb1.trans (HB.mono z1);have hbB:bb≠B:=by omega
  have hwB:w.heap.size<=B:=by omega
  have CR3:PJ (∀i,i<n->w3.cell? ⟨bb,4+i,Pk⟩=OM (.string (str (R.getD i [])))):=fun i hi=>(HB.cell (p:=⟨bb,4+i,Pk⟩) Qz).trans (CR.out i hi);clear hB hb3 acr z1 CR C1 C2 c1 c2 c0 c3;go_wp2;clear r0 r1;go_loopg [10] n (fun q y wr=>∃(j:Nat) (cs:List Bool),j<=n/\q=n-j/\y=PE PF j/\dN W (R.take j)=OM cs/\eM wr B W n cs/\cA B w3 wr)
  case atStart=>exact⟨0,[],by omega,rfl,rfl,by simp[dN],hR,cA.refl _ _⟩
  case round =>
   obtain⟨j,cs,hj,QD,rfl,RY,hC,hT⟩:=hrel;have HG:=ae QD;clear QD;have r0:=hC.1.c0;have r1:=hC.1.c1;by_cases PO:j<n
   ·have cr:wr.cell? ⟨bb,4+j,Pk⟩=OM (.string (str (R.getD j []))):=(hT.cell (p:=⟨bb,4+j,Pk⟩) hbB).trans (CR3.out j PO);have hRj:R.take (j+1)=R.take j++[R.getD j []]:=(by rw[Nb,MS,MJ (by rw[EN.out];exact PO)];rfl);have Ql:cs.length=j*W:=(by have:=tg RY;rw[MY,Nat.min_eq_left (by rw[EN.out];exact hj)]at this;exact this);have TF:=th (R.getD j []) _ _ RY;rw[<- hRj]at TF;have QL:dN W (R.take (j+1))=Pk->dN W R=none:=Gd;have VF:=aP (R.getD j []);generalize R.getD j []=l at cr TF VF;have j1:(j:Int)<(n:Int):=(by omega);have j2:(0:Int)<=4+(j:Int):=(by omega);have j3:4+(j:Int)<4+(n:Int):=(by omega);have t4:(4+(j:Int)).toNat=4+j:=(by omega);clear hRj;by_cases hw:l.length=W
    ·rw[if_pos hw]at TF;have WJ:PJ (dN W (R.take (j+1))=(dL l).map (fun x=>cs++x)):=TF;have ajK:=ae QL;rw[hw]at VF;have HW:=ae hw;have HCL:=ae Ql;have Zn:=ae RY;clear TF hw Ql RY QL;go_wp2;clear r0 r1 cr;go_loopg [12] W (fun q x wr=>∃(i:Nat) (a:List Bool),i<=W/\q=W-i/\x=PE PF i/\dL (l.take i)=OM a/\eM wr B W n (cs++a)/\cA B w3 wr)
     case atStart=>exact⟨0,[],by omega,rfl,rfl,rfl,by simpa using hC,hT⟩
     case round =>
      clear hC hT;obtain⟨i,ax,hi,hgi,rfl,Wt,hC,hT⟩:=hrel;have HGi:=ae hgi;clear hgi;have r0:=hC.1.c0;have r1:=hC.1.c1;by_cases SJ:i<W
      ·have acs:i<l.length:=(by rw[HW.out];exact SJ);have hix:=gM l i acs;have UD:=sS Wt acs;have Qc:dL (l.take (i+1))=Pk->dL l=none:=sU;have UC:=iZ Wt;rw[MY,Nat.min_eq_left (by omega)]at UC;generalize l[i]=c at hix UD;have acu:(cs++ax).length=j*W+i:=(by rw[MM,UC,HCL.out]);have hjW:j*W+W<=W*n:=(by rw[<- O0,Nat.mul_comm W n];exact Nat.mul_le_mul_right W PO);have PY:(cs++ax).length<W*n:=(by rw[acu];omega);have acv:W*n<=16*16:=Nat.mul_le_mul (by omega) (by omega);have him:(cs++ax).length<=1000000:=(by omega);have HI:PJ ((j:Int)*(W:Int)+(i:Int)=((cs++ax).length:Nat)):=(by show _=_;rw[acu,Int.natCast_add,Int.natCast_mul]);have e1:(0:Int)<=(j:Int)*(W:Int)/\(j:Int)*(W:Int)<=1000:=(by rw[<- Int.natCast_mul];omega);have e2:(i:Int)<(W:Int):=(by omega);have e3:(i:Int)<16:=(by omega);have e4:(0:Int)<=(i:Int):=(by omega);have SW:=ae Qc;clear acu hjW acv UC acs Qc Wt;cases hc:hJ c with
       |none =>
        have TL:o=none:=(by rw[<- HFO.out];exact ajK.out (by rw[WJ.out,SW.out (by rw[UD,hc];rfl)];rfl));obtain⟨b1,b2,b3,b4,b5,b6,b7⟩:=qv hc;clear UD hc;generalize (c.toNat:Int)=m at *;go_wp2;go_ret2;exact⟨.inl ⟨TL,rfl⟩,hT.below Zb hwB⟩
       |some v =>
        rw[hc]at UD;have HTA:=ae UD;clear UD;have VR:=qw hc;clear hc;rcases VR with⟨rfl,VR⟩|⟨rfl,VR⟩
        ·rcases VR with rfl|rfl|rfl
         all_goals
          go_wp2;go_roundg (W-(i+1))
          case measure=>have:=HGi.out;omega
          case rel=>exact⟨i+1,ax++[PB],by omega,rfl,by go_num,HTA.out,by rw[<- Nq];exact hC.false,hT⟩
        ·rcases VR with rfl|rfl|rfl|rfl
         all_goals
          go_wp2_with (go_at_call 29;refine(Dx HI.out _ hC PY him).mono ?_;rintro e w5 ⟨rfl,T5,C5⟩);go_roundg (W-(i+1))
          case measure=>have:=HGi.out;omega
          case rel=>exact⟨i+1,ax++[Pm],by omega,rfl,by go_num,HTA.out,by rw[<- Nq];exact C5,hT.trans T5⟩
      ·have hiW:i=W:=(by omega);subst hiW;go_wp2;go_roundg (n-(j+1))
       case measure=>have:=HG.out;omega
       case rel=>exact⟨j+1,cs++ax,by omega,rfl,by go_num,by rw[WJ.out,<- M9 (l:=l),HW.out,Wt];rfl,hC,hT⟩
    ·rw[if_neg hw]at TF;have Qc:=QL TF;rw[HFO.out]at Qc;have Vy:¬(l.length:Int)=(W:Int):=(by omega);clear TF QL Ql RY;go_wp2;go_ret2;exact⟨.inl ⟨Qc,rfl⟩,hT.below Zb hwB⟩
   ·have hjn:j=n:=(by omega);subst hjn;have Wt:o=OM cs:=(by rw[<- HFO.out,<- RY,<- EN.out,M9]);clear RY;go_wp2;go_ret2;exact⟨.inr ⟨cs,Wt,B,hwB,by rw[hT.size];exact YC,rfl,hC⟩,hT.below Zb hwB⟩
end
end Go.Proofs.YtmaefimaeelkbaaGreatDoor
