/- Texts laid together. -/
import Derived.Test.YtmaefimaeelkbaaGreatDoorP13
namespace Go.Proofs.YtmaefimaeelkbaaGreatDoor
open _root_.Or renaming inl→MG,inr→MF
open Go.World renaming cell?_setCell_other→MH,cell?_alloc_at→ME,cell?→Pn,cell?_alloc_new→MP,block_lt_of_cell?→MK,cells?_some→OX
open _root_.Nat renaming zero_le→MQ,lt_of_lt_of_le→MN,not_lt_zero→Nz,zero_add→M8,le_trans→M5,add_assoc→OI
open _root_.Int renaming toNat_natCast→ML,add_zero→NN
open _root_.List renaming length_cons→Nf,flatMap_cons→Oh,getElem?_eq_some_iff→Np,length_append→MM,getElem?_append_right→Ni,getElem?_eq_getElem→MJ
open Go.Value renaming int→PE
open Go.IntKind renaming i64→PF
open Go.Proofs.Tryz
open _root_.Option renaming some→OM,none→Pk
open _root_.Bool renaming true→Pm,false→PB
open Go renaming World→PG,Value→PH,Calls→PK
open Go.RowKit renaming Below→PI,Hid→PJ
open Go.Ending renaming returned→PM
open Go.Obj renaming cells→PN
variable {n most lo hi sb mb base:Nat}{W H V:Int}{t:List UInt8}{w w' w0:PG}{bl:Nat->Bool}{xo:Option Addr}
set_option maxHeartbeats 8000000
set_option maxRecDepth 1000000
section
open Go.RowKit Go.Lib
theorem DK {A B:Option Addr}{ca cb:Nat}{xs:Nat->Int}(w:PG)(hn:n<=1000000)(hA:bu w A n xs)(hB:bu w B n xs) :
  PK prog 30 #[.slice A n ca,.slice B n cb] w fun e w'=>e=PM (.bool Pm)/\∃m,w'=w.drewN m:=by
 rcases Nat.eq_zero_or_pos n with rfl|h0
 ·exact oV A B ca cb w
 ·obtain⟨b,o,rfl,_,_⟩:=hA 0 h0;obtain⟨b2,o2,rfl,_,_⟩:=hB 0 h0;refine pO b o b2 o2 n ca cb xs w hn (fun i hi=>?_) (fun i hi=>?_)
  ·obtain⟨b',o',e,_,h⟩:=hA i hi;cases e;exact h
  ·obtain⟨b',o',e,_,h⟩:=hB i hi;cases e;exact h
end
section
open Go.RowKit
theorem pE {s a b c d r:List UInt8}{W H:Nat}{o:Option (List Bool)}(K:mq s a b c d r W H)(hs:aU W=Pm)(Rz:aU H=Pm)(ho:cP W H r=o)(w:PG) :
  PK prog 34 #[.string (str s)] w fun e w'=>((o=Pk/\e=PM (.tuple #[.pointer Pk,PE PF 3]))\/(∃cs,o=OM cs/\∃B,w.heap.size<=B/\B<w'.heap.size/\e=PM (.tuple #[.pointer (OM ⟨B,0,Pk⟩),PE PF 0])/\eM w' B W H cs))/\PI w.heap.size w w':=by
 rw[qQ]at ho;by_cases h1:(bN r).1.length=H
 ·by_cases h2:(bN r).2=[]
  ·rw[if_pos ⟨h1,h2⟩]at ho;exact xe K hs Rz ⟨h1,h2⟩ ho w
  ·rw[if_neg (fun h=>h2 h.2)]at ho;exact(wZ K hs Rz ⟨h1,h2⟩ w).mono fun e w' ⟨he,hb⟩=>⟨.inl ⟨ho.symm,he⟩,hb⟩
 ·rw[if_neg (fun h=>h1 h.1)]at ho;exact(zL K hs Rz h1 w).mono fun e w' ⟨he,hb⟩=>⟨.inl ⟨ho.symm,he⟩,hb⟩
structure DL (w:PG) (W H:Nat) (cs:List Bool) (e:Ending) (w':PG):Prop where
 ex:∃B,w.heap.size<=B/\B<w'.heap.size/\e=PM (.tuple #[.pointer (OM ⟨B,0,Pk⟩),PE PF 0])/\eM w' B W H cs/\PI w.heap.size w w'
structure Gt (w:PG) (n:Nat) (e:Ending) (w':PG):Prop where
 ex:e=PM (.tuple #[.pointer Pk,PE PF n])/\PI w.heap.size w w'
theorem zX {s:List UInt8}(h:cY s=.bad n)(w:PG):PK prog 34 #[.string (str s)] w (Gt w n):=by
 unfold cY at h;split at h
 ·rename_i h1
  cases h;exact(wX h1 w).mono fun _ _ h=>⟨h⟩
 ·rename_i h1
  split at h
  ·rename_i h4
   cases h;exact(zI h1 h4 w).mono fun _ _ h=>⟨h⟩
  ·rename_i a b c d r h4
   split at h
   ·rename_i hz
    cases h;exact(wY h1 h4 hz w).mono fun _ _ h=>⟨h⟩
   ·rename_i W H hz
    split at h
    ·rename_i hs
     split at h
     ·rename_i hr
      cases h;have e1:=gq hs.1;have e2:=gq hs.2;rw[<- e1,<- e2]at hz;exact(pE (zJ h1 h4 hz) (by rw[e1];exact hs.1) (by rw[e2];exact hs.2) hr w).mono fun e w' ⟨hp,hb⟩=>by
       rcases hp with⟨_,he⟩|⟨cs,hn,_⟩
       ·exact⟨he,hb⟩
       ·cases hn
     ·cases h
    ·rename_i hs
     cases h;exact(uG (zJ h1 h4 hz) (qE hs) w).mono fun _ _ h=>⟨h⟩
theorem xp {s:List UInt8}{W H:Nat}{cs:List Bool}(h:cY s=.good W H cs)(w:PG):PK prog 34 #[.string (str s)] w (DL w W H cs):=by
 unfold cY at h;split at h
 ·cases h
 ·rename_i h1
  split at h
  ·cases h
  ·rename_i a b c d r h4
   split at h
   ·cases h
   ·rename_i w0 h0 hz
    split at h
    ·rename_i hs
     split at h
     ·cases h
     ·rename_i Zd hr
      injection h with q1 q2 q3
      subst q1 q2 q3;have e1:=gq hs.1;have e2:=gq hs.2;rw[<- e1,<- e2]at hz;exact(pE (zJ h1 h4 hz) (by rw[e1];exact hs.1) (by rw[e2];exact hs.2) hr w).mono fun e w' ⟨hp,hb⟩=>by
       rcases hp with⟨hn,_⟩|⟨cs,hn,B,b1,b2,he,hC⟩
       ·cases hn
       ·cases hn;exact⟨B,b1,b2,he,hC,hb⟩
    ·cases h
theorem BQ {s:List UInt8}(h:cY s=.bad n):0<n:=by
 unfold cY at h;split at h
 ·cases h;decide
 ·split at h
  ·cases h;decide
  ·split at h
   ·cases h;decide
   ·split at h
    ·split at h
     ·cases h;decide
     ·cases h
    ·cases h;decide
end
section
open Go.RowKit Go.Lib
def ldE (t:List UInt8) (most:Int):Int:=match cY t with|.bad n=>(n:Int)|.good _ _ _=>if 1<=most/\most<=6 then 0 else 1
theorem BR {most:Int}(h:cY t=.bad n):ldE t most=(n:Int):=by unfold ldE;rw[h]
theorem xu {W H:Nat}{cs:List Bool}{most:Int}(h:cY t=.good W H cs):ldE t most=if 1<=most/\most<=6 then 0 else 1:=by unfold ldE;rw[h]
theorem Gu (t:List UInt8)(most:Int)(w:PG)(hp:∀n,cY t=.bad n->0<n) :
  PK prog 12 #[.string (str t),PE PF most] w fun e w'=>PI w.heap.size w w'/\((ldE t most≠0/\e=PM (.tuple #[.pointer Pk,PE PF (ldE t most)]))\/(ldE t most=0/\∃(xb mb k W H:Nat) (cs:List Bool),cY t=.good W H cs/\most=(k:Int)/\1<=k/\k<=6/\w.heap.size<=xb/\w.heap.size<=mb/\e=PM (.tuple #[.pointer (OM ⟨xb,0,Pk⟩),PE PF 0])/\RSv w' xb mb W H (blocks cs) (fC cs) k)):=by
 cases hr:cY t with
 |bad n =>
  have hn:=hp n hr;have hpa:=zX hr w;have Za:(0:Int)<(n:Int):=by omega
  have HE:PJ (ldE t most=(n:Int)):=BR hr;have HNE:PJ ((n:Int)≠0):=by unfold PJ;omega
  clear hr hp hn;go_enter func12,ntmps12;go_wp2_with (go_at_call 34;refine hpa.mono ?_;rintro e w' ⟨rfl,hb⟩);go_ret2;rw[HE.out];exact⟨hb,MG ⟨HNE.out,rfl⟩⟩
 |good W H cs =>
  have hpa:=xp hr w;have HE:=xu (most:=most) hr;by_cases Vt:most<1
  ·have HE1:PJ (ldE t most=1):=HE.trans (if_neg (fun h=>by omega));clear HE hr hp;go_enter func12,ntmps12;go_wp2_with (go_at_call 34;refine hpa.mono ?_;rintro e w' ⟨B,h1,h2,rfl,h3,hb⟩;clear h1 h2 h3);go_ret2;rw[HE1.out];exact⟨hb,MG ⟨by decide,rfl⟩⟩
  by_cases YJ:6<most
  ·have HE1:PJ (ldE t most=1):=HE.trans (if_neg (fun h=>by omega));clear HE hr hp;go_enter func12,ntmps12;go_wp2_with (go_at_call 34;refine hpa.mono ?_;rintro e w' ⟨B,h1,h2,rfl,h3,hb⟩;clear h1 h2 h3);go_ret2;rw[HE1.out];exact⟨hb,MG ⟨by decide,rfl⟩⟩
  ·have HE1:PJ (ldE t most=0):=HE.trans (if_pos ⟨by omega,by omega⟩);obtain⟨k,hk⟩:∃k:Nat,most=(k:Int):=⟨most.toNat,by omega⟩;have HK:PJ (1<=k/\k<=6):=⟨by omega,by omega⟩;subst hk;clear HE hr hp;go_enter func12,ntmps12;go_wp2_with (go_at_call 34;refine hpa.mono ?_;rintro e w' ⟨B,h1,h2,rfl,h3,hb⟩);have HG:=ae h3;have hb2:PI w'.heap.size w' (w'.alloc (PN #[.pointer (OM ⟨B,0,Pk⟩),PE PF (k:Int)] 41)):=al.alloc aj _;have B2:=ak hb hb2;obtain⟨x0,x1⟩:=JX w' B (k:Int);clear h3;go_ret2;exact⟨B2,MF ⟨HE1.out,w'.heap.size,B,k,W,H,cs,rfl,rfl,HK.out.1,HK.out.2,hb.size,h1,rfl,⟨x0,x1,HG.out.1.below hb2 h2,HG.out.2.below hb2 h2⟩⟩⟩
theorem LZ (hs:¬(aU W=Pm/\aU H=Pm)):aU W=PB\/(aU W=Pm/\aU H=PB):=by
 cases h1:aU W with
 |false=>exact MG rfl
 |true=>cases h2:aU H with
  |false=>exact MF ⟨rfl,rfl⟩
  |true=>exact absurd ⟨h1,h2⟩ hs
theorem KJ (W H most:Int)(w:PG)(s:az w) :
  PK prog 8 #[PE PF W,PE PF H,PE PF most] w fun e w'=>PI w.heap.size w w'/\((nwE W H most=1/\e=PM (.tuple #[.pointer Pk,.iface 54 (PE PF 1)]))\/(nwE W H most=0/\∃sb k:Nat,most=(k:Int)/\e=PM (.tuple #[.pointer (OM ⟨sb,0,Pk⟩),.nilIface])/\Sv w' w.heap.size w'.heap.size sb W H 0 (fun _=>PB) k)):=by
 by_cases hs:aU W=Pm/\aU H=Pm
 ·obtain⟨hW,hH⟩:=hs;by_cases hm:1<=most/\most<=6
  ·have HE:nwE W H most=0:=if_pos ⟨hW,hH,hm⟩;obtain⟨k,hk⟩:∃k:Nat,most=(k:Int):=⟨most.toNat,by omega⟩;subst hk;exact(xh w s hW hH (by omega) (by omega)).mono fun e w' ⟨sb,h1,h2,h3⟩=>⟨h3,MF ⟨HE,sb,k,rfl,h1,h2⟩⟩
  ·have HE:PJ (nwE W H most=1):=if_neg (fun h=>hm h.2.2);have hn:=Ad W H w hW hH;have g0:=mA W H w hW hH;have hb1:=aQ w (.cells (eL W H) 136);have ho:=BO (most:=most) _ g0 (s.below hb1 (by have:=s.pos;omega)) (by omega);clear g0 hm;go_enter func8,ntmps8;go_wp2_with (go_at_call 31;refine hn.mono ?_;rintro e w' ⟨rfl,rfl⟩);refine ho.mono ?_;rintro e w2 ⟨rfl,hb2⟩;go_wp2;go_ret2;exact⟨ak hb1 hb2,MG ⟨HE.out,rfl⟩⟩
 ·have HE:PJ (nwE W H most=1):=if_neg (fun h=>hs ⟨h.1,h.2.1⟩);have hn:=BY W H w (LZ hs);clear hs;go_enter func8,ntmps8;go_wp2_with (go_at_call 31;refine hn.mono ?_;rintro e w' ⟨rfl,rfl⟩);go_ret2;exact⟨al,MG ⟨HE.out,rfl⟩⟩
theorem Ji (t:List UInt8)(most:Int)(w:PG)(E:Env w)(s:az w)(hp:∀n,cY t=.bad n->0<n) :
  PK prog 11 #[.string (str t),PE PF most] w fun e w'=>PI w.heap.size w w'/\((ldE t most≠0/\e=PM (.tuple #[.pointer Pk,.iface 54 (PE PF (ldE t most))]))\/(ldE t most=0/\∃(sb k W H:Nat) (cs:List Bool),cY t=.good W H cs/\most=(k:Int)/\e=PM (.tuple #[.pointer (OM ⟨sb,0,Pk⟩),.nilIface])/\Sv w' w.heap.size w'.heap.size sb W H (blocks cs) (fC cs) k)):=by
 cases hr:cY t with
 |bad n =>
  have hn:=hp n hr;have hpa:=De hr w E;have HE:PJ (ldE t most=(n:Int)):=BR hr;have HNE:PJ ((n:Int)≠0):=by unfold PJ;omega
  clear hr hp hn;go_enter func11,ntmps11;go_wp2_with (go_at_call 33;refine hpa.mono ?_;rintro e w' ⟨rfl,hb⟩);go_ret2;rw[HE.out];exact⟨hb,MG ⟨HNE.out,rfl⟩⟩
 |good W H cs =>
  have HE:=xu (most:=most) hr;by_cases hm:1<=most/\most<=6
  ·obtain⟨k,hk⟩:∃k:Nat,most=(k:Int):=⟨most.toNat,by omega⟩;subst hk;exact(DH w E s hr (by omega) (by omega)).mono fun e w' ⟨sb,h1,h2,h3⟩=>⟨h3,MF ⟨HE.trans (if_pos hm),sb,k,W,H,cs,rfl,rfl,h1,h2⟩⟩
  ·have HE1:ldE t most=1:=HE.trans (if_neg hm);rw[HE1];exact(DI w E s hr (by omega)).mono fun e w' ⟨h1,h2⟩=>⟨h2,MG ⟨by decide,h1⟩⟩
end
section
open Go.RowKit Go.Lib
theorem tu (w:PG)(B o:Nat)(v:PH):ai (fun k=>k=B) w (w.setCell ⟨B,o,Pk⟩ v):=(ai.refl (fun k=>k=B) w).setCell (p:=⟨B,o,Pk⟩) (fun _=>rfl) _
theorem Hf.full {rb pb lb tb gb x N:Nat}(S:Hf w lo hi sb rb pb mb tb gb x W H V bl most)(L:Lvd w N lb most W H bl (esF W H bl))(hN:sb<N)(YE:2<=lo)(m1:1<=most)(m6:most<=6):Sv (w.setCell ⟨sb,2,Pk⟩ (.pointer (OM ⟨lb,0,Pk⟩))) lo hi sb W H V bl most:=by
 have K:=tu w sb 2 (.pointer (OM ⟨lb,0,Pk⟩));obtain⟨a1,a2,a3⟩:=S.l1;obtain⟨a4,a5,a6⟩:=S.l2;obtain⟨a7,a8,a9,a10⟩:=S.l3;obtain⟨u,c2⟩:=S.c2;have ne:∀{i:Nat},i≠2->(⟨sb,2,Pk⟩:Addr)≠⟨sb,i,Pk⟩:=fun h q=>h (Addr.mk.inj q).2.1.symm;refine⟨rb,pb,mb,lb,tb,gb,N,x,V,?_,?_,World.cell?_setCell_same _ _ _ c2,?_,by simpa using S.fz,S.gi.keep K (fun h=>by omega) (fun h=>by omega) (fun h=>by omega) (fun g hg h=>hg.2.2 h),L.keep K (fun g hg h=>by omega),S.ta.keep K (fun h=>by omega) (fun h=>by omega) (fun h=>by omega),⟨a1,a2,a3,by have:=S.l4;omega⟩,S.l2,S.l3,S.l4,m1,m6,rfl⟩
 ·rw[MH _ _ _ _ (ne (by decide))];exact S.c0
 ·rw[MH _ _ _ _ (ne (by decide))];exact S.c1
 ·rw[MH _ _ _ _ (ne (by decide))];exact S.c3
theorem tw {cap:Nat}{A:Option Addr}{cs:Nat->Int}{bs:Nat->Bool}(w:PG)(S:Sv w lo hi sb W H V bl most)(hq:gu w A n cs bs)(hA:0<n->∀b o,A=OM ⟨b,o,Pk⟩->¬(lo<=b/\b<hi))(YE:2<=lo)(v1:0<=V)(v2:V<=900000) :
  PK prog 13 #[.pointer (OM ⟨sb,0,Pk⟩),.slice A n cap] w fun e w'=>EdP w w' e lo hi sb W H V bl most n cs bs:=by
 obtain⟨rb,pb,mb,lb,tb,gb,N,x,V2,S⟩:=S;have Rs:=zS (cap:=cap) w S.c1 S.gr hq;by_cases PW:edE W H cs n=0
 ·have hE:edV (edE W H cs n)=.nilIface:=if_pos PW;obtain⟨n60,Qe⟩:n<=60/\∀i,i<n->inB W H (cs i)=true:=by
   rcases jd W H cs n with⟨_,h⟩|⟨h1,_,h2⟩|⟨_,h,_⟩
   ·omega
   ·exact⟨h1,h2⟩
   ·omega
  have YK:PJ (edE W H cs n=0/\∀i,i<n->inB W H (cs i)=Pm):=⟨PW,Qe⟩;rw[hE]at Rs;clear hE PW Qe;have HA:=ae hA;have HQ:=ae hq;have HF0:=S.hf;obtain⟨a1,a2,a3⟩:=S.l1;obtain⟨a4,a5,a6⟩:=S.l2;obtain⟨a7,a8,a9,a10⟩:=S.l3;have a11:=S.l4;have m1:=S.m1;have m6:=S.m6;have VF:=S.lt;have HW:PJ (∀k,Wr pb mb tb gb k->lo<=k/\k<hi):=fun k h=>by
   rcases h with h|h|h|h<;>omega
  have HSV:=ae S;clear S hA hq;go_enter func13,ntmps13;go_wp2_with fail;refine Rs.mono ?_;rintro e w1 ⟨rfl,hb1⟩;have F1:=HF0.below hb1;have HQ1:PJ (gu w1 A n cs bs):=HQ.out.below hb1;clear Rs HF0;go_wp2;go_loopw [7,18] (fun cv iv wr=>∃(i cn:Nat) (Qt:Nat->Bool),i<=n/\iv=PE PF i/\cv=PE PF (cn:Int)/\cn<=i/\PJ (edC bl cs bs i=cn/\edF bl cs bs i=Qt)/\Hf wr lo hi sb rb pb mb tb gb x W H (V+(cn:Int)) Qt most/\PJ (cn=0->PI w1.heap.size w1 wr)/\ai (Wr pb mb tb gb) w1 wr)
   (fun _ i _=>n-(intOf i).toNat)
  case atStart=>exact⟨0,0,bl,MQ _,rfl,rfl,aj,⟨rfl,rfl⟩,by simpa using F1,fun _=>al,ai.refl _ _⟩
  case round =>
   obtain⟨i,cn,Qt,VP,rfl,rfl,Rj,hE,F,hZ,K⟩:=hrel;by_cases PO:i<n
   ·obtain⟨bA,oA,eA,Zu,YL,t0'⟩:=HQ1.out i PO;have Xv:¬Wr pb mb tb gb bA:=fun h=>HA.out (by omega) bA oA eA (HW.out _ h);have f0:=K.cellOf YL Xv;have t0:=K.cellOf t0' Xv;subst eA;have i1:(i:Int)<(n:Int):=(by omega);have Rl:=YK.out.2 i PO;have TV:0<=cs i:=by
     have h:0<=cs i/\cs i<W*H:=of_decide_eq_true Rl;exact h.1
    obtain⟨c,hc⟩:∃c:Nat,cs i=(c:Int):=⟨(cs i).toNat,by omega⟩;obtain⟨v,hv⟩:∃v,bs i=v:=⟨_,rfl⟩;have Zv:PJ (Qt c=v->edC bl cs bs (i+1)=cn/\edF bl cs bs (i+1)=Qt):=fun h=>by
     have e:edF bl cs bs i (cs i).toNat=bs i:=(by rw[hE.out.2,hc,ML,hv];exact h);refine⟨?_,?_⟩
     ·show edC bl cs bs i+(if _ then 0 else 1)=cn;rw[if_pos e,hE.out.1];rfl
     ·show upd (edF bl cs bs i) (cs i).toNat (bs i)=Qt;rw[qU e,hE.out.2]
    have SK:PJ (Qt c=!v->edC bl cs bs (i+1)=cn+1/\edF bl cs bs (i+1)=upd Qt c v):=fun h=>by
     have e:¬edF bl cs bs i (cs i).toNat=bs i:=(by rw[hE.out.2,hc,ML,hv,h];cases v<;>simp);refine⟨?_,?_⟩
     ·show edC bl cs bs i+(if _ then 0 else 1)=cn+1;rw[if_neg e,hE.out.1]
     ·show upd (edF bl cs bs i) (cs i).toNat (bs i)=_;rw[hE.out.2,hc,ML,hv]
    rw[hc]at f0 Rl;rw[hv]at t0;clear hc hv TV YL t0' hE;have b3:=aQ wr (PN #[PE PF (c:Int),.bool v] 78);have q0:(wr.alloc (PN #[PE PF (c:Int),.bool v] 78)).cell? ⟨wr.heap.size,0,Pk⟩=OM (PE PF (c:Int)):=ME #[PE PF (c:Int),.bool v] 78 wr.heap.size 0 rfl;have q1:(wr.alloc (PN #[PE PF (c:Int),.bool v] 78)).cell? ⟨wr.heap.size,1,Pk⟩=OM (.bool v):=ME #[PE PF (c:Int),.bool v] 78 wr.heap.size 1 rfl;have Qq:=Gk v _ (F.below b3) Rl (by omega) (by omega) YE;have K3:=K.below b3;have HZ3:PJ (cn=0->PI w1.heap.size w1 (wr.alloc (PN #[PE PF (c:Int),.bool v] 78))):=fun h=>(hZ.out h).trans (b3.mono (hZ.out h).size);have F3:=F.below b3;clear F K hZ b3 Xv;go_wp2_with fail;refine Qq.mono ?_;rintro e w5 Qp;clear Qq q0 q1 f0 t0;generalize wr.alloc (PN #[PE PF (c:Int),.bool v] 78)=wa at *;rcases Qp with⟨hv,rfl,PV⟩|⟨hv,rfl,F5,K5⟩
    ·have HN:PJ (edC bl cs bs (i+1)=cn/\edF bl cs bs (i+1)=Qt):=Zv.out hv;have F5:=F3.below PV;have K5:=K3.below PV;have HZ5:PJ (cn=0->PI w1.heap.size w1 w5):=fun h=>(HZ3.out h).trans (PV.mono (HZ3.out h).size);clear Zv SK hv F3 K3;go_wp2;go_roundw
     case rel=>exact⟨i+1,cn,Qt,by omega,by go_num,rfl,by omega,HN.out,F5,HZ5.out,K5⟩
     case measure=>simp[intOf];omega
    ·have HN:PJ (edC bl cs bs (i+1)=cn+1/\edF bl cs bs (i+1)=upd Qt c v):=SK.out hv;have YF:=K3.trans K5 (fun _ _ h=>h);have e1:V+(cn:Int)+1=V+((cn+1:Nat):Int):=(by omega);rw[e1]at F5;have HF5:=ae F5;clear Zv SK hv F3 K3 e1 F5;go_wp2;go_roundw
     case rel=>exact⟨i+1,cn+1,upd Qt c v,by omega,by go_num,by go_num,by omega,HN.out,HF5.out,fun h=>absurd h (Nat.succ_ne_zero cn),YF⟩
     case measure=>simp[intOf];omega
   ·have e:i=n:=(by omega);subst e;have HK:PJ (ai (fun k=>lo<=k/\k<hi) w wr):=(ai.of_below hb1).trans K (fun k _ h=>HW.out k h);by_cases hz:cn=0
    ·have HB:PJ (PI w.heap.size w wr):=hb1.trans ((hZ.out hz).mono hb1.size);subst hz;clear F K;go_wp2;go_ret2;refine MF ⟨YK.out.1,n60,YK.out.2,?_,?_,HK.out⟩
     ·rw[hE.out.1];rfl
     ·rw[xl hE.out.1,hE.out.1];rw[show V+((0:Nat):Int)=V by omega];exact⟨rb,pb,mb,lb,tb,gb,N,x,V2,HSV.out.below HB.out⟩
    ·have Ug:(0:Int)<(cn:Int):=(by omega);have e0:=cI wr;have F1:=F.below e0;have Qa:=F1.side.1;have hl:=sd wr.drew F1.gi.graph (iS Qa) m1 m6;have c0:=F1.c0;have c1:=F1.c1;obtain⟨u,c2⟩:=F1.c2;have z2:=F1.fz;have hsw:sb<wr.drew.heap.size:=F1.lt;have HFF:=ae F1;clear F K hZ F1;go_wp2_with fail;go_region_held3 (fun w'=>w'.cell? ⟨sb,1,Pk⟩=OM (.pointer (OM ⟨rb,0,Pk⟩))/\w'.cell? ⟨sb,0,Pk⟩=OM (PE PF (most:Int))) (first|with_reducible exact⟨c1,c0⟩|with_reducible exact⟨Xp,c0'⟩)
      (first|(go_at_call 37;refine hl.mono ?_;rintro r w6 ⟨lb6,rfl,L6,h6⟩;have c0:=ar h6 c0;have c1:=ar h6 c1;have c2:=ar h6 c2;have z2:=(h6.frozen (p:=⟨sb,2,Pk⟩) hsw).trans z2;have Xp:(w6.setCell ⟨sb,2,Pk⟩ (.pointer (OM ⟨lb6,0,Pk⟩))).cell? ⟨sb,1,Pk⟩=OM (.pointer (OM ⟨rb,0,Pk⟩)):=((MH _ _ _ _ (fun q=>by cases q)).trans c1);have c0':(w6.setCell ⟨sb,2,Pk⟩ (.pointer (OM ⟨lb6,0,Pk⟩))).cell? ⟨sb,0,Pk⟩=OM (PE PF (most:Int)):=((MH _ _ _ _ (fun q=>by cases q)).trans c0)))
     have SV:=(HFF.out.below h6).full L6 hsw YE m1 m6;have HK6:PJ (ai (fun k=>lo<=k/\k<hi) w (w6.setCell ⟨sb,2,Pk⟩ (.pointer (OM ⟨lb6,0,Pk⟩)))):=((HK.out.below e0).below h6).trans (tu w6 sb 2 _) (fun k _ h=>by rw[h];exact⟨by omega,a11⟩);have ajX:=ae SV;clear SV L6;go_wp2;go_ret2;refine MF ⟨YK.out.1,n60,YK.out.2,?_,?_,HK6.out⟩
     ·rw[hE.out.1];rfl
     ·rw[hE.out.1,hE.out.2];exact ajX.out
 ·have hE:edV (edE W H cs n)=.iface 54 (PE PF (edE W H cs n)):=if_neg PW;have HNE:=ae PW;rw[hE]at Rs;clear hE PW S hq hA;have HP:PJ (∀w',PI w.heap.size w w'->EdP w w' (PM (.tuple #[PE PF 0,.iface 54 (PE PF (edE W H cs n))])) lo hi sb W H V bl most n cs bs):=fun w' h=>MG ⟨HNE.out,rfl,h⟩;generalize edE W H cs n=ee at Rs HP;go_enter func13,ntmps13;go_wp2_with fail;refine Rs.mono ?_;rintro e w1 ⟨rfl,hb1⟩;clear Rs;go_wp2;go_ret2;exact HP.out _ hb1
end
section
open Go.RowKit Go.Lib
end
section
open Go.RowKit Go.Lib
section
variable {W H : Int} {bl Qt : Nat → Bool}
end
end
section
open Go.RowKit Go.Lib
theorem gu.keep {F:Nat->Prop}{A:Option Addr}{cs:Nat->Int}{bs:Nat->Bool}(h:gu w A n cs bs)(K:ai F w w')(hF:∀b o,A=OM ⟨b,o,Pk⟩->¬F b):gu w' A n cs bs:=fun i hi=>by
 obtain⟨b,o,e,h1,h2,h3⟩:=h i hi;exact⟨b,o,e,MN h1 K.size,K.cellOf h2 (hF b o e),K.cellOf h3 (hF b o e)⟩
end
section
open Go.RowKit Go.Lib
end
section
open Go.RowKit Go.Lib
def edK (W H:Int) (bl:Nat->Bool) (cs:Nat->Int) (bs:Nat->Bool) (n:Nat):Nat:=if edE W H cs n=0 then edC bl cs bs n else 0
def edG (W H:Int) (bl:Nat->Bool) (cs:Nat->Int) (bs:Nat->Bool) (n:Nat):Nat->Bool:=if edE W H cs n=0 then edF bl cs bs n else bl
theorem Jj {cs:Nat->Int}(h:edE W H cs n=0):n<=60/\∀i,i<n->inB W H (cs i)=true:=by
 rcases jd W H cs n with⟨_,h2⟩|⟨h1,_,h2⟩|⟨_,h2,_⟩
 ·omega
 ·exact⟨h1,h2⟩
 ·omega
end
section
open Go.RowKit Go.Lib
theorem KL {b:Nat}(c:Nat)(v:Bool)(w:PG)(g:bg w b W H V bl)(f:Fz w b)(hr:inB W H c=Pm)(v1:0<=V)(v2:V<=1000000) :
  PK prog 29 #[.pointer (OM ⟨b,0,Pk⟩),PE PF c,.bool v] w fun e w'=>e=PM (.tuple #[.bool (!decide (bl c=v)),PE PF 0])/\ai (fun k=>k=b) w w'/\bg w' b W H (V+if bl c=v then 0 else 1) (upd bl c v)/\Fz w' b:=by
 by_cases hv:bl c=v
 ·refine(DQ c v w g hr hv).mono ?_;rintro e w' ⟨rfl,m,rfl⟩;refine⟨by rw[decide_eq_true hv];rfl,ai.of_below (below_drewN al m),?_,⟨fun o=>f.1 o,f.2⟩⟩;rw[qU hv,if_pos hv,NN];exact g.drewN m
 ·have hv':bl c=!v:=by cases hb:bl c<;>cases v<;>simp_all
  refine(FZ c v w g f hr hv' v1 v2).mono ?_;rintro e w' ⟨rfl,h1,h2,h3⟩;exact⟨by rw[decide_eq_false hv];rfl,h1.keep,by rw[if_neg hv];exact h2,h3⟩
def Jk (w w':PG) (e:Ending) (mb:Nat) (W H V:Int) (bl:Nat->Bool) (n:Nat) (cs:Nat->Int) (bs:Nat->Bool):Prop :=
 (edE W H cs n≠0/\e=PM (.tuple #[PE PF 0,PE PF (edE W H cs n)])/\PI w.heap.size w w') \/
 (edE W H cs n=0/\e=PM (.tuple #[PE PF (edC bl cs bs n:Nat),PE PF 0])/\bg w' mb W H (V+(edC bl cs bs n:Nat)) (edF bl cs bs n)/\Fz w' mb/\ai (fun k=>k=mb) w w')
theorem Jl {xb cap:Nat}{A:Option Addr}{cs:Nat->Int}{bs:Nat->Bool}(w:PG)(cx:w.cell? ⟨xb,0,Pk⟩=OM (.pointer (OM ⟨mb,0,Pk⟩)))(g:bg w mb W H V bl)(f:Fz w mb)(Wc:xb≠mb)(hq:gu w A n cs bs)(hA:0<n->∀b o,A=OM ⟨b,o,Pk⟩->b≠mb)(v1:0<=V)(v2:V<=900000) :
  PK prog 14 #[.pointer (OM ⟨xb,0,Pk⟩),.slice A n cap] w fun e w'=>Jk w w' e mb W H V bl n cs bs:=by
 have lx:=aJ cx;have lm:=aJ g.c0;rcases jd W H cs n with⟨h60,he⟩|hh
 ·have ajR:(60:Int)<(n:Int):=by omega
  have HP:PJ (Jk w w (PM (.tuple #[PE PF 0,PE PF 2])) mb W H V bl n cs bs):=MG ⟨by rw[he];decide,by rw[he],al⟩;clear he;go_enter func14,ntmps14;go_wp2;go_ret2;exact HP.out
 ·have h60:¬(60:Int)<(n:Int):=by
   rcases hh with h|h
   ·have:=h.1;omega
   ·have:=h.1;omega
  have n60:n<=60:=by omega
  have HH:PJ ((edE W H cs n=0/\∀i,i<n->inB W H (cs i)=Pm)\/(edE W H cs n=1/\∃i,i<n/\inB W H (cs i)=PB/\∀j,j<i->inB W H (cs j)=Pm)):=hh.elim (fun h=>MG h.2) (fun h=>MF h.2);have HQ:=ae hq;have HA:=ae hA;have HX:PJ (∀w',PI w.heap.size w w'->w'.cell? ⟨xb,0,Pk⟩=OM (.pointer (OM ⟨mb,0,Pk⟩))/\bg w' mb W H V bl):=fun w' hb=>⟨(hb.cell lx).trans cx,g.below hb lm⟩;have HFM:=ae f;have HGM:=ae g;have HCX:=ae cx;clear hh hq hA cx g f;go_enter func14,ntmps14;go_wp2;go_loopw [6] (fun iv wr=>∃i:Nat,i<=n/\iv=PE PF i/\PJ (∀j,j<i->inB W H (cs j)=Pm)/\PI w.heap.size w wr)
   (fun i _=>n-(intOf i).toNat)
  case atStart=>exact⟨0,MQ _,rfl,fun j hj=>absurd hj (Nz j),al⟩
  case round =>
   obtain⟨i,hi,rfl,HAL,hB⟩:=hrel;by_cases PO:i<n
   ·obtain⟨bA,oA,eA,Zu,YL,_⟩:=(HQ.out.below hB) i PO;subst eA;have i1:(i:Int)<(n:Int):=(by omega);have HCI:PJ (inB W H (cs i)=Pm->∀j,j<i+1->inB W H (cs j)=Pm):=fun h j hj=>by
     by_cases e:j=i
     ·rw[e,h]
     ·exact HAL.out j (by omega)
    have SW:PJ (inB W H (cs i)=PB->edE W H cs n=1):=fun h=>by
     rcases HH.out with⟨_,h2⟩|⟨h2,_⟩
     ·rw[h2 i PO]at h;cases h
     ·exact h2
    generalize cs i=ci at *;have e0:=cI wr;have E0:=ak hB e0;have f0:=bH YL;obtain⟨c0,g0⟩:=HX.out _ E0;have CC:PJ (∀w',PI wr.drew.heap.size wr.drew w'->w'.cell? ⟨xb,0,Pk⟩=OM (.pointer (OM ⟨mb,0,Pk⟩))/\w'.cell? ⟨bA,oA+i*2,Pk⟩=OM (PE PF ci)):=fun w' h=>⟨ar h c0,ar h f0⟩;have d0:PI wr.drew.heap.size wr.drew wr.drew:=al;cases PY:inB W H ci with
    |true =>
     have RQ:=ku ci wr.drew g0 PY;have HCJ:PJ (∀j,j<i+1->inB W H (cs j)=Pm):=HCI.out PY;clear SW HCI PY YL g0;go_upto_region 6 with fail
     clear f0 c0;go_region_held3 (fun w'=>w'.cell? ⟨xb,0,Pk⟩=OM (.pointer (OM ⟨mb,0,Pk⟩))/\w'.cell? ⟨bA,oA+i*2,Pk⟩=OM (PE PF ci)) (first|with_reducible exact CC.out _ d0|with_reducible exact CC.out _ d5)
      (first|(go_at_call 19;refine RQ.mono ?_;rintro r w5 ⟨rfl,m5,Ub⟩;have d5:PI wr.drew.heap.size wr.drew w5:=(by rw[Ub];exact below_drewN al _);clear Ub))
     have D5:=ak E0 d5;clear RQ;go_wp2;go_roundw
     case rel=>exact⟨i+1,by omega,by go_num,HCJ.out,D5⟩
     case measure=>simp[intOf];omega
    |false =>
     have RQ:=uK ci wr.drew g0 PY;have he:=SW.out PY;have HP:PJ (∀w',PI w.heap.size w w'->Jk w w' (PM (.tuple #[PE PF 0,PE PF 1])) mb W H V bl n cs bs):=fun w' h=>MG ⟨by rw[he];decide,by rw[he],h⟩;clear SW HCI PY YL g0 he;go_upto_region 6 with fail
     clear f0 c0;go_region_held3 (fun w'=>w'.cell? ⟨xb,0,Pk⟩=OM (.pointer (OM ⟨mb,0,Pk⟩))/\w'.cell? ⟨bA,oA+i*2,Pk⟩=OM (PE PF ci)) (first|with_reducible exact CC.out _ d0|with_reducible exact CC.out _ d5)
      (first|(go_at_call 19;refine RQ.mono ?_;rintro r w5 ⟨rfl,m5,Ub⟩;have d5:PI wr.drew.heap.size wr.drew w5:=(by rw[Ub];exact below_drewN al _);clear Ub))
     have D5:=ak E0 d5;clear RQ;go_wp2;go_ret2;exact HP.out _ D5
   ·have e:i=n:=(by omega);subst e;have he:edE W H cs i=0/\∀j,j<i->inB W H (cs j)=true:=by
     rcases HH.out with h|⟨_,j,h1,h2,_⟩
     ·exact h
     ·rw[HAL.out j h1]at h2;cases h2
    have HE:=ae he;obtain⟨n,hn⟩:∃n,n=i:=⟨_,rfl⟩;subst hn;have GR:bg wr mb W H (V+((0:Nat):Int)) bl:=(by rw[show V+((0:Nat):Int)=V by omega];exact HGM.out.below hB lm);have FR:Fz wr mb:=HFM.out.below hB lm;have KR:ai (fun k=>k=mb) w wr:=ai.of_below hB;clear he HAL HH hB;obtain⟨WB,hWB⟩:∃WB,WB=wr:=⟨_,rfl⟩;subst hWB;go_wp2;go_loopw [8,9] (fun cv iv wr=>∃(i cn:Nat) (Qt:Nat->Bool),i<=n/\iv=PE PF i/\cv=PE PF (cn:Int)/\cn<=i/\PJ (edC bl cs bs i=cn/\edF bl cs bs i=Qt)/\bg wr mb W H (V+(cn:Int)) Qt/\Fz wr mb/\ai (fun k=>k=mb) w wr)
     (fun _ i _=>n-(intOf i).toNat)
    case atStart=>exact⟨0,0,bl,MQ _,rfl,rfl,aj,⟨rfl,rfl⟩,GR,FR,KR⟩
    case round =>
     clear GR FR KR;obtain⟨i,cn,Qt,VP,rfl,rfl,Rj,hE,GR,FR,K⟩:=hrel;by_cases PO:i<n
     ·obtain⟨bA,oA,eA,Zu,YL,t0'⟩:=HQ.out i PO;have Xv:=HA.out (by omega) bA oA eA;have f0:=K.cellOf YL Xv;have t0:=K.cellOf t0' Xv;have c0:=K.cellOf HCX.out Wc;subst eA;have i1:(i:Int)<(n:Int):=(by omega);have Rl:=HE.out.2 i PO;have TV:0<=cs i:=by
       have h:0<=cs i/\cs i<W*H:=of_decide_eq_true Rl;exact h.1
      obtain⟨c,hc⟩:∃c:Nat,cs i=(c:Int):=⟨(cs i).toNat,by omega⟩;obtain⟨v,hv⟩:∃v,bs i=v:=⟨_,rfl⟩;have Zv:PJ (edC bl cs bs (i+1)=cn+(if Qt c=v then 0 else 1)/\edF bl cs bs (i+1)=upd Qt c v):=by
       refine⟨?_,?_⟩
       ·show edC bl cs bs i+(if edF bl cs bs i (cs i).toNat=bs i then 0 else 1)=_;rw[hE.out.1,hE.out.2,hc,ML,hv]
       ·show upd (edF bl cs bs i) (cs i).toNat (bs i)=_;rw[hE.out.2,hc,ML,hv]
      rw[hc]at f0 Rl;rw[hv]at t0;clear hc hv TV YL t0' hE;have e0:=cI wr;have RN:=KL c v wr.drew (GR.below e0 (aJ GR.c0)) ⟨fun o=>FR.1 o,FR.2⟩ Rl (by omega) (by omega);have f0:=bH f0;have t0:=bH t0;have c0:=bH c0;have K0:=K.below e0;by_cases hbv:Qt c=v
      ·rw[decide_eq_true hbv,if_pos hbv]at RN;have SK:PJ (edC bl cs bs (i+1)=cn/\edF bl cs bs (i+1)=upd Qt c v):=⟨by rw[Zv.out.1,if_pos hbv];rfl,Zv.out.2⟩;clear Zv hbv GR FR K;go_upto_region 13 with fail
       go_region_held3 (fun w'=>w'.cell? ⟨xb,0,Pk⟩=OM (.pointer (OM ⟨mb,0,Pk⟩))/\w'.cell? ⟨bA,oA+i*2,Pk⟩=OM (PE PF (c:Int))/\w'.cell? ⟨bA,oA+i*2+1,Pk⟩=OM (.bool v)) (first|with_reducible exact⟨c0,f0,t0⟩)
        (first|(go_at_call 29;refine RN.mono ?_;rintro r w5 ⟨rfl,K5,G5,F5⟩;have c0:=K5.cellOf c0 Wc;have f0:=K5.cellOf f0 Xv;have t0:=K5.cellOf t0 Xv))
       have K6:=K0.trans K5 (fun _ _ h=>h);clear RN K5 K0;go_wp2;go_roundw
       case rel=>exact⟨i+1,cn,_,by omega,by go_num,rfl,by omega,SK.out,by rw[NN]at G5;exact G5,F5,K6⟩
       case measure=>simp[intOf];omega
      ·rw[decide_eq_false hbv,if_neg hbv]at RN;have SK:PJ (edC bl cs bs (i+1)=cn+1/\edF bl cs bs (i+1)=upd Qt c v):=⟨by rw[Zv.out.1,if_neg hbv],Zv.out.2⟩;clear Zv hbv GR FR K;go_upto_region 13 with fail
       go_region_held3 (fun w'=>w'.cell? ⟨xb,0,Pk⟩=OM (.pointer (OM ⟨mb,0,Pk⟩))/\w'.cell? ⟨bA,oA+i*2,Pk⟩=OM (PE PF (c:Int))/\w'.cell? ⟨bA,oA+i*2+1,Pk⟩=OM (.bool v)) (first|with_reducible exact⟨c0,f0,t0⟩)
        (first|(go_at_call 29;refine RN.mono ?_;rintro r w5 ⟨rfl,K5,G5,F5⟩;have c0:=K5.cellOf c0 Wc;have f0:=K5.cellOf f0 Xv;have t0:=K5.cellOf t0 Xv))
       have K6:=K0.trans K5 (fun _ _ h=>h);clear RN K5 K0;go_wp2;go_roundw
       case rel=>exact⟨i+1,cn+1,_,by omega,by go_num,by go_num,by omega,SK.out,by rw[Int.add_assoc]at G5;exact G5,F5,K6⟩
       case measure=>simp[intOf];omega
     ·have e:i=n:=(by omega);subst e;have HP:PJ (Jk w wr (PM (.tuple #[PE PF (cn:Int),PE PF 0])) mb W H V bl i cs bs):=MF ⟨HE.out.1,by rw[hE.out.1],by rw[hE.out.1,hE.out.2];exact GR,FR,K⟩;clear hE GR FR K;go_wp2;go_ret2;exact HP.out
end
section
open Go.RowKit Go.Lib
theorem BS {e g m:Nat}{v u:PH}{xs:List PH}(h:w.ownsRow base e 4 v n xs)(hg:v.ownBlock=OM g)(c:w.cell? ⟨m,258,Pk⟩=OM u)(z:w.cell? ⟨m,259,Pk⟩=Pk):g≠m:=by
 rintro rfl;rcases h.2 with⟨rfl,_⟩|⟨b,cap,cur,rfl,_,h1,_,_,h4,_⟩
 ·simp[Value.ownBlock]at hg
 ·simp[Value.ownBlock]at hg;subst hg;have c':cur[258]? = OM u:=by simpa [Pn,h1]using c
  have z':cur[259]? = none:=by simpa [Pn,h1]using z
  have l1:=(Array.getElem?_eq_some_iff.1 c').1;have l2:=Array.getElem?_eq_none_iff.1 z';omega
theorem Sv.keepRef {m:Nat}{W2 H2 V2:Int}{bl2:Nat->Bool}(S:Sv w lo hi sb W H V bl most)(K:ai (fun k=>k=m) w w')(g:bg w m W2 H2 V2 bl2)(z:w.cell? ⟨m,259,Pk⟩=Pk)(hm:hi<=m)(h1:2<=m):Sv w' lo hi sb W H V bl most:=by
 obtain⟨rb,pb,mb,lb,tb,gb,N,x,V2,S⟩:=S;obtain⟨a1,a2,a3,a3'⟩:=S.l1;obtain⟨a4,a5,a6⟩:=S.l2;obtain⟨a7,a8,a9,a10⟩:=S.l3;have a11:=S.l4;have XE:¬sb=m:=by omega
 obtain⟨vb,eb,k,st,f,hR,hO,LV⟩:=S.lv;have UX:Lvd w' N lb most W H bl (esF W H bl):=⟨vb,eb,k,st,f,hR,hO,LV.keep K (fun q hq=>by
  rcases hq with h|h|h|⟨i,v,h2,h3⟩
  ·rintro rfl;have h5:=LV.c1;rw[<- h,g.c1]at h5;cases h5
  ·rintro rfl;have h5:=LV.lv.cell 0;rw[<- h,g.c0]at h5;cases h5
  ·rintro rfl;have h5:=LV.em.cell 0;rw[<- h,g.c0]at h5;cases h5
  ·obtain⟨i0,VP⟩:=LV.no i v h2;obtain⟨v',e1,e2⟩:=LV.row i.toNat VP;rw[Int.toNat_of_nonneg i0,h2]at e1;cases e1;exact BS e2 h3 g.c2 z)⟩
 refine⟨rb,pb,mb,lb,tb,gb,N,x,V2,K.cellOf S.c0 XE,K.cellOf S.c1 XE,K.cellOf S.c2 XE,K.cellOf S.c3 XE,(K.frozen (p:=⟨sb,2,Pk⟩) S.lt XE).trans S.fz,?_,UX,S.ta.keep K (fun h=>by omega) (fun h=>by omega) (fun h=>by omega),S.l1,S.l2,S.l3,S.l4,S.m1,S.m6,S.vv⟩;obtain⟨f,G,E,I⟩:=S.gi;exact⟨f,G.keep K (fun h=>by omega) (fun h=>by omega) (fun h=>by omega),fun c=>(E c).kept K (fun v l q hfc ho hg hp=>BS ho hg g.c2 z) rfl,I⟩
end
section
open Go.RowKit Go.Lib
def b5:Nat->Bool:=fun n=>if n=1 then Pm else PB
def uI (a:Int):Nat:=if a=0 then 0 else if a=3 then 1 else if a=4 then 2 else if a=5 then 3 else 4
def tA (a:Int):List Nat:=[3,4,5,2].drop (uI a)
theorem L5:∀a:Fin 6,∀k:Fin 8,bC 3 2 b5 (((a.val:Int))%3) (((a.val:Int))/3) k.val=Pm->stS k.val=1/\stD k.val=0/\((a.val:Int),(a.val:Int)+(af k.val*3+ah k.val))∈[((0:Int),(3:Int)),(3,0),(3,4),(4,3),(4,5),(5,4),(5,2),(2,5)]:=by decide
theorem KM {a r:Int}{k:Nat}(h:aF 3 2 b5 a k r):stS k=1/\stD k=0/\(a,r)∈[((0:Int),(3:Int)),(3,0),(3,4),(4,3),(4,5),(5,4),(5,2),(2,5)]:=by
 obtain⟨h1,h2,h3,rfl⟩:=h;have q:0<=a/\a<3*2:=of_decide_eq_true h2;obtain⟨n,rfl⟩:∃n:Nat,a=(n:Int):=⟨a.toNat,by omega⟩;exact L5 ⟨n,by omega⟩ ⟨k,h1⟩ h3
theorem cp5:∀{l:List Nat}{a s d:Int},Cp 3 2 b5 a l 2 s d->d=0/\s=l.length/\4<=l.length+uI a/\(l.length+uI a=4->l=tA a)
 |[],a,s,d,⟨h1,h2,h3⟩=>by
  subst h1 h2 h3;exact⟨rfl,rfl,by decide,fun _=>by decide⟩
 |r::l,a,s,d,⟨k,h1,h2⟩=>by
  obtain⟨e1,e2,e3⟩:=KM h1;obtain⟨i1,i2,i3,i4⟩:=cp5 h2;rw[e1]at i2;rw[e2]at i1;refine⟨by omega,by rw[Nf];omega,?_⟩;rw[Nf];simp only[List.mem_cons,Prod.mk.injEq,List.not_mem_nil,or_false]at e3;have p0:uI 0=0/\uI 3=1/\uI 4=2/\uI 5=3/\uI 2=4:=by decide
  have r0:tA 0=[3,4,5,2]/\tA 3=[4,5,2]/\tA 4=[5,2]/\tA 5=[2]/\tA 2=[]:=by decide
  rcases e3 with⟨rfl,e⟩|⟨rfl,e⟩|⟨rfl,e⟩|⟨rfl,e⟩|⟨rfl,e⟩|⟨rfl,e⟩|⟨rfl,e⟩|⟨rfl,e⟩<;>(rw[e]at i3 i4;obtain rfl:r=_:=Int.ofNat_inj.1 e;refine⟨by omega,fun h=>?_⟩;first|(exfalso;omega)|(rw[i4 (by omega)];simp only[r0]))
theorem Gv {way:List Nat}{s d err:Int}(h:Rt 3 2 b5 0 2 way s d err):s=4/\d=0/\err=0/\way=[0,3,4,5,2]:=by
 have hf:ff2 3 2 b5 0 2=0:=by decide
 have hw:Cp 3 2 b5 0 [3,4,5,2] 2 4 0:=⟨4,by unfold aF;decide,2,by unfold aF;decide,2,by unfold aF;decide,0,by unfold aF;decide,by decide,by decide,by decide⟩;obtain⟨z,hv⟩:=h.yes hf hw.walk;obtain⟨l,e1,hc,b1,b2,b3,b4⟩:=h.path hf z;obtain⟨i1,i2,i3,i4⟩:=cp5 hc;subst i1;have hs:s<=4:=by
  unfold val at hv;omega
 have hp:uI 0=0:=by decide
 rw[hp]at i3 i4;have hl:l.length=4:=by omega
 refine⟨by omega,rfl,z,?_⟩;rw[e1,i4 hl];rfl
end
section
open Go.RowKit Go.Lib
theorem ai.low {B:Nat}(K:ai (fun k=>lo<=k/\k<hi) w w')(h:B<=lo)(h2:B<=w.heap.size):PI B w w' :=
 ⟨K.os,K.tape,K.output,K.size,fun k hk=>K.block k (by omega) (fun q=>by omega)⟩
theorem Gw (w:PG):bu (w.alloc (PN #[PE PF 0,PE PF 3,PE PF 4,PE PF 5,PE PF 2] 3)) (OM ⟨w.heap.size,0,Pk⟩) 5 (fun i=>(([0,3,4,5,2]:List Nat).getD i 0:Nat)):=fun i hi=>by
 refine⟨w.heap.size,0,rfl,by simp,?_⟩;rw[M8];have hk:i=0\/i=1\/i=2\/i=3\/i=4:=by omega
 rcases hk with rfl|rfl|rfl|rfl|rfl<;>exact ME #[PE PF 0,PE PF 3,PE PF 4,PE PF 5,PE PF 2] 3 w.heap.size _ rfl
theorem zY (w:PG)(s:az w)(dg:bX w)(h2:2<=w.heap.size):PK prog 6 #[] w fun e w'=>e=PM (.bool Pm)/\PI w.heap.size w w':=by
 have hn:=xh (W:=3) (H:=2) (most:=2) w s (by decide) (by decide) (by decide) (by decide);go_enter func6,ntmps6;go_wp2_with fail;refine hn.mono ?_;rintro e w1 ⟨sb,rfl,S1,hb1⟩;have b2:=aQ w1 (PN #[PE PF 1,.bool Pm] 78);have Qd:(w1.alloc (PN #[PE PF 1,.bool Pm] 78)).heap.size=w1.heap.size+1:=by simp
 have hq:gu (w1.alloc (PN #[PE PF 1,.bool Pm] 78)) (OM ⟨w1.heap.size,0,Pk⟩) 1 (fun _=>1) (fun _=>Pm):=fun i hi=>by
  obtain rfl:i=0:=by omega
  exact⟨w1.heap.size,0,rfl,by omega,ME #[PE PF 1,.bool Pm] 78 w1.heap.size 0 rfl,ME #[PE PF 1,.bool Pm] 78 w1.heap.size 1 rfl⟩
 have hE:=tw (cap:=1) _ (S1.below b2) hq (fun _ b o h=>by cases h;omega) (by omega) (by decide) (by decide);have B2:=ak hb1 b2;clear hn hq;go_wp2_with fail;generalize w1.alloc (PN #[PE PF 1,.bool Pm] 78)=w2 at *;refine hE.mono ?_;rintro e w3 hP;have he0:edE 3 2 (fun _=>1) 1=0:=by decide
 rcases hP with⟨h1,_⟩|⟨_,_,_,rfl,S3,K3⟩
 ·exact absurd he0 h1
 have B3:PI w.heap.size w w3:=B2.trans (K3.low aj B2.size);have UH:edC (fun _=>PB) (fun _=>1) (fun _=>Pm) 1=1:=by decide
 have ZS:edF (fun _=>PB) (fun _=>1) (fun _=>Pm) 1=b5:=by
  funext k
  rfl
 rw[ZS]at S3;rw[UH];have ha:=zN 0 2 w3 S3 (dg.below (B3.mono aj));clear hE he0 UH ZS K3 S1;go_wp2_with fail;refine ha.mono ?_;rintro e w4 ⟨A,cap,way,sx,dx,er,rfl,_,hO,_,hR,QB⟩;obtain⟨rfl,rfl,rfl,hw⟩:=Gv hR;have hl:way.length=5:=by rw[hw];rfl
 rw[hl]at hO;rw[hw]at hO;rw[hl];have TF:∀w,PK prog 10 #[.nilIface,PE PF 0] w fun e w'=>e=PM (.bool Pm)/\w'=w:=fun w=>oU (n:=0) (Int.le_refl _) w;have b5':=aQ w4 (PN #[.slice A 5 cap,PE PF 4,PE PF 0,PE PF 0] 56);have q:∀o,(w4.alloc (PN #[.slice A 5 cap,PE PF 4,PE PF 0,PE PF 0] 56)).cell? ⟨w4.heap.size,o,Pk⟩=#[Value.slice A 5 cap,PE PF 4,PE PF 0,PE PF 0][o]? := fun o=>by rw[MP]
 have B5:=(ak B3 QB).trans (b5'.mono (ak B3 QB).size);have hO5:=hO.below b5';have Tp:(w4.alloc (PN #[.slice A 5 cap,PE PF 4,PE PF 0,PE PF 0] 56)).heap.size=w4.heap.size+1:=by simp
 have q0:=q 0;have q1:=q 1;have q2:=q 2;have q3:=q 3;clear ha hR hw hl hO S3 q b2 hb1 B2 Qd;go_wp2_with (first|(go_at_call 10;refine(TF _).mono ?_;rintro e w' ⟨rfl,rfl⟩)|fail);generalize w4.alloc (PN #[.slice A 5 cap,PE PF 4,PE PF 0,PE PF 0] 56)=w5 at *;have b6:=aQ w5 (PN #[PE PF 0,PE PF 3,PE PF 4,PE PF 5,PE PF 2] 3);have SU:=DK (ca:=cap) (cb:=5) _ (by decide) (hO5.below b6) (Gw w5);have B6:=ak B5 b6;rw[Tp]at SU;clear hO5 b6 B5 b5' QB B3;refine SU.mono ?_;rintro e w' ⟨rfl,m,rfl⟩;go_wp2;go_ret;exact⟨rfl,below_drewN B6 m⟩
end
section
open Go.RowKit Go.Lib
structure Pr (w0 w:PG) (lo hi sb xb mb Wn Hn most:Nat) (V:Int) (bl:Nat->Bool):Prop where
 sv:Sv w lo hi sb Wn Hn V bl most
 rs:RSv w xb mb Wn Hn V bl most
 l0:w0.heap.size<=lo
 l1:hi<=xb
 l2:hi<=mb
 bw:PI w0.heap.size w0 w
 v0:0<=V
section
variable {w0 w w' : PG} {lo hi sb xb mb Wn Hn most n cap : Nat} {V : Int} {bl : Nat → Bool} {A : Option Addr} {cs : Nat → Int} {bs : Nat → Bool}
theorem Pr.below (P:Pr w0 w lo hi sb xb mb Wn Hn most V bl)(hb:PI w.heap.size w w'):Pr w0 w' lo hi sb xb mb Wn Hn most V bl :=
 ⟨P.sv.below hb,P.rs.below hb,P.l0,P.l1,P.l2,P.bw.trans (hb.mono P.bw.size),P.v0⟩
theorem KO (W H:Int)(bl:Nat->Bool)(cs:Nat->Int)(bs:Nat->Bool)(n:Nat):edK W H bl cs bs n<=60:=by
 unfold edK;split
 ·next h=>exact M5 (Gp bl cs bs n) (Jj h).1
 ·omega
theorem KP (W H:Int)(cs:Nat->Int)(n:Nat):0<=edE W H cs n:=by
 rcases jd W H cs n with⟨_,h⟩|⟨_,h,_⟩|⟨_,h,_⟩<;>omega
theorem L7 (P:Pr w0 w lo hi sb xb mb Wn Hn most V bl)(hq:gu w0 A n cs bs)(v2:V<=900000)(h2:2<=w0.heap.size) :
  PK prog 13 #[.pointer (OM ⟨sb,0,Pk⟩),.slice A n cap] w fun e w'=>e=PM (.tuple #[PE PF (edK Wn Hn bl cs bs n:Nat),edV (edE Wn Hn cs n)])/\Sv w' lo hi sb Wn Hn (V+(edK Wn Hn bl cs bs n:Nat)) (edG Wn Hn bl cs bs n) most/\RSv w' xb mb Wn Hn V bl most/\PI w0.heap.size w0 w'/\ai (fun k=>lo<=k/\k<hi) w w':=by
 have hA:0<n->∀b o,A=OM ⟨b,o,Pk⟩->b<w0.heap.size:=fun h0 b o e=>by
  obtain⟨b',o',e',h,_⟩:=hq 0 h0;rw[e]at e';cases e';exact h
 have l0:=P.l0;refine(tw w P.sv (hq.below P.bw) (fun h0 b o e=>by have:=hA h0 b o e;omega) (by omega) P.v0 v2).mono fun e w' h=>?_;unfold edK edG edV;rcases h with⟨h1,h2,h3⟩|⟨h1,_,_,h2,h3,h4⟩
 ·rw[if_neg h1,if_neg h1,if_neg h1];have P':=P.below h3;exact⟨h2,by rw[show V+((0:Nat):Int)=V by omega];exact P'.sv,P'.rs,P'.bw,ai.of_below h3⟩
 ·rw[if_pos h1,if_pos h1,if_pos h1];have l1:=P.l1;have l2:=P.l2;exact⟨h2,h3,P.rs.keep h4 (fun h=>by omega) (fun h=>by omega),P.bw.trans (h4.low l0 P.bw.size),h4⟩
theorem KQ (S:Sv w lo hi sb Wn Hn (V+(edK Wn Hn bl cs bs n:Nat)) (edG Wn Hn bl cs bs n) most)(R:RSv w xb mb Wn Hn V bl most)(bw:PI w0.heap.size w0 w)(l0:w0.heap.size<=lo)(l1:hi<=xb)(l2:hi<=mb)(v1:0<=V)(hq:gu w0 A n cs bs)(v2:V<=900000)(h2:2<=w0.heap.size) :
  PK prog 14 #[.pointer (OM ⟨xb,0,Pk⟩),.slice A n cap] w fun e w'=>e=PM (.tuple #[PE PF (edK Wn Hn bl cs bs n:Nat),PE PF (edE Wn Hn cs n)])/\Pr w0 w' lo hi sb xb mb Wn Hn most (V+(edK Wn Hn bl cs bs n:Nat)) (edG Wn Hn bl cs bs n):=by
 have hlh:lo<hi:=by
  obtain⟨rb,pb,mb,lb,tb,gb,N,x,V2,S⟩:=S;obtain⟨a1,a2,a3,a3'⟩:=S.l1;obtain⟨a4,a5,a6⟩:=S.l2;obtain⟨a7,a8,a9,a10⟩:=S.l3;have a11:=S.l4;omega
 have hA:0<n->∀b o,A=OM ⟨b,o,Pk⟩->b≠mb:=fun h0 b o e=>by
  obtain⟨b',o',e',h,_⟩:=hq 0 h0;rw[e]at e';cases e';omega
 refine(Jl w R.c0 R.ra R.fr R.ne (hq.below bw) hA v1 v2).mono fun e w' h=>?_;rcases h with⟨h1,h2,h3⟩|⟨h1,h2,h3,h4,h5⟩
 ·have S':=S.below h3;have R':=R.below h3;unfold edK edG at S' ⊢;rw[if_neg h1,if_neg h1]at S' ⊢;refine⟨h2,S',?_,l0,l1,l2,ak bw h3,by omega⟩;rw[show V+((0:Nat):Int)=V by omega];exact R'
 ·have hmb:mb<w.heap.size:=R.lts.2;have S':=S.keepRef h5 R.ra R.fr.2 l2 (by omega);unfold edK edG at S' ⊢;rw[if_pos h1,if_pos h1]at S' ⊢;rw[h1];have hx:=h5.cellOf R.c0 (F:=fun k=>k=mb) R.ne;have SM:=h5.cellOf R.c1 (F:=fun k=>k=mb) R.ne;exact⟨h2,S',⟨hx,SM,h3,h4⟩,l0,l1,l2,bw.trans (h5.to_below bw.size (fun k e=>by omega)),by omega⟩
end
end
section
open Go.RowKit Go.Lib
def Two (w0 w:PG) (xo mo:Option Addr) (f:Int):Prop:=(0<f/\xo=Pk/\mo=Pk)\/(f=0/\∃lo hi sb xb mb Wn Hn most V bl,xo=OM ⟨sb,0,Pk⟩/\mo=OM ⟨xb,0,Pk⟩/\V<=256/\Pr w0 w lo hi sb xb mb Wn Hn most V bl)
def One (w0 w:PG) (xo:Option Addr) (f:Int) (W H V:Int) (bl:Nat->Bool) (m:Int):Prop:=(0<f/\xo=Pk)\/(f=0/\∃sb most:Nat,xo=OM ⟨sb,0,Pk⟩/\m=most/\Sv w w0.heap.size w.heap.size sb W H V bl most)
theorem Two.below {mo:Option Addr}{f:Int}(h:Two w0 w xo mo f)(hb:PI w.heap.size w w'):Two w0 w' xo mo f:=by
 rcases h with h|⟨h1,lo,hi,sb,xb,mb,Wn,Hn,most,V,bl,h2,h3,h4,h5⟩
 ·exact MG h
 ·exact MF ⟨h1,lo,hi,sb,xb,mb,Wn,Hn,most,V,bl,h2,h3,h4,h5.below hb⟩
theorem KT (W H most:Int)(w:PG)(s:az w) :
  PK prog 8 #[PE PF W,PE PF H,PE PF most] w fun e w'=>∃xo,e=PM (.tuple #[.pointer xo,edV (nwE W H most)])/\One w w' xo (nwE W H most) W H 0 (fun _=>PB) most/\PI w.heap.size w w' :=
 (KJ W H most w s).mono fun e w' ⟨hb,h⟩=>by
  rcases h with⟨h1,h2⟩|⟨h1,sb,k,h2,h3,h4⟩
  ·rw[h1];exact⟨Pk,h2,MG ⟨by decide,rfl⟩,hb⟩
  ·rw[h1];exact⟨OM ⟨sb,0,Pk⟩,h3,MF ⟨rfl,sb,k,rfl,h2,h4⟩,hb⟩
theorem KU {most:Int}(h:One w0 w xo (nwE W H most) W H 0 (fun _=>PB) most)(bw:PI w0.heap.size w0 w) :
  PK prog 9 #[PE PF W,PE PF H,PE PF most] w fun e w'=>∃mo,e=PM (.tuple #[.pointer mo,PE PF (nwE W H most)])/\Two w0 w' xo mo (nwE W H most)/\PI w.heap.size w w' :=
 (Gq W H most w).mono fun e w' ⟨hb,h'⟩=>by
  rcases h' with⟨h1,h2⟩|⟨h1,xb,mb,k,h2,h3,h4,h5,h6,h7,h8⟩
  ·rw[h1]at h ⊢;rcases h with⟨_,hx⟩|⟨h,_⟩
   ·exact⟨Pk,h2,MG ⟨by decide,hx,rfl⟩,hb⟩
   ·cases h
  ·rw[h1]at h ⊢;rcases h with⟨h,_⟩|⟨_,sb,k2,e1,e2,S⟩
   ·cases h
   ·obtain⟨Wn,rfl⟩:∃Wn:Nat,W=(Wn:Int):=⟨W.toNat,by have:=S.side;omega⟩;obtain⟨Hn,rfl⟩:∃Hn:Nat,H=(Hn:Int):=⟨H.toNat,by have:=S.side;omega⟩;obtain rfl:k=k2:=(by omega);exact⟨OM ⟨xb,0,Pk⟩,h7,MF ⟨rfl,_,_,sb,xb,mb,Wn,Hn,k,0,_,e1,rfl,by decide,⟨S.below hb,h8,aj,h5,h6,ak bw hb,by decide⟩⟩,hb⟩
theorem Gx (t:List UInt8)(most:Int):0<=ldE t most:=by
 unfold ldE;split
 ·omega
 ·split<;>decide
def L8 (w0 w:PG) (yo:Option Addr) (t:List UInt8) (m:Int):Prop:=(0<ldE t m/\yo=Pk)\/(ldE t m=0/\∃(sb most W H:Nat) (cs:List Bool),yo=OM ⟨sb,0,Pk⟩/\m=most/\cY t=.good W H cs/\Sv w w0.heap.size w.heap.size sb W H (blocks cs) (fC cs) most)
theorem Jm (t:List UInt8)(most:Int)(w:PG)(E:Env w)(s:az w) :
  PK prog 11 #[.string (str t),PE PF most] w fun e w'=>∃yo,e=PM (.tuple #[.pointer yo,edV (ldE t most)])/\L8 w w' yo t most/\PI w.heap.size w w' :=
 (Ji t most w E s (fun n h=>BQ h)).mono fun e w' ⟨hb,h⟩=>by
  rcases h with⟨h1,h2⟩|⟨h1,sb,k,W,H,cs,h2,h3,h4,h5⟩
  ·refine⟨Pk,?_,MG ⟨?_,rfl⟩,hb⟩
   ·unfold edV;rw[if_neg h1];exact h2
   ·have:=Gx t most;omega
  ·refine⟨OM ⟨sb,0,Pk⟩,?_,MF ⟨h1,sb,k,W,H,cs,rfl,h3,h2,h5⟩,hb⟩;rw[h1];exact h4
theorem KV {most:Int}{yo:Option Addr}(h:L8 w0 w yo t most)(bw:PI w0.heap.size w0 w) :
  PK prog 12 #[.string (str t),PE PF most] w fun e w'=>∃no,e=PM (.tuple #[.pointer no,PE PF (ldE t most)])/\Two w0 w' yo no (ldE t most)/\PI w.heap.size w w' :=
 (Gu t most w (fun n h=>BQ h)).mono fun e w' ⟨hb,h'⟩=>by
  rcases h' with⟨h1,h2⟩|⟨h1,xb,mb,k,W,H,cs,h2,h3,_,_,h4,h5,h6,h7⟩
  ·rcases h with⟨h0,hx⟩|⟨h0,_⟩
   ·exact⟨Pk,h2,MG ⟨h0,hx,rfl⟩,hb⟩
   ·exact absurd h0 h1
  ·rcases h with⟨h0,_⟩|⟨_,sb,k2,W2,H2,cs2,e1,e2,e3,S⟩
   ·omega
   ·rw[h2]at e3;cases e3;obtain rfl:k=k2:=(by omega);have hg:=CU h2;have h16:H*W<=16*16:=Nat.mul_le_mul hg.2.2.2.1 hg.2.1;have Qz:=oN cs;rw[h1];exact⟨OM ⟨xb,0,Pk⟩,h6,MF ⟨rfl,_,_,sb,xb,mb,W,H,k,_,_,e1,rfl,by omega,⟨S.below hb,h7,aj,h4,h5,ak bw hb,by omega⟩⟩,hb⟩
theorem Two.low {w00:PG}{mo:Option Addr}{f:Int}(h:Two w0 w xo mo f)(hb:PI w00.heap.size w00 w0):Two w00 w xo mo f:=by
 rcases h with h|⟨h1,lo,hi,sb,xb,mb,Wn,Hn,most,V,bl,h2,h3,h4,h5⟩
 ·exact MG h
 ·exact MF ⟨h1,lo,hi,sb,xb,mb,Wn,Hn,most,V,bl,h2,h3,h4,⟨h5.sv,h5.rs,M5 hb.size h5.l0,h5.l1,h5.l2,hb.trans (h5.bw.mono hb.size),h5.v0⟩⟩
end
section
open Go.RowKit
structure sD where
 kind:ByteArray
 a:Int
 b:Int
 eA:Option Addr
 en:Nat
 ec:Nat
 cs:Nat->Int
 bs:Nat->Bool
 qA:Option Addr
 qn:Nat
 qc:Nat
 fs:Nat->Int
 ts:Nat->Int
 s:ByteArray
structure xw (w:PG) (b o:Nat) (x:sD):Prop where
 c0:w.cell? ⟨b,o,Pk⟩=OM (.string x.kind)
 c1:w.cell? ⟨b,o+1,Pk⟩=OM (PE PF x.a)
 c2:w.cell? ⟨b,o+2,Pk⟩=OM (PE PF x.b)
 c3:w.cell? ⟨b,o+3,Pk⟩=OM (.slice x.eA x.en x.ec)
 c4:w.cell? ⟨b,o+4,Pk⟩=OM (.slice x.qA x.qn x.qc)
 c5:w.cell? ⟨b,o+5,Pk⟩=OM (.string x.s)
 ed:gu w x.eA x.en x.cs x.bs
 qs:ks w x.qA x.qn x.fs x.ts
def lE (w:PG) (A:Option Addr) (n:Nat) (xs:Nat->sD):Prop:=∀i,i<n->∃b o,A=OM ⟨b,o,Pk⟩/\b<w.heap.size/\xw w b (o+i*6) (xs i)
theorem xw.below {b o:Nat}{x:sD}(h:xw w b o x)(hb:PI w.heap.size w w'):xw w' b o x:=by
 have l:=aJ h.c0;exact⟨(hb.cell l).trans h.c0,(hb.cell (p:=⟨b,o+1,Pk⟩) l).trans h.c1,(hb.cell (p:=⟨b,o+2,Pk⟩) l).trans h.c2,(hb.cell (p:=⟨b,o+3,Pk⟩) l).trans h.c3,(hb.cell (p:=⟨b,o+4,Pk⟩) l).trans h.c4,(hb.cell (p:=⟨b,o+5,Pk⟩) l).trans h.c5,h.ed.below hb,h.qs.below hb⟩
theorem lE.below {A:Option Addr}{xs:Nat->sD}(h:lE w A n xs)(hb:PI w.heap.size w w'):lE w' A n xs:=fun i hi=>by
 obtain⟨b,o,e,l,h1⟩:=h i hi;exact⟨b,o,e,MN l hb.size,h1.below hb⟩
theorem DM {A:Option Addr}{cap:Nat}{xs:Nat->sD}(w:PG)(hx:lE w A n xs) :
  PK prog 7 #[.slice A n cap,PE PF 25] w fun e w'=>PI w.heap.size w w'/\(e=PM (.bool PB)\/(e=PM (.bool Pm)/\n<=25)):=by
 by_cases h25:(25:Int)<(n:Int)
 ·go_enter func7,ntmps7;go_wp2;go_ret;exact⟨al,MG rfl⟩
 ·have hn:n<=25:=by omega
  have HX:=ae hx;clear hx;go_enter func7,ntmps7;go_wp2;go_loopw [5] (fun iv wr=>∃i:Nat,i<=n/\iv=PE PF i/\PI w.heap.size w wr)
   (fun i _=>n-(intOf i).toNat)
  case atStart=>exact⟨0,MQ _,rfl,al⟩
  case round =>
   obtain⟨i,hi,rfl,hB⟩:=hrel;by_cases PO:i<n
   ·obtain⟨b,o,eA,hb,h1⟩:=(HX.out.below hB) i PO;subst eA;have i1:(i:Int)<(n:Int):=(by omega);have k3:=h1.c3;have k4:=h1.c4;have k5:=h1.c5;generalize xs i=x at *;clear h1;by_cases e80:(80:Int)<(x.en:Int)
    ·go_wp2;go_ret;exact⟨hB,MG rfl⟩
    by_cases e50:(50:Int)<(x.qn:Int)
    ·go_wp2;go_ret;exact⟨hB,MG rfl⟩
    by_cases e12:(1200:Int)<(x.s.size:Int)
    ·go_wp2;go_ret;exact⟨hB,MG rfl⟩
    ·go_wp2;go_roundw
     case rel=>exact⟨i+1,by omega,by go_num,hB⟩
     case measure=>simp[intOf];omega
   ·have e:i=n:=(by omega);subst e;go_wp2;go_ret;exact⟨hB,MF ⟨rfl,hn⟩⟩
end
section
open Go.RowKit Go.Lib
theorem Gy {W H:Nat}(w:PG)(E:Env w)(h8:8<=w.heap.size)(S:Sv w lo hi sb W H V bl most) :
  PK prog 21 #[.pointer (OM ⟨sb,0,Pk⟩)] w fun e w'=>e=PM (.string (str (oL bl W H)))/\PI w.heap.size w w':=by
 obtain⟨rb,pb,mb,lb,tb,gb,N,x,V2,S⟩:=S;have q1:=S.c1;have Tb:=k9 _ S.gr;go_enter func21,ntmps21;go_wp2_with fail;refine Tb.mono ?_;rintro e wb ⟨rfl,hb1,P3,g1,_⟩;have hp:=CY wb (E.below hb1 h8) g1 P3;go_wp2_with fail;refine hp.mono ?_;rintro e wc ⟨rfl,hb2⟩;go_wp2;go_ret;exact⟨rfl,ak hb1 hb2⟩
end
section
open Go.RowKit Go.Lib
def L9 (W H:Int) (bl:Nat->Bool) (most:Nat) (a t:Int) (way:List Nat) (s d err:Int):Prop:=xf W H bl most a t way s d err/\Rt W H bl a t way s d err
end
section
open Go.RowKit Go.Lib
structure lW where
 A:Option Addr
 cap:Nat
 way:List Nat
 s:Int
 d:Int
 err:Int
def Jn (x:lW):List Value:=[.slice x.A x.way.length x.cap,PE PF x.s,PE PF x.d,PE PF x.err]
def j9 (l:List lW):List Value:=l.flatMap Jn
theorem Gz (l:List lW)(x:lW):j9 (l++[x])=j9 l++Jn x:=by
 unfold j9;rw[List.flatMap_append,Oh,List.flatMap_nil,List.append_nil]
theorem Tryz.infoA:(Tryz.prog.info? 56).map (fun i=>(i.zero,i.size,i.bytes))=OM (OM (.agg #[.slice Pk 0 0,PE PF 0,PE PF 0,PE PF 0]),4,48):=by kernel_rfl
theorem Tryz.underA:Tryz.prog.underlying 109=OM (.slice 56):=by kernel_rfl
def xx (w:PG) (base:Nat) (W H:Int) (bl:Nat->Bool) (most:Nat) (fs ts:Nat->Int) (l:List lW):Prop:=∀i x,l[i]? = OM x->L9 W H bl most (fs i) (ts i) x.way x.s x.d x.err/\w.ownsRow base 3 1 (.slice x.A x.way.length x.cap) x.way.length (aH x.way)
theorem zZ {cap:Nat}{A:Option Addr}{fs ts:Nat->Int}(w:PG)(S:Sv w lo hi sb W H V bl most)(dg:bX w)(hq:ks w A n fs ts)(hn:n<=40) :
  PK prog 46 #[.pointer (OM ⟨sb,0,Pk⟩),.slice A n cap] w fun e w'=>∃v l,e=PM (.tuple #[v,.nilIface])/\l.length=n/\w'.ownsRow w.heap.size 56 4 v n (j9 l)/\xx w' w.heap.size W H bl most fs ts l/\PI w.heap.size w w':=by
 obtain⟨i0,VP,P0,P3,Qd⟩:=info_parts Tryz.infoA;have HQ:=ae hq;have HA:PJ (∀w',PI w.heap.size w w'->∀a t,_):=fun w' hb a t=>zN a t w' (S.below hb) (dg.below hb);have n40:¬(40:Int)<(n:Int):=by omega
 clear S dg hq;go_enter func46,ntmps46;go_wp2;go_loopw [6,15] (fun v iv wr=>∃(k:Nat) (l:List lW),k<=n/\l.length=k/\iv=PE PF k/\wr.ownsRow w.heap.size 56 4 v k (j9 l)/\PJ (xx wr w.heap.size W H bl most fs ts l)/\PI w.heap.size w wr)
  (fun _ i _=>n-(intOf i).toNat)
 case atStart=>exact⟨0,[],MQ _,rfl,rfl,World.ownsRow_nil _ _ _ _,fun i x h=>by simp at h,al⟩
 case round =>
  obtain⟨k,l,hk,hl,rfl,hown,hAn,hB⟩:=hrel;have HL:=ae hl;clear hl;by_cases PO:k<n
  ·obtain⟨bA,oA,rfl,Zu,f0,t0⟩:=(HQ.out.below hB) k PO;have i1:(k:Int)<(n:Int):=(by omega);obtain⟨fa,Rh⟩:∃fa,fs k=fa:=⟨_,rfl⟩;obtain⟨tt,htt⟩:∃tt,ts k=tt:=⟨_,rfl⟩;rw[Rh]at f0;rw[htt]at t0;have HFT:PJ (fs k=fa/\ts k=tt):=⟨Rh,htt⟩;clear Rh htt;have b3:=aQ wr (PN #[PE PF fa,PE PF tt] 113);have q0:(wr.alloc (PN #[PE PF fa,PE PF tt] 113)).cell? ⟨wr.heap.size,0,Pk⟩=OM (PE PF fa):=ME #[PE PF fa,PE PF tt] 113 wr.heap.size 0 rfl;have q1:(wr.alloc (PN #[PE PF fa,PE PF tt] 113)).cell? ⟨wr.heap.size,1,Pk⟩=OM (PE PF tt):=ME #[PE PF fa,PE PF tt] 113 wr.heap.size 1 rfl;have B3:=ak hB b3;have QQ:=aq hown b3;have hz3:=B3.size;have acE:PJ (xx (wr.alloc (PN #[PE PF fa,PE PF tt] 113)) w.heap.size W H bl most fs ts l):=fun i x h=>⟨(hAn.out i x h).1,aq (hAn.out i x h).2 b3⟩;have afG:=HA.out _ B3 fa tt;clear hAn hown hB b3;go_wp2_with fail;refine afG.mono ?_;rintro e w5 ⟨A5,Q6,way,s5,d5,r5,rfl,ow5,_,hA5,hR5,PV⟩;generalize wr.alloc (PN #[PE PF fa,PE PF tt] 113)=wa at *;have B5:=ak B3 PV;have Qy:=aq QQ PV;have afH:=bT ow5 B3.size;have acF:PJ (xx w5 w.heap.size W H bl most fs ts l):=fun i x h=>⟨(acE.out i x h).1,aq (acE.out i x h).2 PV⟩;have HP:PJ (L9 W H bl most fa tt way s5 d5 r5):=⟨hA5,hR5⟩;have Tp:=B5.size;clear afG QQ ow5 acE PV B3 hA5 hR5 q0 q1;go_wp2_with (at_builtin;refine wpList_append_own _ rfl _ _ 109 rfl w.heap.size 56 i0 (.agg #[.slice Pk 0 0,PE PF 0,PE PF 0,PE PF 0]) 4 48 Tryz.underA VP P0 P3 Qd rfl (by decide) _ _ _ rfl (Qy.alloc _) ⟨w5.heap.size,0,Pk⟩ 1 1 [.slice A5 way.length Q6,PE PF s5,PE PF d5,PE PF r5] rfl rfl (bK _ _ _ _ _ _) (by intro u hu;simp at hu;rcases hu with rfl|rfl|rfl|rfl<;>rfl) ?c3 ?c4 ?c5 ?_)
   case c3=>unfold maxLen;omega
   case c4=>omega
   case c5=>simp;omega
   intro v' w6 PS PR _;have PX:=fun q hq=>(Qy.lt q hq).1;have B6:PI w.heap.size w w6:=(B5.alloc Tp _).grown PR (by simp;omega) PX;have O6:w6.ownsRow w.heap.size 56 4 v' (k+1) (j9 (l++[⟨A5,Q6,way,s5,d5,r5⟩])):=by
    rw[Gz]
    simpa [Jn]using PS
   have gr:∀{v2:PH}{m:Nat}{xs:List PH},w5.ownsRow w.heap.size 3 1 v2 m xs->w6.ownsRow w.heap.size 3 1 v2 m xs:=fun {v2 m xs} h=>gX (h.alloc (PN #[.slice A5 way.length Q6,PE PF s5,PE PF d5,PE PF r5] 56)) PR (lO h Qy (by decide));have aj2:PJ (xx w6 w.heap.size W H bl most fs ts (l++[⟨A5,Q6,way,s5,d5,r5⟩])):=fun i x h=>by
    by_cases SJ:i<l.length
    ·rw[List.getElem?_append_left SJ]at h;exact⟨(acF.out i x h).1,gr (acF.out i x h).2⟩
    ·have e:i=k:=by
      have h2:=(Np.1 h).1;rw[MM,List.length_singleton,HL.out]at h2;rw[HL.out]at SJ;omega
     subst e;rw[Ni (by rw[HL.out];exact aj),HL.out,Nat.sub_self]at h;cases h;exact⟨by rw[HFT.out.1,HFT.out.2];exact HP.out,gr afH⟩
   have HL6:PJ ((l++[(⟨A5,Q6,way,s5,d5,r5⟩:lW)]).length=k+1):=by
    show (l++[(⟨A5,Q6,way,s5,d5,r5⟩:lW)]).length=k+1;rw[MM,List.length_singleton,HL.out]
   clear PS PR gr Qy afH B5 acF;go_wp2;go_roundw
   case rel=>exact⟨k+1,_,by omega,HL6.out,by go_num,O6,aj2.out,B6⟩
   case measure=>simp[intOf];omega
  ·have e:k=n:=(by omega);subst e;go_wp2;go_ret2;exact⟨_,l,rfl,HL.out,hown,hAn.out,hB⟩
end
section
open Go.RowKit Go.Lib
def mr (w:PG) (A:Option Addr) (l:List lW):Prop:=∀i x,l[i]? = OM x->∃b o,A=OM ⟨b,o,Pk⟩/\b<w.heap.size/\w.cell? ⟨b,o+i*4,Pk⟩=OM (.slice x.A x.way.length x.cap)/\w.cell? ⟨b,o+i*4+1,Pk⟩=OM (PE PF x.s)/\w.cell? ⟨b,o+i*4+2,Pk⟩=OM (PE PF x.d)/\w.cell? ⟨b,o+i*4+3,Pk⟩=OM (PE PF x.err)
theorem mr.keep {F:Nat->Prop}{A:Option Addr}{l:List lW}(h:mr w A l)(K:ai F w w')(hF:∀b o,A=OM ⟨b,o,Pk⟩->¬F b):mr w' A l:=fun i x hx=>by
 obtain⟨b,o,e,hb,k0,k1,k2,k3⟩:=h i x hx;have n:=hF b o e;exact⟨b,o,e,MN hb K.size,K.cellOf k0 n,K.cellOf k1 n,K.cellOf k2 n,K.cellOf k3 n⟩
theorem mr.below {A:Option Addr}{l:List lW}(h:mr w A l)(hb:PI w.heap.size w w'):mr w' A l:=h.keep (F:=fun _=>False) (ai.of_below hb) (fun _ _ _=>id)
theorem BU:∀(l:List lW) (i:Nat) (x:lW),l[i]? = OM x->(j9 l)[i*4]? = OM (.slice x.A x.way.length x.cap)/\(j9 l)[i*4+1]? = OM (PE PF x.s)/\(j9 l)[i*4+2]? = OM (PE PF x.d)/\(j9 l)[i*4+3]? = OM (PE PF x.err)
 |[],i,x,h=>by simp at h
 |y::l,0,x,h=>by
  simp at h;subst h;exact⟨rfl,rfl,rfl,rfl⟩
 |y::l,i+1,x,h=>by
  have h':l[i]? = OM x:=by simpa using h
  obtain⟨a,b,c,d⟩:=BU l i x h';have e:∀j,(j9 (y::l))[j+4]? = (j9 l)[j]? := fun j=>by
   have:j9 (y::l)=Jn y++j9 l:=(by unfold j9;rw[Oh]);rw[this,Ni (by show 4<=_;omega)];show (j9 l)[j+4-4]? = _;rw[Nat.add_sub_cancel]
  rw[show (i+1)*4=i*4+4 by omega];refine⟨?_,?_,?_,?_⟩
  ·rw[e];exact a
  ·rw[show i*4+4+1=i*4+1+4 by omega,e];exact b
  ·rw[show i*4+4+2=i*4+2+4 by omega,e];exact c
  ·rw[show i*4+4+3=i*4+3+4 by omega,e];exact d
theorem DN {v:PH}{l:List lW}(h:w.ownsRow base 56 4 v n (j9 l))(hl:l.length=n):∃A cap,v=.slice A n cap/\mr w A l/\∀b o,A=OM ⟨b,o,Pk⟩->v.ownBlock=OM b:=by
 rcases h.2 with⟨rfl,rfl⟩|⟨g,cap,cur,rfl,h1,h2,h3,h4,h5,h6⟩
 ·refine⟨Pk,0,rfl,fun i x hx=>?_,fun b o e=>by cases e⟩;have:=(Np.1 hx).1;omega
 ·refine⟨OM ⟨g,0,Pk⟩,cap,rfl,fun i x hx=>⟨g,0,rfl,?_,?_⟩,fun b o e=>by cases e;rfl⟩
  ·exact(Array.getElem?_eq_some_iff.1 h2).1
  ·obtain⟨a,b,c,d⟩:=BU l i x hx;have k:∀j u,(j9 l)[j]? = OM u->w.cell? ⟨g,0+j,Pk⟩=OM u:=fun j u hj=>by
    rw[M8];rw[<- h6]at hj;rw[List.getElem?_take]at hj;split at hj
    ·simp only[Pn,h2]
     simpa using hj
    ·cases hj
   exact⟨k _ _ a,k _ _ b,k _ _ c,k _ _ d⟩
def Aa (w:PG) (base:Nat) (A:Option Addr) (l:List lW):Prop:=∀(i:Nat) (x:lW),l[i]? = OM x->∀k,k<x.way.length->∃q,x.A=OM ⟨q,0,Pk⟩/\base<=q/\(∀b o,A=OM ⟨b,o,Pk⟩->b≠q)/\(∃u,w.cell? ⟨q,k,Pk⟩=OM u)/\w.frozen? ⟨q,k,Pk⟩=PB
theorem Aa.below {A:Option Addr}{l:List lW}(h:Aa w base A l)(hb:PI w.heap.size w w'):Aa w' base A l:=fun i x hx k hk=>by
 obtain⟨q,e,h1,h2,⟨u,h3⟩,h4⟩:=h i x hx k hk;have PO:=aJ h3;exact⟨q,e,h1,h2,⟨u,(hb.cell PO).trans h3⟩,(hb.frozen (p:=⟨q,k,Pk⟩) PO).trans h4⟩
end
section
open Go.RowKit
theorem xy {cap:Nat}{A:Option Addr}(w:PG)(hn:40<n) :
  PK prog 46 #[.pointer (OM ⟨sb,0,Pk⟩),.slice A n cap] w fun e w'=>e=PM (.tuple #[.slice Pk 0 0,.iface 54 (PE PF 2)])/\w'=w:=by
 have h:(40:Int)<(n:Int):=by omega
 go_enter func46,ntmps46;go_wp2;go_ret2;exact⟨rfl,rfl⟩
theorem xz {sb xb n cap:Nat}{A:Option Addr}{fs ts:Nat->Int}(w:PG)(S:Sv w lo hi sb W H V bl most)(R:RSv w xb mb W H V bl most)(dg:bX w)(hq:ks w A n fs ts) :
  PK prog 17 #[.pointer (OM ⟨sb,0,Pk⟩),.pointer (OM ⟨xb,0,Pk⟩),.slice A n cap] w fun e w'=>e=PM (.bool Pm)/\PI w.heap.size w w':=by
 by_cases h40:40<n
 ·have hn:=xy (sb:=sb) (A:=A) (cap:=cap) w h40;have h:(40:Int)<(n:Int):=by omega
  have Zq:=fun w=>oU (n:=2) (by decide) w;have e2:edV 2=.iface 54 (PE PF 2):=rfl;rw[e2]at Zq;clear S R dg hq e2;go_enter func17,ntmps17;go_wp2_with (first|(go_at_call 46;refine hn.mono ?_;rintro e w' ⟨rfl,rfl⟩)|(go_at_call 10;refine(Zq _).mono ?_;rintro e w' ⟨rfl,rfl⟩));go_ret;exact⟨rfl,al⟩
 ·have h:¬(40:Int)<(n:Int):=by omega
  have hn:=zZ (cap:=cap) w S dg hq (by omega);have HQ:=ae hq;have HR:=ae R;clear S R dg hq;go_enter func17,ntmps17;go_wp2_with fail;refine hn.mono ?_;rintro e w1 ⟨v,l,rfl,hl,ho,hA,hb1⟩;obtain⟨A2,cap2,rfl,hOA,_⟩:=DN ho hl;have HOA:=ae hOA;have HA:=ae hA;have HL:=ae hl;clear hn ho hA hOA hl;go_wp2;go_loopw [9] (fun iv wr=>∃i:Nat,i<=n/\iv=PE PF i/\PI w1.heap.size w1 wr)
   (fun i _=>n-(intOf i).toNat)
  case atStart=>exact⟨0,MQ _,rfl,al⟩
  case round =>
   obtain⟨i,hi,rfl,hB⟩:=hrel;have BB:=ak hb1 hB;by_cases PO:i<n
   ·obtain⟨bA,oA,eA,Zu,f0,t0⟩:=(HQ.out.below BB) i PO;obtain⟨x,hx⟩:∃x,l[i]? = OM x:=⟨_,MJ (by rw[HL.out];exact PO)⟩;obtain⟨b2,o2,e2,hb2,a0,a1,a2,a3⟩:=(HOA.out.below hB) i x hx;obtain⟨hP,how⟩:=HA.out i x hx;subst eA e2;have i1:(i:Int)<(n:Int):=(by omega);have e0:=cI wr;have B0:=ak hB e0;have BB0:=ak hb1 B0;have hrt:=tl wr.drew ((HR.out.below BB0).c0) ((HR.out.below BB0).ra) (aq how B0) hP.2;generalize fs i=fa at *;generalize ts i=tt at *;have CC:PJ (∀w',PI wr.heap.size wr w'->w'.cell? ⟨bA,oA+i*2,Pk⟩=OM (PE PF fa)/\w'.cell? ⟨bA,oA+i*2+1,Pk⟩=OM (PE PF tt)/\w'.cell? ⟨b2,o2+i*4,Pk⟩=OM (.slice x.A x.way.length x.cap)/\w'.cell? ⟨b2,o2+i*4+1,Pk⟩=OM (PE PF x.s)/\w'.cell? ⟨b2,o2+i*4+2,Pk⟩=OM (PE PF x.d)/\w'.cell? ⟨b2,o2+i*4+3,Pk⟩=OM (PE PF x.err)):=fun w' h=>⟨(h.cell (MK wr _ f0)).trans f0,(h.cell (MK wr _ t0)).trans t0,(h.cell (MK wr _ a0)).trans a0,(h.cell (MK wr _ a1)).trans a1,(h.cell (MK wr _ a2)).trans a2,(h.cell (MK wr _ a3)).trans a3⟩;clear f0 t0 a0 a1 a2 a3 hP how;go_upto_region 9 with fail
    go_region_held3 (fun w'=>w'.cell? ⟨bA,oA+i*2,Pk⟩=OM (PE PF fa)/\w'.cell? ⟨bA,oA+i*2+1,Pk⟩=OM (PE PF tt)/\w'.cell? ⟨b2,o2+i*4,Pk⟩=OM (.slice x.A x.way.length x.cap)/\w'.cell? ⟨b2,o2+i*4+1,Pk⟩=OM (PE PF x.s)/\w'.cell? ⟨b2,o2+i*4+2,Pk⟩=OM (PE PF x.d)/\w'.cell? ⟨b2,o2+i*4+3,Pk⟩=OM (PE PF x.err)) (first|with_reducible exact CC.out _ e0|with_reducible exact CC.out _ e6)
     (first|(go_at_call 15;refine hrt.mono ?_;rintro r w6 ⟨rfl,Qr⟩;have e6:=ak e0 Qr))
    have B6:=ak hB e6;clear hrt CC;go_wp2;go_roundw
    case rel=>exact⟨i+1,by omega,by go_num,B6⟩
    case measure=>simp[intOf];omega
   ·have e:i=n:=(by omega);subst e;go_wp2;go_ret;exact⟨rfl,BB⟩
end
section
open Go.RowKit Go.Lib
section
variable {W H : Int} {bl : Nat → Bool}
end
theorem DO {c d:Int}(w:PG)(S:Sv w lo hi sb W H V bl most) :
  PK prog 18 #[.pointer (OM ⟨sb,0,Pk⟩),PE PF c,PE PF d] w fun e w'=>PI w.heap.size w w'/\(((inB W H c=PB\/(inB W H c=Pm/\(d<0\/8<=d)))/\e=PM (.tuple #[PE PF 0,.iface 54 (PE PF 1)]))\/(inB W H c=Pm/\∃k:Nat,d=(k:Int)/\k<8/\e=PM (.tuple #[PE PF (clr W H bl (c%W) (c/W) k:Nat),.nilIface]))):=by
 obtain⟨rb,pb,mb,lb,tb,gb,N,x,V2,S⟩:=S;have q3:=S.c3;cases hi:inB W H c with
 |false =>
  have h:=CN c d w S.ta hi;go_enter func18,ntmps18;go_wp2_with fail;refine h.mono ?_;rintro e w1 ⟨rfl,m,rfl⟩;go_wp2;go_ret2;exact⟨below_drewN al _,MG ⟨MG trivial,rfl⟩⟩
 |true =>
  have q:0<=c/\c<W*H:=of_decide_eq_true hi;obtain⟨cN,rfl⟩:∃cN:Nat,c=(cN:Int):=⟨c.toNat,by omega⟩;by_cases hd:d<0\/8<=d
  ·have h:=CP cN d w S.ta hi hd;have HD:=ae hd;clear hd;go_enter func18,ntmps18;go_wp2_with fail;refine h.mono ?_;rintro e w1 ⟨rfl,m,rfl⟩;go_wp2;go_ret2;exact⟨below_drewN al _,MG ⟨MF ⟨trivial,HD.out⟩,rfl⟩⟩
  ·obtain⟨k,rfl⟩:∃k:Nat,d=(k:Int):=⟨d.toNat,by omega⟩;have hk:k<8:=(by omega);have h:=Fc cN k w S.ta hi hk;clear hd;go_enter func18,ntmps18;go_wp2_with fail;refine h.mono ?_;rintro e w1 ⟨rfl,m,rfl⟩;go_wp2;go_ret2;exact⟨below_drewN al _,MF ⟨trivial,k,rfl,hk,rfl⟩⟩
end
section
open Go.RowKit Go.Lib
theorem xA {b:ByteArray}{l:List UInt8}(h:¬b=⟨l.toArray⟩):(b.toList==l)=false:=by
 rw[beq_eq_false_iff_ne];intro e;refine h ?_;have q:(str b.data.toList).toList=b.data.toList:=aR _;have z:str b.data.toList=b:=rfl;rw[z,e]at q;rw[q]
theorem xB (W H most:Int)(t:List UInt8){A:Option Addr}{n cap:Nat}{xs:Nat->sD}(w:PG)(E:Env w)(s:az w)(dg:bX w)(hx:lE w A n xs) :
  PK prog 3 #[PE PF W,PE PF H,PE PF most,.string (str t),.slice A n cap] w fun e w'=>e=PM (.bool Pm)/\PI w.heap.size w w':=by
 have h8:=E.z;have hsv:=zY w s dg (by omega);have HX:=ae hx;have HE:PJ (∀w',PI w.heap.size w w'->Env w'/\az w'/\bX w'/\8<=w'.heap.size):=fun w' hb=>⟨E.grown hb,s.below hb (by omega),dg.below hb,M5 h8 hb.size⟩;clear hx E s dg;go_enter func3,ntmps3;go_wp2_with fail;refine hsv.mono ?_;rintro e w1 ⟨rfl,hb1⟩;have hl:=DM (cap:=cap) w1 (HX.out.below hb1);clear hsv;go_wp2_with fail;refine hl.mono ?_;rintro e w2 ⟨hb2,Qp⟩;have B2:=ak hb1 hb2;clear hl hb1 hb2;rcases Qp with rfl|⟨rfl,hn⟩
 ·go_wp2;go_ret;exact⟨rfl,B2⟩
 by_cases h12:(1200:Int)<((str t).size:Int)
 ·go_wp2;go_ret;exact⟨rfl,B2⟩
 have Si:=KT W H most w2 (HE.out _ B2).2.1;go_wp2_with fail;refine Si.mono ?_;rintro e w3 ⟨xo,rfl,h3,hb3⟩;have hrn:=KU h3 hb3;have B3:=ak B2 hb3;clear Si h3 h12;go_wp2_with fail;refine hrn.mono ?_;rintro e w4 ⟨mo,rfl,h4,QB⟩;have B4:=ak B3 QB;have hf0:0<=nwE W H most:=by unfold nwE;split<;>decide
 have H4:PJ (Two w w4 xo mo (nwE W H most)):=h4.low B2;have U8:=oU hf0 w4;clear hrn h4 QB hb3 B2 B3 hf0;generalize nwE W H most=f at *;go_upto_region 6 with fail
 go_cut [65] from 55 to 65 (fun b wd=>b=.bool PB/\wd=w4)
 case first =>
  rcases H4.out with⟨h,rfl,rfl⟩|⟨rfl,lo,hi,sb,xb,mb,Wn,Hn,mN,V,bl,rfl,rfl,_,_⟩
  ·go_wp2_with (go_at_call 10;refine U8.mono ?_;rintro e w' ⟨rfl,rfl⟩);go_meet;exact⟨rfl,rfl⟩
  ·go_wp2_with (go_at_call 10;refine U8.mono ?_;rintro e w' ⟨rfl,rfl⟩);go_meet;exact⟨rfl,rfl⟩
 case rest =>
  obtain⟨rfl,YM⟩:=hcut;have YM:w4=wc:=YM.symm;subst YM;have ZG:=Jm t most w4 (HE.out _ B4).1 (HE.out _ B4).2.1;clear U8;go_wp2_with fail;refine ZG.mono ?_;rintro e w5 ⟨yo,rfl,h5,PV⟩;have hrl:=KV h5 PV;have B5:=ak B4 PV;have H5:PJ (Two w w5 xo mo f):=H4.out.below PV;clear ZG h5 H4;go_wp2_with fail;refine hrl.mono ?_;rintro e w6 ⟨no,rfl,h6,Qr⟩;have B6:=ak B5 Qr;have HN:PJ (Two w w6 xo mo f):=H5.out.below Qr;have HL:PJ (Two w w6 yo no (ldE t most)):=h6.low B4;have U8:=oU (Gx t most) w6;clear hrl h6 Qr PV H5 B5 B4;generalize ldE t most=f2 at *;go_upto_region 10 with fail
  go_cut [88] from 78 to 88 (fun b wd=>b=.bool PB/\wd=w6)
  case first =>
   rcases HL.out with⟨h,rfl,rfl⟩|⟨rfl,lo,hi,sb,xb,mb,Wn,Hn,mN,V,bl,rfl,rfl,_,_⟩
   ·go_wp2_with (go_at_call 10;refine U8.mono ?_;rintro e w' ⟨rfl,rfl⟩);go_meet;exact⟨rfl,rfl⟩
   ·go_wp2_with (go_at_call 10;refine U8.mono ?_;rintro e w' ⟨rfl,rfl⟩);go_meet;exact⟨rfl,rfl⟩
  case rest =>
   obtain⟨rfl,YM⟩:=hcut;have YM:w6=wc:=YM.symm;subst YM;clear U8;go_upto_if 90 with fail
   go_cut [12,14] from 89 to 92 (fun xv mv wd=>wd=w6/\∃xo' mo' f',xv=.pointer xo'/\mv=.pointer mo'/\Two w w6 xo' mo' f')
   case first =>
    rcases HL.out with⟨h,rfl,rfl⟩|⟨rfl,lo,hi,sb,xb,mb,Wn,Hn,mN,V,bl,rfl,rfl,hV,hP⟩
    ·go_wp2_with fail;go_meet;exact⟨rfl,xo,mo,f,rfl,rfl,HN.out⟩
    ·clear hV hP;go_wp2_with fail;go_meet;exact⟨rfl,_,_,0,rfl,rfl,HL.out⟩
   case rest =>
    obtain⟨YM,xo',mo',f',rfl,rfl,hT⟩:=hcut;have YM:w6=wc:=YM.symm;subst YM;clear HN HL;rcases hT with⟨_,rfl,rfl⟩|⟨_,lo,hi,sb,xb,mb,Wn,Hn,mN,V,bl,rfl,rfl,hV,hP⟩
    ·go_wp2_with fail;go_quiet (fail);go_wp2;go_ret;exact⟨rfl,below_drewN B6 _⟩
    ·have r0:=hP.rs.c0;have r1:=hP.rs.ra.c0;have r2:=hP.rs.ra.c1;have Rq:=bP hP.rs.ra.w1 hP.rs.ra.w2 hP.rs.ra.h1 hP.rs.ra.h2;have X4:IntKind.i64.wrap ((Wn:Int)*(Hn:Int))=(Wn:Int)*(Hn:Int):=fk (by omega) (by omega);have HP:=ae hP;clear hP;by_cases h90:90<(Wn:Int)*(Hn:Int)
     ·go_wp2_with fail;go_quiet (fail);go_wp2;go_ret;exact⟨rfl,below_drewN B6 _⟩
     ·go_upto_region 15 with fail
      go_cut [112] from 93 to 112 (fun b wd=>b=.bool PB/\PI w6.heap.size w6 wd)
      case first =>
       have d1:decide (90<(Wn:Int)*(Hn:Int))=false:=decide_eq_false h90;go_quiet (fail);go_wp2_with fail;go_meet;exact⟨rfl,below_drewN al _⟩
      case rest =>
       obtain⟨rfl,Rm⟩:=hcut;have P7:=HP.out.below Rm;clear r0 r1 r2 Rm HP B6 h90 X4 Rq;go_wp2;go_loopw [18] (fun iv wr=>∃(i:Nat) (V:Int) (bl:Nat->Bool),i<=n/\iv=PE PF i/\V<=256+60*i/\Pr w wr lo hi sb xb mb Wn Hn mN V bl)
        (fun i _=>n-(intOf i).toNat)
       case atStart=>exact⟨0,V,bl,MQ _,rfl,by omega,P7⟩
       case round =>
        clear P7 hV;obtain⟨i,V,bl,VP,rfl,hV,hP⟩:=hrel;by_cases PO:i<n
        ·obtain⟨b,o,eA',VM,h1⟩:=HX.out i PO;subst eA';have k:=h1.below hP.bw;have i1:(i:Int)<(n:Int):=(by omega);generalize xs i=x at *;obtain⟨kd,aa,ab,eA,en,ec,cs,bs,qA,qn,qc,fs,ts,st⟩:=x;obtain⟨k0,k1,k2,k3,k4,k5,_,kq⟩:=k;have Uo:=h1.ed;simp only at k0 k1 k2 k3 k4 k5 kq Uo;have ba:=aQ wr (PN #[.string kd,PE PF aa,PE PF ab,.slice eA en ec,.slice qA qn qc,.string st] 45);have q:∀o,(wr.alloc (PN #[.string kd,PE PF aa,PE PF ab,.slice eA en ec,.slice qA qn qc,.string st] 45)).cell? ⟨wr.heap.size,o,Pk⟩=#[.string kd,PE PF aa,PE PF ab,.slice eA en ec,.slice qA qn qc,.string st][o]? := fun o=>MP ..;have q0:=q 0;have q1:=q 1;have q2:=q 2;have q3:=q 3;have q4:=q 4;have hTw:w.heap.size<=wr.heap.size:=hP.bw.size;have hTh:hi<wr.heap.size:=(by have:=hP.l2;have:=hP.rs.lts.2;omega);have Pa:=hP.below ba;have kqa:=kq.below ba;have RH:=ae Pa;have Wa:=ae Uo;have HKQ:=ae kqa;clear h1 kq Uo q hP Pa kqa ba VM;go_upto_region 24 with fail
         clear k0 k1 k2 k3 k4 k5;generalize wr.alloc (PN #[.string kd,PE PF aa,PE PF ab,.slice eA en ec,.slice qA qn qc,.string st] 45)=wa at *;generalize wr.heap.size=T at *;clear q0;by_cases hk1:kd=⟨#[101,100,105,116]⟩
         ·subst hk1;have he1:=L7 (cap:=ec) RH.out Wa.out (by omega) (by omega);go_wp2_with fail;refine he1.mono ?_;rintro e w7 ⟨rfl,S7,R7,B7,K7⟩;have q3:=K7.cellOf q3 (fun h=>by have:=h.2;simp only at this;omega);have he2:=KQ (cap:=ec) S7 R7 B7 RH.out.l0 RH.out.l1 RH.out.l2 RH.out.v0 Wa.out (by omega) (by omega);have U8:=fun w=>oU (KP Wn Hn cs en) w;have Yr:=KO Wn Hn bl cs bs en;clear he1 S7 R7 B7 K7 RH Wa HKQ q1 q2 q4;generalize edK (Wn:Int) (Hn:Int) bl cs bs en=kk at *;generalize edG (Wn:Int) (Hn:Int) bl cs bs en=gg at *;generalize edE (Wn:Int) (Hn:Int) cs en=ee at *;go_wp2_with fail;refine he2.mono ?_;rintro e w8 ⟨rfl,P8⟩;clear he2;go_wp2_with (go_at_call 10;refine(U8 _).mono ?_;rintro e w' ⟨rfl,rfl⟩);go_roundw
          case rel=>exact⟨i+1,_,gg,by omega,by go_num,by omega,P8⟩
          case measure=>simp[intOf];omega
         have n1:(kd.toList == [101,100,105,116])=false:=xA hk1;by_cases Xz:kd=⟨#[97,115,107]⟩
         ·subst Xz;have e0:=cI wa;have CC:PJ (∀w',PI wa.heap.size wa w'->w'.cell? ⟨T,1,Pk⟩=OM (PE PF aa)/\w'.cell? ⟨T,2,Pk⟩=OM (PE PF ab)):=fun w' h=>⟨(h.cell (MK wa _ q1)).trans q1,(h.cell (MK wa _ q2)).trans q2⟩;have ha:=zN aa ab wa.drew (RH.out.below e0).sv (HE.out _ (RH.out.below e0).bw).2.2.1;have HRG:PJ (∀w',PI wa.heap.size wa w'->∀{v:PH}{way:List Nat}{s d err:Int}{base:Nat},w'.ownsRow base 3 1 v way.length (aH way)->Rt Wn Hn bl aa ab way s d err->_):=fun w' hb {v way s d err base} ho R=>tl (v:=v) (base:=base) w' ((RH.out.below hb).rs.c0) ((RH.out.below hb).rs.ra) ho R;go_upto_region 29 with fail
          clear q1 q2 q3 q4 Wa HKQ n1;go_region_held3 (fun w'=>w'.cell? ⟨T,1,Pk⟩=OM (PE PF aa)/\w'.cell? ⟨T,2,Pk⟩=OM (PE PF ab)) (first|with_reducible exact CC.out _ e0|with_reducible exact CC.out _ e5|with_reducible exact CC.out _ e6)
           (first
            |(go_at_call 16;refine ha.mono ?_;rintro r w15 ⟨A5,Q6,way,sx,dx,er,rfl,ho,_,_,hR,aj6⟩;have e5:=ak e0 aj6)
            |(go_at_call 15;refine(HRG.out _ e5 ho hR).mono ?_;rintro r w16 ⟨rfl,acv⟩;have e6:=ak e5 acv))
          have PZ:=RH.out.below e6;clear ho hR ha HRG CC RH;go_wp2;go_roundw
          case rel=>exact⟨i+1,V,bl,by omega,by go_num,by omega,PZ⟩
          case measure=>simp[intOf];omega
         have n2:(kd.toList == [97,115,107])=false:=xA Xz;by_cases hk3:kd=⟨#[98,97,116,99,104]⟩
         ·subst hk3;have hbt:=xz (cap:=qc) wa RH.out.sv RH.out.rs (HE.out _ RH.out.bw).2.2.1 HKQ.out;clear q1 q2 q3 Wa HKQ;go_wp2_with fail;refine hbt.mono ?_;rintro e w7 ⟨rfl,Rm⟩;have PZ:=RH.out.below Rm;clear hbt RH;go_wp2;go_roundw
          case rel=>exact⟨i+1,V,bl,by omega,by go_num,by omega,PZ⟩
          case measure=>simp[intOf];omega
         have n3:(kd.toList == [98,97,116,99,104])=false:=xA hk3;by_cases hk4:kd=⟨#[108,111,111,107]⟩
         ·subst hk4;have RM:=DO (c:=aa) (d:=ab) wa RH.out.sv;clear q3 q4 Wa HKQ;go_wp2_with fail;refine RM.mono ?_;rintro e w7 ⟨Rm,Qp⟩;have q1:=(Rm.cell (MK wa _ q1)).trans q1;have q2:=(Rm.cell (MK wa _ q2)).trans q2;have Xw:PJ (Pr w w7 lo hi sb xb mb Wn Hn mN V bl):=RH.out.below Rm;have S0:∀x:bU w7,x.u.cell? ⟨xb,0,Pk⟩=OM (.pointer (OM ⟨mb,0,Pk⟩)):=fun x=>(Xw.out.below x.h).rs.c0;have S1:∀x:bU w7,x.u.cell? ⟨T,1,Pk⟩=OM (PE PF aa):=fun x=>(x.cell _ _ (MK w7 _ q1)).trans q1;have S2:∀x:bU w7,x.u.cell? ⟨T,2,Pk⟩=OM (PE PF ab):=fun x=>(x.cell _ _ (MK w7 _ q2)).trans q2;have PW:Nonempty (bU w7):=⟨⟨w7,al⟩⟩;have Rx:=fun w=>oU (n:=1) (by decide) w;have e1:edV 1=.iface 54 (PE PF 1):=rfl;rw[e1]at Rx;clear RM Rm RH e1;rcases Qp with⟨QL,rfl⟩|⟨PY,k,rfl,hk,rfl⟩
          ·rcases QL with hout|⟨PY,hd⟩
           ·have RQ:PJ (∀x:bU w7,PK prog 19 #[.pointer (OM ⟨mb,0,Pk⟩),PE PF aa] x.u fun e w'=>e=PM (PE PF 1)/\PI x.u.heap.size x.u w'):=fun x=>(uK aa x.u (Xw.out.below x.h).rs.ra hout).mono fun e w' ⟨h1,m,h2⟩=>⟨h1,by rw[h2];exact below_drewN al _⟩;go_upto_region 34 with fail
            refine bM (by kernel_rfl) (by kernel_rfl) ?_
            repeat (go_big_quiet_step ((go_at_call 19;exact Calls.since_of (RQ.out _))))
            refine wpQuiet_nil ?_;rintro _ ⟨x,rfl⟩;have PZ:=Xw.out.below x.h;clear S0 S1 S2 PW RQ Xw q1 q2;generalize x.u=y at *;go_wp2_with (go_at_call 10;refine(Rx _).mono ?_;rintro e w' ⟨rfl,rfl⟩);go_roundw
            case rel=>exact⟨i+1,V,bl,by omega,by go_num,by omega,PZ⟩
            case measure=>simp[intOf];omega
           ·have hd:(ab<0)\/(¬ab<0/\7<ab):=(by omega);rcases hd with hd|⟨hd,hd2⟩
            ·have d1:decide (ab<0)=true:=decide_eq_true hd;have RQ:PJ (∀x:bU w7,PK prog 19 #[.pointer (OM ⟨mb,0,Pk⟩),PE PF aa] x.u fun e w'=>e=PM (PE PF 0)/\PI x.u.heap.size x.u w'):=fun x=>(ku aa x.u (Xw.out.below x.h).rs.ra PY).mono fun e w' ⟨h1,m,h2⟩=>⟨h1,by rw[h2];exact below_drewN al _⟩;go_upto_region 34 with fail
             refine bM (by kernel_rfl) (by kernel_rfl) ?_
             repeat (go_big_quiet_step ((go_at_call 19;exact Calls.since_of (RQ.out _))))
             refine wpQuiet_nil ?_;rintro _ ⟨x,rfl⟩;have PZ:=Xw.out.below x.h;clear S0 S1 S2 PW RQ Xw q1 q2;generalize x.u=y at *;go_wp2_with (go_at_call 10;refine(Rx _).mono ?_;rintro e w' ⟨rfl,rfl⟩);go_roundw
             case rel=>exact⟨i+1,V,bl,by omega,by go_num,by omega,PZ⟩
             case measure=>simp[intOf];omega
            ·have d1:decide (ab<0)=false:=decide_eq_false hd;have d2:decide (7<ab)=true:=decide_eq_true hd2;have RQ:PJ (∀x:bU w7,PK prog 19 #[.pointer (OM ⟨mb,0,Pk⟩),PE PF aa] x.u fun e w'=>e=PM (PE PF 0)/\PI x.u.heap.size x.u w'):=fun x=>(ku aa x.u (Xw.out.below x.h).rs.ra PY).mono fun e w' ⟨h1,m,h2⟩=>⟨h1,by rw[h2];exact below_drewN al _⟩;go_upto_region 34 with fail
             refine bM (by kernel_rfl) (by kernel_rfl) ?_
             repeat (go_big_quiet_step ((go_at_call 19;exact Calls.since_of (RQ.out _))))
             refine wpQuiet_nil ?_;rintro _ ⟨x,rfl⟩;have PZ:=Xw.out.below x.h;clear S0 S1 S2 PW RQ Xw q1 q2;generalize x.u=y at *;go_wp2_with (go_at_call 10;refine(Rx _).mono ?_;rintro e w' ⟨rfl,rfl⟩);go_roundw
             case rel=>exact⟨i+1,V,bl,by omega,by go_num,by omega,PZ⟩
             case measure=>simp[intOf];omega
          ·have UR:¬(k:Int)<0:=(by omega);have aj7:¬7<(k:Int):=(by omega);have d1:decide ((k:Int)<0)=false:=decide_eq_false UR;have d2:decide (7<(k:Int))=false:=decide_eq_false aj7;have RQ:PJ (∀x:bU w7,PK prog 19 #[.pointer (OM ⟨mb,0,Pk⟩),PE PF aa] x.u fun e w'=>e=PM (PE PF 0)/\PI x.u.heap.size x.u w'):=fun x=>(ku aa x.u (Xw.out.below x.h).rs.ra PY).mono fun e w' ⟨h1,m,h2⟩=>⟨h1,by rw[h2];exact below_drewN al _⟩;go_upto_region 34 with fail
           refine bM (by kernel_rfl) (by kernel_rfl) ?_
           repeat (go_big_quiet_step ((go_at_call 19;exact Calls.since_of (RQ.out _))))
           refine wpQuiet_nil ?_;rintro _ ⟨x,rfl⟩;have H8:PJ (Pr w x.u lo hi sb xb mb Wn Hn mN V bl):=Xw.out.below x.h;have t1:=S1 x;have t2:=S2 x;clear S0 S1 S2 PW RQ Xw q1 q2 Rx;generalize x.u=y at *;obtain⟨an,rfl⟩:∃an:Nat,aa=an:=⟨aa.toNat,by have h:0<=aa/\aa<(Wn:Int)*Hn:=of_decide_eq_true PY;omega⟩;have S0:∀x:bU y,x.u.cell? ⟨xb,0,Pk⟩=OM (.pointer (OM ⟨mb,0,Pk⟩)):=fun x=>(H8.out.below x.h).rs.c0;have S1:∀x:bU y,x.u.cell? ⟨T,1,Pk⟩=OM (PE PF (an:Int)):=fun x=>(x.cell _ _ (MK y _ t1)).trans t1;have S2:∀x:bU y,x.u.cell? ⟨T,2,Pk⟩=OM (PE PF (k:Int)):=fun x=>(x.cell _ _ (MK y _ t2)).trans t2;have PW:Nonempty (bU y):=⟨⟨y,al⟩⟩;have Ql:PJ (∀x:bU y,PK prog 20 #[.pointer (OM ⟨mb,0,Pk⟩),PE PF (an:Int),PE PF (k:Int)] x.u fun e w'=>e=PM (PE PF (clr Wn Hn bl ((an:Int)%Wn) ((an:Int)/Wn) k:Nat))/\PI x.u.heap.size x.u w'):=fun x=>(zD an k x.u (H8.out.below x.h).rs.ra PY hk).mono fun e w' ⟨h1,m,h2⟩=>⟨h1,by rw[h2];exact below_drewN al _⟩;clear t1 t2;generalize clr Wn Hn bl ((an:Int)%Wn) ((an:Int)/Wn) k=cv at *;go_upto_region 36 with fail
           refine bM (by kernel_rfl) (by kernel_rfl) ?_
           repeat (go_big_quiet_step ((go_at_call 20;exact Calls.since_of (Ql.out _))))
           refine wpQuiet_nil ?_;rintro _ ⟨x,rfl⟩;have PZ:=H8.out.below x.h;clear S0 S1 S2 PW Ql H8;generalize x.u=z at *;go_wp2;go_roundw
           case rel=>exact⟨i+1,V,bl,by omega,by go_num,by omega,PZ⟩
           case measure=>simp[intOf];omega
         have n4:(kd.toList == [108,111,111,107])=false:=xA hk4;by_cases hk5:kd=⟨#[115,97,118,101]⟩
         ·subst hk5;have S0:∀x:bU wa,x.u.cell? ⟨xb,0,Pk⟩=OM (.pointer (OM ⟨mb,0,Pk⟩)):=fun x=>(RH.out.below x.h).rs.c0;have PW:Nonempty (bU wa):=⟨⟨wa,al⟩⟩;have H21:PJ (∀x:bU wa,_):=fun x=>Gy x.u (HE.out _ (RH.out.below x.h).bw).1 (HE.out _ (RH.out.below x.h).bw).2.2.2 (RH.out.below x.h).sv;have H22:PJ (∀x:bU wa,_):=fun x=>zq x.u (RH.out.below x.h).rs.ra (RH.out.below x.h).rs.lts.2;clear q1 q2 q3 q4 Wa HKQ;generalize oL bl Wn Hn=tx at *;go_upto_region 38 with fail
          refine bM (by kernel_rfl) (by kernel_rfl) ?_
          repeat (go_big_quiet_step (first|(go_at_call 21;exact Calls.since_of (H21.out _))|(go_at_call 22;exact Calls.since_of (H22.out _))))
          refine wpQuiet_nil ?_;rintro _ ⟨x,rfl⟩;have PZ:=RH.out.below x.h;clear S0 PW H21 H22 RH;generalize x.u=y at *;go_wp2;go_roundw
          case rel=>exact⟨i+1,V,bl,by omega,by go_num,by omega,PZ⟩
          case measure=>simp[intOf];omega
         have n5:(kd.toList == [115,97,118,101])=false:=xA hk5;have Qq:=DJ wa RH.out.sv;clear q1 q2 q3 q4 Wa HKQ;go_wp2_with fail;refine Qq.mono ?_;rintro e w7 ⟨rfl,Rm⟩;have P7:=RH.out.below Rm;have RN:=zW w7 P7.rs P7.sv.mst.1 P7.sv.mst.2;clear Qq RH Rm;unfold stV at *;generalize ((frN bl ((Wn:Int)*(Hn:Int)).toNat:Nat):Int)=v1 at *;generalize (((crs Wn Hn bl ((Wn:Int)*(Hn:Int)).toNat).length:Nat):Int)=v2 at *;generalize ((edN Wn Hn bl (crs Wn Hn bl ((Wn:Int)*(Hn:Int)).toNat)/2:Nat):Int)=v3 at *;generalize ((uH Wn Hn bl mN:Nat)/2:Int)=v4 at *;generalize (((lvK Wn Hn bl mN).1+1:Nat):Int)=v5 at *;generalize (Wn:Int)*(Hn:Int)=v0 at *;go_wp2_with fail;refine RN.mono ?_;rintro e w8 ⟨rfl,Rn⟩;have PZ:=P7.below Rn;clear RN P7;go_wp2;go_roundw
         case rel=>exact⟨i+1,V,bl,by omega,by go_num,by omega,PZ⟩
         case measure=>simp[intOf];omega
        ·have e:i=n:=(by omega);subst e;go_wp2;go_ret;exact⟨rfl,hP.bw⟩
end
section
open Go.ChangeShapes Go.WideShapes Go.ChangeAt Go.RowKit Go.Joins
theorem c45:prog.cellsOf 45=6:=by kernel_rfl
theorem Mz:prog.cellsOf 9=1:=by kernel_rfl
theorem c42:prog.cellsOf 42=1:=by kernel_rfl
theorem c43:prog.cellsOf 43=1:=by kernel_rfl
section
variable {H : Type} {enc : TypeId × PH → H} {W : PG} {sp : Nat → Bool} {held : Bool}
theorem KW {fuel:Nat}{c0 c1 c2 c3 c4 c5:PH}{x:DataW H×List MemPlace}(h:DataW.trod enc prog W 0 sp held fuel 45 [c0,c1,c2,c3,c4,c5]=OM x) :
  ∃y:sD,c0=.string y.kind/\c1=PE PF y.a/\c2=PE PF y.b/\c3=.slice y.eA y.en y.ec/\c4=.slice y.qA y.qn y.qc/\c5=.string y.s/\gu W y.eA y.en y.cs y.bs/\ks W y.qA y.qn y.fs y.ts:=by
 obtain⟨xs,n,_,_,_,hl,hf⟩:=DataW.trod_struct underlying45 h;have f0:DataW.trod enc prog W 0 sp held n 9 (([c0,c1,c2,c3,c4,c5].drop 0).take (prog.cellsOf 9))=xs[0]? := hf 0 _ rfl;have f1:DataW.trod enc prog W 0 sp held n 3 (([c0,c1,c2,c3,c4,c5].drop 1).take (prog.cellsOf 3))=xs[1]? := hf 1 _ rfl;have f2:DataW.trod enc prog W 0 sp held n 3 (([c0,c1,c2,c3,c4,c5].drop 2).take (prog.cellsOf 3))=xs[2]? := hf 2 _ rfl;have f3:DataW.trod enc prog W 0 sp held n 42 (([c0,c1,c2,c3,c4,c5].drop 3).take (prog.cellsOf 42))=xs[3]? := hf 3 _ rfl;have f4:DataW.trod enc prog W 0 sp held n 43 (([c0,c1,c2,c3,c4,c5].drop 4).take (prog.cellsOf 43))=xs[4]? := hf 4 _ rfl;have f5:DataW.trod enc prog W 0 sp held n 9 (([c0,c1,c2,c3,c4,c5].drop 5).take (prog.cellsOf 9))=xs[5]? := hf 5 _ rfl;have hl':xs.length=6:=hl;rw[MJ (by omega)]at f0 f1 f2 f3 f4 f5;rw[Mz]at f0 f5;rw[c3']at f1 f2;rw[c42]at f3;rw[c43]at f4;obtain⟨kd,e0,_⟩:=DataW.trod_string underlying9 f0;obtain⟨a,e1,_⟩:=DataW.trod_int underlying3 f1;obtain⟨b,e2,_⟩:=DataW.trod_int underlying3 f2;obtain⟨eA,en,ec,cs,bs,e3,_,hE⟩:=F8 (c:=c3) f3;obtain⟨qA,qn,qc,fs,ts,e4,_,hQ⟩:=Ja (c:=c4) f4;obtain⟨s,e5,_⟩:=DataW.trod_string underlying9 f5;simp at e0 e1 e2 e5;exact⟨⟨kd,a,b,eA,en,ec,cs,bs,qA,qn,qc,fs,ts,s⟩,e0,e1,e2,e3,e4,e5,hE,hQ⟩
def Ma:sD:=⟨⟨#[]⟩,0,0,Pk,0,0,fun _=>0,fun _=>PB,Pk,0,0,fun _=>0,fun _=>0,⟨#[]⟩⟩
theorem Jo {fuel:Nat}{c:PH}{x:DataW H×List MemPlace}(h:DataW.trod enc prog W 0 sp held fuel 22 [c]=OM x) :
  ∃A n cap ys,c=.slice A n cap/\n<=maxLen/\lE W A n ys:=by
 rcases Go.Deep.open_slice underlying22 h with⟨Qp,_⟩|⟨a,len,cap,m,k,D,Pl,Qp,_,hl,hm,Tl,_,hx⟩
 ·simp at Qp;exact⟨Pk,0,0,fun _=>Ma,Qp,by unfold maxLen;simp,fun i hi=>absurd hi (Nz i)⟩
 ·simp at Qp;have hlm:len<=m:=by rw[Tl];split<;>omega
  rw[c45]at hx;have Vi:0<len->a.spot=none:=by
   intro h0;obtain⟨Zd,h1,_⟩:=hx 0 (by omega);obtain⟨_,hlen,hc⟩:=OX h1;have g0:=hc 0 (by omega);rw[Go.Deep.add_add,MJ (by omega)]at g0
   simpa [Addr.add]using World.cell?_spot g0
  have key:∀i,i<len->∃y:sD,∃b o,a=⟨b,o,Pk⟩/\xw W b (o+i*6) y:=by
   intro i hi;obtain⟨Zd,h1,h2⟩:=hx i (by omega);obtain⟨_,hlen,hc⟩:=OX h1
   match Zd,hlen with
   |[c0,c1,c2,c3,c4,c5],_ =>
    obtain⟨y,rfl,rfl,rfl,rfl,rfl,rfl,hE,hQ⟩:=KW h2;have g0:=hc 0 (by omega);have g1:=hc 1 (by omega);have g2:=hc 2 (by omega);have g3:=hc 3 (by omega);have g4:=hc 4 (by omega);have g5:=hc 5 (by omega);rw[Go.Deep.add_add]at g0 g1 g2 g3 g4 g5;simp at g0 g1 g2 g3 g4 g5;have hs:=Vi (by omega);obtain⟨b,o,spot⟩:=a;simp only at hs;subst hs;rw[Go.WideShapes.add_plain]at g0 g1 g2 g3 g4 g5;exact⟨y,b,o,rfl,⟨g0,by rw[OI];exact g1,by rw[OI];exact g2,by rw[OI];exact g3,by rw[OI];exact g4,by rw[OI];exact g5,hE,hQ⟩⟩
  obtain⟨ys,hys⟩:=@Go.Deep.choose_lt sD ⟨Ma⟩ len _ key;refine⟨OM a,len,cap,ys,Qp,M5 hl hm,fun i hi=>?_⟩;obtain⟨b,o,rfl,h0⟩:=hys i hi;exact⟨b,o,rfl,mm h0.c0,h0⟩
end
end
end Go.Proofs.YtmaefimaeelkbaaGreatDoor
