/- Texts laid together. -/
import Derived.Test.YtikdmenjibkgiaaGreatDoorP5
import Derived.Shelf.SlIterI.Nil
import Derived.Shelf.SortM.Plain
import Derived.Shelf.SortM.SortNone
import Derived.Sort.OwnSortedInts
namespace Go.Proofs.YtikdmenjibkgiaaGreatDoor
open Go.Proofs.Tryz renaming underlying60->Vyg,prog->Vyj
open Go.Value renaming ownBlock->M'
open _root_.Array renaming size->G
open _root_.Nat renaming lt_of_lt_of_le->Tc,le_trans->Tg,zero_le->Te,lt_succ_self->Ur
open Go.World renaming block_lt_of_cell?->SZ,ownsRow_nil->To,cell?_alloc_at->SR,grownBy_alloc->TP,cell?_of_block->Ug,cell?->D,alloc->E,ownsRow->G'
open _root_.Or renaming inr->SP,inl->SQ
open _root_.List renaming mem_map->TX,mem_filter->TS,mem_cons_self->Tp,not_mem_nil->Uf,mem_cons->TD,map_map->U7,mem_singleton->Tv,length->K
open Go.Proofs.Tryz
open _root_.Option renaming some->Z,none->UP
open _root_.Bool renaming true->Q,false->Vl
open Go renaming World->M,Value->Vr,below_drewN->Vxj,bodyPost_ret->Vxl
open Go.RowKit renaming Hid->Vy
open Go.Ending renaming returned->VJ
open Go.Obj renaming cells->VP
variable {W H V a t z:Int}{xs:Nat->Int}{i e n b k base:Nat}{c:Int×Int}{w I:M}{v:Vr}
set_option maxHeartbeats 8000000
set_option maxRecDepth 1000000
open Go.RowKit
def q9 (W H:Int) (Y:Bn) (a b:Int):Option Nat:=(List.range 8).find? (λ d=>bu W H Y (a%W) (a/W) d&&(a+(af d*W+ah d)==b))
def wk1 (W H:Int) (Y:Bn) (xs:Nat->Int) (i:Nat) (c:Int×Int):Except Int (Int×Int) :=
 if ffv W H Y (xs i)=0 then (if i=0 then .ok c else match q9 W H Y (xs (i-1)) (xs i) with|none=>.error 7|some k=>.ok (c.1+stS k,c.2+stD k)) else .error (ffv W H Y (xs i))
def wkS (W H:Int) (Y:Bn) (xs:Nat->Int):Nat->Except Int (Int×Int)
 |0=>.ok (0,0)
 |i+1=>match wkS W H Y xs i with|.error e=>.error e|.ok c=>wk1 W H Y xs i c
def wkV (W H:Int) (Y:Bn) (xs:Nat->Int) (n:Nat):(Int×Int)×Int:=if n=0 then ((0,0),7) else match wkS W H Y xs n with|.error e=>((0,0),e)|.ok c=>(c,0)
theorem IN {Y:Bn}{e:Int}(h:wkS W H Y xs i=.error e):∀n,i<=n->wkS W H Y xs n=Except.error e:=by
 intro n b
 induction n with
 |zero=>have:i=0:=U
        subst this;exact h
 |succ n a =>
  by_cases q:i=n+1;subst q;exact h;rw[wkS,a U]
theorem FV {Y:Bn}{e:Int}(h:wkS W H Y xs i=.error e)(a:i<=n)(b:0<n):wkV W H Y xs n=((0,0),e):=by grind [wkV,IN]
theorem My {Y:Bn}(h:wkS W H Y xs n=.ok c)(a:0<n):wkV W H Y xs n=(c,0):=by grind [wkV]
theorem kW {Y:Bn}(h:wkS W H Y xs i=.ok c):wkS W H Y xs (i+1)=wk1 W H Y xs i c:=by
 rw[wkS,h]
theorem BX {Y:Bn}(h:wkS W H Y xs (i+1)=.ok c):∃a,wkS W H Y xs i=.ok a/\wk1 W H Y xs i a=.ok c:=by grind [wkS]
theorem QA {Y:Bn}:∀{i:Nat}{c:Int×Int},wkS W H Y xs i=.ok c->0<=c.1/\c.1<=i/\0<=c.2/\c.2<=i:=by
 intro i
 induction i with
 |zero=>intro c h;rw[wkS]at h;cases h;decide
 |succ i d =>
  intro c h;obtain⟨j,e,a⟩:=BX h;have:=d e;unfold wk1 at a;by_cases g:ffv W H Y (xs i)=0;rw[Q5 g]at a;by_cases f:i=0
  grind
  rw[Q6 f]at a;cases b:q9 W H Y (xs (i-1)) (xs i) with
  |none=>rw[b]at a;cases a
  |some k =>
   rw[b]at a;cases a;have:=ji k;simp only;omega
  grind
theorem QB {Y:Bn}(h:wkS W H Y xs (i+1)=.ok c):inB W H (xs i)=true:=by grind [BX,wk1,ffv,inB]
theorem QC {Y:Bn}(c:Int)(w:M)(g:bo w b W H V Y)(a:inB W H c=Vl) :
  Rq 69 #[Pq b,J c] w (J 1):=by
 go_enter func69,ntmps69;go_wp2_with (go_at_call 38;refine QQ (yj c _ g a) λ m=>?_);go_ret;exact⟨rfl,Vxj ae _⟩
theorem RU {Y:Bn}(c:Nat)(w:M)(g:bo w b W H V Y)(a:inB W H c=Q) :
  Rq 69 #[Pq b,J c] w (J (if Y c then 4 else 0)):=by
 have j:0<=(c:Int)/\(c:Int)<W*H:=Q1 a;obtain⟨h,f⟩:=bG g.w1 g.w2 g.h1 g.h2;have e:=g.cs c U;have i:(c:Int)<256:=U;cases d:Y c with
 |true =>
  rw[d]at e;go_enter func69,ntmps69;go_wp2_with (go_at_call 38;refine QQ (pj c _ g a) λ m=>?_);go_ret;exact⟨rfl,Vxj ae _⟩
 |false =>
  rw[d]at e;go_enter func69,ntmps69;go_wp2_with (go_at_call 38;refine QQ (pj c _ g a) λ m=>?_);go_ret;exact⟨rfl,Vxj ae _⟩
theorem Eh {Y:Bn}(c:Int)(w:M)(g:bo w b W H V Y) :
  Rq 69 #[Pq b,J c] w (J (ffv W H Y c)):=by
 cases a:inB W H c with
 |false =>
  have e:ffv W H Y c=1:=by unfold ffv;rw[a];rfl
  rw[e];exact QC c w g a
 |true =>
  have d:0<=c/\c<W*H:=Q1 a;obtain⟨n,rfl⟩:∃n:Nat,c=n:=⟨c.toNat,U⟩;have e:ffv W H Y n=if Y n then 4 else 0:=by unfold ffv;rw[a];rfl
  rw[e];exact RU n w g a
theorem Mz {d:Nat}(f:d<8)(c:e<8)(b:ah d=ah e)(a:af d=af e):d=e:=by
 have h:∀d:Fin 8,∀e:Fin 8,ah d=ah e->af d=af e->d=e:=dQ;have:=h ⟨d,f⟩ ⟨e,c⟩ b a;exact Q7 Fin.val this
theorem FW {H:Int}{Y:Bn}{d:Nat}(c:1<=W)(o:d<8)(n:e<8)(md:bu W H Y (a%W) (a/W) d=Q)(j:bu W H Y (a%W) (a/W) e=Q)(h:a+(af d*W+ah d)=a+(af e*W+ah e)):d=e:=by
 have b:∀{k:Nat},bu W H Y (a%W) (a/W) k=Q->(a+(af k*W+ah k))%W=a%W+ah k/\(a+(af k*W+ah k))/W=a/W+af k:=by
  intro k mk;obtain⟨_,i,_,_⟩:=fZ mk;obtain⟨s,r,q,p⟩:=lj i;have e:a+(af k*W+ah k)=(a/W+af k)*W+(a%W+ah k):=by
   have:=gC W a;rw[Int.add_mul];omega
  obtain⟨t,g,f⟩:=pX (H:=H) c s r q p;rw[e,g,f];exact⟨rfl,rfl⟩
 obtain⟨m,l⟩:=b md;obtain⟨v,u⟩:=b j;rw[h]at m l;exact Mz o n U U
def re (W a t:Int) (d:Nat):Bool:=a+(af d*W+ah d)==t
theorem IP {Y:Bn}{l:Ln}(b:yq W H Y a l):l.find? (re W a t)=q9 W H Y a t:=by
 rw[<- b.eq];unfold mvs q9;rw[List.find?_filter]
 congr 1
 funext d
 unfold re;rw[Bool.eq_iff_iff];simp
theorem IQ {l:Ln}{p:Bn}{q:Nat}(a:q<K l):(l.take (q+1)).find? p=((l.take q).find? p).or (if p (l.getD q 0) then Z (l.getD q 0) else UP):=by grind [List.take_add_one,List.getElem?_eq_getElem,bL]
theorem IS {Y:Bn}{l:Ln}{q:Nat}(o:1<=W)(f:yq W H Y a l)(e:q<K l)(h:(l.take q).find? (re W a t)=Z k):re W a t (l.getD q 0)=false:=by
 cases d:re W a t (l.getD q 0) with
 |false=>rfl
 |true =>
  exfalso;have c:re W a t k=true:=List.find?_some h;have w:=List.mem_of_find?_eq_some h;obtain⟨j,p,b⟩:=List.mem_iff_getElem.mp w;rw[List.length_take]at p;rw[List.getElem_take]at b;have mk:∀i (g:i<K l),l[i]<8/\bu W H Y (a%W) (a/W) l[i]=true:=λ i g=>by
   have x:i<K (mvs W H Y (a%W) (a/W) 8):=(by rw[f.eq];exact g);have:=mC x;rw[f.eq,bL _ _ g]at this;exact this
  have n:j<K l:=U;obtain⟨v,u⟩:=mk j n;obtain⟨s,r⟩:=mk q e;unfold re at d c;rw[bL _ _ e]at d;rw[beq_iff_eq]at d c;rw[<- b]at c;have:=FW o v s u r (by rw[c,d]);have m:=tX W H (a%W) (a/W) Y 8;rw[f.eq,List.pairwise_iff_getElem]at m;have:=m j q n e U;omega
def RW (s d:Int) (o:Option Nat):Int×Int:=match o with|none=>(s,d)|some k=>(s+stS k,d+stD k)
theorem IT {b cap:Nat}{A:Oa}{W H V:Int}{Y:Bn}(w:M)(g:bo w b W H V Y)(hb:b<G w.heap)(hx:bP w A n xs)(hn:n<=1000) :
  Rq 71 #[Pq b,.slice A n cap] w (.tuple #[.agg #[J (wkV W H Y xs n).1.1,J (wkV W H Y xs n).1.2],J (wkV W H Y xs n).2]):=by
 have R0:bz ((E w (VP #[J 0,J 0] 90)).alloc (VP #[J 0,J 0] 90)) (G w.heap) 0 0:=(bz.new w 0 0).below (ae.alloc aa _);have S0:bz ((E w (VP #[J 0,J 0] 90)).alloc (VP #[J 0,J 0] 90)) (G w.heap+1) 0 0:=by
  have:=bz.new (E w (VP #[J 0,J 0] 90)) 0 0;have e:G (E w (VP #[J 0,J 0] 90)).heap=G w.heap+1:=by simp
  rw[e]at this;exact this
 have YO:Bq w ((E w (VP #[J 0,J 0] 90)).alloc (VP #[J 0,J 0] 90)):=(ae.alloc aa _).alloc sQ _;have ag:=g.w1;obtain⟨a6,a5⟩:=bG g.w1 g.w2 g.h1 g.h2;go_enter func71,ntmps71;go_wp2;go_loopg [7] n (λ gk iv wr=>∃(i:Nat) (c:Int×Int),i<=n/\gk=n-i/\iv=J i/\wkS W H Y xs i=.ok c/\bz wr (G w.heap) 0 0/\bz wr (G w.heap+1) c.1 c.2/\Bq w wr)
 case atStart=>exact⟨0,(0,0),U,rfl,rfl,rfl,R0,S0,YO⟩
 case round =>
  clear R0 S0 YO;obtain⟨i,⟨s,d1⟩,hi,WV,rfl,hw,R,S,u⟩:=hrel;have HG:=qH WV;clear WV;have gr:=g.below u hb;have Yu:=QA hw;simp only at Yu S;by_cases VS:i<n
  ·have bp:(i:Int)<(n:Int):=U;obtain⟨ba,oa,rfl,Zp,VX⟩:=hx i VS;have ci:=(u.cell (p:=O ba (oa+i)) Zp).trans VX;clear VX;have XU:=Eh (xs i) wr gr;by_cases P:ffv W H Y (xs i)=0
   ·rw[P]at XU;by_cases ac:i=0
    ·subst ac;have be:Cq wr ba oa (J (xs 0)):=ci;have WG:wkS W H Y xs (0+1)=.ok (s,d1):=(by rw[kW hw];unfold wk1;rw[Q5 P,Q5 rfl]);go_wp2_with (go_at_call 69;refine Q9 XU λ w1 a=>?_);go_roundg (n-(0+1))
     case measure=>have:=HG.out;omega
     case rel=>exact⟨0+1,(s,d1),U,rfl,gQ,WG,R.below a,S.below a,aj u a⟩
    ·have aL:((i:Int)==0)=false:=(by simp;omega);have ay:¬(i:Int)=0:=U;have We:inB W H (xs (i-1))=true:=QB (i:=i-1) (by rw[Nat.sub_add_cancel U];exact hw);have Y4:=Q1 We;obtain⟨bf,a4,e,bi,W8⟩:=hx (i-1) U;cases e;have cp:=(u.cell (p:=O ba (oa+(i-1))) Zp).trans W8;have a7:((i:Int)-1).toNat=i-1:=U;have j1:(0:Int)<=(i:Int)-1:=U;have j2:(i:Int)-1<(n:Int):=U;obtain⟨l,hl⟩:=Jw (W:=W) (H:=H) Y (xs (i-1)) ag;clear W8;go_wp2_with (go_at_call 69;refine Q9 XU λ w1 a=>?_;have cp:=al a cp;have ci:=al a ci);refine(BU hl w1 (gr.below a (Tc hb u.size)) We (Tc (Tc hb u.size) a.size)).mono ?_;rintro e w2 ⟨A1,bn,rfl,⟨VU,Xg⟩,z⟩;have a1:∀g o,A1=Z (O g o)->G wr.heap<=g:=λ g o e=>Tg a.size (Xg g o e);have bd:G w.heap+1<G wr.heap:=SZ wr _ S.c0;have B:Bq wr w2:=aj a z;have R2:=R.below B;have S2:=S.below B;have XJ:=aj u B;have cp:=al z cp;have ci:=al z ci;clear R S a z XU gr B;have ax:=hl.len;obtain⟨L,hL⟩:∃L,K l=L:=⟨_,rfl⟩;have HL:=qH hL;rw[hL]at VU ax ⊢;clear hL;have bq:=qH Y4;have au:-1000<=xs (i-1):=U;have ap:xs (i-1)<=1000:=U;clear Y4;go_wp2;go_loopg [10,11] L (λ gk fv kv wq=>∃(q:Nat) (o:Option Nat),q<=L/\gk=L-q/\fv=.bool o.isSome/\kv=J q/\(l.take q).find? (re W (xs (i-1)) (xs i))=o/\bz wq (G w.heap) 0 0/\bz wq (G w.heap+1) (RW s d1 o).1 (RW s d1 o).2/\ai (λ k=>k=G w.heap+1) w2 wq)
     case atStart=>exact⟨0,UP,U,rfl,rfl,rfl,rfl,R2,S2,ai.refl _ _⟩
     case round =>
      clear R2 S2;obtain⟨q,o,hq,am,rfl,rfl,m,T,S3,K3⟩:=hrel;have aw:=qH am;clear am;have C:Bq w wr:=XJ.trans (K3.Z' XJ.size (λ k hk=>U));have g3:=g.below C hb;have cp3:Cq wr ba (oa+(i-1)) (J (xs (i-1))):=K3.cellOf cp (by show ¬ba=_;omega);have ao:Cq wr ba (oa+i) (J (xs i)):=K3.cellOf ci (by show ¬ba=_;omega);by_cases N:q<L
      ·have bm:(q:Int)<(L:Int):=U;have a9:(0:Int)<=(q:Int):=U;have ab:q<K l:=(by rw[HL.out];exact N);obtain⟨bs,os,rfl,bb,VX⟩:=VU q N;have bc:=a1 bs os rfl;have cl:Cq wr bs (os+q) (J ((l.getD q 0:Nat):Int)):=K3.cellOf VX (by show ¬bs=_;omega);clear VX VU;have an:=hl.lt q ab;have j:=IQ (p:=re W (xs (i-1)) (xs i)) ab;rw[m]at j;cases y:re W (xs (i-1)) (xs i) (l.getD q 0) with
       |false =>
        rw[y]at j;have ad:(l.take (q+1)).find? (re W (xs (i-1)) (xs i))=o:=(by rw[j];cases o<;>rfl);unfold re at y;have XV:=λ w g=>EF (b:=b) (W:=W) (H:=H) (V:=V) (Y:=Y) (c:=xs (i-1)) (d:=l.getD q 0) rfl w g an au ap;generalize xs (i-1)+(af (l.getD q 0)*W+ah (l.getD q 0))=r at *;generalize l.getD q 0=f at *;have a8:¬r=xs i:=by simpa using y
        clear j y m;go_wp2;go_quiet ((go_at_call 68;exact Calls.quiet_of_same (XV _ (g3.drewN _))));go_wp2;go_roundg (L-(q+1))
        case measure=>have:=aw.out;omega
        case rel=>exact⟨q+1,o,U,rfl,rfl,gQ,ad,T.below (Vxj ae _),S3.below (Vxj ae _),K3.drewN _⟩
       |true =>
        cases o with
        |some k=>exact Q8 (IS ag hl ab m) (by rw[y];simp)
        |none =>
         rw[y]at j;have ad:(l.take (q+1)).find? (re W (xs (i-1)) (xs i))=Z (l.getD q 0):=j;unfold re at y;have XV:=λ w g=>EF (b:=b) (W:=W) (H:=H) (V:=V) (Y:=Y) (c:=xs (i-1)) (d:=l.getD q 0) (r:=xs i) (by simpa using y) w g an au ap;generalize l.getD q 0=f at *;clear j y m;go_wp2;go_quiet ((go_at_call 68;exact Calls.quiet_of_same (XV _ (g3.drewN _))));go_wp2;have bl:Int.tmod (f:Int) 2=stD f:=(by unfold stD;rw[Int.tmod_eq_emod_of_nonneg U];omega);have bk:1-stD f=stS f:=(by unfold stS stD;omega);have Wq:=ji f;have a3:okC s d1:=(by unfold okC;omega);have a2:okC (stS f) (stD f):=(by unfold okC;omega);have WW:=λ w=>nI s d1 (stS f) (stD f) w a3 a2;have hu:IntKind.i64.wrap (stS f)=stS f:=fX U U;have t:bz (wr.drewN nq).drew (G w.heap+1) s d1:=⟨S3.c0,S3.c1,S3.z0,S3.z1⟩;have R4:bz (wr.drewN nq).drew (G w.heap) 0 0:=⟨T.c0,T.c1,T.z0,T.z1⟩;have K4:=(K3.drewN nq).drew;have cl:Cq (wr.drewN nq).drew bs (os+q) (J (f:Int)):=cl;have I:=t.c0;have F:=t.c1;have x2:=t.z0;have X:=t.z1;clear S3 T K3 C g3 cp3 ao XV;generalize wr.drewN nq=W4 at *;go_region_with (first|(go_at_call 112;refine Q9 (WW _) λ w5 VW=>?_;have R4:=R4.below VW;have t:=t.below VW;have K4:=K4.below VW;have I:=t.c0;have F:=t.c1;have x2:=t.z0;have X:=t.z1))
         all_goals
          clear WW I F x2 X cl;have S6:=t.set (s+stS f) (d1+stD f);have R6:=R4.X' (fq _ (G w.heap+1) (s+stS f) (d1+stD f)) U;have K6:=K4.trans (fq _ (G w.heap+1) (s+stS f) (d1+stD f)) (λ _ _ h=>h);clear t R4 K4;go_wp2;go_roundg (L-(q+1))
          case measure=>have:=aw.out;omega
          case rel=>exact⟨q+1,Z f,U,rfl,rfl,gQ,ad,R6,S6,K6⟩
      ·have:q=L:=U;subst this;rw[List.take_of_length_le (by rw[HL.out];exact aa),IP hl]at m;clear cp3 ao cp ci;cases o with
       |none =>
        have WG:wkS W H Y xs (i+1)=.error 7:=(by rw[kW hw];unfold wk1;rw[Q5 P,Q6 ac,m]);have hV:=FV WG U (show 0<n by omega);obtain⟨I,F,x2,X⟩:=T;go_wp2;have x:=nF wr (G w.heap) 0 0 I F;exact Vxl (v:=.tuple #[.agg #[J 0,J 0],J 7]) (by simp[results,results71,go_sem,x.1,x.2]) rfl ⟨by rw[hV],(C.setCell (p:=O (G w.heap) 0) aa _).setCell (p:=O (G w.heap) 1) aa _⟩
       |some k =>
        have WG:wkS W H Y xs (i+1)=.ok (s+stS k,d1+stD k):=(by rw[kW hw];unfold wk1;rw[Q5 P,Q6 ac,m]);go_wp2;go_roundg (n-(i+1))
        case measure=>have:=HG.out;omega
        case rel=>exact⟨i+1,(s+stS k,d1+stD k),U,rfl,gQ,WG,T,S3,C⟩
   ·have WG:wkS W H Y xs (i+1)=.error (ffv W H Y (xs i)):=(by rw[kW hw];unfold wk1;rw[Q6 P]);have hV:=FV WG U (show 0<n by omega);have YW:0<ffv W H Y (xs i):=by
     unfold ffv at P ⊢;split
     ·rename_i h;rw[Q5 h]at P
      split
      ·omega
      ·rename_i h2;rw[Q6 h2]at P;omega
     ·omega
    generalize ffv W H Y (xs i)=a0 at *;go_wp2_with (go_at_call 69;refine Q9 XU λ w1 a=>?_;have R:=R.below a;have u:=aj u a;obtain⟨I,F,x2,X⟩:=R);have x:=nF w1 (G w.heap) 0 0 (bz.mk I F x2 X).c0 (bz.mk I F x2 X).c1;exact Vxl (v:=.tuple #[.agg #[J 0,J 0],J a0]) (by simp[results,results71,go_sem,x.1,x.2]) rfl ⟨by rw[hV],(u.setCell (p:=O (G w.heap) 0) aa _).setCell (p:=O (G w.heap) 1) aa _⟩
  ·have:i=n:=U;subst this;obtain⟨y0,y1,y2,y3⟩:=R;obtain⟨I,F,x2,X⟩:=S;by_cases aN:i=0
   ·subst aN;have hV:wkV W H Y xs 0=((0,0),7):=rfl;go_wp2;have x:=nF wr (G w.heap) 0 0 (bz.mk y0 y1 y2 y3).c0 (bz.mk y0 y1 y2 y3).c1;exact Vxl (v:=.tuple #[.agg #[J 0,J 0],J 7]) (by simp[results,results71,go_sem,x.1,x.2]) rfl ⟨by rw[hV],(u.setCell (p:=O (G w.heap) 0) aa _).setCell (p:=O (G w.heap) 1) aa _⟩
   ·have hV:=My hw (show 0<i by omega);have aL:((i:Int)==0)=false:=(by simp;omega);have ay:¬(i:Int)=0:=U;go_wp2;have x:=nF wr (G w.heap) s d1 (bz.mk y0 y1 y2 y3).c0 (bz.mk y0 y1 y2 y3).c1;exact Vxl (v:=.tuple #[.agg #[J s,J d1],J 0]) (by simp[results,results71,go_sem,x.1,x.2]) rfl ⟨by rw[hV],(u.setCell (p:=O (G w.heap) 0) aa _).setCell (p:=O (G w.heap) 1) aa _⟩
def dF (i:Nat):Nat:=[1,3,5,7,0,2,4,6].getD i 0
theorem MA (i:Nat):dF i<8:=by
 unfold dF;by_cases h:i<8;rcases k8 h with rfl|rfl|rfl|rfl|rfl|rfl|rfl|rfl<;>decide
 rw[List.getD_eq_getElem?_getD,List.getElem?_eq_none sU];decide
def ch (w:M):Prop:=∀i,i<8->D w (O 5 i)=Z (J (dF i:Nat))
theorem ch.pos (h:ch w):5<G w.heap:=SZ w _ (h 0 dQ)
theorem ch.below (h:ch w)(a:Bq w I):ch I:=by grind [ch,dF,Go.RowKit.Below.cell,ch.pos]
def onB (W H:Int) (Y:Bn) (c t:Int) (k:Nat):Bool:=bu W H Y (c%W) (c/W) k&&nA (c%W) (c/W) (t%W) (t/W) k
def onw (W H:Int) (Y:Bn) (c t:Int) (n:Nat):Ln:=((List.range n).filter λ i=>onB W H Y c t (dF i)).map λ i=>tgt W c (dF i)
theorem nL (W H:Int)(Y:Bn)(c t:Int)(n:Nat):onw W H Y c t (n+1)=onw W H Y c t n++(if onB W H Y c t (dF n) then [tgt W c (dF n)] else []):=by grind [onw,onB,dF,tgt,List.range_succ,List.filter_cons_of_neg,Bool.false_eq_true,not_false_eq_true,List.filter_cons_of_pos]
theorem zn (W H:Int)(Y:Bn)(c t:Int)(n:Nat):K (onw W H Y c t n)<=n:=by grind [onw]
abbrev dgV:Value:=.agg #[J 1,J 3,J 5,J 7,J 0,J 2,J 4,J 6]
theorem OH {b:Nat}{H V c x y u v:Int}{Y:Bn}(w:M)(g:aq w b W H V Y)(s:az w)(d:ch w)(hb:b<G w.heap)
  (hx:c%W=x) (hy:c/W=y) (C:t%W=u) (hv:t/W=v)
  (hP:∀w,aq w b W H V Y->Dq 123 #[Pq b,J c] w (.tuple #[J x,J y,.nilIface]))
  (hQ:∀w,aq w b W H V Y->Dq 123 #[Pq b,J t] w (.tuple #[J u,J v,.nilIface]))
  (x1:0<=x) (x2:x<=50) (y1:0<=y) (y2:y<=50) (u1:0<=u) (u2:u<=50) (v1:0<=v) (v2:v<=50) (c1:0<=c) (c2:c<=300) :
  Zq 194 #[Pq b,J c,J t] w λ e I=>∃v,e=VJ v /\
   I.ownsRow (G w.heap) 3 1 v (K (onw W H Y c t 8)) (aH (onw W H Y c t 8))/\Bq w I:=by
 obtain⟨i0,hi,VZ,Wa,Wc⟩:=info_parts Tryz.Vxg;have d0:=d 0 dQ;have d1:=d 1 dQ;have d2:=d 2 dQ;have d3:=d 3 dQ;have d4:=d 4 dQ;have d5:=d 5 dQ;have d6:=d 6 dQ;have d7:=d 7 dQ;simp only[show dF 0=1 from rfl,show dF 1=3 from rfl,show dF 2=5 from rfl,show dF 3=7 from rfl,show dF 4=0 from rfl,show dF 5=2 from rfl,show dF 6=4 from rfl,show dF 7=6 from rfl]at d0 d1 d2 d3 d4 d5 d6 d7;go_enter func194,ntmps194;go_wp2_with fail;refine QQ (hP _ g) λ m1=>?_;go_wp2_with fail;refine QQ (hQ _ (g.drewN _)) λ m2=>?_;clear hP hQ;go_wp2;go_loopw [13,31] (λ v i wr=>∃k:Nat,k<=8/\i=J k/\G' wr (G w.heap) 3 1 v (K (onw W H Y c t k)) (aH (onw W H Y c t k))/\Bq w wr)
  (λ _ i _=>8-(intOf i).toNat)
 case atStart=>exact⟨0,Te _,rfl,To _ _ _ _,Vxj ae _⟩
 case round =>
  obtain⟨k,hk,rfl,a,l⟩:=hrel;have hl:=zn W H Y c t k;have L:=g.below l hb;have o:=s.below l U;have Ws:=l.size;by_cases VS:k<8
  ·have ac:∀w,(Instr.index 210 dgV (J k)).run Vyj w=.ok (J (dF k:Nat)) w:=λ w=>by
    rcases k8 VS with rfl|rfl|rfl|rfl|rfl|rfl|rfl|rfl<;>kernel_rfl
   have r:=MA k;have A:=nL W H Y c t k;have B:onB W H Y c t (dF k)=(bu W H Y x y (dF k)&&nA x y u v (dF k)):=(by unfold onB;rw[hx,hy,C,hv]);have p:c+(af (dF k)*W+ah (dF k))=(tgt W c (dF k):Int)\/bu W H Y x y (dF k)=false:=by
    cases f:bu W H Y x y (dF k) with
    |false=>exact SP rfl
    |true =>
     left;rw[<- hx,<- hy]at f;exact(nG g.w1 f).symm
   generalize dF k=q at *;generalize tgt W c q=z at *;clear hx hy C hv;cases f:bu W H Y x y q with
   |false =>
    have HS:Vy (onw W H Y c t (k+1)=onw W H Y c t k):=(by rw[A,B,f];simp[Vy]);clear A B p;go_wp2_with (go_at_call 173;refine QQ (wC f _ L o r U U U U) λ m=>?_);go_roundw
    case rel=>exact⟨k+1,U,gQ,by rw[HS.out];exact a,Vxj l _⟩
    case measure=>simp[intOf];omega
   |true =>
    have F:c+(af q*W+ah q)=(z:Int):=p.resolve_right (by rw[f];decide);clear p;cases P:nA x y u v q with
    |false =>
     have HS:Vy (onw W H Y c t (k+1)=onw W H Y c t k):=(by rw[A,B,f,P];simp[Vy]);clear A B;go_wp2_with (first|(go_at_call 173;refine QQ (wC f _ L o r U U U U) λ m=>?_)|(go_at_call 234;refine Q9 (nD P _ (o.drewN _) r x1 x2 y1 y2 u1 u2 v1 v2) λ n R=>?_));have h:Bq wr n:=(Vxj ae m).trans R;go_roundw
     case rel=>exact⟨k+1,U,gQ,by rw[HS.out];exact ak a h,l.trans (h.mono Ws)⟩
     case measure=>simp[intOf];omega
    |true =>
     have HS:Vy (onw W H Y c t (k+1)=onw W H Y c t k++[z]):=(by rw[A,B,f,P];simp[Vy]);clear A B;have XV:=λ w g s=>QM (b:=b) (H:=H) (V:=V) (Y:=Y) F w g s r U U;clear F;go_wp2_with (first|(go_at_call 173;refine QQ (wC f _ L o r U U U U) λ m=>?_)|(go_at_call 234;refine Q9 (nD P _ (o.drewN _) r x1 x2 y1 y2 u1 u2 v1 v2) λ n R=>?_));have h:Bq wr n:=(Vxj ae m).trans R;have g4:=L.below h U;have s4:=o.below h U;have S:=ak a h;have T:=l.trans (h.mono Ws);clear R h a l L o;refine QQ (XV _ g4 s4) λ X=>?_;clear XV g4 s4;have ab:=T.size;go_wp2_with (at_builtin;refine wpList_append_own _ rfl _ _ 60 rfl (G w.heap) 3 i0 (J 0) 1 8 Vyg hi VZ Wa Wc rfl dQ _ _ _ rfl (World.ownsRow.alloc (show G' (n.drewN X) (G w.heap) 3 1 _ _ _ from S) _) (O (G n.heap) 0) 1 1 [J z] rfl rfl ?c1 ?c2 ?c3 ?c4 ?c5 ?_)
     case c1 =>
      intro j u N
      match j,N with
      |0,N =>
       simp at N;subst N;simp only[Addr.add];exact SR (w:=n.drewN X) #[J z] 3 (G n.heap) 0 rfl
     case c2=>intro u C;simp at C;subst C;rfl
     case c3=>unfold maxLen;omega
     case c4=>omega
     case c5=>simp;omega
     intro v' w6 VR VQ _;have VV:=λ q hq=>(S.lt q hq).1;have B1:Bq w w6:=((Vxj T X).alloc ab _).grown VQ sU VV;have O1:G' w6 (G w.heap) 3 1 v' (K (onw W H Y c t (k+1))) (aH (onw W H Y c t (k+1))):=by
      rw[HS.out]
      simpa [aH]using VR
     clear VR VQ S T;go_wp2;go_roundw
     case rel=>exact⟨k+1,U,gQ,O1,B1⟩
     case measure=>simp[intOf];omega
  ·have:k=8:=U;subst this;go_wp2;go_ret;exact⟨_,rfl,a,l⟩
theorem BY {c:Int}{Y:Bn}{l:Ln}(p:onw W H Y c t 8=l)(w:M)(g:aq w b W H V Y)(s:az w)(d:ch w)(r:b<G w.heap)(h:inB W H c=Q)(j:inB W H t=Q) :
  Zq 194 #[Pq b,J c,J t] w λ e I=>∃A f,e=VJ (.slice A (K l) f)/\bP I A (K l) (λ i=>(l.getD i 0:Nat))/\Bq w I:=by
 obtain⟨m,z,k,y⟩:=dY g.w1 h;obtain⟨u1,u2,n,B⟩:=dY g.w1 j;have F:=g.w2;have L:=g.h2;have o:0<=c/\c<W*H:=Q1 h;have C:=bG g.w1 g.w2 g.h1 g.h2;refine(OH w g s d r rfl rfl rfl rfl (λ w g=>eK c w g h) (λ w g=>eK t w g j) m U k U u1 U n U o.1 U).mono ?_;rintro e I ⟨v,q,a,u⟩;rw[p]at a;obtain⟨A,f,rfl,x⟩:=jk a;exact⟨A,f,q,x,u⟩
theorem FX {c:Int}{Y:Bn}{z:Nat}(d:1<=W)(e:inB W H c=Q):z∈onw W H Y c t 8↔∃k,aF W H Y c k z/\fY (c%W) (c/W) (t%W) (t/W) k:=by
 unfold onw;rw[TX];constructor;rintro⟨i,a,rfl⟩;rw[TS]at a;have h:=a.2;unfold onB at h;rw[Bool.and_eq_true]at h;refine⟨dF i,⟨MA i,e,h.1,?_⟩,jd.1 h.2⟩;exact nG d h.1;rintro⟨k,⟨f,_,l,j⟩,g⟩;have b:∃i,i<8/\dF i=k:=by
  rcases k8 f with rfl|rfl|rfl|rfl|rfl|rfl|rfl|rfl
  exact⟨4,dQ,rfl⟩;exact⟨0,dQ,rfl⟩;exact⟨5,dQ,rfl⟩;exact⟨1,dQ,rfl⟩;exact⟨6,dQ,rfl⟩;exact⟨2,dQ,rfl⟩;exact⟨7,dQ,rfl⟩;exact⟨3,dQ,rfl⟩
 obtain⟨i,a,rfl⟩:=b;refine⟨i,TS.2 ⟨List.mem_range.2 a,?_⟩,?_⟩
 grind [onB,jd]
 grind [nG]
theorem IU {a b:Nat}{g c:Int->Bool}(w:M)(r:aU w a g)(l:aU w b c)(VY:a≠b) :
  Zq 233 #[.map (Z a),.map (Z b)] w λ e I=>e=VJ (.tuple #[])/\(∃T,aU I a T/\∀z,T z=Q↔g z=Q\/c z=Q)/\ai (λ k=>k=a) w I:=by
 have Yu:=r.lt;have H:=l.lt;go_enter func233,ntmps233;go_wp2_with (first|(at_range;refine cO rfl _ 230 rfl 3 279 aV Tryz.u9 b _ _ rfl l.mp ?_;intro w0 S u C)|go_in);go_frame;go_loopg [] (cM c 256) (λ L wr=>∃left cnt T,L=cnt/\BC wr b (G w.heap) c left cnt/\aU wr a T/\Vy (∀z,T z=Q↔g z=Q\/(c z=Q/\left z=Vl))/\ai (λ k=>k=a) w wr)
 case atStart =>
  refine⟨_,_,g,rfl,S,r.grown u sQ,λ z=>?_,(ai.refl _ _).grown u sQ⟩;rw[eF];cases c z<;>simp
 case round =>
  obtain⟨left,cnt,T,WV,X,s,A,t⟩:=hrel;go_wp2_with (first|(at_next;refine di rfl _ rfl 3 aV b (G w.heap) _ _ _ _ rfl X ?_ ?_)|go_in)
  ·intro F Y;go_wp2;go_end0;exact⟨rfl,⟨T,s,λ z=>(A.out z).trans ⟨λ h=>h.imp id (λ q=>q.1),λ h=>h.imp id (λ q=>⟨q,Y z⟩)⟩⟩,t⟩
  ·intro x v i y P Yp V WU VS B Yy ZG;obtain⟨f,rfl⟩:=kT V;have N:=s.grown B (λ e=>by have:=Option.some.inj e;omega);have o:=N.grown (TP i (VP #[] 279) UP) sQ;have p:=l.bd x f;have n:ai (λ k=>k=a) w i:=t.grown B (λ k e h=>by cases e;omega);have XM:=WU.grown (TP i (VP #[] 279) UP) sQ sQ;go_wp2_with (first|(at_mapUpdate;refine ef rfl _ _ _ 230 rfl 3 279 aV Tryz.u9 a _ _ rfl o.mp o.room x (.agg #[]) rfl rfl P ?_;intro w2 R j;go_frame)|go_in);have m:=o.put p.1 p.2 R;have d:=j.grown;have W:=XM.grown d (λ e=>VY (Option.some.inj e).symm) (λ e=>by have:=Option.some.inj e;omega);go_roundg y
   case measure=>omega
   case rel =>
    refine⟨_,y,_,rfl,W,m,λ z=>?_,((n.alloc _).grown d (λ k e _=>(Option.some.inj e).symm))⟩;rw[cW,A.out z];by_cases e:z=x
    ·subst e;simp[f]
    ·simp[e]
theorem rf {c:Int}{Y:Bn}{l:Ln}(a:1<=W)(m:inB W H c=Q)(g:onw W H Y c t 8=l) :
  (∃i,i<K l/\z=((l.getD i 0:Nat):Int))↔∃k,aF W H Y c k z/\fY (c%W) (c/W) (t%W) (t/W) k:=by
 constructor
 grind [bL,List.getElem_mem,FX]
 rintro⟨k,e,j⟩;have f:0<=z/\z<W*H:=Q1 (e.in' a);have b:z.toNat∈onw W H Y c t 8:=(FX a m).2 ⟨k,by rw[Int.toNat_of_nonneg f.1];exact e,j⟩;rw[g]at b;obtain⟨i,d,h⟩:=List.getElem_of_mem b;refine⟨i,d,?_⟩;rw[bL _ _ d,h];omega
theorem QD (w:M):(Instr.makeMap 230 UP).run Vyj w=.ok (.map (Z (G w.heap))) (E w (.map #[] 0)):=kQ
theorem BZ {o:Nat}{Y:Bn}{S:Int->Bool}(w:M)(g:aq w b W H V Y)(s:az w)(d:ch w)(hb:b<G w.heap)(hS:aU w o S)(We:∀i,S i=Q->inB W H i=Q)(ht:inB W H t=Q) :
  Zq 232 #[Pq b,.map (Z o),J t] w λ e I=>∃nb T,e=VJ (.map (Z nb))/\aU I nb T/\(∀z,T z=Q↔∃c k,S c=Q/\aF W H Y c k z/\fY (c%W) (c/W) (t%W) (t/W) k)/\G w.heap<=nb/\Bq w I:=by
 have ax:=hS.lt;have Wm:=g.w1;have WS:=bG g.w1 g.w2 g.h1 g.h2;have y:=aU.made w;have u:=hS.grown (TP w (.map #[] 0) UP) sQ;have VZ:G (E w (.map #[] 0)).heap=G w.heap+1:=by simp
 have B0:Bq w (E w (.map #[] 0)):=ae.alloc aa _;have au:=QD w;go_enter func232,ntmps232;go_wp2_with (first|(at_range;refine cO rfl _ 230 rfl 3 279 aV Tryz.u9 o _ _ rfl u.mp ?_;intro w0 ZD ZA ac;rw[VZ]at ZD ac ⊢)|go_in);have ZE:=y.grown ZA sQ;have B1:Bq w w0:=B0.grown ZA sQ sQ;clear y u ZA B0;go_frame;go_loopg [] (cM S 256) (λ gk wr=>∃left cnt T,gk=cnt/\BC wr o (G w.heap+1) S left cnt/\aU wr (G w.heap) T/\Vy (∀z,T z=Q↔∃c k,(S c=Q/\left c=Vl)/\aF W H Y c k z/\fY (c%W) (c/W) (t%W) (t/W) k)/\Bq w wr)
 case atStart =>
  refine⟨_,_,_,rfl,ZD,ZE,λ z=>⟨λ h=>(by cases h),?_⟩,B1⟩;rintro⟨c,k,⟨f,a⟩,_⟩;rw[eF,f]at a;cases a
 case round =>
  obtain⟨left,cnt,T,WV,Xd,hT,Wi,R⟩:=hrel;have ag:=R.size;go_wp2_with (first|(at_next;refine di rfl _ rfl 3 aV o (G w.heap+1) _ _ _ _ rfl Xd ?_ ?_)|go_in)
  ·intro ay XN;go_wp2;go_ret;refine⟨_,T,rfl,hT,λ z=>(Wi.out z).trans ⟨?_,?_⟩,aa,R⟩
   ·rintro⟨c,k,f,a⟩;exact⟨c,k,f.1,a⟩
   ·rintro⟨c,k,f,a⟩;exact⟨c,k,⟨f,XN c⟩,a⟩
  ·intro x v w1 Wt Zd Yp YQ WU VS W9 Yy ZG;obtain⟨r,rfl⟩:=kT YQ;have ZF:=We x r;have Zs:=hT.grown W9 (λ e=>by have:=Option.some.inj e;omega);have L:Bq w w1:=R.grown W9 ag (λ k e=>by cases e;omega);obtain⟨l,hl⟩:∃l,onw W H Y x t 8=l:=⟨_,rfl⟩;have HL:=qH hl;have Yn:K l<=8:=(by rw[<- hl];exact zn _ _ _ _ _ _);clear hl;have p:∀j,j<K l->(0:Int)<=((l.getD j 0:Nat):Int)/\((l.getD j 0:Nat):Int)<256:=λ j hj=>by
    obtain⟨k,e,_⟩:=(rf (z:=((l.getD j 0:Nat):Int)) Wm ZF HL.out).1 ⟨j,hj,rfl⟩;have:0<=((l.getD j 0:Nat):Int)/\((l.getD j 0:Nat):Int)<W*H:=Q1 (e.in' Wm);omega
   have HZ:=qH p;clear p;have Xc:=BY HL.out w1 (g.below L hb) (s.below L U) (d.below L) U ZF ht;clear hT Xd R W9 B1 ZE ZD;go_wp2_with fail;refine Xc.mono ?_;rintro e w2 ⟨A,aL,rfl,VU,m⟩;have Zw:=Zs.below m;have XM:=WU.below m;have B3:=aj L m;clear Zs WU L m Xc;go_wp2;go_loopg [23] (K l) (λ gj iv wr=>∃(j:Nat) (T':Int->Bool),gj=K l-j/\iv=J j/\j<=K l/\aU wr (G w.heap) T'/\Vy (∀z,T' z=Q↔T z=Q\/∃i,i<j/\z=((l.getD i 0:Nat):Int))/\BC wr o (G w.heap+1) S (λ z=>left z&&!decide (z=x)) Wt/\bP wr A (K l) (λ i=>(l.getD i 0:Nat))/\Bq w wr)
   case atStart=>exact⟨0,T,rfl,rfl,Te _,Zw,λ z=>⟨SQ,λ h=>h.resolve_right (λ ⟨i,P,_⟩=>U)⟩,XM,VU,B3⟩
   case round =>
    obtain⟨j,T',aw,rfl,hj,F,ZB,C,WI,YE⟩:=hrel;by_cases q:j<K l
    ·obtain⟨B,N,rfl,Zp,VX⟩:=WI j q;obtain⟨z0,z1⟩:=HZ.out j q;have W8:Cq wr B (N+j) (J ((l.getD j 0:Nat):Int)):=VX;clear VX;have HJ:Vy (∀z:Int,(∃i,i<j+1/\z=((l.getD i 0:Nat):Int))↔(∃i,i<j/\z=((l.getD i 0:Nat):Int))\/z=((l.getD j 0:Nat):Int)):=λ z=>by
      constructor
      ·rintro⟨i,P,h⟩;by_cases e:i=j
       ·subst e;exact SP h
       ·exact SQ ⟨i,U,h⟩
      ·rintro (⟨i,P,h⟩|h)
       ·exact⟨i,U,h⟩
       ·exact⟨j,U,h⟩
     generalize ((l.getD j 0:Nat):Int)=zz at *;have i1:(0:Int)<=(j:Int):=U;have i2:(j:Int)<(K l:Int):=U;go_wp2_with (first|(at_mapUpdate;refine ef rfl _ _ _ 230 rfl 3 279 aV Tryz.u9 (G w.heap) _ _ rfl F.mp F.room zz (.agg #[]) rfl rfl (aE z0 z1) ?_;intro w3 ad ab;go_frame)|go_in);have am:=F.put z0 z1 ad;have X:=ab.grown;have Xf:=C.grown X (λ e=>by have:=Option.some.inj e;omega) (λ e=>by have:=Option.some.inj e;omega);have an:Bq w w3:=YE.grown X YE.size (λ k e=>by cases e;exact aa);have ao:B≠G w.heap:=λ e=>by
      have h:=F.mp.cell (N+j);rw[<- e,W8]at h;cases h
     have ap:bP w3 (Z (O B N)) (K l) (λ i=>(l.getD i 0:Nat)):=λ i P=>by
      obtain⟨b',o',e,f,a⟩:=WI i P;cases e;exact⟨B,N,rfl,Tc f X.size,(Ug (w:=wr) (X.block B f (λ e=>ao (Option.some.inj e)))).trans a⟩
     go_roundg (K l-(j+1))
     case measure=>omega
     case rel =>
      refine⟨j+1,_,rfl,gQ,U,am,λ z=>?_,Xf,ap,an⟩;rw[cW,ZB.out z,HJ.out z];exact⟨λ h=>h.elim (λ e=>SP (SP e)) (λ h=>h.imp id SQ),λ h=>h.elim (λ e=>SP (SQ e)) (λ h=>h.elim (λ e=>SP (SP e)) SQ)⟩
    ·have e:j=K l:=U;subst e;go_wp2;go_roundg Wt
     case measure=>omega
     case rel =>
      refine⟨_,Wt,T',rfl,C,F,λ z=>?_,YE⟩;rw[ZB.out z,Wi.out z,rf Wm ZF HL.out];constructor
      ·rintro (⟨c,k,⟨f,a⟩,n⟩|⟨k,n⟩)
       ·exact⟨c,k,⟨f,by rw[a];rfl⟩,n⟩
       ·exact⟨x,k,⟨r,by simp⟩,n⟩
      ·rintro⟨c,k,⟨f,a⟩,n⟩;by_cases e:c=x
       ·subst e;exact SP ⟨k,n⟩
       ·rw[Q3 e]at a;exact SQ ⟨c,k,⟨f,by simpa using a⟩,n⟩
theorem RX (w:M):(Instr.makeMap 230 UP).run Vyj w=.ok (.map (Z (G w.heap))) (E w (.map #[] 0)):=kQ
theorem IV {fb m:Nat}{Y:Bn}{S B:Int->Bool}(w:M)(g:aq w b W H V Y)(s:az w)(hb:b<G w.heap)(hS:aU w fb S)(hB:aU w m B)(a5:fb≠m)(bl:b≠m)(h0:3≠m)(We:∀i,S i=Q->inB W H i=Q)(ha:inB W H a=Q)
  (a7:∀c k z,S c=Q->Og W H Y a c k z->S z=Vl) :
  Zq 251 #[Pq b,.map (Z fb),.map (Z m),J a] w λ e I=>∃nb T B',e=VJ (.map (Z nb))/\aU I nb T/\aU I m B'/\(∀z,T z=Q↔∃c k,S c=Q/\Og W H Y a c k z) /\
   (∀z,B' z=Q↔B z=Q\/∃c k,S c=Q/\Og W H Y a c k z/\(B c=Q\/(aY W H Y c=Q/\c≠a)))/\G w.heap<=nb/\ai (λ k=>k=m) w I:=by
 have XY:=hS.lt;have Wv:=hB.lt;have Wm:=g.w1;have WS:=bG g.w1 g.w2 g.h1 g.h2;have a9:=aU.made w;have a8:=hS.grown (TP w (.map #[] 0) UP) sQ;have be:=hB.grown (TP w (.map #[] 0) UP) sQ;have VZ:G (E w (.map #[] 0)).heap=G w.heap+1:=by simp
 have K0:ai (λ k=>k=m) w (E w (.map #[] 0)):=(ai.refl _ _).alloc _;have bD:=RX w;have bA:=qH a7;clear a7;go_enter func251,ntmps251;go_wp2_with (first|(at_range;refine cO rfl _ 230 rfl 3 279 aV Tryz.u9 fb _ _ rfl a8.mp ?_;intro w0 ZD ZA bk;rw[VZ]at ZD bk ⊢)|go_in);have ZE:=a9.grown ZA sQ;have bd:=be.grown ZA sQ;have K1:ai (λ k=>k=m) w w0:=K0.grown ZA sQ;clear a9 a8 ZA K0 be;go_frame;go_loopg [] (cM S 256) (λ gk wr=>∃left cnt T B1,gk=cnt/\BC wr fb (G w.heap+1) S left cnt/\aU wr (G w.heap) T/\aU wr m B1/\Vy (∀z,T z=Q↔∃c k,(S c=Q/\left c=Vl)/\Og W H Y a c k z) /\
   Vy (∀z,B1 z=Q↔B z=Q\/∃c k,(S c=Q/\left c=Vl)/\Og W H Y a c k z/\(B c=Q\/(aY W H Y c=Q/\c≠a)))/\ai (λ k=>k=m) w wr)
 case atStart =>
  refine⟨_,_,_,_,rfl,ZD,ZE,bd,λ z=>⟨λ h=>(by cases h),?_⟩,λ z=>⟨SQ,?_⟩,K1⟩
  ·rintro⟨c,k,⟨d,f⟩,_⟩;rw[eF,d]at f;cases f
  ·rintro (h|⟨c,k,⟨d,f⟩,_⟩)
   ·exact h
   ·rw[eF,d]at f;cases f
 case round =>
  obtain⟨left,cnt,T,B1,WV,Xd,hT,Yv,Wi,a0,hK⟩:=hrel;have bZ:=hK.size;go_wp2_with (first|(at_next;refine di rfl _ rfl 3 aV fb (G w.heap+1) _ _ _ _ rfl Xd ?_ ?_)|go_in)
  ·intro bM XN;go_wp2;go_ret;refine⟨_,T,B1,rfl,hT,Yv,λ z=>(Wi.out z).trans ⟨?_,?_⟩,λ z=>(a0.out z).trans ⟨?_,?_⟩,aa,hK⟩
   ·rintro⟨c,k,d,f⟩;exact⟨c,k,d.1,f⟩
   ·rintro⟨c,k,d,f⟩;exact⟨c,k,⟨d,XN c⟩,f⟩
   ·rintro (h|⟨c,k,d,f⟩)
    ·exact SQ h
    ·exact SP ⟨c,k,d.1,f⟩
   ·rintro (h|⟨c,k,d,f⟩)
    ·exact SQ h
    ·exact SP ⟨c,k,⟨d,XN c⟩,f⟩
  ·intro x v w1 Wt Zd Yp YQ WU VS W9 Yy ZG;obtain⟨am,rfl⟩:=kT YQ;have ZF:=We x am;have Zs:=hT.grown W9 (λ e=>by have:=Option.some.inj e;omega);have aN:=Yv.grown W9 (λ e=>by have:=Option.some.inj e;omega);have K2:ai (λ k=>k=m) w w1:=hK.grown W9 (λ k e h=>by cases e;omega);have bc:B1 x=B x:=by
    have d:=a0.out x;cases a6:B x with
    |true=>rw[a6]at d;exact d.2 (SQ rfl)
    |false =>
     cases bm:B1 x with
     |false=>rfl
     |true =>
      rw[a6,bm]at d;obtain⟨c,k,u,h4,_⟩:=(d.1 rfl).resolve_left dQ;have:=bA.out c k x u.1 h4;rw[am]at this;cases this
   obtain⟨l,hl⟩:∃l,jJ W H Y x a 8=l:=⟨_,rfl⟩;have HL:=qH hl;have Yn:K l<=8:=(by rw[<- hl];exact BH _ _ _ _ _ _);clear hl;have a2:∀j,j<K l->(0:Int)<=((l.getD j 0:Nat):Int)/\((l.getD j 0:Nat):Int)<256:=λ j hj=>by
    obtain⟨k,e,_⟩:=(vB (z:=((l.getD j 0:Nat):Int)) Wm ZF HL.out).1 ⟨j,hj,rfl⟩;have:0<=((l.getD j 0:Nat):Int)/\((l.getD j 0:Nat):Int)<W*H:=Q1 (e.in' Wm);omega
   have HZ:=qH a2;clear a2;have g1:=g.X' K2 bl;have s1:=s.X' K2 h0;have Xr:b<G w1.heap:=Tc hb K2.size;obtain⟨cx,ax⟩:∃cx,aY W H Y x=cx:=⟨_,rfl⟩;have bs:=qH ax;have YR:=OA ax w1 g1 s1 ZF;obtain⟨bx,ay⟩:∃bx,B x=bx:=⟨_,rfl⟩;have bw:=qH ay;have bp:=qH (bc.trans ay);clear ax ay bc;clear hT Xd hK W9 K1 ZE ZD bd Yv;go_wp2_with fail;refine YR.mono ?_;rintro e w2 ⟨rfl,m2,Yt⟩;have Xl:(Instr.lookup 230 (.map (Z m)) (J x) Q).run Vyj w2=.ok (.tuple #[.agg #[],.bool bx]) w2:=by
    have q:aU w2 m B1:=(by rw[Yt];exact aN.below (Vxj ae m2));have hq:=bp.out;cases bx with
    |false=>exact q.mp.u6 aV Tryz.u9 (sS _) Zd (kR hq) Q
    |true=>exact q.mp.Ui aV Tryz.u9 (sS _) Zd (kP hq) Q
   have b2:Bq w1 (E w2 (VP #[] 279)):=(by rw[Yt];exact(Vxj ae m2).alloc sQ _);have g2:=g1.below b2 Xr;have s2:=s1.below b2 U;have Zw:=Zs.below b2;have q:=aN.below b2;have XM:=WU.below b2;have K3:=K2.below b2;have bf:=Tc Xr b2.size;clear b2 Yt g1 s1 Zs aN WU K2 YR;have Xc:=IF HL.out (E w2 (VP #[] 279)) g2 s2 bf ZF ha;go_wp2_with fail;refine Xc.mono ?_;rintro e w3 ⟨A,b0,rfl,VU,hb3⟩;have bn:=Zw.below hb3;have ac:=q.below hb3;have Xf:=XM.below hb3;have K4:=K3.below hb3;clear Zw q XM K3 hb3 Xc g2 s2 bf Xl;go_wp2;go_loopg [41] (K l) (λ gj iv wr=>∃(j:Nat) (T' B':Int->Bool),gj=K l-j/\iv=J j/\j<=K l/\aU wr (G w.heap) T'/\aU wr m B'/\Vy (∀z,T' z=Q↔T z=Q\/∃i,i<j/\z=((l.getD i 0:Nat):Int)) /\
     Vy (∀z,B' z=Q↔B1 z=Q\/((bx=Q\/(cx=Q/\x≠a))/\∃i,i<j/\z=((l.getD i 0:Nat):Int)))/\BC wr fb (G w.heap+1) S (λ z=>left z&&!decide (z=x)) Wt/\bP wr A (K l) (λ i=>(l.getD i 0:Nat))/\ai (λ k=>k=m) w wr)
   case atStart=>exact⟨0,T,B1,rfl,rfl,Te _,bn,ac,λ z=>⟨SQ,λ h=>h.resolve_right (λ ⟨i,hi,_⟩=>U)⟩,λ z=>⟨SQ,λ h=>h.resolve_right (λ ⟨_,i,hi,_⟩=>U)⟩,Xf,VU,K4⟩
   case round =>
    obtain⟨j,T',B',bI,rfl,hj,C,F,ZB,ad,ag,WI,ab⟩:=hrel;by_cases a4:j<K l
    ·obtain⟨L,oa,rfl,Zp,VX⟩:=WI j a4;obtain⟨R,P⟩:=HZ.out j a4;have W8:Cq wr L (oa+j) (J ((l.getD j 0:Nat):Int)):=VX;clear VX;have HJ:Vy (∀z:Int,(∃i,i<j+1/\z=((l.getD i 0:Nat):Int))↔(∃i,i<j/\z=((l.getD i 0:Nat):Int))\/z=((l.getD j 0:Nat):Int)):=λ z=>by
      constructor
      ·rintro⟨i,hi,h⟩;by_cases e:i=j
       ·subst e;exact SP h
       ·exact SQ ⟨i,U,h⟩
      ·rintro (⟨i,hi,h⟩|h)
       ·exact⟨i,U,h⟩
       ·exact⟨j,U,h⟩
     generalize ((l.getD j 0:Nat):Int)=zz at *;have i1:(0:Int)<=(j:Int):=U;have i2:(j:Int)<(K l:Int):=U;have ao:L≠G w.heap:=λ e=>by
      have h:=C.mp.cell (oa+j);rw[<- e,W8]at h;cases h
     have bi:L≠m:=λ e=>by
      have h:=F.mp.cell (oa+j);rw[<- e,W8]at h;cases h
     have an:∀I ap,wr.grownBy I (Z ap)->L≠ap->bP I (Z (O L oa)) (K l) (λ i=>(l.getD i 0:Nat)):=λ I ap hg hn i hi=>by
      obtain⟨b',o',e,d,f⟩:=WI i hi;cases e;exact⟨L,oa,rfl,Tc d hg.size,(Ug (w:=wr) (hg.block L d (λ e=>hn (Option.some.inj e)))).trans f⟩
     have N:G w.heap≠m:=U;have tok:True:=trivial;cases bx with
     |true =>
      go_wp2_with (first|(at_mapUpdate;have _t:=tok;refine ef rfl _ _ _ 230 rfl 3 279 aV Tryz.u9 (G w.heap) _ _ rfl C.mp C.room zz (.agg #[]) rfl rfl (aE R P) ?_;intro X o n;have r:=C.put R P o;have p:=n.grown;have q:=F.grown p (λ e=>N (Option.some.inj e).symm);clear tok o n;go_frame)|(at_mapUpdate;refine ef rfl _ _ _ 230 rfl 3 279 aV Tryz.u9 m _ _ rfl q.mp q.room zz (.agg #[]) rfl rfl (aE R P) ?_;intro w5 aw au;go_frame)|go_in);have ac:=q.put R P aw;have X9:=au.grown;have aL:=r.grown X9 (λ e=>N (Option.some.inj e));have y:=(ag.grown p (λ e=>by have:=Option.some.inj e;omega) (λ e=>by have:=Option.some.inj e;omega)).grown X9 (λ e=>a5 (Option.some.inj e)) (λ e=>by have:=Option.some.inj e;omega);have t:ai (λ k=>k=m) w w5:=(ab.grown p (λ k e h=>by cases e;omega)).grown X9 (λ k e h=>by cases e;rfl);have XA:=an X _ p ao;have a1:bP w5 (Z (O L oa)) (K l) (λ i=>(l.getD i 0:Nat)):=λ i hi=>by
       obtain⟨b',o',e,d,f⟩:=XA i hi;cases e;exact⟨L,oa,rfl,Tc d X9.size,(Ug (w:=X) (X9.block L d (λ e=>bi (Option.some.inj e)))).trans f⟩
      go_roundg (K l-(j+1))
      case measure=>omega
      case rel =>
       refine⟨j+1,_,_,rfl,gQ,U,aL,ac,λ z=>?_,λ z=>?_,y,a1,t⟩
       ·rw[cW,ZB.out z,HJ.out z];exact⟨λ h=>h.elim (λ e=>SP (SP e)) (λ h=>h.imp id SQ),λ h=>h.elim (λ e=>SP (SQ e)) (λ h=>h.elim (λ e=>SP (SP e)) SQ)⟩
       ·rw[cW,ad.out z,HJ.out z];constructor
        ·rintro (h|h|⟨d,f⟩)
         ·exact SP ⟨by simp,SP h⟩
         ·exact SQ h
         ·exact SP ⟨d,SQ f⟩
        ·rintro (h|⟨d,h|h⟩)
         ·exact SP (SQ h)
         ·exact SP (SP ⟨d,h⟩)
         ·exact SQ h
     |false =>
      cases cx with
      |false =>
       go_wp2_with (first|(at_mapUpdate;have _t:=tok;refine ef rfl _ _ _ 230 rfl 3 279 aV Tryz.u9 (G w.heap) _ _ rfl C.mp C.room zz (.agg #[]) rfl rfl (aE R P) ?_;intro X o n;have r:=C.put R P o;have p:=n.grown;have q:=F.grown p (λ e=>N (Option.some.inj e).symm);clear tok o n;go_frame)|go_in);have y:=ag.grown p (λ e=>by have:=Option.some.inj e;omega) (λ e=>by have:=Option.some.inj e;omega);have t:ai (λ k=>k=m) w X:=ab.grown p (λ k e h=>by cases e;omega);have XA:=an X _ p ao;go_roundg (K l-(j+1))
       case measure=>omega
       case rel =>
        refine⟨j+1,_,_,rfl,gQ,U,r,q,λ z=>?_,λ z=>?_,y,XA,t⟩
        ·rw[cW,ZB.out z,HJ.out z];exact⟨λ h=>h.elim (λ e=>SP (SP e)) (λ h=>h.imp id SQ),λ h=>h.elim (λ e=>SP (SQ e)) (λ h=>h.elim (λ e=>SP (SP e)) SQ)⟩
        ·rw[ad.out z];exact or_congr Iff.rfl ⟨λ h=>Q8 h.1 sQ,λ h=>Q8 h.1 sQ⟩
      |true =>
       by_cases a3:x=a
       ·subst a3;go_wp2_with (first|(at_mapUpdate;have _t:=tok;refine ef rfl _ _ _ 230 rfl 3 279 aV Tryz.u9 (G w.heap) _ _ rfl C.mp C.room zz (.agg #[]) rfl rfl (aE R P) ?_;intro X o n;have r:=C.put R P o;have p:=n.grown;have q:=F.grown p (λ e=>N (Option.some.inj e).symm);clear tok o n;go_frame)|go_in);have y:=ag.grown p (λ e=>by have:=Option.some.inj e;omega) (λ e=>by have:=Option.some.inj e;omega);have t:ai (λ k=>k=m) w X:=ab.grown p (λ k e h=>by cases e;omega);have XA:=an X _ p ao;go_roundg (K l-(j+1))
        case measure=>omega
        case rel =>
         refine⟨j+1,_,_,rfl,gQ,U,r,q,λ z=>?_,λ z=>?_,y,XA,t⟩
         ·rw[cW,ZB.out z,HJ.out z];exact⟨λ h=>h.elim (λ e=>SP (SP e)) (λ h=>h.imp id SQ),λ h=>h.elim (λ e=>SP (SQ e)) (λ h=>h.elim (λ e=>SP (SP e)) SQ)⟩
         ·rw[ad.out z];exact or_congr Iff.rfl ⟨λ h=>Q8 h.1 sQ,λ h=>Q8 h.1 sQ⟩
       ·have bq:=bX a3;go_wp2_with (first|(at_mapUpdate;have _t:=tok;refine ef rfl _ _ _ 230 rfl 3 279 aV Tryz.u9 (G w.heap) _ _ rfl C.mp C.room zz (.agg #[]) rfl rfl (aE R P) ?_;intro X o n;have r:=C.put R P o;have p:=n.grown;have q:=F.grown p (λ e=>N (Option.some.inj e).symm);clear tok o n;go_frame)|(at_mapUpdate;refine ef rfl _ _ _ 230 rfl 3 279 aV Tryz.u9 m _ _ rfl q.mp q.room zz (.agg #[]) rfl rfl (aE R P) ?_;intro w5 aw au;go_frame)|go_in);have ac:=q.put R P aw;have X9:=au.grown;have aL:=r.grown X9 (λ e=>N (Option.some.inj e));have y:=(ag.grown p (λ e=>by have:=Option.some.inj e;omega) (λ e=>by have:=Option.some.inj e;omega)).grown X9 (λ e=>a5 (Option.some.inj e)) (λ e=>by have:=Option.some.inj e;omega);have t:ai (λ k=>k=m) w w5:=(ab.grown p (λ k e h=>by cases e;omega)).grown X9 (λ k e h=>by cases e;rfl);have XA:=an X _ p ao;have a1:bP w5 (Z (O L oa)) (K l) (λ i=>(l.getD i 0:Nat)):=λ i hi=>by
         obtain⟨b',o',e,d,f⟩:=XA i hi;cases e;exact⟨L,oa,rfl,Tc d X9.size,(Ug (w:=X) (X9.block L d (λ e=>bi (Option.some.inj e)))).trans f⟩
        go_roundg (K l-(j+1))
        case measure=>omega
        case rel =>
         refine⟨j+1,_,_,rfl,gQ,U,aL,ac,λ z=>?_,λ z=>?_,y,a1,t⟩
         ·rw[cW,ZB.out z,HJ.out z];exact⟨λ h=>h.elim (λ e=>SP (SP e)) (λ h=>h.imp id SQ),λ h=>h.elim (λ e=>SP (SQ e)) (λ h=>h.elim (λ e=>SP (SP e)) SQ)⟩
         ·rw[cW,ad.out z,HJ.out z];constructor
          ·rintro (h|h|⟨d,f⟩)
           ·exact SP ⟨(by have:=bq.out;simp_all),SP h⟩
           ·exact SQ h
           ·exact SP ⟨d,SQ f⟩
          ·rintro (h|⟨d,h|h⟩)
           ·exact SP (SQ h)
           ·exact SP (SP ⟨d,h⟩)
           ·exact SQ h
    ·have e:j=K l:=U;subst e;go_wp2;go_roundg Wt
     case measure=>omega
     case rel =>
      refine⟨_,Wt,T',B',rfl,ag,C,F,λ z=>?_,λ z=>?_,ab⟩
      ·rw[ZB.out z,Wi.out z,vB Wm ZF HL.out];constructor
       ·rintro (⟨c,k,⟨d,f⟩,u⟩|⟨k,u⟩)
        ·exact⟨c,k,⟨d,by rw[f];rfl⟩,u⟩
        ·exact⟨x,k,⟨am,by simp⟩,u⟩
       ·rintro⟨c,k,⟨d,f⟩,u⟩;by_cases e:c=x
        ·subst e;exact SP ⟨k,u⟩
        ·rw[Q3 e]at f;exact SQ ⟨c,k,⟨d,by simpa using f⟩,u⟩
      ·rw[ad.out z,a0.out z,vB Wm ZF HL.out,<- bw.out,<- bs.out];constructor
       ·rintro ((h|⟨c,k,⟨d,f⟩,u⟩)|⟨h4,k,u⟩)
        ·exact SQ h
        ·exact SP ⟨c,k,⟨d,by rw[f];rfl⟩,u⟩
        ·exact SP ⟨x,k,⟨am,by simp⟩,u,h4⟩
       ·rintro (h|⟨c,k,⟨d,f⟩,u,h4⟩)
        ·exact SQ (SQ h)
        ·by_cases e:c=x
         ·subst e;exact SP ⟨h4,k,u⟩
         ·rw[Q3 e]at f;exact SQ (SP ⟨c,k,⟨d,by simpa using f⟩,u,h4⟩)
theorem jg {Y:Bn}(a:1<=W){p r t:Int}{k:Nat}(e:aF W H Y p k r)(g:fY (p%W) (p/W) (t%W) (t/W) k):cY W r t+1=cY W p t:=by grind [dX,ji,cY]
theorem Tw.inv {Y:Bn}(h:Tw W H Y a t z):z=a\/∃p k,Tw W H Y a t p/\aF W H Y p k z/\fY (p%W) (p/W) (t%W) (t/W) k:=by
 have:=h (λ z=>Tw W H Y a t z/\(z=a\/∃p k,Tw W H Y a t p/\aF W H Y p k z/\fY (p%W) (p/W) (t%W) (t/W) k)) ⟨Tw.nil,SQ rfl⟩ (λ p k r b e g=>⟨b.1.step e g,SP ⟨p,k,b.1,e,g⟩⟩);exact this.2
theorem Tw.top {Y:Bn}(b:1<=W)(h:Tw W H Y a t z):cY W z t<=cY W a t :=
 h (λ z=>cY W z t<=cY W a t) (Int.le_refl _) (λ p k r c e g=>by have:=jg b e g;omega)
theorem Tw.U6 {Y:Bn}(f:1<=W)(h:Tw W H Y a t z):∀j,cY W z t<=j->j<=cY W a t->∃b,Tw W H Y a t b/\cY W b t=j:=by
 have:=h (λ z=>Tw W H Y a t z/\∀j,cY W z t<=j->j<=cY W a t->∃b,Tw W H Y a t b/\cY W b t=j) ⟨Tw.nil,λ j i d=>⟨a,Tw.nil,U⟩⟩ (λ p k r c e g=>⟨c.1.step e g,λ j i d=>by
  have:=jg f e g;by_cases q:cY W r t=j
  grind [step]
  exact c.2 j U d⟩)
 exact this.2
theorem sV {t:Int}{Y:Bn}(w:M)(g:aq w b W H V Y)(s:az w)(d:ch w)(hb:b<G w.heap)(ha:inB W H a=Q)(ht:inB W H t=Q) :
  Zq 193 #[Pq b,J a,J t] w λ e I=>∃y T,e=VJ (.map (Z y))/\aU I y T/\(∀z,T z=Q↔Tw W H Y a t z)/\G w.heap<=y/\Bq w I:=by
 have r:=g.w1;have WS:=bG g.w1 g.w2 g.h1 g.h2;have Ys:0<=a/\a<W*H:=Q1 ha;have ad:=aE Ys.1 (show a<256 by omega);have ag:=@run_makeMap Vyj;have L:=(aU.made w).grown (TP (E w (.map #[] 0)) (.map #[] 0) UP) sQ;have P:=aU.made (E w (.map #[] 0));have VZ:G (E w (.map #[] 0)).heap=G w.heap+1:=by simp
 have B0:Bq w ((E w (.map #[] 0)).alloc (.map #[] 0)):=(ae.alloc aa _).alloc sQ _;rw[VZ]at P;go_enter func193,ntmps193;go_wp2_with (first|(refine vA rfl _ _ _ 230 rfl 3 279 aV Tryz.u9 (G w.heap+1) _ _ (by first|rfl|(rw[VZ];rfl)) P.mp P.room a (.agg #[]) rfl rfl ad ?_;intro w1 C A;go_frame)|go_in);have au:=P.put Ys.1 (show a<256 by omega) C;have W9:=A.grown;have aw:=L.grown W9 (λ e=>by have:=Option.some.inj e;omega);have B1:Bq w w1:=B0.grown W9 sU (λ k e=>by cases e;omega);clear L P VZ B0 C A W9 ag;have aL:=eG W a t;go_loopg [8] (cY W a t+1).toNat (λ gk fv wr=>∃(i v:Nat) (l R:Int->Bool),gk=(cY W a t+1-i).toNat/\fv=.map (Z v)/\G w.heap<v/\aU wr v l/\aU wr (G w.heap) R/\Vy (∀z,l z=Q↔Tw W H Y a t z/\cY W z t+i=cY W a t)/\Vy (∀z,R z=Q↔Tw W H Y a t z/\cY W a t<cY W z t+i)/\Bq w wr)
 case atStart =>
  refine⟨0,_,_,_,by simp,rfl,Ur _,au,aw,λ z=>?_,λ z=>⟨λ h=>(by cases h),λ ⟨f,j⟩=>?_⟩,B1⟩
  ·rw[cW];constructor
   ·rintro (rfl|h)
    ·exact⟨Tw.nil,by simp⟩
    ·cases h
   ·rintro⟨f,j⟩;rcases f.inv with e|⟨p,k,hp,e,X⟩
    ·exact SQ e
    ·exfalso;have h3:=jg r e X;have h4:=Tw.top r hp;simp at j;omega
  ·exfalso;have h4:=Tw.top r f;simp at j;omega
 case round =>
  obtain⟨i,v,l,R,WV,rfl,am,u,hA,o,n,hB⟩:=hrel;have m:=λ ty=>u.mp.len (t:=230) Tryz.u9 ty;have VY:=u.ne_nil;by_cases YW:0<cM l 256
  ·obtain⟨z,S⟩:=VY.1 YW;have ac:=(o.out z).1 S;have ab:=eG W z t;have Zy:(0:Int)<((cM l 256:Nat):Int):=U;have aN:(i:Int)<=cY W a t:=U;clear VY S ac ab;have B:=IU wr hA u (Nat.ne_of_lt am);generalize cM l 256=cn at *;go_wp2_with fail;refine B.mono ?_;rintro e w2 ⟨rfl,⟨T,hT,ao⟩,hK⟩;have N:aU w2 v l:=u.kept (hK.block v u.lt U);have x:Bq w w2:=hB.trans (hK.Z' hB.size (λ k e=>U));have We:∀i,l i=Q->inB W H i=true:=λ i hi=>((o.out i).1 hi).1.in r ha
   have F:=BZ w2 (g.below x hb) (s.below x U) (d.below x) (Tc hb x.size) N We ht;have z2:=x.size;clear B m u hA hK;go_wp2_with fail;refine F.mono ?_;rintro e w3 ⟨y,T2,rfl,Zw,ax,ay,hb3⟩;have ap:=hT.below hb3;have B3:=aj x hb3;have a0:=hT.lt;clear F hb3 hT N;go_wp2;go_roundg (cY W a t+1-((i+1:Nat):Int)).toNat
   case measure=>omega
   case rel =>
    refine⟨i+1,y,T2,T,rfl,rfl,U,Zw,ap,λ z=>?_,λ z=>?_,B3⟩
    ·rw[ax z];constructor
     ·rintro⟨c,k,f,j,h3⟩;obtain⟨q1,q2⟩:=(o.out c).1 f;have:=jg r j h3;exact⟨q1.step j h3,U⟩
     ·rintro⟨f,j⟩;rcases f.inv with e|⟨p,k,hp,e,X⟩
      ·subst e;exfalso;omega
      ·have:=jg r e X;exact⟨p,k,(o.out p).2 ⟨hp,U⟩,e,X⟩
    ·rw[ao z,n.out z,o.out z];constructor
     ·rintro (⟨f,j⟩|⟨f,j⟩)
      ·exact⟨f,U⟩
      ·exact⟨f,U⟩
     ·rintro⟨f,j⟩;by_cases q:cY W z t+i=cY W a t
      ·exact SP ⟨f,q⟩
      ·exact SQ ⟨f,U⟩
  ·have Wl:∀z,l z=false:=λ z=>by
    cases S:l z with
    |false=>rfl
    |true=>exact Q8 (VY.2 ⟨z,S⟩) YW
   have an:cM l 256=0:=U;have Xw:∀z,R z=Q↔Tw W H Y a t z:=λ z=>by
    rw[n.out z];refine⟨λ h=>h.1,λ h=>⟨h,?_⟩⟩;by_cases q:cY W a t<cY W z t+i
    ·exact q
    ·exfalso;obtain⟨z',f,j⟩:=h.U6 r (cY W a t-i) U U;have:=(o.out z').2 ⟨f,U⟩;rw[Wl z']at this;cases this
   have HF:=qH Xw;rw[an]at m;clear Xw Wl VY YW o n;go_wp2;go_ret;exact⟨_,R,rfl,hA,HF.out,aa,hB⟩
theorem Ca {Y:Bn}(w:M)(g:aq w b W H V Y)(s:az w)(d:ch w)(hb:b<G w.heap)(ha:inB W H a=Q)(ht:inB W H t=Q) :
  Zq 142 #[Pq b,J a,J t] w λ e I=>∃X T,e=VJ (.map (Z X))/\aU I X T/\(∀z,T z=Q↔On W H Y a t z)/\G w.heap<=X/\Bq w I:=by
 have ac:=@run_makeMap Vyj;have p:=aU.made w;have VZ:G (E w (.map #[] 0)).heap=G w.heap+1:=by simp
 have C:Bq w (E w (.map #[] 0)):=ae.alloc aa _;have YN:=sV (E w (.map #[] 0)) (g.below C hb) (s.below C U) (d.below C) U ht ha;go_enter func142,ntmps142;go_wp2_with fail;refine YN.mono ?_;rintro e S ⟨kb,SB,rfl,hB,u,ag,l⟩;have ZE:=p.below l;have n:Bq w S:=aj C l;have ao:b<G S.heap:=Tc hb n.size;have y:=sV S (g.below n hb) (s.below n U) (d.below n) ao ha ht;rw[VZ]at ag;have aL:=qH u;have am:=hB.lt;clear YN p VZ C l ac u;go_wp2_with fail;refine y.mono ?_;rintro e w2 ⟨fb,SF,rfl,hF,Yc,a1,c⟩;have m:=ZE.below c;have Yv:=hB.below c;have B2:Bq w w2:=aj n c;have ay:=qH Yc;have a0:=Tc am c.size;have a2:=hF.lt;have z2:=n.size;have ZW:=m.lt;clear ZE hB c y Yc;go_wp2_with (first|(at_range;refine cO rfl _ 230 rfl 3 279 aV Tryz.u9 fb _ _ rfl hF.mp ?_;intro w0 ZD N aN)|go_in);have au:=m.grown N sQ;have ax:=Yv.grown N sQ;have B3:Bq w w0:=B2.grown N B2.size sQ;generalize hr:G w2.heap=r at *;clear m Yv B2 N;go_frame;go_loopg [] (cM SF 256) (λ gk wr=>∃left cnt T,gk=cnt/\BC wr fb r SF left cnt/\aU wr (G w.heap) T/\aU wr kb SB/\Vy (∀z,T z=Q↔(SF z=Q/\left z=Vl)/\SB z=Q)/\Bq w wr)
 case atStart =>
  refine⟨_,_,_,rfl,ZD,au,ax,λ z=>⟨λ h=>(by cases h),?_⟩,B3⟩;rintro⟨⟨h1,h2⟩,_⟩;rw[eF,h1]at h2;cases h2
 case round =>
  obtain⟨left,cnt,T,WV,Xd,F,hK,Wi,A⟩:=hrel;have an:=A.size;go_wp2_with (first|(at_next;refine di rfl _ rfl 3 aV fb r _ _ _ _ rfl Xd ?_ ?_)|go_in)
  ·intro a3 XN;go_wp2;go_ret;refine⟨_,T,rfl,F,λ z=>?_,aa,A⟩;rw[Wi.out z,ay.out z,aL.out z];exact⟨λ h=>⟨h.1.1,h.2⟩,λ h=>⟨⟨h.1,XN z⟩,h.2⟩⟩
  ·intro x v j P Zd Yp YQ WU VS B Yy ZG;obtain⟨o,rfl⟩:=kT YQ;have hx:=hF.bd x o;have Zs:=F.grown B (λ e=>by have:=Option.some.inj e;omega);have f:=hK.grown B (λ e=>by have:=Option.some.inj e;omega);have R:Bq w j:=A.grown B an (λ k e=>by cases e;omega);have L:=Zs.grown (TP j (VP #[] 279) UP) sQ;have q:=f.grown (TP j (VP #[] 279) UP) sQ;have XM:=WU.grown (TP j (VP #[] 279) UP) sQ sQ;have B5:=R.alloc R.size (VP #[] 279);cases i:SB x with
   |false =>
    have Xl:(Instr.lookup 230 (.map (Z kb)) (J x) Q).run Vyj j=.ok (.tuple #[.agg #[],.bool Vl]) j:=f.mp.u6 aV Tryz.u9 (sS _) Zd (kR i) Q;clear F hK Xd A Zs f R B;go_wp2;go_roundg P
    case measure=>omega
    case rel =>
     refine⟨_,P,T,rfl,XM,L,q,λ z=>?_,B5⟩;rw[Wi.out z];by_cases e:z=x
     ·subst e;simp[i]
     ·simp[e]
   |true =>
    have Xl:(Instr.lookup 230 (.map (Z kb)) (J x) Q).run Vyj j=.ok (.tuple #[.agg #[],.bool Q]) j:=f.mp.Ui aV Tryz.u9 (sS _) Zd (kP i) Q;clear F hK Xd A Zs f R B;go_wp2_with (first|(at_mapUpdate;refine ef rfl _ _ _ 230 rfl 3 279 aV Tryz.u9 (G w.heap) _ _ rfl L.mp L.room x (.agg #[]) rfl rfl Zd ?_;intro w5 ad ab;go_frame)|go_in);have ap:=L.put hx.1 hx.2 ad;have X9:=ab.grown;have Xf:=XM.grown X9 (λ e=>by have:=Option.some.inj e;omega) (λ e=>by have:=Option.some.inj e;omega);have aw:=q.grown X9 (λ e=>by have:=Option.some.inj e;omega);have B6:Bq w w5:=B5.grown X9 B5.size (λ k e=>by cases e;exact aa);go_roundg P
    case measure=>omega
    case rel =>
     refine⟨_,P,_,rfl,Xf,ap,aw,λ z=>?_,B6⟩;rw[cW,Wi.out z];by_cases e:z=x
     ·subst e;simp[i,o]
     ·simp[e]
section
open Go.Shelf
def Tryz.keysA_ren:Go.Shelf.Ren:=⟨λ|7=>150|10=>206|n=>n,λ|23=>137|26=>3|3=>140|28=>239|0=>0|27=>238|33=>147|4=>4|n=>n,λ|n=>n⟩
theorem Tryz.keysA:Go.Proofs.SlLaysZI.n7 Vyj Tryz.keysA_ren:={
 mixed:=kQ
 f7:=⟨f150.name,dQ,func150.trans (Q7 Z kQ)⟩
 f10:=⟨Tryz.f206.name,dQ,func206.trans (Q7 Z kQ)⟩
 t0:=underlying0
 a0:=isAgg0
 z0:=sizeOf0
 v0:=zeroValue0
 t4:=underlying4
 a4:=isAgg4
 z4:=Tryz.sizeOf4
 v4:=zeroValue4
 t23:=underlying137
 a23:=isAgg137
 z23:=sizeOf137
 v23:=zeroValue137
 t26:=underlying3
 a26:=isAgg3
 z26:=sizeOf3
 v26:=zeroValue3
 t27:=underlying238
 a27:=isAgg238
 z27:=sizeOf238
 v27:=zeroValue238
 t28:=underlying239
 a28:=isAgg239
 z28:=sizeOf239
 v28:=zeroValue239
 t33:=underlying147
 a33:=isAgg147
 z33:=sizeOf147
 v33:=zeroValue147 }
def Tryz.sortedA_ren:Go.Shelf.Ren:=⟨λ|6=>149|8=>204|9=>205|11=>247|13=>249|12=>248|23=>276|24=>228|14=>267|15=>268|16=>269|17=>270|18=>271|19=>272|20=>273|21=>274|22=>275|25=>291|26=>292|27=>293|28=>294|29=>295|30=>296|31=>301|n=>n,λ|26=>3|28=>239|24=>60|0=>0|3=>3|37=>266|48=>310|50=>273|4=>4|40=>350|39=>349|45=>53|5=>5|9=>9|51=>370|55=>374|57=>377|58=>85|33=>147|n=>n,λ|n=>n⟩
theorem Tryz.sortedA:Go.Proofs.SlLaysZI.n6 Vyj Tryz.sortedA_ren:={
 mixed:=kQ
 f6:=⟨f149.name,dQ,func149.trans (Q7 Z kQ)⟩
 f8:=⟨f204.name,dQ,func204.trans (Q7 Z kQ)⟩
 f11:=⟨Tryz.f247.name,dQ,func247.trans (Q7 Z kQ)⟩
 t0:=underlying0
 a0:=isAgg0
 z0:=sizeOf0
 v0:=zeroValue0
 t24:=Vyg
 a24:=isAgg60
 z24:=sizeOf60
 v24:=zeroValue60
 t26:=underlying3
 a26:=isAgg3
 z26:=sizeOf3
 v26:=zeroValue3
 t28:=underlying239
 a28:=isAgg239
 z28:=sizeOf239
 v28:=zeroValue239
 i26:=by kernel_rfl }
def Tryz.sortA_ren:Go.Shelf.Ren:=⟨λ|5=>205|8=>249|7=>248|19=>276|20=>228|10=>267|11=>268|12=>269|13=>270|14=>271|15=>272|16=>273|17=>274|18=>275|30=>291|31=>292|32=>293|33=>294|34=>295|35=>296|40=>301|n=>n,λ|23=>60|25=>3|3=>3|32=>266|22=>60|0=>0|44=>310|46=>273|4=>4|36=>350|35=>349|41=>53|5=>5|9=>9|53=>370|57=>374|63=>377|64=>85|n=>n,λ|n=>n⟩
theorem Tryz.sortA:Go.Proofs.SlLaysM.n5 Vyj Tryz.sortA_ren:={
 mixed:=kQ
 f5:=⟨Tryz.f205.name,dQ,func205.trans (Q7 Z kQ)⟩
 f7:=⟨f248.name,dQ,func248.trans (Q7 Z kQ)⟩
 f8:=func249.trans (Q7 Z kQ)
 f10:=⟨Tryz.f267.name,dQ,func267.trans (Q7 Z kQ)⟩
 f11:=⟨Tryz.f268.name,dQ,func268.trans (Q7 Z kQ)⟩
 f12:=⟨f269.name,dQ,func269.trans (Q7 Z kQ)⟩
 f13:=⟨f270.name,dQ,func270.trans (Q7 Z kQ)⟩
 f14:=⟨f271.name,dQ,func271.trans (Q7 Z kQ)⟩
 f15:=⟨f272.name,dQ,func272.trans (Q7 Z kQ)⟩
 f16:=⟨f273.name,dQ,func273.trans (Q7 Z kQ)⟩
 f17:=⟨f274.name,dQ,func274.trans (Q7 Z kQ)⟩
 f18:=⟨f275.name,dQ,func275.trans (Q7 Z kQ)⟩
 f19:=func276.trans (Q7 Z kQ)
 f20:=func228.trans (Q7 Z kQ)
 f30:=⟨f291.name,dQ,func291.trans (Q7 Z kQ)⟩
 f31:=func292.trans (Q7 Z kQ)
 f32:=func293.trans (Q7 Z kQ)
 f33:=⟨f294.name,dQ,func294.trans (Q7 Z kQ)⟩
 f34:=⟨f295.name,dQ,func295.trans (Q7 Z kQ)⟩
 f35:=⟨f296.name,dQ,func296.trans (Q7 Z kQ)⟩
 f40:=⟨f301.name,dQ,func301.trans (Q7 Z kQ)⟩
 t0:=underlying0
 a0:=isAgg0
 z0:=sizeOf0
 v0:=zeroValue0
 t3:=underlying3
 a3:=isAgg3
 z3:=sizeOf3
 v3:=zeroValue3
 t4:=underlying4
 a4:=isAgg4
 z4:=Tryz.sizeOf4
 v4:=zeroValue4
 t5:=underlying5
 a5:=isAgg5
 z5:=sizeOf5
 v5:=zeroValue5
 t9:=underlying9
 a9:=isAgg9
 z9:=sizeOf9
 v9:=zeroValue9
 t22:=Vyg
 a22:=isAgg60
 z22:=sizeOf60
 v22:=zeroValue60
 t23:=Vyg
 a23:=isAgg60
 z23:=sizeOf60
 v23:=zeroValue60
 t25:=underlying3
 a25:=isAgg3
 z25:=sizeOf3
 v25:=zeroValue3
 t32:=underlying266
 a32:=isAgg266
 z32:=sizeOf266
 v32:=zeroValue266
 t35:=underlying349
 a35:=isAgg349
 z35:=sizeOf349
 v35:=zeroValue349
 t36:=underlying350
 a36:=isAgg350
 z36:=sizeOf350
 v36:=zeroValue350
 t41:=underlying53
 a41:=isAgg53
 z41:=sizeOf53
 v41:=zeroValue53
 t44:=underlying310
 a44:=isAgg310
 z44:=sizeOf310
 v44:=zeroValue310
 t46:=underlying273
 a46:=isAgg273
 z46:=sizeOf273
 v46:=zeroValue273
 t53:=underlying370
 a53:=isAgg370
 z53:=sizeOf370
 v53:=zeroValue370
 t57:=underlying374
 a57:=isAgg374
 z57:=sizeOf374
 v57:=zeroValue374
 t63:=underlying377
 a63:=isAgg377
 z63:=sizeOf377
 v63:=zeroValue377
 t64:=underlying85
 a64:=isAgg85
 z64:=sizeOf85
 v64:=zeroValue85 }
end
section
open Go.RowKit Go.Sort
theorem Cb:∀{l l':List Int},l.Pairwise (·<·)->l'.Pairwise (·<·)->(∀x,x∈l↔x∈l')->l=l'
 |[],[],_,_,_=>rfl
 |[],y::l',_,_,h=>Q8 ((h y).2 (Tp ..)) (Uf)
 |x::l,[],_,_,h=>Q8 ((h x).1 (Tp ..)) (Uf)
 |x::l,y::l',c,a,h=>by
  rw[List.pairwise_cons]at c a;have e:x=y:=by
   rcases TD.1 ((h x).1 (Tp ..)) with e|e
   exact e;rcases TD.1 ((h y).2 (Tp ..)) with f|f
   exact f.symm
   grind
  subst e;have d:=Cb c.2 a.2 (λ z=>by
   constructor
   grind
   intro b;rcases TD.1 ((h z).2 (List.mem_cons_of_mem _ b)) with e|e
   have:=a.1 z b;omega;exact e)
  rw[d]
abbrev dH (l:Ln):List Int:=l.map λ n:Nat=>(n:Int)
theorem oT {l:Ln}{x:Int}:x∈dH l↔∃n:Nat,n∈l/\x=n:=by grind
theorem pQ {l:Ln}(h:l.Pairwise (·<·)):(dH l).Pairwise (·<·):=by grind
theorem tO {l l':Ln}(d:l.Pairwise (·<·))(c:l'.Pairwise (·<·))(h:∀n,n∈l↔n∈l'):l=l':=by
 have:=Cb (pQ d) (pQ c) (λ x=>by
  rw[oT,oT];exact⟨λ ⟨n,a,b⟩=>⟨n,(h n).1 a,b⟩,λ ⟨n,a,b⟩=>⟨n,(h n).2 a,b⟩⟩)
 have q:=Q7 (List.map Int.toNat) this
 simpa [dH,U7,Function.comp_def]using q
theorem Ei (L:Ln)(i:L.Nodup):∃l:Ln,l.Pairwise (·<·)/\(∀n,n∈l↔n∈L)/\K l=K L/\(dH L).mergeSort (λ x y=>decide (x<=y))=dH l:=by
 have e:=List.mergeSort_perm (dH L) (λ x y=>decide (x<=y));have m:((dH L).mergeSort (λ x y=>decide (x<=y))).Pairwise (λ x y=>decide (x<=y)=Q):=List.pairwise_mergeSort (λ a b c j o=>by simp at *;omega) (λ a b=>by simp;omega) (dH L);have g:(dH L).Nodup:=by grind
 have f:=e.nodup_iff.2 g;generalize (dH L).mergeSort (λ x y=>decide (x<=y))=d at *;have q:d.Pairwise (·<·):=by
  have:=m.and f;refine this.imp ?_;rintro a b ⟨j,o⟩;have:=Q1 j;omega
 have k:∀x∈d,0<=x:=λ x h=>by grind
 have p:dH (d.map Int.toNat)=d:=by
  unfold dH;rw[U7]
  conv=>rhs;rw[<- List.map_id d]
  exact List.map_congr_left (λ x h=>by
   have:=k x h;simp;omega)
 refine⟨d.map Int.toNat,?_,λ n=>?_,?_,p.symm⟩
 ·grind [List.Pairwise.imp_of_mem]
 ·rw[TX];constructor
  ·grind
  ·intro i;exact⟨n,e.mem_iff.2 (oT.2 ⟨n,i,rfl⟩),by simp⟩
 ·rw[List.length_map,e.length_eq];simp[dH]
theorem dr:∀(N:Nat) {L:Ln},L.Nodup->(∀n∈L,n<N)->K L<=N
 |0,[],_,_=>aa
 |0,x::_,_,h=>Q8 (h x (Tp ..)) (Nat.not_lt_zero _)
 |N+1,L,a,h=>by
  have d:=dr N (L:=L.erase N) (a.erase N) (λ n b=>by
   have:=(a.mem_erase_iff).1 b;have:=h n this.2;omega)
  have c:K L<=K (L.erase N)+1:=by grind
  omega
theorem jh {row:Option Nat}{xs:List Vr}(h:G' w base e k v n xs)(b:w.grownBy I row)(c:∀g,M' v=Z g->Z g≠row):G' I base e k v n xs:=by
 refine h.kept b ?_;cases a:M' v with
 |none=>exact SQ rfl
 |some g=>exact SP (c g a)
theorem br {F:Nat->Prop}{xs:List Vr}(h:G' w base e k v n xs)(m:ai F w I)(j:∀g,M' v=Z g->¬F g):G' I base e k v n xs:=by
 refine⟨h.1,?_⟩;rcases h.2 with i|⟨g,b,a,c,l,d,f⟩
 exact SQ i;refine SP ⟨g,b,a,c,l,(m.block g (Array.getElem?_eq_some_iff.1 d).1 (j g (by rw[c];rfl))).trans d,f⟩
theorem bK {P:Program}{i:TypeId}{m:Nat}{f:Int->Option Vr}{xs:List Vr}(h:G' w base e k v n xs)(p:bj P i w b f m):∀g,M' v=Z g->g≠b:=by
 intro g a e;obtain⟨s,⟨r,c,j,_⟩,_⟩:=p;rcases h.2 with⟨rfl,_⟩|⟨q,o,l,rfl,_,d,_⟩
 cases a;simp only[Value.ownBlock,Option.some.injEq]at a;rw[a,e,j]at d;cases d
theorem Cc {base:Nat}{L l:Ln}(w:M)(h:G' w base 3 1 v (K L) (aH L))(C:L≠[])(j:K l=K L)(o:(dH L).mergeSort (λ x y=>decide (x<=y))=dH l)(i:K L<=256) :
  Zq 205 #[v] w λ e I=>e=VJ (.tuple #[])/\G' I base 3 1 v (K l) (aH l)/\w.grownBy I (M' v):=by
 rcases h.2 with⟨_,B⟩|⟨g,f,t,rfl,u,d,s,r,q,A⟩
 grind
 have z:aH L=(dH L).map (Value.int .i64):=by simp[aH,dH]
 have b:aH l=(dH l).map (Value.int .i64):=by simp[aH,dH]
 have a:K (dH L)=K L:=by simp[dH]
 have c:K (dH l)=K (dH L):=by simp[dH,j]
 have p:Go.Sort.Holds (Value.int .i64) w g 0 (dH L).toArray:=holds_of_blockI d (by grind);have k:=AnyM.slices_Sort_int Tryz.sortA g 0 f (dH L) w p (Array.getElem?_eq_some_iff.1 d).1 (by rw[a];omega);rw[o,a]at k;refine k.mono ?_;rintro e I ⟨rfl,n,m,rfl⟩;refine⟨rfl,?_,grownBy_sortedI _⟩;have:=ownsRow_sortedI (base:=base) (n:=n) (os:=m) (ss:=dH L) (ts:=dH l) c u d (by rw[a];exact s) r q;rw[a]at this;rw[j,b];exact this
end
theorem nM:D4 0=.nilIface:=rfl
theorem kX {n:Int}(h:n≠0):D4 n=.iface 42 (J n):=by unfold D4;rw[Q6 h]
theorem Ej {Y:Bn}(a:Int)(w:M)(g:aq w b W H V Y)(e:ffv W H Y a≠0) :
  Rq 212 #[Pq b,J a] w (.tuple #[.slice UP 0 0,D4 (ffv W H Y a)]):=by
 have d:=kN a w g;rw[kX e]at d ⊢;go_enter func212,ntmps212;go_wp2_with fail;refine Q9 d λ f c=>?_;clear d;go_wp2;go_ret2;exact⟨rfl,c⟩
theorem oU {P:Program}{j:TypeId}{r m cnt:Nat}{f:Int->Option Vr}{left:Int->Bool}{xs:List Vr}(h:G' w base e k v n xs)(q:iM P j w b r f m left cnt):∀g,M' v=Z g->Z g≠Z r:=by
 intro g c e;obtain⟨H,s,⟨C,d,a,seen,F,A,z,y,x,l,u⟩,t⟩:=q;rcases h.2 with⟨rfl,_⟩|⟨B,p,o,rfl,_,i,_⟩
 cases c;simp only[Value.ownBlock,Option.some.injEq]at c;rw[c,Option.some.inj e,l]at i;cases i
theorem IX {W a:Int}{Y:Bn}(w:M)(g:aq w b W H V Y)(s:az w)(hb:b<G w.heap)(ha:inB W H a=Q)(WJ:Y a.toNat=Vl) :
  Zq 212 #[Pq b,J a] w λ e I=>∃v l,e=VJ (.tuple #[v,.nilIface])/\G' I (G w.heap) 3 1 v (K l) (aH l)/\(l.Pairwise (·<·)/\∀n:Nat,n∈l↔Dir W H Y a n)/\Bq w I:=by
 have o:=g.w1;have ax:=g.w2;have aL:=g.h1;have ay:=g.h2;have WS:=bG g.w1 g.w2 g.h1 g.h2;have Ys:0<=a/\a<W*H:=Q1 ha;have bc:=aE Ys.1 (show a<256 by omega);have XE:Vy (∀r,Nr W H Y a r->aP W a r<=1000/\aO W a r<=1000):=λ r hr=>by
  have:=cA o ax aL ay ha (hr.in o ha);omega
 have an:Vy (∀n:Int,Dir W H Y a n↔Nr W H Y a n/\¬Bhd W H Y a n):=λ n=>by
  constructor
  ·intro hd;have:=cA o ax aL ay ha (hd.in o ha);exact(Dir.iff o U U).1 hd
  ·intro hd;obtain⟨N,q2⟩:=XE.out n hd.1;exact(Dir.iff o N q2).2 hd
 have Yr:Vy (∀n:Int,Nr W H Y a n->0<=n/\n<256/\inB W H n=Q/\cY W a n<=32):=λ n hn=>by
  have f:=hn.in o ha
  have m:0<=n/\n<W*H:=Q1 f;have:=cA o ax aL ay ha f;exact⟨m.1,U,f,by unfold cY;omega⟩
 obtain⟨i0,hi,VZ,Wa,Wc⟩:=info_parts Tryz.Vxg;have f:=kN a w g;rw[nw ha WJ,nM]at f;have bf:=@run_makeMap Vyj;go_enter func212,ntmps212;go_wp2_with fail;refine Q9 f λ w1 B=>?_;clear f;have a6:=(aU.made w1).grown (TP (E w1 (.map #[] 0)) (.map #[] 0) UP) sQ;have ZE:=aU.made (E w1 (.map #[] 0));have YY:G (E w1 (.map #[] 0)).heap=G w1.heap+1:=by simp
 have B0:Bq w ((E w1 (.map #[] 0)).alloc (.map #[] 0)):=(B.alloc B.size _).alloc (by have:=B.size;simp;omega) _;rw[YY]at ZE;go_wp2_with (first|(refine vA rfl _ _ _ 230 rfl 3 279 aV Tryz.u9 (G w1.heap+1) _ _ (by first|rfl|(rw[YY];rfl)) ZE.mp ZE.room a (.agg #[]) rfl rfl bc ?_;intro w2 ZW a1;go_frame)|go_in);have bm:=ZE.put Ys.1 (show a<256 by omega) ZW;have ap:=a1.grown;have bq:=a6.grown ap (λ e=>by have:=Option.some.inj e;omega);have B1:Bq w w2:=B0.grown ap (by have:=B.size;simp;omega) (λ k e=>by cases e;have:=B.size;omega);have b6:=B.size;clear a6 ZE YY B0 ZW a1 ap bf;generalize bk:G w1.heap=bb at *;clear bk B;go_loopg [7,9] 60 (λ gk dv fv wr=>∃(i fb:Nat) (X SB:Int->Bool) (L:Ln),gk=60-i/\fv=.map (Z fb)/\bb<fb/\aU wr fb X/\aU wr bb SB/\Vy (∀z,X z=Q↔Nr W H Y a z/\cY W a z=i)/\Vy (∀z,SB z=Q↔(Nr W H Y a z/\cY W a z<=i)/\Bhd W H Y a z) /\
   wr.ownsRow (G w.heap) 3 1 dv (K L) (aH L)/\L.Nodup/\Vy (∀n:Nat,n∈L↔Dir W H Y a n/\cY W a n<i)/\Bq w wr)
 case atStart =>
  refine⟨0,_,_,_,[],rfl,rfl,Ur _,bm,bq,λ z=>?_,λ z=>⟨λ h=>(by cases h),?_⟩,To _ _ _ _,List.nodup_nil,λ n=>?_,B1⟩
  ·rw[cW];constructor
   ·rintro (rfl|h)
    ·exact⟨Nr.self,by rw[rY];rfl⟩
    ·cases h
   ·rintro⟨f,m⟩;exact SQ (xS m)
  ·rintro⟨⟨f,m⟩,y⟩;have:=eG W a z;have e:=xS (W:=W) (a:=a) (r:=z) (by simp at m;omega);rw[e]at y;exact Q8 y (Bhd.not_self o)
  ·have:=eG W a n;simp;omega
 case round =>
  obtain⟨i,fb,X,SB,L,WV,rfl,bi,hF,hB,S,C,d,A,P,F⟩:=hrel;have ao:=λ ty=>hF.mp.len (t:=230) Tryz.u9 ty;have VY:=hF.ne_nil;have ZU:K L<=256:=dr 256 A (λ n hn=>by
   have:=Yr.out n ((an.out n).1 ((P.out n).1 hn).1).1;omega)
  have a9:Vy L.Nodup:=A;clear A;by_cases YW:0<cM X 256
  ·obtain⟨z,hz⟩:=VY.1 YW;have aN:=(S.out z).1 hz;have ba:=Yr.out z aN.1;have Zy:(0:Int)<((cM X 256:Nat):Int):=U;have b4:i<=32:=U;clear VY hz aN ba;have au:=F.size;have XY:=hF.lt;have Wv:=hB.lt;go_wp2_with (first|(at_range;refine cO rfl _ 230 rfl 3 279 aV Tryz.u9 fb _ _ rfl hF.mp ?_;intro w3 Xf Yo bZ)|go_in);have bp:=hB.grown Yo sQ;have Xj:=jh d Yo sQ;have bx:Bq w w3:=F.grown Yo au sQ;generalize hr:G wr.heap=r at *;clear d hB F Yo ao;go_frame;go_loopg [7] (cM X 256) (λ gj bs wq=>∃(left:Int->Bool) (cnt:Nat) (L':Ln),gj=cnt/\BC wq fb r X left cnt/\aU wq bb SB/\G' wq (G w.heap) 3 1 bs (K L') (aH L')/\Vy L'.Nodup/\Vy (∀n:Nat,n∈L'↔n∈L\/((X n=Q/\left n=Vl)/\SB n=Vl))/\Bq w wq/\r<G wq.heap)
   case atStart =>
    refine⟨_,_,L,rfl,Xf,bp,Xj,a9.out,λ n=>⟨SQ,?_⟩,bx,U⟩;rintro (h|⟨⟨f,m⟩,_⟩)
    ·exact h
    ·rw[eF,f]at m;cases m
   case round =>
    obtain⟨left,cnt,L',b5,Xd,R,d,A,ab,F,b0⟩:=hrel;have ZR:=F.size;have b7:K L'<=256:=dr 256 A.out (λ n hn=>by
     rcases (ab.out n).1 hn with h|h
     ·have:=Yr.out n ((an.out n).1 ((P.out n).1 h).1).1;omega
     ·have:=Yr.out n ((S.out n).1 h.1.1).1;omega)
    go_wp2_with (first|(at_next;refine di rfl _ rfl 3 aV fb r _ _ _ _ rfl Xd ?_ ?_)|go_in)
    ·intro a5 XN;have a7:aU wr fb X:=⟨Xd.map,hF.bd⟩;have a4:=IV wr (g.below F hb) (s.below F U) (Tc hb F.size) a7 R (Nat.ne_of_gt bi) (Oq s.pos) (Oq s.pos) (λ z hz=>(Yr.out z ((S.out z).1 hz).1).2.2.1) ha (λ c k z hc ho=>by
      cases hz:X z with
      |false=>rfl
      |true =>
       have f:=(S.out c).1 hc;have m:=(S.out z).1 hz;have:=ho.next o
       omega)
     have ZS:=bK d R.mp;clear Xd a7;go_wp2_with fail;refine a4.mono ?_;rintro e w5 ⟨nb,T,B',rfl,hT,YE,bl,bw,b3,hK⟩;have WC:=br d hK ZS;have B5:Bq w w5:=F.trans (hK.Z' F.size (λ k e=>U));clear a4 d hK R ZS;go_wp2;go_roundg (60-(i+1))
     case measure=>omega
     case rel =>
      refine⟨i+1,nb,T,B',L',rfl,rfl,U,hT,YE,λ z=>?_,λ z=>?_,WC,A.out,λ n=>?_,B5⟩
      ·rw[bl z];constructor
       ·rintro⟨c,k,f,m⟩;obtain⟨N,q2⟩:=(S.out c).1 f;have:=m.next o
        exact⟨N.out o m,U⟩
       ·rintro⟨f,m⟩;obtain⟨N,q2⟩:=XE.out z f;obtain⟨c,k,y,h4⟩:=f.prev o N q2 (λ e=>by rw[e,rY]at m;omega);have:=h4.next o
        exact⟨c,k,(S.out c).2 ⟨y,U⟩,h4⟩
      ·rw[bw z];constructor
       ·rintro (h|⟨c,k,f,m,y⟩)
        ·obtain⟨⟨N,q2⟩,q3⟩:=(C.out z).1 h;exact⟨⟨N,U⟩,q3⟩
        ·obtain⟨N,q2⟩:=(S.out c).1 f;have:=m.next o
         have hz:=N.out o m;obtain⟨b1,b2⟩:=XE.out z hz;refine⟨⟨hz,U⟩,(Bhd.iff o b1 b2).2 ⟨c,k,N,m,?_⟩⟩;rcases y with y|⟨y,h4⟩
         ·exact SQ ((C.out c).1 y).2
         ·exact SP ⟨aI.1 y,h4⟩
       ·rintro⟨⟨N,q2⟩,q3⟩;by_cases bD:cY W a z<=i
        ·exact SQ ((C.out z).2 ⟨⟨N,bD⟩,q3⟩)
        ·obtain⟨b1,b2⟩:=XE.out z N;obtain⟨c,k,f,m,y⟩:=(Bhd.iff o b1 b2).1 q3;have:=m.next o
         refine SP ⟨c,k,(S.out c).2 ⟨f,U⟩,m,?_⟩;rcases y with y|⟨y,h4⟩
         ·exact SQ ((C.out c).2 ⟨⟨f,U⟩,y⟩)
         ·exact SP ⟨aI.2 y,h4⟩
      ·rw[ab.out n,P.out n,S.out n,an.out n];constructor
       ·rintro (⟨f,m⟩|⟨⟨⟨f,m⟩,_⟩,y⟩)
        ·exact⟨f,U⟩
        ·refine⟨⟨f,λ hb=>?_⟩,U⟩;have:=(C.out n).2 ⟨⟨f,U⟩,hb⟩;rw[y]at this;cases this
       ·rintro⟨f,m⟩;by_cases VS:cY W a n<i
        ·exact SQ ⟨f,VS⟩
        ·refine SP ⟨⟨⟨f.1,U⟩,XN n⟩,?_⟩;cases hs:SB n with
         |false=>rfl
         |true=>exact Q8 ((C.out n).1 hs).2 f.2
    ·intro x v w4 Wt Zd Yp YQ WU VS W9 Yy ZG;obtain⟨aw,rfl⟩:=kT YQ;have hx:=hF.bd x aw;have ac:=R.grown W9 (λ e=>by have:=Option.some.inj e;omega);have XS:=jh d W9 (oU d Xd);have B4:Bq w w4:=F.grown W9 ZR (λ k e=>by cases e;omega);have am:=ac.grown (TP w4 (VP #[] 279) UP) sQ;have XM:=WU.grown (TP w4 (VP #[] 279) UP) sQ sQ;have WC:=XS.alloc (VP #[] 279);have B5:=B4.alloc B4.size (VP #[] 279);have a3:r<G (E w4 (VP #[] 279)).heap:=(by simp;omega);cases ag:SB x with
     |true =>
      have Xl:(Instr.lookup 230 (.map (Z bb)) (J x) Q).run Vyj w4=.ok (.tuple #[.agg #[],.bool Q]) w4:=ac.mp.Ui aV Tryz.u9 (sS _) Zd (kP ag) Q;clear Xd F R d ac XS B4 W9;go_wp2;go_roundg Wt
      case measure=>omega
      case rel =>
       refine⟨_,Wt,L',rfl,XM,am,WC,A,λ n=>?_,B5,a3⟩;rw[ab.out n];by_cases e:(n:Int)=x
       ·rw[e];simp[ag]
       ·simp[e]
     |false =>
      have Xl:(Instr.lookup 230 (.map (Z bb)) (J x) Q).run Vyj w4=.ok (.tuple #[.agg #[],.bool Vl]) w4:=ac.mp.u6 aV Tryz.u9 (sS _) Zd (kR ag) Q;clear Xd F R d ac XS B4 W9;have ZH:=B5.size;obtain⟨xn,a0⟩:∃xn:Nat,x=(xn:Int):=⟨x.toNat,U⟩;have ad:=qH a0;clear a0;generalize Z6:E w4 (VP #[] 279)=w5 at *;go_wp2_with (at_builtin;refine wpList_append_own _ rfl _ _ 60 rfl (G w.heap) 3 i0 (J 0) 1 8 Vyg hi VZ Wa Wc rfl dQ _ _ _ rfl (WC.alloc _) (O (G w5.heap) 0) 1 1 [J x] rfl rfl ?c1 ?c2 ?c3 ?c4 ?c5 ?_)
      case c1 =>
       intro j u hj
       match j,hj with
       |0,hj =>
        simp at hj;subst hj;simp only[Addr.add];exact SR (w:=w5) #[J x] 3 (G w5.heap) 0 rfl
      case c2=>intro u hu;simp at hu;subst hu;rfl
      case c3=>unfold maxLen;omega
      case c4=>omega
      case c5=>simp;omega
      intro v' w6 VR VQ _;have VV:=λ q hq=>(WC.lt q hq).1;have B6:Bq w w6:=(B5.alloc ZH _).grown VQ sU VV;have O6:G' w6 (G w.heap) 3 1 v' (K (L'++[xn])) (aH (L'++[xn])):=by
       rw[ad.out]at VR
       simpa [aH]using VR
      have bA:=(XM.grown (TP w5 (VP #[J x] 3) UP) sQ sQ).grown VQ (λ e=>bK WC XM.map _ e.symm rfl) (λ e=>oU WC XM _ e.symm rfl);have bn:=(am.grown (TP w5 (VP #[J x] 3) UP) sQ).grown VQ (λ e=>bK WC am.mp _ e.symm rfl);have be:r<G w6.heap:=Tc a3 (Tg sQ VQ.size);have HN:Vy (L'++[xn]).Nodup:=by
       have ZS:xn∉L':=λ hm=>by
        rcases (ab.out xn).1 hm with h|h
        ·have f:=(P.out xn).1 h;rw[<- ad.out]at f;have m:=(S.out x).1 aw;omega
        ·rw[<- ad.out]at h;rw[Yp]at h;exact Q8 h.1.2 dQ
       unfold Vy List.Nodup;rw[List.pairwise_append];exact⟨A.out,List.pairwise_singleton _ _,λ p hp q hq e=>by
        rw[Tv]at hq;rw[e,hq]at hp;exact ZS hp⟩
      clear VR VQ WC B5 XM am;go_wp2;go_roundg Wt
      case measure=>omega
      case rel =>
       refine⟨_,Wt,L'++[xn],rfl,bA,bn,O6,HN,λ n=>?_,B6,be⟩;rw[List.mem_append,Tv,ab.out n];by_cases e:n=xn
       ·subst e;rw[<- ad.out];simp[ag,aw]
       ·have e':¬(n:Int)=x:=λ q=>e (Oq ad.out);simp[e,e']
  ·have Wl:∀z,X z=false:=λ z=>by
    cases hz:X z with
    |false=>rfl
    |true=>exact Q8 (VY.2 ⟨z,hz⟩) YW
   have a5:cM X 256=0:=U;have Xw:∀n:Nat,n∈L↔Dir W H Y a n:=λ n=>by
    rw[P.out n];refine⟨λ h=>h.1,λ h=>⟨h,?_⟩⟩;by_cases q:cY W a n<i
    ·exact q
    ·exfalso;have f:=((an.out n).1 h).1;have m:=eG W a n;obtain⟨z',y,h4⟩:=Nr.U6 o XE.out (cY W a n).toNat n f U i U;have:=(S.out z').2 ⟨y,h4⟩;rw[Wl z']at this;cases this
   have HF:=qH Xw;have a8:L≠[]:=λ e=>by
    have f:=(Xw a.toNat).2 (by rw[Int.toNat_of_nonneg Ys.1];exact Dir.self o);rw[e]at f;cases f
   obtain⟨l,l1,l2,l3,l4⟩:=Ei L a9.out;have bI:=qH l2;have bM:=qH l1;have a2:=Cc wr d a8 l3 l4 ZU;have au:=F.size;have VV:=λ q hq=>(d.lt q hq).1;rw[a5]at ao;clear Xw Wl VY YW S C l1 l2 l3 l4 a8 d hB hF P;go_wp2_with fail;refine a2.mono ?_;rintro e w5 ⟨rfl,WC,X9⟩;have B5:Bq w w5:=F.grown X9 au VV;clear a2 X9 VV;go_wp2;go_ret2;exact⟨_,l,rfl,WC,⟨bM.out,λ n=>(bI.out n).trans (HF.out n)⟩,B5⟩
def ff2 (W H:Int) (Y:Bn) (a t:Int):Int:=if ffv W H Y a=0 then ffv W H Y t else ffv W H Y a
theorem pR {Y:Bn}(h:ff2 W H Y a t=0):(inB W H a=Q/\Y a.toNat=Vl)/\(inB W H t=Q/\Y t.toNat=Vl):=by grind [ff2,inB,ffv]
theorem pS {Y:Bn}(a t:Int)(w:M)(g:aq w b W H V Y)(j:b<G w.heap) :
  Rq 141 #[Pq b,J a,J t] w (D4 (ff2 W H Y a t)):=by
 have d:=kN a w g;unfold ff2;by_cases h:ffv W H Y a=0
 ·rw[Q5 h];rw[h,nM]at d;go_enter func141,ntmps141;go_wp2_with fail;refine Q9 d λ f c=>?_;have i:=kN t f (g.below c j);clear d;go_wp2_with fail;refine Q9 i λ k e=>?_;clear i;go_wp2;go_ret;exact⟨rfl,aj c e⟩
 ·rw[Q6 h];rw[kX h]at d ⊢;go_enter func141,ntmps141;go_wp2_with fail;refine Q9 d λ f c=>?_;clear d;go_wp2;go_ret;exact⟨rfl,c⟩
end Go.Proofs.YtikdmenjibkgiaaGreatDoor
