/- Texts laid together. -/
import Derived.Test.YtmaefimaeelkbaaGreatDoorP7
import Derived.Test.YtmaefimaeelkbaaGreatDoorP9
import Derived.Test.YtmaefimaeelkbaaGreatDoorP10
import Derived.Deep.CutRange
import Derived.Great.BuildSlice
import Derived.Deep.AppendLies
namespace Go.Proofs.YtmaefimaeelkbaaGreatDoor
open _root_.List renaming not_mem_nil→N6,mem_append→MT,mem_singleton→MU,mem_cons_self→M4,mem_cons_of_mem→MV,pairwise_singleton→Ox,pairwise_append→OG,append_assoc→Nq,append_nil→Nt,length_reverse→O3,length_cons→Nf,length_eq_zero_iff→NK,length_append→MM,getElem?_map→NF,drop_eq_getElem?_toList_append→Ow,getElem?_eq_getElem→MJ,mem_map→NH,length_map→NP,getElem_mem→ND,getElem_of_mem→Nv,flatMap_cons→Oh,getElem?_eq_some_iff→Np,pairwise_iff_getElem→NT,setIfInBounds_toArray→MX,take_length→M9,set_cons_zero→Nn,set_cons_succ→No,take_zero→Pq,take_add_one→Nb,length_take→MY,getElem_take→OV,mem_filter→Ns,mem_of_getElem?→MZ,getD_eq_getElem?_getD→MS
open _root_.Or renaming inl→MG,inr→MF
open _root_.Int renaming le_refl→Nc,toNat_natCast→ML,add_zero→NN,add_assoc→Nx,toNat_of_nonneg→Nl
open Go.World renaming cell?_alloc_at→ME,cell?_setCell_other→MH,ownsRow_nil→Nj,block_lt_of_cell?→MK,cell?_alloc_new→MP
open _root_.Nat renaming le_trans→M5,zero_add→M8,zero_le→MQ,lt_of_lt_of_le→MN,not_lt_zero→Nz,mul_le_mul→Ov
open Go.Value renaming int→NB
open Go.Value renaming int→PE
open Go.IntKind renaming i64→PF
open Go.Proofs.Tryz
open _root_.Option renaming some→OM,none→Pk
open _root_.Bool renaming true→Pm,false→PB
open Go renaming World→PG,Value→PH,Calls→PK
open Go.RowKit renaming Below→PI,Hid→PJ
open Go.Ending renaming returned→PM
open Go.Obj renaming cells→PN
variable {o n r N lb nh na N0 vb eb top Ne i cap M X Y mb:Nat}{s s2 d2 W H V:Int}{L l:List Nat}{g g2:Int->Int×Int}{src To:Int->Int->Int->Prop}{P P2:Int->Int->Prop}{w w':PG}{gv v ve gv2:PH}{f:Int->Option PH}{A:Option Addr}{Fl:Int->Int->Option (Int×Int)}{F G B:Int->Option (Int×Int)}{RA:List PH}{R:Nat->List PH}
set_option maxHeartbeats 8000000
set_option maxRecDepth 1000000
section
section
variable {W H : Int} {bl : Nat → Bool} {Fl : Int → Int → Option (Int × Int)}
theorem uq (w1:1<=W)(B:∀c,inB W H c=Pm->ct (aF W H bl) c (Fl c)):∀(n:Nat) (a b s d:Int),inB W H a=Pm->inB W H b=Pm->Fl a b=OM (s,d)->val s d<=n ->
  ∃l,(∀c∈l,dC W H bl c\/c=b)/\Chn (GV W H bl Fl) a l b/\kF W a l=s/\kG W a l=d:=by
 intro n
 induction n with
 |zero =>
  intro a b s d ha hb hF hv;obtain⟨n1,n2,_⟩:=(B a ha).small hF;have e:b=a:=nQ ((B a ha).sound hF) (by simpa using hv);have:s=0/\d=0:=by unfold val at hv;omega
  exact⟨[],fun _ h=>absurd h N6,e.symm,this.1.symm,this.2.symm⟩
 |succ n ih =>
  intro a b s d ha hb hF hv;have via:∀k s1 d1 t u,dC W H bl k->Fl a k=OM (s1,d1)->Fl b k=OM (t,u)->s1+t=s->d1+u=d->0<val s1 d1->0<val t u ->
    ∃l,(∀c∈l,dC W H bl c\/c=b)/\Chn (GV W H bl Fl) a l b/\kF W a l=s/\kG W a l=d:=by
   intro k s1 d1 t u hk h1 h2 h3 h4 p1 p2;have hv2:val s1 d1+val t u=val s d:=(by rw[<- cC,h3,h4]);have hki:=aT w1 hk;have Zc:Fl k b=OM (t,u):=(B b hb).sym w1 (B k hki) h2;obtain⟨l1,a1,a2,a3,a4⟩:=ih a k s1 d1 ha hki h1 (by omega);obtain⟨l2,b1,b2,b3,b4⟩:=ih k b t u hki hb Zc (by omega);obtain⟨c1,c2,c3⟩:=Chn.app (W:=W) a2 b2;refine⟨l1++l2,fun c hc=>(MT.1 hc).elim (fun h=>?_) (b1 c),c1,by rw[c2,a3,b3];exact h3,by rw[c3,a4,b4];exact h4⟩;rcases a1 c h with h|h
   ·exact MG h
   ·rw[h];exact MG hk
  by_cases Sn:tJ W Fl a b
  ·have hp:s=aO W a b/\d=aK W a b:=by
    unfold tJ at Sn;rw[hF]at Sn;cases Sn;exact⟨rfl,rfl⟩
   by_cases hd:GV W H bl Fl a b
   ·exact⟨[b],fun c hc=>MF (MU.1 hc),⟨hd,rfl⟩,by rw[hp.1];show aO W a b+0=_;omega,by rw[hp.2];show aK W a b+0=_;omega⟩
   ·have:∃k s1 d1 t u,dC W H bl k/\k≠a/\k≠b/\Fl a k=OM (s1,d1)/\Fl b k=OM (t,u)/\s1+t=aO W a b/\d1+u=aK W a b:=by
     apply Classical.byContradiction;intro Qc;exact hd ⟨Sn,fun k s1 d1 t u c1 c2 c3 c4 c5 c6=>Qc ⟨k,s1,d1,t,u,c1,c2,c3,c4,c5,c6.1,c6.2⟩⟩
    obtain⟨k,s1,d1,t,u,c1,c2,c3,c4,c5,c6,c7⟩:=this;refine via k s1 d1 t u c1 c4 c5 (by rw[c6,hp.1]) (by rw[c7,hp.2]) ?_ ?_
    ·apply Classical.byContradiction;intro q;exact c2 (nQ ((B a ha).sound c4) (by omega))
    ·apply Classical.byContradiction;intro q;exact c3 (nQ ((B b hb).sound c5) (by omega))
  ·have PW:val s d≠val (aO W a b) (aK W a b):=by
    intro q;obtain⟨n1,n2,n3⟩:=(B a ha).small hF;have sm:=cE n1 n2 n3;have lo:=Cf w1 ((B a ha).sound hF);have o1:0<=aK W a b:=aD _ _ _;have o2:0<=aO W a b:=aG _ _ _;have o3:aK W a b<=256:=by
     have:val (aO W a b) (aK W a b)<=13979748608:=(by rw[<- q];exact n3);exact(cE o2 o1 this).2
    obtain⟨q1,q2⟩:=gL s d (aO W a b) (aK W a b) (by omega) (by omega) q;apply Sn;unfold tJ;rw[hF,q1,q2]
   obtain⟨k,s1,d1,t,u,c1,c2,c3,c4,c5,c6,c7⟩:=Ea w1 (B a ha) (B b hb) hF PW;exact via k s1 d1 t u c7 c1 c2 c3 c4 c5 c6
theorem ur {a b:Int}(w1:1<=W)(hS:aO W a b<=1000)(hD:aK W a b<=1000)(BA:ct (aF W H bl) a (Fl a))(BB:ct (aF W H bl) b (Fl b)):GV W H bl Fl a b↔Dir W H bl a b:=by
 constructor
 ·rintro⟨h1,h2⟩;refine⟨(oe w1 hS hD BA).2 h1,fun k hk hc=>?_⟩;obtain⟨s,d,t,u,k1,k2,k3,k4⟩:=(Aw w1 hS hD BA BB k).1 hk;by_cases e1:k=a
  ·exact MG e1
  ·by_cases e2:k=b
   ·exact MF e2
   ·exact absurd ⟨k3,k4⟩ (h2 k s d t u hc e1 e2 k1 k2)
 ·rintro⟨h1,h2⟩;refine⟨(oe w1 hS hD BA).1 h1,fun k s d t u hc e1 e2 k1 k2 k3=>?_⟩;rcases h2 k ((Aw w1 hS hD BA BB k).2 ⟨s,d,t,u,k1,k2,k3.1,k3.2⟩) hc with e|e
  ·exact e1 e
  ·exact e2 e
theorem pw {es:Nat->List LE}(w1:1<=W)(w2:W<=16)(h1:1<=H)(h2:H<=16)(G:GEs W H bl es)(B:∀c,inB W H c=Pm->ct (aF W H bl) c (Fl c)){b:Int}(hb:inB W H b=Pm):∀{l:List Int}{c:Int},dC W H bl c->(∀x∈l,dC W H bl x\/x=b)->Chn (GV W H bl Fl) c l b ->
  ∃(k:Int) (p q:Int),dC W H bl k/\Dir W H bl b k/\Wg (GrE es) c k p q/\val p q+cU W b k<=val (kF W c l) (kG W c l)
 |[],c,hc,_,h=>by
  have e:c=b:=h;subst e;refine⟨c,0,0,hc,Dir.self w1,Wg.nil,?_⟩;unfold cU;rw[fu,fw];exact Nc _
 |x::l,c,hc,hl,⟨hd,h⟩=>by
  have Rl:=aT w1 hc;have hv:val (kF W c (x::l)) (kG W c (x::l))=cU W c x+val (kF W x l) (kG W x l):=by
   show val (aO W c x+kF W x l) (aK W c x+kG W x l)=_;rw[aI];rfl
  have Si:∀(l:List Int) (x:Int),0<=val (kF W x l) (kG W x l):=by
   intro l
   induction l with
   |nil=>intro x;show 0<=val 0 0;decide
   |cons y l ih =>
    intro x;have:=ih y;have e1:=aG W x y;have e2:=aD W x y;show 0<=val (aO W x y+kF W y l) (aK W x y+kG W y l);rw[aI];have:=iE e1 e2;omega
  rcases hl x (M4 ..) with hx|hx
  ·have hxi:=aT w1 hx;have hs:=bV w1 w2 h1 h2 Rl hxi;have X9:=(ur w1 (by omega) (by omega) (B c Rl) (B x hxi)).1 hd;obtain⟨k,p,q,k1,k2,k3,k4⟩:=pw w1 w2 h1 h2 G B hb hx (fun y hy=>hl y (MV _ hy)) h;by_cases e:x=c
   ·subst e;refine⟨k,p,q,k1,k2,k3,?_⟩;rw[hv];have:0<=cU W x x:=iE (aG _ _ _) (aD _ _ _);omega
   ·have qc:0<=c/\c<W*H:=of_decide_eq_true Rl;have qx:0<=x/\x<W*H:=of_decide_eq_true hxi;obtain⟨cn,rfl⟩:∃cn:Nat,c=(cn:Int):=⟨c.toNat,by omega⟩;obtain⟨xn,rfl⟩:∃xn:Nat,x=(xn:Int):=⟨x.toNat,by omega⟩;have PY:=G.in (aE.2 hc) (aE.2 hx) X9 (fun q=>e (by omega))
    have ed:GrE es (cn:Int) (xn:Int) (aO W cn xn) (aK W cn xn):=⟨_,by rw[ML];exact PY,rfl,rfl,rfl⟩;refine⟨k,aO W cn xn+p,aK W cn xn+q,k1,k2,(Wg.one ed).trans k3,?_⟩;rw[hv,aI];unfold cU at *;omega
  ·subst hx;have hs:=bV w1 w2 h1 h2 Rl hb;have X9:=(ur w1 (by omega) (by omega) (B c Rl) (B x hb)).1 hd;refine⟨c,0,0,hc,X9.sym,Wg.nil,?_⟩;rw[hv,eu W x c];have:=Si l x;show 0+cU W c x<=_;omega
theorem uu {es:Nat->List LE}(w1:1<=W)(w2:W<=16)(h1:1<=H)(h2:H<=16)(G:GEs W H bl es)(B:∀c,inB W H c=Pm->ct (aF W H bl) c (Fl c)){a b s d:Int}(ha:inB W H a=Pm)(hb:inB W H b=Pm)(hF:Fl a b=OM (s,d))(hn:¬ ∃z,On W H bl a b z) :
  ∃(c k p q:Int),dC W H bl c/\dC W H bl k/\Dir W H bl a c/\Dir W H bl b k/\Wg (GrE es) c k p q/\cU W a c+val p q+cU W b k<=val s d:=by
 have XE:=bV w1 w2 h1 h2 ha hb;have Sn:¬tJ W Fl a b:=fun h=>hn ((oe w1 (by omega) (by omega) (B a ha)).2 h);obtain⟨l,l1,l2,l3,l4⟩:=uq w1 B (val s d).toNat a b s d ha hb hF (by omega);cases l with
 |nil =>
  exfalso;have e:a=b:=l2;subst e;apply Sn;unfold tJ;have e1:s=0:=l3.symm;have e2:d=0:=l4.symm;rw[hF,fu,fw,e1,e2]
 |cons c l =>
  obtain⟨hd,XY⟩:=l2;rcases l1 c (M4 ..) with hc|hc
  ·have Rl:=aT w1 hc;have hs:=bV w1 w2 h1 h2 ha Rl;have X9:=(ur w1 (by omega) (by omega) (B a ha) (B c Rl)).1 hd;obtain⟨k,p,q,k1,k2,k3,k4⟩:=pw w1 w2 h1 h2 G B hb hc (fun y hy=>l1 y (MV _ hy)) XY;refine⟨c,k,p,q,hc,k1,X9,k2,k3,?_⟩;have hv:val (aO W a c+kF W c l) (aK W a c+kG W c l)=val s d:=by
    have e1:aO W a c+kF W c l=s:=l3;have e2:aK W a c+kG W c l=d:=l4;rw[e1,e2]
   rw[aI]at hv;unfold cU at *;omega
  ·subst hc;exact absurd hd.1 Sn
theorem Dir.walk (w1:1<=W){a b:Int}(hS:aO W a b<=1000)(hD:aK W a b<=1000)(h:Dir W H bl a b):Wk (aF W H bl) a b (aO W a b) (aK W a b):=by
 obtain⟨z,hz⟩:=h.1;exact(hz.ends w1 hS hD).2.2
theorem Wk.app {E:Int->Nat->Int->Prop}{o a b d t u:Int}(h:Wk E o a s d)(k:Wk E a b t u):Wk E o b (s+t) (d+u) :=
 k (fun x p q=>Wk E o x (s+p) (d+q)) (by rw[NN,NN];exact h) (fun x p q j y hx e=>by
  have:=hx.step e
  rwa [Nx,Nx]at this)
theorem GEs.walk {es:Nat->List LE}(w1:1<=W)(w2:W<=16)(h1:1<=H)(h2:H<=16)(G:GEs W H bl es){c k p q:Int}(hc:0<=c)(h:Wg (GrE es) c k p q):Wk (aF W H bl) c k p q:=by
 have key:=h (fun x p q=>0<=x/\Wk (aF W H bl) c x p q) ⟨hc,Wk.nil⟩ (fun x p q y t u ⟨h0,hx⟩ ⟨e,k1,k2,k3,k4⟩=>by
  obtain⟨m1,m2,m3,m4,m5,m6,_⟩:=G.mem k1;have i1:=aT w1 (aE.1 m1);have i2:=aT w1 (aE.1 m2);have hs:=bV w1 w2 h1 h2 i1 i2;have hw:=m3.walk w1 (by omega) (by omega);rw[<- m5,<- m6]at hw;have ex:((x.toNat:Nat):Int)=x:=by omega
  rw[ex]at hw;subst k2 k3 k4;exact⟨by omega,hx.app hw⟩)
 exact key.2
end
end
section
open Go.RowKit
def vl (x:SS) (a:Nat):Int:=val ((x.F (a:Int)).getD (0,0)).1 ((x.F (a:Int)).getD (0,0)).2
theorem uv {x:SS}{a:Nat}{d:Int}(h:x.F (a:Int)=OM (s,d)):vl x a=val s d:=by unfold vl;rw[h];rfl
structure BkI (x:SS) (L:List Nat) (n:Nat) (l:List Nat) (c:Nat):Prop where
 last:∃pre,l=pre++[c]
 head:∃t,l=n::t
 down:l.Pairwise (fun a b=>vl x b<vl x a)
 inL:∀a∈l,a∈L
 cont:∀t,Bk x.A (c::t)->Bk x.A (l++t)
theorem BkI.start {x:SS}(hn:n∈L):BkI x L n [n] n :=
 ⟨⟨[],rfl⟩,⟨[],rfl⟩,Ox _ _,fun a ha=>by rw[MU.1 ha];exact hn,fun _ h=>h⟩
theorem BkI.step {x:SS}{c m:Nat}(h:BkI x L n l c)(hA:x.A (c:Int)=OM (m:Int))(hv:vl x m<vl x c)(hm:m∈L):BkI x L n (l++[m]) m:=by
 obtain⟨pre,hp⟩:=h.last;obtain⟨t,ht⟩:=h.head;refine⟨⟨l,rfl⟩,⟨t++[m],by rw[ht];rfl⟩,?_,fun a ha=>?_,fun t' ht'=>?_⟩
 ·rw[OG];refine⟨h.down,Ox _ _,fun a ha b hb=>?_⟩;rw[MU.1 hb];rw[hp]at ha;rcases MT.1 ha with ha|ha
  ·have hd:=h.down;rw[hp,OG]at hd;have:=hd.2.2 a ha c (MU.2 rfl);omega
  ·rw[MU.1 ha];exact hv
 ·rcases MT.1 ha with ha|ha
  ·exact h.inL a ha
  ·rw[MU.1 ha];exact hm
 ·have:=h.cont (m::t') ⟨hA,ht'⟩;rw[Nq];exact this
theorem BkI.len {x:SS}{c:Nat}(h:BkI x L n l c)(hs:∀n∈L,n<256):l.length<=256 :=
 cQ 256 (h.down.imp (fun h e=>by subst e;omega)) (fun a ha=>hs a (h.inL a ha))
theorem BkI.done {x:SS}{c:Nat}(h:BkI x L n l c)(hA:x.A (c:Int)=Pk):∃t,l=n::t/\Bk x.A (n::t):=by
 obtain⟨t,ht⟩:=h.head;have:=h.cont [] hA;rw[Nt,ht]at this;exact⟨t,ht,this⟩
theorem SI.ahead {lv:LSt}{x:SS}(O:eT L lv)(h:SI L lv r g src P x){c:Nat}{m:Int}(hA:x.A (c:Int)=OM m):∃m':Nat,m=(m':Int)/\m'∈L/\vl x m'<vl x c/\0<=vl x m':=by
 obtain⟨s,d,s',d',t,u,k1,k2,⟨e,k3,_,k5,k6,_⟩,k7⟩:=h.ptr hA;obtain⟨l1,l2,l3,l4,_⟩:=h.lab k1;refine⟨m.toNat,by omega,l2,?_,?_⟩
 ·rw[uv (a:=m.toNat) (by rw[show ((m.toNat:Nat):Int)=m by omega];exact k1),uv k2];have hb:=O.bd k3;subst k5 k6;unfold val at *;omega
 ·rw[uv (a:=m.toNat) (by rw[show ((m.toNat:Nat):Int)=m by omega];exact k1)];unfold val;omega
theorem bh.lookA {k:SBk}{x:SS}(S:bh w N k lb r gv v nh na x){c:Int}(hc:(Lit.int .i64 c).wf=Pm):(Instr.lookup 129 (.map (OM k.ab)) (.int .i64 c) Pm).run prog w=.ok (.tuple #[.int .i64 ((x.A c).getD 0),.bool (x.A c).isSome]) w:=by
 cases h:x.A c with
 |none=>exact S.am.look_none aY Tryz.underV (kP w) hc (Cv h) Pm
 |some m=>exact S.am.look_some aY Tryz.underV (kP w) hc (Cu h) Pm
theorem FC (w:PG)(n:Nat):(w.alloc (PN #[PE PF (n:Int)] 3)).ownsRow w.heap.size 3 1 (.slice (OM ⟨w.heap.size,0,Pk⟩) 1 1) ([n]:List Nat).length (aH [n]) :=
 ⟨rfl,MF ⟨w.heap.size,1,#[PE PF (n:Int)],rfl,aj,heap_alloc_new w _,aj,by unfold maxLen;omega,rfl,rfl⟩⟩
theorem wH {k:SBk}{lv:LSt}{x:SS}{d:Int}(w:PG)(O:eT L lv)(S:bh w N k lb r gv v nh (ca x.A) x)(hSI:SI L lv r g src P x)(hn:x.F (n:Int)=OM (s,d)) :
  PK prog 180 #[.pointer (OM ⟨k.sb,0,Pk⟩),PE PF (n:Int)] w fun e w'=>∃v t,e=PM v/\Bk x.A (n::t)/\w'.ownsRow w.heap.size 3 1 v (n::t).length (aH (n::t))/\(n::t).length<=256/\PI w.heap.size w w':=by
 have Qw:n∈L:=by have h:=(hSI.lab hn).2.1;rw[ML]at h;exact h
 obtain⟨i0,hi,P0,P3,Qd⟩:=info_parts Tryz.info3;have b1:=aQ w (PN #[PE PF (n:Int)] 3);have S1:=S.below b1;have Qg:=FC w n;have Ze:=S1.lookA (c:=(n:Int)) (aC (by omega) (by have:=O.small _ Qw;omega));have m1:=S1.c4;have I1:BkI x L n [n] n:=BkI.start Qw;go_enter func180,ntmps180;go_wp2_with fail;clear Ze m1;go_loopg [5,6,7] (vl x n).toNat (fun gk cv bv mv wr=>∃l c,gk=(vl x c).toNat/\BkI x L n l c/\wr.ownsRow w.heap.size 3 1 cv l.length (aH l)/\bv=PE PF ((x.A (c:Int)).getD 0)/\mv=.bool (x.A (c:Int)).isSome/\PI w.heap.size w wr)
 case atStart=>exact⟨[n],n,rfl,I1,Qg,rfl,rfl,b1⟩
 case round =>
  clear Qg I1 S1 b1;obtain⟨l,c,QD,I,own,rfl,rfl,hB⟩:=hrel;have HG:=ae QD;clear QD;have Wp:=I.len O.small;cases hA:x.A (c:Int) with
  |none =>
   obtain⟨t,ht,Q7⟩:=I.done hA;subst ht;have HBK:=ae Q7;clear Q7 I hA;go_wp2;go_ret;exact⟨_,t,rfl,HBK.out,own,Wp,hB⟩
  |some m =>
   obtain⟨m',rfl,Vt,Uf,hm3⟩:=hSI.ahead O hA;have I':=I.step hA Uf Vt;have HI:=ae I';have HM:PJ (vl x m'<vl x c/\0<=vl x m'):=⟨Uf,hm3⟩;have Tp:=hB.size;have al1:=O.small _ Vt;clear I I' hA Uf hm3;go_wp2_with (at_builtin;refine wpList_append_own _ rfl _ _ 51 rfl w.heap.size 3 i0 (PE PF 0) 1 8 underlying51 hi P0 P3 Qd rfl (by decide) _ _ _ rfl (own.alloc _) ⟨wr.heap.size,0,Pk⟩ 1 1 [PE PF (m':Int)] rfl rfl ?c1 ?c2 ?c3 ?c4 ?c5 ?_)
   case c1 =>
    intro j u hj
    match j,hj with
    |0,hj =>
     simp at hj;subst hj;simp only[Addr.add];exact ME (w:=wr) #[PE PF (m':Int)] 3 wr.heap.size 0 rfl
   case c2=>intro u hu;simp at hu;subst hu;rfl
   case c3=>unfold maxLen;omega
   case c4=>omega
   case c5=>simp;omega
   intro v' w6 PS PR _;have PX:=fun q hq=>(own.lt q hq).1;have B6:PI w.heap.size w w6:=(hB.alloc Tp _).grown PR (by simp;omega) PX;have O6:w6.ownsRow w.heap.size 3 1 v' (l++[m']).length (aH (l++[m'])):=by
    rw[oF]
    simpa [aH]using PS
   have S6:=S.below B6;have hl6:=S6.lookA (c:=(m':Int)) (aC (by omega) (by omega));have m6:=S6.c4;clear PS PR own PX hB;go_wp2;go_roundg (vl x m').toNat
   case measure=>have:=HG.out;have:=HM.out;omega
   case rel=>exact⟨l++[m'],m',rfl,HI.out,O6,rfl,rfl,B6⟩
end
section
theorem uw (F:Int->Option (Int×Int))(a:Int)(N:Nat)(h:(N:Int)<=a):cnt (jO F a) N=cnt F N:=by
 induction N with
 |zero=>rfl
 |succ N ih =>
  unfold cnt;rw[ih (by omega),eR F (by omega)]
theorem IJ (F:Int->Option (Int×Int))(a:Int)(N:Nat)(h0:0<=a)(h:a<N)(hs:(F a).isSome=Pm):cnt (jO F a) N+1=cnt F N:=by
 induction N with
 |zero=>omega
 |succ N ih =>
  unfold cnt;by_cases e:a=N
  ·rw[uw F a N (by omega),<- e,fZ,hs];rfl
  ·have:=ih (by omega);rw[eR F (fun q=>e q.symm)];omega
theorem zt (F:Int->Option (Int×Int))(a s d:Int)(N:Nat):cnt (aB F a s d) N<=cnt F N+1:=by
 by_cases h0:0<=a/\a<N
 ·cases e:F a with
  |none=>rw[fY F a s d N h0.1 h0.2 e];exact aj
  |some c=>rw[iB F a s d N (by rw[e];rfl)];omega
 ·have key:∀M:Nat,(M:Int)<=N->cnt (aB F a s d) M=cnt F M:=fun M hM=>by
   induction M with
   |zero=>rfl
   |succ M ih =>
    unfold cnt;rw[ih (by omega),aS F s d (by omega)]
  rw[key N (Nc _)];omega
def mu (x:SS):Nat:=2*fR 109969568169985 x.F 256+cnt x.H 256
section
variable {L : List Nat} {lv : LSt} {r : Nat} {g : Int → Int × Int} {src : Int → Int → Int → Prop} {x : SS}
theorem SI.mu_step (O:eT L lv){n:Nat}{D:Int->Prop}(h:SI L lv r g src (fun a b=>a≠(n:Int)\/D b) x){s d:Int}(hn:x.F (n:Int)=OM (s,d))(hH:x.H (n:Int)=Pk){e:LE}(he:e∈lv.es n):mu (cJ lv r g n x e)<=mu x:=by
 by_cases hl:lv.lev n+r<=lv.lev e.to
 ·rw[yC hn hl];by_cases hb:bF x.F (e.to:Int) (s+e.s) (d+e.d)=Pm
  ·rw[if_pos hb];obtain⟨_,k2,k3⟩:=h.low O hn hH he hl hb;rw[k2];have k4:=zt x.H (e.to:Int) (s+e.s+(g e.to).1) (d+e.d+(g e.to).2) 256;unfold mu;show 2*fR 109969568169985 (aB x.F (e.to:Int) (s+e.s) (d+e.d)) 256+cnt (aB x.H (e.to:Int) (s+e.s+(g e.to).1) (d+e.d+(g e.to).2)) 256<=_;omega
  ·rw[if_neg hb];exact aj
 ·rw[yD hl];exact aj
theorem SI.mu_fold (O:eT L lv){n:Nat}{s d:Int}:∀{l:List LE}{D:Int->Prop}{x:SS},(∀e∈l,e∈lv.es n)->SI L lv r g src (fun a b=>a≠(n:Int)\/D b) x->x.F (n:Int)=OM (s,d)->x.H (n:Int)=Pk->mu (l.foldl (cJ lv r g n) x)<=mu x
 |[],_,_,_,_,_,_=>aj
 |e::l,D,x,hl,h,hn,hH=>by
  obtain⟨h1,h2,h3⟩:=h.step O hn hH (hl e (M4 ..));have k1:=h.mu_step O hn hH (hl e (M4 ..));have k2:=SI.mu_fold O (fun e' UE=>hl e' (MV _ UE)) h1 h2 h3;exact M5 k2 k1
theorem SI.mu_go (O:eT L lv)(h:SI L lv r g src (fun _ _=>True) x){n:Nat}{p q:Int}(hp:x.H (n:Int)=OM (p,q)):mu (goS lv r g n (gC x (n:Int)))<mu x:=by
 obtain⟨s,d,k1,_⟩:=h.key hp;have h1:=(h.pop (n:Int)).mono (P':=fun a b=>a≠(n:Int)\/False) (fun _ _ hP _=>⟨by rcases hP with q|q;exact q;exact q.elim,trivial⟩);have k2:=SI.mu_fold O (l:=lv.es n) (fun _ h=>h) h1 k1 (fZ _ _);have hn:=(h.lab k1).2.1;rw[ML]at hn;have hs:=O.small _ hn;have k3:=IJ x.H (n:Int) 256 (by omega) (by omega) (by rw[hp];rfl);unfold goS;refine Nat.lt_of_le_of_lt k2 ?_;unfold mu;show 2*fR 109969568169985 x.F 256+cnt (jO x.H (n:Int)) 256<_;omega
theorem SI.popped (h:SI L lv r g src (fun _ _=>True) x)(n:Nat):SI L lv r g src (fun a _=>a≠(n:Int)\/False) (gC x (n:Int)) :=
 (h.pop (n:Int)).mono (fun _ _ hP _=>⟨by rcases hP with q|q;exact q;exact q.elim,trivial⟩)
end
end
section
open Go.RowKit
def Ms (w w':PG) (N:Nat) (k:SBk) (lb r:Nat) (gv v:PH) (na:Nat) (x:SS) (e:Ending):Prop :=
 ∃(n s d:Int) (b:Bool) (v':PH) (Sp:Nat),e=PM (.tuple #[PE PF n,.agg #[PE PF s,PE PF d],.bool b])/\okC s d/\ai (sb5 k v) w w'/\v'.ownBlock=v.ownBlock /\
  ((b=PB/\(∀a,x.H a=Pk)/\bh w' N k lb r gv v' Sp na x)\/(b=Pm/\∃n':Nat,n=(n':Int)/\n'<256/\yq x.H (n':Int) s d/\bh w' N k lb r gv v' Sp na (gC x (n':Int))))
theorem nD {k:SBk}{x:SS}(w:PG)(S:bh w N k lb r gv v nh na x)(hk:∀{a s d},x.H a=OM (s,d)->0<=a/\a<256) :
  PK prog 132 #[.pointer (OM ⟨k.hb,0,Pk⟩)] w fun e w'=>Ms w w' N k lb r gv v na x e:=by
 have U9:N<=w.heap.size:=by have:=S.nb.1;have:k.sb<w.heap.size:=aJ S.c0;omega
 cases nh with
 |zero=>exact(ye w S.hp).mono fun e w' ⟨h1,h2⟩=>⟨0,0,0,PB,v,0,h1,by unfold okC;omega,ai.of_below h2,rfl,MG ⟨rfl,fun a=>S.hp.empty a,S.below h2⟩⟩
 |succ m =>
  refine(uU w S.hp).mono fun e w' ⟨a,s,d,h1,h2,h3,⟨v',h4,h5⟩,K⟩=>?_;have hka:=hk h2;have XD:=(S.hp.fits h2).1;obtain⟨n,rfl⟩:∃n:Nat,a=(n:Int):=⟨a.toNat,by omega⟩;exact⟨(n:Int),s,d,Pm,v',m,h1,XD,K.mono (fun _ _ h=>MF (MF h)),h5,MF ⟨rfl,n,rfl,by omega,⟨h2,h3⟩,S.heap K h4 (fun g hg=>MG (by rw[<- h5];exact hg)) U9⟩⟩
theorem SI.key256 {lv:LSt}{z:SS}(O:eT L lv)(h:SI L lv r g src P z){a s d:Int}(ha:z.H a=OM (s,d)):0<=a/\a<256:=by
 obtain⟨s',d',k1,_⟩:=h.key ha;obtain⟨l1,l2,_⟩:=h.lab k1;have:=O.small _ l2;omega
structure MR (w wE wr:PG) (k:SBk) (lb gf:Nat) (cs:List PH) (L:List Nat) (lv:LSt) (g:Int->Int×Int) (src:Int->Int->Int->Prop) (y x0:SS) (gk:Nat) (mid fnd nv cv mv:PH):Prop where
 ex:∃(x:SS) (m:Mt) (v:PH) (nh cb:Nat) (n s d:Int) (b:Bool),mid=PE PF m.n/\fnd=.bool m.f/\nv=PE PF n/\cv=.pointer (OM ⟨cb,0,Pk⟩)/\mv=.bool b/\w.heap.size+1<cb/\bz wr w.heap.size 0 0/\bz wr (w.heap.size+1) m.s m.d/\bz wr cb s d/\(∀q,v.ownBlock=OM q->q≠w.heap.size/\q≠w.heap.size+1/\q≠cb)/\MI L lv g src y.F x m/\(∀j x' m',kT lv g y.F j x m x' m'->∃j',kT lv g y.F j' x0 ⟨0,0,0,PB⟩ x' m')/\gk=mu x/\okC s d /\
  ((b=PB/\(∀a,x.H a=Pk)/\bh wr wE.heap.size k lb 0 (.func (.func gf) #[] cs.toArray) v nh (ca x.A) x)\/(b=Pm/\∃n':Nat,n=(n':Int)/\n'<256/\yq x.H (n':Int) s d/\bh wr wE.heap.size k lb 0 (.func (.func gf) #[] cs.toArray) v nh (ca x.A) (gC x (n':Int))))
 bl:PI wE.heap.size wE wr
theorem bh.lookF {k:SBk}{x:SS}(S:bh w N k lb r gv v nh na x){c:Int}(hc:(Lit.int .i64 c).wf=Pm):(Instr.lookup 225 (.map (OM k.cb)) (.int .i64 c) Pm).run prog w=.ok (.tuple #[.agg #[.int .i64 ((x.F c).getD (0,0)).1,.int .i64 ((x.F c).getD (0,0)).2],.bool (x.F c).isSome]) w:=by
 cases h:x.F c with
 |none=>exact S.fm.look_none aY Tryz.underK (jD _) hc (jR h) Pm
 |some m=>exact S.fm.look_some aY Tryz.underK (jD _) hc (gP (s:=m.1) (d:=m.2) h) Pm
def cB (E:Int->Option (Int×Int)) (n:Nat) (fs fd ms md:Int) (mf:Bool):Bool:=(E (n:Int)).isSome&&(!mf || decide (val (fs+((E (n:Int)).getD (0,0)).1) (fd+((E (n:Int)).getD (0,0)).2)<val ms md))
theorem Km {E:Int->Option (Int×Int)}{x:SS}{fs fd mn ms md:Int}{mf:Bool}(hF:x.F (n:Int)=OM (fs,fd)):mtS E x n ⟨mn,ms,md,mf⟩=if cB E n fs fd ms md mf=Pm then ⟨(n:Int),fs+((E (n:Int)).getD (0,0)).1,fd+((E (n:Int)).getD (0,0)).2,Pm⟩ else ⟨mn,ms,md,mf⟩:=by
 unfold mtS cB;rw[hF];cases hE:E (n:Int) with
 |none=>rfl
 |some e =>
  show (if mf=PB\/val (fs+e.1) (fd+e.2)<val ms md then (⟨(n:Int),fs+e.1,fd+e.2,Pm⟩:Mt) else ⟨mn,ms,md,mf⟩)=if (Pm&&(!mf || decide (val (fs+e.1) (fd+e.2)<val ms md)))=Pm then (⟨(n:Int),fs+e.1,fd+e.2,Pm⟩:Mt) else ⟨mn,ms,md,mf⟩
  by_cases hv:val (fs+e.1) (fd+e.2)<val ms md
  ·rw[if_pos (MF hv),if_pos (by rw[decide_eq_true hv];simp)]
  ·cases mf with
   |false =>
    rw[if_pos (MG rfl)];exact(if_pos (by simp)).symm
   |true=>rw[if_neg (by rintro (h|h);cases h;exact hv h),if_neg (by rw[decide_eq_false hv];simp)]
theorem FD {gf ne:Nat}{k ke:SBk}{lv:LSt}{v:PH}{cs:List PH}{x y:SS}(w0 wE w:PG)(V0:cD w0 N0 lb vb eb top L lv f)(O:eT L lv)(UX:∀n,1<=lv.lev n/\lv.lev n<=7)(hg:AV w0 w0.heap.size gf cs g)(hB0:PI w0.heap.size w0 wE)(Uk:∀n:Nat,0<=(g n).1/\(g n).1<=1024/\0<=(g n).2/\(g n).2<=1024)
  (SE:bh wE Ne ke lb 1 gv2 ve ne (ca y.A) y) (hY:SI L lv 1 g2 To (fun _ _=>True) y) (hBE:PI wE.heap.size wE w) (S:bh w wE.heap.size k lb 0 (.func (.func gf) #[] cs.toArray) v nh (ca x.A) x) (hM:MI L lv g src y.F x ⟨0,0,0,PB⟩) :
  PK prog 134 #[.pointer (OM ⟨k.sb,0,Pk⟩),.pointer (OM ⟨ke.sb,0,Pk⟩)] w fun e w'=>∃(j:Nat) (x':SS) (m:Mt),kT lv g y.F j x ⟨0,0,0,PB⟩ x' m/\e=PM (.tuple #[PE PF m.n,.agg #[PE PF m.s,PE PF m.d],.bool m.f])/\(∃v' Sp,bh w' wE.heap.size k lb 0 (.func (.func gf) #[] cs.toArray) v' Sp (ca x'.A) x')/\PI wE.heap.size wE w':=by
 have U9:wE.heap.size<=w.heap.size:=hBE.size;have b1:PI w.heap.size w ((w.alloc (PN #[PE PF 0,PE PF 0] 53)).alloc (PN #[PE PF 0,PE PF 0] 53)):=(al.alloc aj _).alloc (by simp) _;have S1:=S.below b1;have Xd:bz ((w.alloc (PN #[PE PF 0,PE PF 0] 53)).alloc (PN #[PE PF 0,PE PF 0] 53)) w.heap.size 0 0:=(bz.new w 0 0).below (al.alloc aj _);have Wu:bz ((w.alloc (PN #[PE PF 0,PE PF 0] 53)).alloc (PN #[PE PF 0,PE PF 0] 53)) (w.heap.size+1) 0 0:=by
  have h:=bz.new (w.alloc (PN #[PE PF 0,PE PF 0] 53)) 0 0;have e:(w.alloc (PN #[PE PF 0,PE PF 0] 53)).heap.size=w.heap.size+1:=by simp
  rw[e]at h;exact h
 have aiD:((w.alloc (PN #[PE PF 0,PE PF 0] 53)).alloc (PN #[PE PF 0,PE PF 0] 53)).heap.size=w.heap.size+2:=by simp
 have m5:=S1.c5;have Re:=nD _ S1 (fun ha=>hM.si.key256 O ha);have HKB:PJ (k.cb<w.heap.size/\k.ab<w.heap.size/\k.hb<w.heap.size/\k.mb<w.heap.size/\∀q,v.ownBlock=OM q->q<w.heap.size):=⟨S.fm.lt,S.am.lt,S.hp.blocks.1,S.hp.blocks.2.1,S.hp.blocks.2.2⟩;have HKS:PJ (k.sb≠w.heap.size/\k.sb≠w.heap.size+1):=by
  have:k.sb<w.heap.size:=aJ S.c0;exact⟨by omega,by omega⟩
 have aiF:PJ (k.sb<w.heap.size):=aJ S.c0;go_enter func134,ntmps134;go_wp2_with fail;generalize (w.alloc (PN #[PE PF 0,PE PF 0] 53)).alloc (PN #[PE PF 0,PE PF 0] 53)=w1 at *;refine Re.mono ?_;rintro e w2 ⟨n,s,d,b,v2,nh2,rfl,XD,K2,ho2,QS⟩;have nZ:¬sb5 k v w.heap.size:=fun h=>by
  obtain⟨h1,h2,h3,h4,h5⟩:=HKB.out;rcases h with h|h|h|h|h
  ·omega
  ·omega
  ·omega
  ·omega
  ·have:=h5 _ h;omega
 have nC:¬sb5 k v (w.heap.size+1):=fun h=>by
  obtain⟨h1,h2,h3,h4,h5⟩:=HKB.out;rcases h with h|h|h|h|h
  ·omega
  ·omega
  ·omega
  ·omega
  ·have:=h5 _ h;omega
 have RO:=Xd.keep K2 nZ;have UY:=Wu.keep K2 nC;have Qd:w.heap.size+2<=w2.heap.size:=by have:=K2.size;omega
 have b3:=aQ w2 (PN #[PE PF s,PE PF d] 53);have B2:PI wE.heap.size wE (w2.alloc (PN #[PE PF s,PE PF d] 53)):=((hBE.trans (b1.mono U9)).trans (S1.to_below K2)).trans (b3.mono (by omega));have QV:PJ (MR w wE (w2.alloc (PN #[PE PF s,PE PF d] 53)) k lb gf cs L lv g src y x (mu x) (PE PF 0) (.bool PB) (PE PF n) (.pointer (OM ⟨w2.heap.size,0,Pk⟩)) (.bool b)):=by
  refine⟨⟨x,⟨0,0,0,PB⟩,v2,nh2,w2.heap.size,n,s,d,b,rfl,rfl,rfl,rfl,rfl,by omega,RO.below b3,UY.below b3,bz.new w2 s d,fun q hq=>?_,hM,fun j x' m' h=>⟨j,h⟩,rfl,XD,?_⟩,B2⟩
  ·rw[ho2]at hq;have:=HKB.out.2.2.2.2 q hq;omega
  ·rcases QS with⟨h1,h2,h3⟩|⟨h1,n',h2,h3,h4,h5⟩
   ·exact MG ⟨h1,h2,h3.below b3⟩
   ·exact MF ⟨h1,n',h2,h3,h4,h5.below b3⟩
 clear Re K2 Xd Wu RO UY S1 b1 b3 B2 QS ho2 m5 XD nZ nC;go_wp2;go_loopg [7,9,10,11,12] (mu x) (fun gk mid fnd nv cv mv wr=>MR w wE wr k lb gf cs L lv g src y x gk mid fnd nv cv mv)
 case atStart=>exact QV.out
 case round =>
  clear QV;obtain⟨⟨xi,⟨mn,ms,md,mf⟩,v3,nh3,cb,n3,s3,d3,b3,rfl,rfl,rfl,rfl,rfl,hcb,Va,slM,Zf,XF,hMI,Q0,QD,VU,QS⟩,QA⟩:=hrel;dsimp only at slM;have HG:=ae QD;have HC:=ae Q0;have HMI:=ae hMI;have ZO:=ae XF;have HR:PJ (∀(v':PH) (Sp:Nat) (x':SS) (w':PG),kT lv g y.F 0 xi ⟨mn,ms,md,mf⟩ x' ⟨mn,ms,md,mf⟩->bh w' wE.heap.size k lb 0 (.func (.func gf) #[] cs.toArray) v' Sp (ca x'.A) x'->PI wE.heap.size wE w'->∃(j:Nat) (x':SS) (m':Mt),kT lv g y.F j x ⟨0,0,0,PB⟩ x' m'/\Ending.returned (.tuple #[PE PF mn,.agg #[PE PF ms,PE PF md],.bool mf])=PM (.tuple #[PE PF m'.n,.agg #[PE PF m'.s,PE PF m'.d],.bool m'.f])/\(∃v' Sp,bh w' wE.heap.size k lb 0 (.func (.func gf) #[] cs.toArray) v' Sp (ca x'.A) x')/\PI wE.heap.size wE w'):=fun v' Sp x' w' h1 h2 h3=>by
   obtain⟨j,hj⟩:=Q0 0 x' _ h1;exact⟨j,x',_,hj,rfl,⟨v',Sp,h2⟩,h3⟩
  have HNZ:PJ (¬sb5 k v3 w.heap.size/\¬sb5 k v3 (w.heap.size+1)/\¬sb5 k v3 cb):=by
   obtain⟨h1,h2,h3,h4,_⟩:=HKB.out;refine⟨fun h=>?_,fun h=>?_,fun h=>?_⟩
   ·rcases h with h|h|h|h|h
    ·omega
    ·omega
    ·omega
    ·omega
    ·exact(XF _ h).1 rfl
   ·rcases h with h|h|h|h|h
    ·omega
    ·omega
    ·omega
    ·omega
    ·exact(XF _ h).2.1 rfl
   ·rcases h with h|h|h|h|h
    ·omega
    ·omega
    ·omega
    ·omega
    ·exact(XF _ h).2.2 rfl
  have ZP:PJ (mf=Pm->okC ms md):=fun h=>by
   obtain⟨fs,fd,es,ed,_,_,f1,_,_,f4,f5,f6,f7,f8,f9⟩:=hMI.fnd h;have:=hY.big f1;dsimp only at f4 f5;unfold okC;omega
  clear QD Q0 hMI XF;have r0:=Va.c0;have r1:=Va.c1;have rz0:=Va.z0;have rz1:=Va.z1;have k0:=slM.c0;have k1:=slM.c1;have l0:=Zf.c0;have l1:=Zf.c1;rcases QS with⟨rfl,Qc,S3⟩|⟨rfl,n',rfl,Xe,Ya,S3⟩
  ·clear l0 l1;go_wp2;have RV:=Va.set ms md;have q0:((wr.setCell ⟨w.heap.size,0,Pk⟩ (PE PF ms)).setCell ⟨w.heap.size,1,Pk⟩ (PE PF md)).drew.cell? ⟨w.heap.size,0,Pk⟩=OM (PE PF ms):=RV.c0;have q1:((wr.setCell ⟨w.heap.size,0,Pk⟩ (PE PF ms)).setCell ⟨w.heap.size,1,Pk⟩ (PE PF md)).drew.cell? ⟨w.heap.size,1,Pk⟩=OM (PE PF md):=RV.c1;have KR:=eF wr w.heap.size ms md;have hSZ:k.sb≠w.heap.size:=HKS.out.1;have S5:=(S3.keep KR hSZ (fun q hq e=>HNZ.out.1 (by subst e;exact hq))).below (w':=((wr.setCell ⟨w.heap.size,0,Pk⟩ (PE PF ms)).setCell ⟨w.heap.size,1,Pk⟩ (PE PF md)).drew) (al.drew);have B5:=(QA.trans (KR.to_below QA.size (fun q e=>by subst e;exact U9))).drew;have k0':=bH k0;have k1':=bH k1;have r0':=bH r0;have r1':=bH r1;have aiH:wr.drew.frozen? ⟨w.heap.size,0,Pk⟩=false:=rz0;have aiI:wr.drew.frozen? ⟨w.heap.size,1,Pk⟩=false:=rz1;go_region;go_wp2;refine bodyPost_ret (v:=.tuple #[PE PF mn,.agg #[PE PF ms,PE PF md],.bool mf]) ?_ rfl (HR.out v3 nh3 xi _ ⟨rfl,MG ⟨Qc,rfl⟩⟩ S5 B5);simp[results,results134,go_sem,q0,q1]
  ·obtain⟨fs,fd,hF⟩:∃fs fd,xi.F (n':Int)=OM (fs,fd):=by
    obtain⟨fs,fd,h,_⟩:=HMI.out.si.key Ya.1;exact⟨fs,fd,h⟩
   have hbF:=HMI.out.si.big hF;by_cases Rj:mf=PB\/val s3 d3<val ms md
   ·have HCN:=ae Rj;go_upto_region 5 with fail
    go_cut [34] from 25 to 76 (fun bv wc=>bv=.bool Pm/\PI wr.heap.size wr wc)
    case first =>
     cases mf with
     |false =>
      go_wp2_with fail;go_meet;exact⟨rfl,al⟩
     |true =>
      have UF:okC ms md:=ZP.out rfl;have PO:=jU (r:=Pm) (s:=s3) (d:=d3) (t:=ms) (u:=md) ((ew VU UF).2 (by rcases Rj with h|h;cases h;exact h)) wr VU UF;go_wp2_with fail;refine PO.mono ?_;rintro e w5 ⟨rfl,PV⟩;clear PO;go_wp2_with fail;go_meet;exact⟨rfl,PV⟩
    case rest =>
     obtain⟨rfl,XG⟩:=hcut;have SZ:=aC (a:=(n':Int)) (by omega) (by omega);have hNr:wE.heap.size<=wr.heap.size:=QA.size;have Bc:=QA.trans (XG.mono hNr);have SEc:=SE.below Bc;have S5:=S3.below XG;have Vb:=Va.below XG;have Yb:=slM.below XG;have aey:=Zf.below XG;have hlE:=SEc.lookF SZ;have e3:=SEc.c3;obtain⟨es,ed,XH⟩:∃es ed,(y.F (n':Int)).getD (0,0)=(es,ed):=⟨_,_,rfl⟩;have HES:=ae XH;have hbE:0<=es/\es<=2847923/\0<=ed/\ed<=2847923:=by
      cases hq:y.F (n':Int) with
      |none=>rw[hq]at XH;cases XH;omega
      |some c =>
       rw[hq]at XH;have:=hY.big (s:=es) (d:=ed) (by rw[hq];exact congrArg OM XH);omega
     rw[XH]at hlE;generalize hic:(y.F (n':Int)).isSome=ic at *;have HIC:=ae hic;clear XH hic SEc S3 Va slM Zf r0 r1 rz0 rz1 k0 k1 l0 l1 QA XG;have bd:=aQ wc (PN #[PE PF es,PE PF ed] 53);have slD:=bz.new wc es ed;go_upto_region 8 with fail
     clear hlE e3;have S6:=S5.below bd;have Bd:=ak Bc bd;have abX:=Vb.below bd;have ZQ:=Yb.below bd;have ZR:=aey.below bd;generalize wc.heap.size=D at *;generalize wc.alloc (PN #[PE PF es,PE PF ed] 53)=wd at *;clear S5 Bc Vb Yb aey bd;go_cut [15] from 25 to 76 (fun bp wf=>∃DB,bp=.pointer (OM ⟨DB,0,Pk⟩)/\bz wf DB (fs+es) (fd+ed)/\wd.heap.size<=DB/\PI wd.heap.size wd wf)
     case first =>
      have dd:=cI wd;have S7:=S6.below dd;have x3:=S7.c3;have hlF:(Instr.lookup 225 (.map (OM k.cb)) (PE PF (n':Int)) PB).run prog wd.drew=.ok (.agg #[PE PF fs,PE PF fd]) wd.drew:=S7.fm.look_some aY Tryz.underK (jD _) SZ (gP hF) PB;have aiK:(Instr.lookup 225 (.map (OM k.cb)) (PE PF (n':Int)) PB).run prog (wd.alloc (PN #[PE PF 0,PE PF 0] 53)).drew=.ok (.agg #[PE PF fs,PE PF fd]) (wd.alloc (PN #[PE PF 0,PE PF 0] 53)).drew:=((S6.below (al.alloc aj (PN #[PE PF 0,PE PF 0] 53))).below (al.drew)).fm.look_some aY Tryz.underK (jD _) SZ (gP hF) PB;have x0:=(slD.below dd).c0;have x1:=(slD.below dd).c1;have CC:PJ (∀w',PI wd.drew.heap.size wd.drew w'->w'.cell? ⟨k.sb,3,Pk⟩=OM (.map (OM k.cb))/\w'.cell? ⟨D,0,Pk⟩=OM (PE PF es)/\w'.cell? ⟨D,1,Pk⟩=OM (PE PF ed)) :=
       fun w' hb'=>⟨(hb'.cell (aJ x3)).trans x3,(hb'.cell (aJ x0)).trans x0,(hb'.cell (aJ x1)).trans x1⟩
      have Q5:PI wd.drew.heap.size wd.drew wd.drew:=al;have QF:PJ (∀Tq,_):=fun Tq=>jF fs fd es ed Tq (by unfold okC;omega) (by unfold okC;omega);have hDw:wd.drew.heap.size=wd.heap.size:=rfl;clear slD abX ZQ ZR S6 S7;go_region_held3 (fun w'=>w'.cell? ⟨k.sb,3,Pk⟩=OM (.map (OM k.cb))/\w'.cell? ⟨D,0,Pk⟩=OM (PE PF es)/\w'.cell? ⟨D,1,Pk⟩=OM (PE PF ed))
       (first|(exact CC.out _ Q5)|(exact CC.out _ (Q5.alloc Q5.size _))|(exact CC.out _ ((Q5.setCell (p:=⟨wd.heap.size,0,Pk⟩) aj _).setCell (p:=⟨wd.heap.size,1,Pk⟩) aj _))|(exact CC.out _ ((Q5.alloc Q5.size _).setCell Q5.size _))|(exact CC.out _ (((Q5.alloc Q5.size _).setCell Q5.size _).setCell Q5.size _))|(go_keep))
       (first|(go_at_call 177;refine(QF.out _).mono ?_;rintro e w5 ⟨rfl,PV⟩;have Q5:PI wd.drew.heap.size wd.drew w5:=(by first|exact PV|exact(Q5.alloc Q5.size _).trans (PV.mono (by simp)));obtain⟨XI,hf5⟩:=EK PV;have Tp:=PV.size;simp at Tp))
      all_goals
       first
        |(have z0:w5.cell? ⟨wd.heap.size,0,Pk⟩=OM (PE PF 0):=(XI _ _ (by simp)).trans (ME (w:=wd) #[PE PF 0,PE PF 0] 53 wd.heap.size 0 rfl)
          have z1:w5.cell? ⟨wd.heap.size,1,Pk⟩=OM (PE PF 0):=(XI _ _ (by simp)).trans (ME (w:=wd) #[PE PF 0,PE PF 0] 53 wd.heap.size 1 rfl);have z2:w5.frozen? ⟨wd.heap.size,0,Pk⟩=false:=(hf5 _ _ (by simp)).trans (bE wd #[PE PF 0,PE PF 0] 53 wd.heap.size aj 0);have z3:w5.frozen? ⟨wd.heap.size,1,Pk⟩=false:=(hf5 _ _ (by simp)).trans (bE wd #[PE PF 0,PE PF 0] 53 wd.heap.size aj 1);have Sl:=(bz.mk z0 z1 z2 z3).set (fs+es) (fd+ed);have B6:=(Q5.setCell (p:=⟨wd.heap.size,0,Pk⟩) aj (PE PF (fs+es))).setCell (p:=⟨wd.heap.size,1,Pk⟩) aj (PE PF (fd+ed));clear z0 z1 z2 z3;have hDB:wd.heap.size<=wd.heap.size:=aj;generalize (w5.setCell ⟨wd.heap.size,0,Pk⟩ (PE PF (fs+es))).setCell ⟨wd.heap.size,1,Pk⟩ (PE PF (fd+ed))=W6 at *)
        |(have Sl:=bz.new w5 (fs+es) (fd+ed)
          have B6:=Q5.alloc Q5.size (PN #[PE PF (fs+es),PE PF (fd+ed)] 53);have hDB:wd.heap.size<=w5.heap.size:=Tp;generalize w5.alloc (PN #[PE PF (fs+es),PE PF (fd+ed)] 53)=W6 at *)
       clear x0 x1 x3 hlF aiK CC Q5 PV XI hf5 Tp QF;go_wp2_with fail;go_meet;exact⟨_,rfl,Sl,hDB,ak dd B6⟩
     case rest =>
      obtain⟨DB,rfl,slB,hDB,ZS⟩:=hcut;have S7:=S6.below ZS;have Bf:=ak Bd ZS;have TY:=abX.below ZS;have ZT:=ZQ.below ZS;have aeA:=ZR.below ZS;have hZl:w.heap.size+1<wd.heap.size:=aJ ZQ.c0;have hCl:cb<wd.heap.size:=aJ ZR.c0;have HCB:PJ (cB y.F n' fs fd ms md mf=(ic&&(!mf || decide (val (fs+es) (fd+ed)<val ms md)))):=by
       have h:cB y.F n' fs fd ms md mf=(ic&&(!mf || decide (val (fs+es) (fd+ed)<val ms md))):=by
        unfold cB;rw[HIC.out,HES.out]
       exact h
      have k0:=ZT.c0;have k1:=ZT.c1;have a0:=slB.c0;have a1:=slB.c1;clear S6 Bd abX ZQ ZR ZS slD;go_upto_region 9 with fail
      go_cut [70] from 25 to 76 (fun bv wq=>bv=.bool (cB y.F n' fs fd ms md mf)/\PI wc.heap.size wc wq)
      case first =>
       cases ic with
       |false =>
        go_wp2_with fail;go_meet;exact⟨by rw[HCB.out];rfl,al⟩
       |true =>
        cases mf with
        |false =>
         go_wp2_with fail;go_meet;exact⟨by rw[HCB.out];rfl,al⟩
        |true =>
         have UF:okC ms md:=ZP.out rfl;have abZ:okC (fs+es) (fd+ed):=(by unfold okC;omega);have PO:=jU (r:=decide (val (fs+es) (fd+ed)<val ms md)) (s:=fs+es) (d:=fd+ed) (t:=ms) (u:=md) (by
          cases hb:ltB (fs+es) (fd+ed) ms md with
          |true=>exact(decide_eq_true ((ew abZ UF).1 hb)).symm
          |false=>exact(decide_eq_false (fun h=>by rw[(ew abZ UF).2 h]at hb;cases hb)).symm) wc abZ UF
         generalize hdd:decide (val (fs+es) (fd+ed)<val ms md)=dd at *;have HDD:PJ (cB y.F n' fs fd ms md Pm=dd):=by
          have h:=HCB.out;simp only[Bool.true_and,Bool.not_true,Bool.false_or]at h;exact h
         clear hdd HCB;go_wp2_with fail;refine PO.mono ?_;rintro e w5 ⟨rfl,PV⟩;clear PO;go_wp2_with fail;go_meet;exact⟨by rw[HDD.out],PV⟩
      case rest =>
       obtain⟨rfl,Xf⟩:=hcut;clear k0 k1 a0 a1;have S8:=S7.below Xf;have Bq:=ak Bf Xf;have Yc:=TY.below Xf;have VV:=ZT.below Xf;have aeC:=aeA.below Xf;have ab0:=slB.below Xf;have k0:=VV.c0;have k1:=VV.c1;have kz0:=VV.z0;have kz1:=VV.z1;have a0:=ab0.c0;have a1:=ab0.c1;have HMT:PJ (mtS y.F xi n' ⟨mn,ms,md,mf⟩=if cB y.F n' fs fd ms md mf=Pm then ⟨(n':Int),fs+es,fd+ed,Pm⟩ else ⟨mn,ms,md,mf⟩):=by
        have h:=Km (E:=y.F) (mn:=mn) (ms:=ms) (md:=md) (mf:=mf) hF;rw[HES.out]at h;exact h
       clear S7 Bf TY ZT aeA Xf HCB;go_upto_if 70 with fail
       go_cut [7,9] from 25 to 76 (fun mid fnd wg=>mid=PE PF (mtS y.F xi n' ⟨mn,ms,md,mf⟩).n/\fnd=.bool (mtS y.F xi n' ⟨mn,ms,md,mf⟩).f/\bz wg (w.heap.size+1) (mtS y.F xi n' ⟨mn,ms,md,mf⟩).s (mtS y.F xi n' ⟨mn,ms,md,mf⟩).d/\ai (fun q=>q=w.heap.size+1) wc wg)
       case first =>
        cases hcb:cB y.F n' fs fd ms md mf with
        |false =>
         have HE:PJ (mtS y.F xi n' ⟨mn,ms,md,mf⟩=⟨mn,ms,md,mf⟩):=(by rw[HMT.out,hcb];rfl);clear HMT hcb;go_wp2_with fail;go_meet;rw[HE.out];exact⟨rfl,rfl,VV,ai.refl _ _⟩
        |true =>
         have HE:PJ (mtS y.F xi n' ⟨mn,ms,md,mf⟩=⟨(n':Int),fs+es,fd+ed,Pm⟩):=(by rw[HMT.out,hcb];rfl);have slN:=VV.set (fs+es) (fd+ed);have KN:=eF wc (w.heap.size+1) (fs+es) (fd+ed);have k0':=bH k0;have k1':=bH k1;have apO:wc.drew.frozen? ⟨w.heap.size+1,0,Pk⟩=false:=kz0;have apP:wc.drew.frozen? ⟨w.heap.size+1,1,Pk⟩=false:=kz1;have a0':=bH a0;have a1':=bH a1;clear HMT hcb;go_wp2_with fail;go_region;go_wp2_with fail;go_meet;rw[HE.out];exact⟨rfl,rfl,slN.below (al.drew),KN.drew⟩
       case rest =>
        obtain⟨rfl,rfl,slN,KN⟩:=hcut;have S9:=S8.keep KN HKS.out.2 (fun q hq e=>HNZ.out.2.1 (by subst e;exact hq));have B9:=Bq.trans (KN.to_below Bq.size (fun q e=>by subst e;omega));have Tr:=Yc.keep KN (by omega);have VW:=aeC.keep KN (by omega);have HMG:PJ (MI L lv g src y.F (goS lv 0 g n' (gC xi (n':Int))) (mtS y.F xi n' ⟨mn,ms,md,mf⟩)):=HMI.out.go O hF;have HMU:PJ (mu (goS lv 0 g n' (gC xi (n':Int)))<mu xi):=HMI.out.si.mu_go O Ya.1;have HCO:PJ (∀j x' m',kT lv g y.F j (goS lv 0 g n' (gC xi (n':Int))) (mtS y.F xi n' ⟨mn,ms,md,mf⟩) x' m'->∃j',kT lv g y.F j' x ⟨0,0,0,PB⟩ x' m'):=fun j x' m' h=>HC.out (j+1) x' m' ⟨n',s3,d3,Ya,HCN.out,h⟩;have Zg:=yE w0 wc V0 O UX (by omega) hg rfl hB0.size (ak hB0 B9) Uk S9 (HMI.out.si.popped n') hF (fZ _ _);have HZ9:PJ (wE.heap.size<=wc.heap.size/\w.heap.size+1<wc.heap.size/\cb<wc.heap.size):=⟨B9.size,aJ slN.c0,aJ VW.c0⟩;have HV9:PJ (∀q,v3.ownBlock=OM q->q<wc.heap.size):=S9.hp.blocks.2.2;have HS9:PJ _:=S9;clear S8 Bq Yc VV aeC ab0 slB k0 k1 kz0 kz1 a0 a1 KN HMT ZP HR HMI S9 HC HCN HIC HES;generalize mtS y.F xi n' ⟨mn,ms,md,mf⟩=mt at *;generalize goS lv 0 g n' (gC xi (n':Int))=xg at *;go_wp2_with fail;refine Zg.mono ?_;rintro e w9 ⟨rfl,v9,nh9,TR,XJ,aiN⟩;have Vc:=Tr.keep XJ HNZ.out.1;have aaN:=slN.keep XJ HNZ.out.2.1;have Yd:=VW.keep XJ HNZ.out.2.2;have Ts:=B9.trans (HS9.out.to_below XJ);have ab1:=XJ.size;clear Zg XJ Tr slN VW B9 HS9;have TS:=aQ w9 (PN #[PE PF s3,PE PF d3] 53);have S11:=TR.below TS;have slX:=bz.new w9 s3 d3;have Re:=nD _ S11 (fun ha=>HMG.out.si.key256 O ha);have c5:=S11.c5;have l0:=Yd.c0;have l1:=Yd.c1;have aaO:=Vc.below TS;have aaP:=aaN.below TS;have B11:=ak Ts TS;have aeH:PJ (∀q,v9.ownBlock=OM q->q<w9.heap.size):=TR.hp.blocks.2.2;clear TR Vc aaN Yd Ts TS;go_wp2_with fail;clear c5 l0 l1;have aeI:PJ _:=S11;clear S11;generalize w9.alloc (PN #[PE PF s3,PE PF d3] 53)=Tq at *;obtain⟨cb2,aeJ⟩:∃cb2,w9.heap.size=cb2:=⟨_,rfl⟩;rw[aeJ]at slX aeH ab1 ⊢;refine Re.mono ?_;rintro e Sw ⟨n11,s11,d11,UZ,v11,Ye,rfl,aeK,Sx,TZ,UG⟩;have SK:PJ (¬sb5 k v9 w.heap.size/\¬sb5 k v9 (w.heap.size+1)/\¬sb5 k v9 cb2):=by
         obtain⟨h1,h2,h3,h4,_⟩:=HKB.out;obtain⟨z1,z2,z3⟩:=HZ9.out;have own:∀q,v9.ownBlock=OM q->q≠w.heap.size/\q≠w.heap.size+1/\q≠cb2:=fun q hq=>by
          have q1:=aeH.out q hq;rcases aiN q hq with h|h
          ·have q2:=ZO.out q h;exact⟨q2.1,q2.2.1,by omega⟩
          ·exact⟨by omega,by omega,by omega⟩
         refine⟨fun h=>?_,fun h=>?_,fun h=>?_⟩
         ·rcases h with h|h|h|h|h
          ·omega
          ·omega
          ·omega
          ·omega
          ·exact(own _ h).1 rfl
         ·rcases h with h|h|h|h|h
          ·omega
          ·omega
          ·omega
          ·omega
          ·exact(own _ h).2.1 rfl
         ·rcases h with h|h|h|h|h
          ·omega
          ·omega
          ·omega
          ·omega
          ·exact(own _ h).2.2 rfl
        have Yf:=aaO.keep Sx SK.out.1;have aeL:=aaP.keep Sx SK.out.2.1;have Tt:=slX.keep Sx SK.out.2.2;have Yg:=B11.trans (aeI.out.to_below Sx);have x0:=Tt.c0;have x1:=Tt.c1;have xz0:=Tt.z0;have xz1:=Tt.z1;clear Re Sx aaO aaP slX B11 aeI;go_wp2;go_roundg (mu xg)
        case measure=>have h1:=HG.out;have h2:=HMU.out;omega
        case rel =>
         have KX:=iQ Sw cb2 (PE PF s11) (PE PF d11);have Qd:=HZ9.out;have h5:∀q,sb5 k v11 q->q≠cb2:=fun q hq e=>by
          subst e;refine SK.out.2.2 ?_;rcases hq with h|h|h|h|h
          ·exact MG h
          ·exact MF (MG h)
          ·exact MF (MF (MG h))
          ·exact MF (MF (MF (MG h)))
          ·exact MF (MF (MF (MF (by rw[<- TZ];exact h))))
         have XE:k.sb≠cb2:=by
          have:=aiF.out;omega
         refine⟨⟨xg,mt,v11,Ye,cb2,n11,s11,d11,UZ,rfl,rfl,rfl,rfl,rfl,by omega,Yf.keep KX (by omega),aeL.keep KX (by omega),Tt.set s11 d11,fun q hq=>?_,HMG.out,HCO.out,rfl,aeK,?_⟩,Yg.trans (KX.to_below Yg.size (fun q e=>by omega))⟩
         ·rw[TZ]at hq;refine⟨fun e=>SK.out.1 ?_,fun e=>SK.out.2.1 ?_,fun e=>SK.out.2.2 ?_⟩
          ·rw[<- e];exact MF (MF (MF (MF hq)))
          ·rw[<- e];exact MF (MF (MF (MF hq)))
          ·rw[<- e];exact MF (MF (MF (MF hq)))
         ·rcases UG with⟨h1,h2,h3⟩|⟨h1,n'',h2,h3,h4,h6⟩
          ·exact MG ⟨h1,h2,h3.keep KX XE h5⟩
          ·exact MF ⟨h1,n'',h2,h3,h4,h6.keep KX XE h5⟩
   ·have hmf:mf=true:=(by cases mf;exact absurd (MG rfl) Rj;rfl);subst hmf;have ZG:¬val s3 d3<val ms md:=fun h=>Rj (MF h);have UF:okC ms md:=ZP.out rfl;have PO:=jU (r:=PB) (s:=s3) (d:=d3) (t:=ms) (u:=md) (by cases hb:ltB s3 d3 ms md;rfl;exact absurd ((ew VU UF).1 hb) ZG) wr VU UF;have Wv:=ae ZG;clear Rj ZG;go_wp2_with fail;refine PO.mono ?_;rintro e w5 ⟨rfl,PV⟩;have Vb:=Va.below PV;have Yb:=slM.below PV;have S5a:=S3.below PV;have B5a:=ak QA PV;clear PO r0 r1 rz0 rz1 k0 k1 l0 l1 Va slM Zf S3 QA PV;go_wp2;have r0:=Vb.c0;have r1:=Vb.c1;have rz0:=Vb.z0;have rz1:=Vb.z1;have k0:=Yb.c0;have k1:=Yb.c1;have RV:=Vb.set ms md;have q0:((w5.setCell ⟨w.heap.size,0,Pk⟩ (PE PF ms)).setCell ⟨w.heap.size,1,Pk⟩ (PE PF md)).drew.cell? ⟨w.heap.size,0,Pk⟩=OM (PE PF ms):=RV.c0;have q1:((w5.setCell ⟨w.heap.size,0,Pk⟩ (PE PF ms)).setCell ⟨w.heap.size,1,Pk⟩ (PE PF md)).drew.cell? ⟨w.heap.size,1,Pk⟩=OM (PE PF md):=RV.c1;have KR:=eF w5 w.heap.size ms md;have hSZ:k.sb≠w.heap.size:=HKS.out.1;have S5:=(S5a.keep KR hSZ (fun q hq e=>HNZ.out.1 (by subst e;exact hq))).below (w':=((w5.setCell ⟨w.heap.size,0,Pk⟩ (PE PF ms)).setCell ⟨w.heap.size,1,Pk⟩ (PE PF md)).drew) (al.drew);have B5:=(B5a.trans (KR.to_below B5a.size (fun q e=>by subst e;exact U9))).drew;have k0':=bH k0;have k1':=bH k1;have r0':=bH r0;have r1':=bH r1;have aiH:w5.drew.frozen? ⟨w.heap.size,0,Pk⟩=false:=rz0;have aiI:w5.drew.frozen? ⟨w.heap.size,1,Pk⟩=false:=rz1;go_region;go_wp2;refine bodyPost_ret (v:=.tuple #[PE PF mn,.agg #[PE PF ms,PE PF md],.bool Pm]) ?_ rfl (HR.out v3 nh3 (gC xi (n':Int)) _ ⟨rfl,MF ⟨n',s3,d3,Ya,rfl,(show ¬val s3 d3<val ms md from by have:=Wv.out;omega),rfl⟩⟩ S5 B5);simp[results,results134,go_sem,q0,q1]
end
section
open Go.RowKit Go.Lib
theorem FE {ne:Nat}{k ke:SBk}{lv:LSt}{x y:SS}{d:Int}(w:PG)(O:eT L lv)(S:bh w N k lb 0 gv v nh (ca x.A) x)(SE:bh w Ne ke lb 1 gv2 ve ne (ca y.A) y)(hX:SI L lv 0 g src P x)(hY:SI L lv 1 g2 To P2 y)(hn:x.F (n:Int)=OM (s,d))(U0:y.F (n:Int)=OM (s2,d2)) :
  PK prog 136 #[.pointer (OM ⟨k.sb,0,Pk⟩),.pointer (OM ⟨ke.sb,0,Pk⟩),PE PF (n:Int)] w fun e w'=>∃v t t2,e=PM v/\Bk x.A (n::t)/\Bk y.A (n::t2)/\w'.ownsRow w.heap.size 3 1 v ((n::t).reverse++t2).length (aH ((n::t).reverse++t2))/\(n::t).length<=256/\(n::t2).length<=256/\PI w.heap.size w w':=by
 obtain⟨i0,hi,P0,P3,Qd⟩:=info_parts Tryz.info3;have hb1:=wH w O S hX hn;go_enter func136,ntmps136;go_wp2_with fail;refine hb1.mono ?_;rintro e w1 ⟨v1,t,rfl,Q7,Qg,Ze,B1⟩;obtain⟨g1,X0,rfl,_,QI,apS,UH,apT⟩:=fg Qg (by simp);have hrv:=JS w1 Qg (by simp) (by omega);have TP:=ae Q7;clear hb1 Q7 Qg;go_wp2_with fail;refine hrv.mono ?_;rintro e w2 ⟨rfl,T6,K2⟩;have B2:PI w.heap.size w w2:=B1.trans (K2.to_below B1.size (fun q e=>by subst e;exact QI));clear hrv K2;have hb3:=wH w2 O (SE.below B2) hY U0;go_wp2_with fail;refine hb3.mono ?_;rintro e w3 ⟨v3,t2,rfl,aeM,QQ,hl3,B3⟩;obtain⟨g3,RD,rfl,QX,Sf,aiP,hc3,aiQ⟩:=fg QQ (by simp);have Xa:=ae aeM;have QG:=aq T6 B3;have B4:=ak B2 B3;have Sq:=QX.tail;have z4:=B4.size;have HL:PJ ((n::t).reverse.length=t.length+1):=O3;rw[HL.out]at QG;simp only[Nf]at Ze hl3 UH hc3 QG;simp only[List.tail_cons,M8]at Sq;have HV:PJ (aH ((n::t).reverse++t2)=aH (n::t).reverse++aH t2):=oF _ _;clear hb3 aeM QQ T6 QX S SE B1 B3 B2;rcases Nat.eq_zero_or_pos t2.length with h0|h0
 ·have e0:t2=[]:=NK.1 h0;subst e0;simp only[List.length_nil,M8]at hc3;rcases Decidable.em (RD=1) with hc|hc
  ·subst hc;go_wp2;go_ret;exact⟨_,t,[],rfl,TP.out,Xa.out,by rw[Nt,HL.out];exact QG,by omega,by simp,B4⟩
  ·have W9:1<RD:=(by omega);go_wp2;go_ret;exact⟨_,t,[],rfl,TP.out,Xa.out,by rw[Nt,HL.out];exact QG,by omega,by simp,B4⟩
 ·go_wp2_with (at_builtin;refine wpList_append_own _ rfl _ _ 51 rfl w.heap.size 3 i0 (PE PF 0) 1 8 underlying51 hi P0 P3 Qd rfl (by decide) _ _ _ rfl QG ⟨g3,1,Pk⟩ t2.length (RD-1) (aH t2) rfl ?c0 Sq (kW _) ?c3 ?c4 ?c5 ?_)
  case c0=>rw[iF];omega
  case c3=>unfold maxLen;omega
  case c4=>omega
  case c5=>exact z4
  intro v' w6 PS PR _;have B6:PI w.heap.size w w6:=B4.grown PR z4 (fun q hq=>(QG.lt q hq).1);have O6:w6.ownsRow w.heap.size 3 1 v' ((n::t).reverse++t2).length (aH ((n::t).reverse++t2)):=by
   rw[HV.out,MM,HL.out];have e1:aH (n::t).reverse++aH t2=(List.map (fun d:Nat=>NB IntKind.i64 (d:Int)) t).reverse++NB IntKind.i64 (n:Int)::aH t2:=(by simp[aH]);rw[e1];exact PS
  clear PS PR QG;go_wp2;go_ret;exact⟨_,t,t2,rfl,TP.out,Xa.out,O6,by omega,by omega,B6⟩
end
section
open Go.RowKit Go.Lib
theorem pT {a:Nat}(h:l[i]? = OM a):(aH l)[i]? = OM (PE PF (a:Int)):=by
 unfold aH;rw[NF,h];rfl
structure sq (es:Nat->List LE) (l:List Nat) (i:Nat) (way:List Nat):Prop where
 cont:∀(a:Nat) (t:List Nat),l[i]? = OM a->pc es (l.drop i) (a::t)->pc es l (way++t)
theorem sq.start {es:Nat->List LE}{a:Nat}:sq es (a::l) 0 [a] :=
 ⟨fun b t hb h=>by
  have e:a=b:=by simpa using hb
  subst e;exact h⟩
theorem sq.step {es:Nat->List LE}{way:List Nat}{a b:Nat}{pt:List Nat}(h:sq es l i way)(ha:l[i]? = OM a)(hb:l[i+1]? = OM b)(hu:Unp es 6 a b (a::pt)):sq es l (i+1) (way++pt) :=
 ⟨fun c t hc ht=>by
  have e:b=c:=by rw[hb]at hc;exact Option.some.inj hc
  subst e;have h1:l.drop i=a::b::l.drop (i+2):=by
   rw[Ow,ha,Ow,hb];rfl
  have h2:l.drop (i+1)=b::l.drop (i+2):=by
   rw[Ow,hb];rfl
  rw[h2]at ht;have:=h.cont a (pt++t) ha (by
   rw[h1];exact⟨a::pt,t,hu,ht,rfl⟩)
  rw[Nq];exact this⟩
theorem sq.done {es:Nat->List LE}{way:List Nat}(h:sq es l i way)(hi:i+1=l.length):pc es l way:=by
 have hx:l[i]? = OM (l[i]'(by omega)):=MJ (by omega);have:=h.cont _ [] hx (by
  rw[Ow,hx,List.drop_eq_nil_of_le (by omega)];rfl)
 rw[Nt]at this;exact this
theorem Prc.edge {es:Nat->List LE}:∀{l:List Nat}{i a b:Nat}{p q:Int},Prc es l p q->l[i]? = OM a->l[i+1]? = OM b->∃e∈es a,e.to=b
 |[],_,_,_,_,_,h,_,_=>h.elim
 |[_],_,_,_,_,_,_,_,hb=>by simp at hb
 |x::y::l,0,a,b,_,_,⟨e,he,ht,_⟩,ha,hb=>by
  have e1:x=a:=by simpa using ha
  have e2:y=b:=by simpa using hb
  subst e1 e2;exact⟨e,he,ht⟩
 |x::y::l,i+1,a,b,_,_,⟨_,_,_,h⟩,ha,hb=>Prc.edge (i:=i) h (by simpa using ha) (by simpa using hb)
theorem wI {gl:Nat}{lv:LSt}{Zh:Nat->List LE}{p q:Int}(w:PG)(V:cD w N0 lb vb eb top L lv f)(O:eT L lv)
  (hU:∀{a e},e∈lv.es a->∃way l,Unp lv.es 6 a e.to way/\way=a::l/\l≠[]/\way.getLast? = OM e.to/\Prc Zh way e.s e.d) (PT:l5 w gl 0 l) (h0:0<l.length) (hl:l.length<=600) (Vd:l.length<=cap) (aaQ:cap<=9223372036854775807) (hP:Prc lv.es l p q) :
  PK prog 135 #[.pointer (OM ⟨lb,0,Pk⟩),.slice (OM ⟨gl,0,Pk⟩) l.length cap] w fun e w'=>∃v way,e=PM v/\pc lv.es l way/\w'.ownsRow w.heap.size 3 1 v way.length (aH way)/\way.length<=40000/\PI w.heap.size w w':=by
 obtain⟨i0,hi,P0,P3,Qd⟩:=info_parts Tryz.info3;obtain⟨a0,l',rfl⟩:∃a l',l=a::l':=by
  cases l with
  |nil=>simp at h0
  |cons a l'=>exact⟨a,l',rfl⟩
 have c0:w.cell? ⟨gl,0,Pk⟩=OM (PE PF (a0:Int)):=PT 0 _ rfl;have b1:=aQ w (PN #[PE PF (a0:Int)] 3);have Qg:=FC w a0;have HI1:PJ (sq lv.es (a0::l') 0 [a0]):=sq.start;have XH:∀a,(lv.es a).length<=256:=fun a=>by
  have h1:((lv.es a).map (·.to)).Nodup:=by
   unfold List.Nodup;rw[List.pairwise_map];exact(O.esy.ord a).imp (fun h=>Nat.ne_of_lt h)
  have:=cQ 256 h1 (fun m hm=>by
   obtain⟨e,he,rfl⟩:=NH.1 hm;exact O.small _ (O.ends he).2)
  simpa using this
 have HES:=ae XH;have HU:PJ (∀{a e},e∈lv.es a->∃way l,Unp lv.es 6 a e.to way/\way=a::l/\l≠[]/\way.getLast? = OM e.to/\Prc Zh way e.s e.d):=hU;have HP:=ae hP;have HR:=ae PT;simp only[Nf]at hl Vd;clear XH hU hP PT h0;rcases Decidable.em (cap=1) with UH|UH
 ·have e0:l'=[]:=NK.1 (by omega);subst e0;subst UH;have HD:PJ (pc lv.es [a0] [a0]):=rfl;go_enter func135,ntmps135;go_wp2_with fail;go_loopw [5,17] (fun wv iv wr=>wv=.slice (OM ⟨w.heap.size,0,Pk⟩) 1 1/\iv=PE PF 0/\wr=w.alloc (PN #[PE PF (a0:Int)] 3)) (fun _ _ _=>0)
  case atStart=>exact⟨rfl,rfl,rfl⟩
  case round =>
   obtain⟨rfl,rfl,rfl⟩:=hrel;go_wp2;go_ret;exact⟨_,[a0],rfl,HD.out,Qg,by simp,b1⟩
 ·go_enter func135,ntmps135;go_wp2_with fail;go_loopw [5,17] (fun wv iv wr=>∃(i:Nat) (way:List Nat),i<=l'.length/\iv=PE PF i/\PJ (sq lv.es (a0::l') i way)/\wr.ownsRow w.heap.size 3 1 wv way.length (aH way)/\way.length<=1+64*i/\0<way.length/\PI w.heap.size w wr)
   (fun _ i _=>l'.length-(intOf i).toNat)
  case atStart=>exact⟨0,[a0],MQ _,rfl,HI1,Qg,by simp,by simp,b1⟩
  case round =>
   clear Qg HI1 b1 c0;obtain⟨i,way,hi2,rfl,HI,own,Tv,hw0,hB⟩:=hrel;by_cases PO:i<l'.length
   ·obtain⟨a,ha⟩:∃a,(a0::l')[i]? = OM a:=⟨(a0::l')[i]'(by simp;omega),MJ _⟩;obtain⟨b,hb⟩:∃b,(a0::l')[i+1]? = OM b:=⟨(a0::l')[i+1]'(by simp;omega),MJ _⟩;obtain⟨e,he,het⟩:=HP.out.edge ha hb;obtain⟨part,pt,u1,u2,u3,_,_⟩:=HU.out he;rw[het]at u1;have hu:=mO O.esy.ord O.ends HES.out O.small 6 a b part wr (by omega) u1 (V.below hB);have Ry:=u1.two;subst u2;have HI':PJ (sq lv.es (a0::l') (i+1) (way++pt)):=HI.out.step ha hb u1;have ca:wr.cell? ⟨gl,i,Pk⟩=OM (PE PF (a:Int)):=by
     have h:=(HR.out.below hB) i (PE PF (a:Int)) (pT ha);rw[Addr.add_lit,M8]at h;exact h
    have cb:wr.cell? ⟨gl,1+i,Pk⟩=OM (PE PF (b:Int)):=by
     have h:=(HR.out.below hB) (i+1) (PE PF (b:Int)) (pT hb);rw[Addr.add_lit,M8]at h;rw[Nat.add_comm 1 i];exact h
    have i1:(0:Int)<=(i:Int):=(by omega);have i2:(i:Int)<(l'.length:Int):=(by omega);have i3:(i:Int)<(l'.length:Int)+1:=(by omega);clear he het u1 u3 ha hb HI;go_wp2_with fail;refine hu.mono ?_;rintro r w5 ⟨v5,rfl,Qy,PV⟩;obtain⟨g5,Q6,rfl,rn5,h51,h52,h53,h54⟩:=fg Qy (by simp);have Qh:=aq own PV;have B5:=ak hB PV;have Gw:=rn5.tail;have z5:=B5.size;have apW:(2:Nat) ^ 6=64:=rfl;simp only[Nf]at Ry h53;simp only[List.tail_cons,M8]at Gw;have XI:¬Q6=1:=(by omega);clear hu Qy own PV hB ca cb rn5;go_wp2_with (at_builtin;refine wpList_append_own _ rfl _ _ 51 rfl w.heap.size 3 i0 (PE PF 0) 1 8 underlying51 hi P0 P3 Qd rfl (by decide) _ _ _ rfl Qh ⟨g5,1,Pk⟩ pt.length (Q6-1) (aH pt) rfl ?c0 Gw (kW _) ?c3 ?c4 ?c5 ?_)
    case c0=>rw[iF];omega
    case c3=>unfold maxLen;omega
    case c4=>omega
    case c5=>exact z5
    intro v' w6 PS PR _;have B6:PI w.heap.size w w6:=B5.grown PR z5 (fun q hq=>(Qh.lt q hq).1);have O6:w6.ownsRow w.heap.size 3 1 v' (way++pt).length (aH (way++pt)):=by
     rw[oF,MM];exact PS
    clear PS PR Qh Gw;go_wp2;go_roundw
    case rel=>exact⟨i+1,way++pt,by omega,by go_num,HI',O6,by rw[MM];omega,by rw[MM];omega,B6⟩
    case measure=>simp[intOf];omega
   ·have e:i=l'.length:=(by omega);subst e;have HD:PJ (pc lv.es (a0::l') way):=HI.out.done (by simp);go_wp2;go_ret;exact⟨_,way,rfl,HD.out,own,by omega,hB⟩
end
section
open Go.RowKit Go.Lib
theorem wJ (w:PG)(n:Int):PK prog 130 #[PE PF n] w fun e w'=>e=PM (.agg #[PE PF 0,PE PF 0])/\PI w.heap.size w w':=by
 go_enter func130,ntmps130;go_wp2;exact bodyPost_ret (v:=.agg #[PE PF 0,PE PF 0]) (by simp[results,results130,go_sem]) rfl ⟨rfl,al.alloc aj _⟩
theorem Mu (w:PG)(gf:Nat)(cs:List PH):(binOp .eql 105 (.func (.func gf) #[] cs.toArray) .nilFunc).run prog w=.ok (.bool PB) w:=by
 kernel_rfl
theorem qH (w0:PG):AV w0 w0.heap.size 130 [] (fun _=>(0,0)):=⟨fun args w=>by kernel_rfl,fun w n _ _=>wJ w n⟩
theorem Bw {A:Int->Option Int}(h:∀a,A a=Pk):ca A=0:=by
 unfold ca;have e:(fun a=>(A a).map fun n=>(n,(0:Int)))=fun _=>none:=by
  funext a
  rw[h];rfl
 rw[e,jg]
theorem pU {k:SBk}{v':PH}(h:v'.ownBlock=v.ownBlock){g:Nat}:sb5 k v' g=sb5 k v g:=by unfold sb5 hb3;rw[h]
theorem MI.endsSI {lv:LSt}{E:Int->Option (Int×Int)}{x':SS}{m':Mt}(O:eT L lv):∀{k:Nat}{x:SS}{m:Mt},MI L lv g src E x m->kT lv g E k x m x' m'->SI L lv 0 g src (fun _ _=>False) x'
 |0,x,m,h,⟨_,h2⟩=>by
  rcases h2 with⟨_,rfl⟩|⟨n,s,d,h2,h3,h4,rfl⟩
  ·exact h.si.mono (fun _ _ h _=>h.elim)
  ·exact(h.si.pop (n:Int)).mono (fun _ _ h _=>h.elim)
 |_+1,x,m,h,⟨n,s,d,h1,_,h2⟩=>by
  obtain⟨s',d',k1,_⟩:=h.si.key h1.1;exact MI.endsSI O (h.go O k1) h2
theorem Kn {lv:LSt}{x y:SS}{d:Int}{t t2:List Nat}(O:eT L lv)(hX:SI L lv 0 g src P x)(hY:SI L lv 1 g2 To P2 y)(hn:x.F (n:Int)=OM (s,d))(U0:y.F (n:Int)=OM (s2,d2))(hb:Bk x.A (n::t))(hb2:Bk y.A (n::t2)):∃p q,Prc lv.es ((n::t).reverse++t2) p q:=by
 obtain⟨o,s0,d0,p,q,j1,j2,j3,j4⟩:=hX.back O hb hn;obtain⟨i,s1,d1,p',q',l1,l2,l3,l4⟩:=hY.back O hb2 U0;have j5:=Prc.rev O.esy j3;obtain⟨z0,zs,P0⟩:∃z0 zs,(n::t).reverse=z0::zs:=by
  cases hq:(n::t).reverse with
  |nil=>simp at hq
  |cons z zs=>exact⟨z,zs,rfl⟩
 have P3:(z0::zs).getLast? = OM n:=by rw[<- P0];simp
 rw[P0]at j5 ⊢;exact⟨_,_,Prc.join l3 j5 P3⟩
theorem Ko {ne:Nat}{k ke:SBk}{lv:LSt}{x y:SS}{d:Int}(w:PG)(O:eT L lv)(S:bh w N k lb 0 gv v nh (ca x.A) x)(SE:bh w Ne ke lb 1 gv2 ve ne (ca y.A) y)(hX:SI L lv 0 g src P x)(hY:SI L lv 1 g2 To P2 y)(hn:x.F (n:Int)=OM (s,d))(U0:y.F (n:Int)=OM (s2,d2)) :
  PK prog 136 #[.pointer (OM ⟨k.sb,0,Pk⟩),.pointer (OM ⟨ke.sb,0,Pk⟩),PE PF (n:Int)] w fun e w'=>∃(gl cap:Nat) (l:List Nat),e=PM (.slice (OM ⟨gl,0,Pk⟩) l.length cap)/\l5 w' gl 0 l/\l.length<=cap/\cap<=9223372036854775807/\0<l.length/\l.length<=600/\PJ (∃t t2,Bk x.A (n::t)/\Bk y.A (n::t2)/\l=(n::t).reverse++t2)/\PI w.heap.size w w':=by
 refine(FE w O S SE hX hY hn U0).mono fun e w' ⟨v,t,t2,h1,h2,h3,h4,h5,h6,h7⟩=>?_;have hp:0<((n::t).reverse++t2).length:=by simp;omega
 have hq:((n::t).reverse++t2).length<=600:=by
  rw[MM,O3];rw[Nf]at h6;omega
 obtain⟨gl,cap,rfl,r1,_,_,r2,r3⟩:=fg h4 hp;exact⟨gl,cap,_,h1,r1,r2,r3,hp,hq,⟨t,t2,h2,h3,rfl⟩,h7⟩
theorem nF {a b j:Nat}(h:¬a=b):(w.setCell ⟨b,j,Pk⟩ v).cell? ⟨a,i,Pk⟩=w.cell? ⟨a,i,Pk⟩:=MH _ _ _ _ (fun q=>h (by cases q;rfl))
structure FF (w:PG) (k:SBk) (v:PH):Prop where
 a:k.cb<w.heap.size
 b:k.ab<w.heap.size
 c:k.hb<w.heap.size
 d:k.mb<w.heap.size
 e:∀q,v.ownBlock=OM q->q<w.heap.size
theorem FF.lt {k:SBk}(h:FF w k v){g:Nat}(hg:sb5 k v g):g<w.heap.size:=by
 rcases hg with rfl|rfl|rfl|rfl|hg
 ·exact h.a
 ·exact h.b
 ·exact h.c
 ·exact h.d
 ·exact h.e g hg
structure ER (w wr:PG) (k:SBk) (lb:Nat) (L:List Nat) (lv:LSt) (src:Int->Int->Int->Prop) (y0:SS) (gk:Nat) (nv cv mv:PH):Prop where
 ex:∃(y:SS) (v:PH) (nh cb:Nat) (n s d:Int) (b:Bool),nv=PE PF n/\cv=.pointer (OM ⟨cb,0,Pk⟩)/\mv=.bool b/\w.heap.size<cb/\bz wr w.heap.size 0 0/\bz wr cb s d/\SI L lv 1 (fun _=>(0,0)) src (fun _ _=>True) y/\(∀j y',sG lv 1 (fun _=>(0,0)) j y y'->∃j',sG lv 1 (fun _=>(0,0)) j' y0 y')/\gk=mu y/\¬sb5 k v w.heap.size/\¬sb5 k v cb /\
  ((b=PB/\(∀a,y.H a=Pk)/\bh wr (w.heap.size+1) k lb 1 (.func (.func 130) #[] #[]) v nh (ca y.A) y)\/(b=Pm/\∃n':Nat,n=(n':Int)/\n'<256/\(∃s d,yq y.H (n':Int) s d)/\bh wr (w.heap.size+1) k lb 1 (.func (.func 130) #[] #[]) v nh (ca y.A) (gC y (n':Int))))
 bl:PI w.heap.size w wr
theorem FG {gf cap cap2:Nat}{lv:LSt}{Zh:Nat->List LE}{cs:List PH}{A2:Option Addr}{out RP:List IE}(w:PG)(V0:cD w N0 lb vb eb top L lv f)(O:eT L lv)(UX:∀n,1<=lv.lev n/\lv.lev n<=7)
  (hU:∀{a e},e∈lv.es a->∃way l,Unp lv.es 6 a e.to way/\way=a::l/\l≠[]/\way.getLast? = OM e.to/\Prc Zh way e.s e.d) (hg:AV w w.heap.size gf cs g) (Uk:∀n:Nat,0<=(g n).1/\(g n).1<=1024/\0<=(g n).2/\(g n).2<=1024) (ho:sJ w A out) (hi:sJ w A2 RP) (hol:out.length<=1000) (SJ:RP.length<=1000) :
  PK prog 88 #[.pointer (OM ⟨lb,0,Pk⟩),.slice A out.length cap,.slice A2 RP.length cap2,.func (.func gf) #[] cs.toArray] w fun e w'=>∃way s d b v,e=PM (.tuple #[v,.agg #[PE PF s,PE PF d],.bool b])/\ma L lv g out RP way s d b/\w'.ownsRow w.heap.size 3 1 v way.length (aH way)/\way.length<=40000/\PI w.heap.size w w':=by
 have b1:=aQ w (PN #[PE PF 0,PE PF 0] 53);have P3:(w.alloc (PN #[PE PF 0,PE PF 0] 53)).heap.size=w.heap.size+1:=by simp
 have Va:=bz.new w 0 0;have hef:=Mu (w.alloc (PN #[PE PF 0,PE PF 0] 53)) gf cs;have Sm:=ua (cap:=cap2) (r:=1) w _ V0 O (qH w) b1 (hi.below aj b1) SJ (fun _=>by simp);go_enter func88,ntmps88;go_wp2_with fail;refine Sm.mono ?_;rintro e w2 ⟨ke,v2,nh2,rfl,S2,U0,hb2⟩;rw[P3]at S2 hb2;have F2:=FI.fold O (l':=RP) (FI.start L lv 1 (fun _=>(0,0)));have Ux:ca (dR L (fun _=>(0,0)) RP).A=0:=Bw F2.no;rw[<- Ux]at S2;have SI2:=F2.all_in;have B2:PI w.heap.size w w2:=b1.trans (hb2.mono (by omega));have aeO:=Va.below (by rw[P3];exact hb2);have c5:=S2.c5;have Re:=nD w2 S2 (fun ha=>SI2.key256 O ha);have Xg:PJ (SI L lv 1 (fun _=>(0,0)) (eg L RP) (fun _ _=>True) (dR L (fun _=>(0,0)) RP)):=SI2;have aiT:w.heap.size+1<=w2.heap.size:=by rw[<- P3];exact hb2.size
 clear Sm hef Ux F2 SI2 Va b1 hb2;generalize Xh:dR L (fun _=>(0,0)) RP=y0 at *;have HY0:PJ (dR L (fun _=>(0,0)) RP=y0):=Xh;clear Xh;go_wp2_with fail;refine Re.mono ?_;rintro e w3 ⟨n3,s3,d3,b3,v3,nh3,rfl,_,K3,Xi,Yh⟩;clear Re c5;have HKB:PJ (FF w2 ke v2):=⟨S2.fm.lt,S2.am.lt,S2.hp.blocks.1,S2.hp.blocks.2.1,S2.hp.blocks.2.2⟩;have apY:=aiT;have nR:¬sb5 ke v2 w.heap.size:=fun h=>by have:=(S2.from _ h).1;omega
 have aeP:=aeO.keep K3 nR;have B3:PI w.heap.size w w3:=B2.trans ((S2.to_below K3).mono (by omega));have b4:=aQ w3 (PN #[PE PF s3,PE PF d3] 53);have hz3:w2.heap.size<=w3.heap.size:=K3.size;have QV:PJ (ER w (w3.alloc (PN #[PE PF s3,PE PF d3] 53)) ke lb L lv (eg L RP) y0 (mu y0) (PE PF n3) (.pointer (OM ⟨w3.heap.size,0,Pk⟩)) (.bool b3)):=by
  refine⟨⟨y0,v3,nh3,w3.heap.size,n3,s3,d3,b3,rfl,rfl,rfl,by omega,aeP.below b4,bz.new w3 s3 d3,Xg.out,fun j y' h=>⟨j,h⟩,rfl,fun h=>?_,fun h=>?_,?_⟩,ak B3 b4⟩
  ·rw[pU Xi]at h;exact nR h
  ·rw[pU Xi]at h;have:=HKB.out.lt h;omega
  ·rcases Yh with⟨h1,h2,h3⟩|⟨h1,n',h2,h3,h4,h5⟩
   ·exact MG ⟨h1,h2,h3.below b4⟩
   ·exact MF ⟨h1,n',h2,h3,⟨_,_,h4⟩,h5.below b4⟩
 clear K3 aeO aeP S2 B2 B3 b4 Yh Xi nR U0;go_wp2;go_loopg [12,13,14] (mu y0) (fun gk nv cv mv wr=>ER w wr ke lb L lv (eg L RP) y0 gk nv cv mv)
 case atStart=>exact QV.out
 case round =>
  clear QV;obtain⟨⟨y,v4,nh4,cb,n4,s4,d4,b4,rfl,rfl,rfl,hcb,Va,Zf,hY,Q0,QD,nR,nC,QS⟩,QA⟩:=hrel;have HG:=ae QD;have HC:PJ (∀j y',sG lv 1 (fun _=>(0,0)) j y y'->∃j',sG lv 1 (fun _=>(0,0)) j' y0 y'):=Q0;have HY:PJ (SI L lv 1 (fun _=>(0,0)) (eg L RP) (fun _ _=>True) y):=hY;have HN:PJ (¬sb5 ke v4 w.heap.size/\¬sb5 ke v4 cb):=⟨nR,nC⟩;clear QD Q0 hY nR nC;rcases QS with⟨rfl,Qc,S4⟩|⟨rfl,n',rfl,Xe,Ya,S4⟩
  ·obtain⟨je,hje⟩:=HC.out 0 y ⟨Qc,rfl⟩;have HE:PJ (sG lv 1 (fun _=>(0,0)) je y0 y/\∀a,y.H a=Pk):=⟨hje,Qc⟩;clear hje Qc HC;have Sm:=ua (cap:=cap) (r:=0) w wr V0 O hg QA (ho.below aj QA) hol Uk;have F5:=FI.fold O (l':=out) (FI.start L lv 0 g);have hA5:ca (dR L g out).A=0:=Bw F5.no;have HM0:PJ (MI L lv g (eg L out) y.F (dR L g out) ⟨0,0,0,PB⟩):=⟨F5.all_in,fun q=>(by cases q),fun ha hH _=>absurd hH (F5.all ha)⟩;clear F5;go_wp2_with fail;refine Sm.mono ?_;rintro e w5 ⟨kb,v5,nh5,rfl,S5,hn5,PV⟩;have S5':bh w5 wr.heap.size kb lb 0 (.func (.func gf) #[] cs.toArray) v5 nh5 (ca (dR L g out).A) (dR L g out):=(by rw[hA5];exact S5);have hmt:=FD w wr w5 V0 O UX hg QA Uk S4 HY.out PV S5' HM0.out;have HBW:=ae QA;have Yi:PJ _:=S4;have HLR:=ae Va;clear Sm S5 S5' PV hA5 S4 Va Zf QA hn5;generalize Yj:dR L g out=x0 at *;have HX0:=ae Yj;clear Yj;go_wp2_with fail;refine hmt.mono ?_;rintro e w6 ⟨jm,x6,⟨mn,ms,md,mf⟩,Tl,rfl,⟨v6,nh6,S6⟩,Qr⟩;have Ul:=ae Tl;clear hmt Tl;dsimp only;have hNr:=HBW.out.size;have b7:=aQ w6 (PN #[PE PF ms,PE PF md] 53);have B7:=ak Qr b7;have slL:=bz.new w6 ms md;have TY:=HLR.out.below B7;have S7:=S6.below b7;have SE7:=Yi.out.below B7;have BW7:=HBW.out.trans (B7.mono hNr);have r0:=TY.c0;have r1:=TY.c1;have rz0:=TY.z0;have rz1:=TY.z1;have hLz:wr.heap.size<=w6.heap.size:=Qr.size;clear S6 Qr b7;cases mf with
   |false =>
    have HBR:PJ (ma L lv g out RP [] 0 0 PB):=⟨je,y,jm,x6,⟨mn,ms,md,PB⟩,by rw[HY0.out];exact HE.out.1,by rw[HX0.out];exact Ul.out,rfl,fun _=>⟨rfl,rfl,rfl⟩,fun h=>by cases h⟩;have RV:=TY.set 0 0;have q0:=RV.c0;have q1:=RV.c1;have KR:=eF (w6.alloc (PN #[PE PF ms,PE PF md] 53)) w.heap.size 0 0;have B8:=BW7.trans (KR.to_below BW7.size (fun q e=>by subst e;exact aj));clear S7 SE7;go_wp2_with fail;refine bodyPost_ret (v:=.tuple #[.slice Pk 0 0,.agg #[PE PF 0,PE PF 0],.bool PB]) ?_ rfl ⟨[],0,0,PB,.slice Pk 0 0,rfl,HBR.out,Nj _ _ _ _,by simp,B8⟩;simp[results,results88,go_sem,q0,q1]
   |true =>
    have SIx:=HM0.out.endsSI O Ul.out;obtain⟨z,Z,zF,zA⟩:=HM0.out.ends O Ul.out;obtain⟨es,ed,VX,VY,f1,f2⟩:∃es ed VX VY,y.F mn=OM (es,ed)/\z.F mn=OM (VX,VY):=by
     obtain⟨fs,fd,es,ed,VX,VY,f1,f2,_⟩:=Z.mi.fnd rfl;exact⟨es,ed,VX,VY,f1,f2⟩
    obtain⟨nn,rfl⟩:∃nn:Nat,mn=(nn:Int):=⟨mn.toNat,by have:=(HY.out.lab f1).1;omega⟩;rw[<- zF]at f2;have d7:PI (w6.alloc (PN #[PE PF ms,PE PF md] 53)).heap.size (w6.alloc (PN #[PE PF ms,PE PF md] 53)) (w6.alloc (PN #[PE PF ms,PE PF md] 53)).drew:=al.drew;have hjn:=Ko _ O (S7.below d7) (SE7.below d7) SIx HY.out f2 f1;have HJ:PJ (∀t t2,Bk x6.A (nn::t)->Bk y.A (nn::t2)->∃p q,Prc lv.es ((nn::t).reverse++t2) p q):=fun t t2 h1 h2=>Kn O SIx HY.out f2 f1 h1 h2;have HUP:PJ (∀(w8:PG) (g8 Xj:Nat) (l8:List Nat),PI w.heap.size w w8->l5 w8 g8 0 l8->l8.length<=Xj->Xj<=9223372036854775807->0<l8.length->l8.length<=600->(∃t t2,Bk x6.A (nn::t)/\Bk y.A (nn::t2)/\l8=(nn::t).reverse++t2)->PK prog 135 #[.pointer (OM ⟨lb,0,Pk⟩),.slice (OM ⟨g8,0,Pk⟩) l8.length Xj] w8 fun e w'=>∃v way,e=PM v/\pc lv.es l8 way/\w'.ownsRow w8.heap.size 3 1 v way.length (aH way)/\way.length<=40000/\PI w8.heap.size w8 w'):=fun w8 g8 Xj l8 h1 h2 h3 h4 h5 h6 ⟨t,t2,h7,h8,h9⟩=>by
     obtain⟨p,q,hp⟩:=HJ.out t t2 h7 h8;rw[<- h9]at hp;exact wI w8 (V0.below h1) O hU h2 h5 h6 h3 h4 hp
    have BW8:=ak BW7 d7;have ab4:=slL.below d7;have Yc:=TY.below d7;have t0:=ab4.c0;have t1:=ab4.c1;have hLB:w.heap.size<w6.heap.size:=(by have:=aJ HLR.out.c0;simp only at this;omega);have ZU:¬w6.heap.size=w.heap.size:=(by omega);clear SIx Z zF zA f1 f2 S7 SE7 d7 slL TY BW7 B7 r0 r1 rz0 rz1 Yi HLR HBW;go_wp2_with fail;generalize w6.alloc (PN #[PE PF ms,PE PF md] 53)=w7 at *;generalize w6.heap.size=LB at *;have aeS:=ae Yc;clear Yc ab4;go_region_held3 (fun w'=>w'.cell? ⟨LB,0,Pk⟩=OM (PE PF ms)/\w'.cell? ⟨LB,1,Pk⟩=OM (PE PF md)) (first|exact⟨t0,t1⟩|exact⟨u0,u1⟩|exact⟨x0,x1⟩|(exact⟨(nF ZU).trans ((nF ZU).trans x0),(nF ZU).trans ((nF ZU).trans x1)⟩)|(go_keep))
     (first
      |(go_at_call 136;refine hjn.mono ?_;rintro r1 w8 ⟨g8,Xj,l8,rfl,rn8,hc8,ai0,hp8,ZK,HJ8,Rn⟩;have u0:=ar Rn t0;have u1:=ar Rn t1;have B9:=ak BW8 Rn)
      |(go_at_call 135;refine(HUP.out w8 g8 Xj l8 B9 rn8 hc8 ai0 hp8 ZK HJ8.out).mono ?_;rintro r1 w9 ⟨v9,ai1,rfl,ai2,T7,ai3,Yk⟩;have x0:=ar Yk u0;have x1:=ar Yk u1;have Tr:=(aeS.out.below Rn).below Yk;have a0:=Tr.c0;have a1:=Tr.c1;have az0:=Tr.z0;have az1:=Tr.z1))
    have HBR:PJ (ma L lv g out RP ai1 ms md Pm):=by
     obtain⟨t,t2,h7,h8,h9⟩:=HJ8.out;exact⟨je,y,jm,x6,⟨(nn:Int),ms,md,Pm⟩,by rw[HY0.out];exact HE.out.1,by rw[HX0.out];exact Ul.out,rfl,fun h=>(by cases h),fun _=>⟨rfl,rfl,nn,t,t2,rfl,h7,h8,by rw[<- h9];exact ai2⟩⟩
    have RV:=Tr.set ms md;have q0:=RV.c0;have q1:=RV.c1;have KR:=eF w9 w.heap.size ms md;have BA:=ak B9 Yk;have BB:=BA.trans (KR.to_below BA.size (fun q e=>by subst e;exact aj));have hz8:w.heap.size<w8.heap.size:=MN (aJ aeS.out.c0) Rn.size;have OW:=bq (bT T7 (Nat.le_of_lt hz8)) KR (fun q hq e=>by subst e;have:=(T7.lt _ hq).1;omega);clear t0 t1 u0 u1 x0 x1 a0 a1 az0 az1 hjn HUP T7;go_wp2_with fail;refine bodyPost_ret (v:=.tuple #[v9,.agg #[PE PF ms,PE PF md],.bool Pm]) ?_ rfl ⟨ai1,ms,md,Pm,v9,rfl,HBR.out,OW,ai3,BB⟩;simp[results,results88,go_sem,q0,q1]
  ·obtain⟨sp,dp,Ya⟩:=Ya;obtain⟨fs,fd,hF⟩:∃fs fd,y.F (n':Int)=OM (fs,fd):=by
    obtain⟨fs,fd,h,_⟩:=HY.out.key Ya.1;exact⟨fs,fd,h⟩
   have Zg:=yE w wr V0 O UX (by omega) (qH w) rfl (by omega) QA (fun _=>by simp) S4 (HY.out.popped n') hF (fZ _ _);have HMG:PJ (SI L lv 1 (fun _=>(0,0)) (eg L RP) (fun _ _=>True) (goS lv 1 (fun _=>(0,0)) n' (gC y (n':Int)))):=(HY.out.go O hF).1;have HMU:PJ (mu (goS lv 1 (fun _=>(0,0)) n' (gC y (n':Int)))<mu y):=HY.out.mu_go O Ya.1;have HCO:PJ (∀j y',sG lv 1 (fun _=>(0,0)) j (goS lv 1 (fun _=>(0,0)) n' (gC y (n':Int))) y'->∃j',sG lv 1 (fun _=>(0,0)) j' y0 y'):=fun j y' h=>HC.out (j+1) y' ⟨n',sp,dp,Ya,h⟩;have Yi:PJ _:=S4;have ap6:PJ (FF wr ke v4):=⟨S4.fm.lt,S4.am.lt,S4.hp.blocks.1,S4.hp.blocks.2.1,S4.hp.blocks.2.2⟩;have hzr:cb<wr.heap.size:=aJ Zf.c0;clear S4 HC HY Ya;generalize goS lv 1 (fun _=>(0,0)) n' (gC y (n':Int))=yg at *;go_wp2_with fail;refine Zg.mono ?_;rintro e w9 ⟨rfl,v9,nh9,S9,K9,ho9⟩;have Tr:=Va.keep K9 HN.out.1;have VW:=Zf.keep K9 HN.out.2;have B9:=QA.trans ((Yi.out.to_below K9).mono (by omega));have hz9:=K9.size;have HV9:PJ (FF w9 ke v9):=⟨S9.fm.lt,S9.am.lt,S9.hp.blocks.1,S9.hp.blocks.2.1,S9.hp.blocks.2.2⟩;have HO9:PJ (∀q,sb5 ke v9 q->sb5 ke v4 q\/wr.heap.size<=q):=fun q hq=>by
    rcases hq with h|h|h|h|h
    ·exact MG (MG h)
    ·exact MG (MF (MG h))
    ·exact MG (MF (MF (MG h)))
    ·exact MG (MF (MF (MF (MG h))))
    ·rcases ho9 q h with h|h
     ·exact MG (MF (MF (MF (MF h))))
     ·exact MF h
   have TS:=aQ w9 (PN #[PE PF s4,PE PF d4] 53);have TR:=S9.below TS;have slX:=bz.new w9 s4 d4;have Re:=nD _ TR (fun ha=>HMG.out.key256 O ha);have c5:=TR.c5;have l0:=VW.c0;have l1:=VW.c1;have Vc:=Tr.below TS;have Ts:=ak B9 TS;have aeU:PJ _:=TR;clear Zg K9 ho9 Va Zf Tr VW QA B9 S9 TR TS Yi;go_wp2_with fail;clear c5 l0 l1;generalize w9.alloc (PN #[PE PF s4,PE PF d4] 53)=Tq at *;refine Re.mono ?_;rintro e Sw ⟨n11,s11,d11,UZ,v11,Ye,rfl,_,Sx,TZ,UG⟩;have SK:PJ (¬sb5 ke v9 w.heap.size/\¬sb5 ke v9 w9.heap.size):=by
    refine⟨fun h=>?_,fun h=>?_⟩
    ·rcases HO9.out _ h with h|h
     ·exact HN.out.1 h
     ·omega
    ·have:=HV9.out.lt h;omega
   have Yf:=Vc.keep Sx SK.out.1;have Tt:=slX.keep Sx SK.out.2;have Yg:=Ts.trans ((aeU.out.to_below Sx).mono (by omega));clear Re Sx Vc slX Ts aeU;go_wp2;go_roundg (mu yg)
   case measure=>have h1:=HG.out;have h2:=HMU.out;omega
   case rel =>
    refine⟨⟨yg,v11,Ye,w9.heap.size,n11,s4,d4,UZ,rfl,rfl,rfl,by omega,Yf,Tt,HMG.out,HCO.out,rfl,fun h=>?_,fun h=>?_,?_⟩,Yg⟩
    ·rw[pU TZ]at h;exact SK.out.1 h
    ·rw[pU TZ]at h;exact SK.out.2 h
    ·rcases UG with⟨h1,h2,h3⟩|⟨h1,n'',h2,h3,h4,h5⟩
     ·exact MG ⟨h1,h2,h3⟩
     ·exact MF ⟨h1,n'',h2,h3,⟨_,_,h4⟩,h5⟩
end
section
open Go.RowKit Go.Lib
def Kp (W tz:Int) (n:Int):Int×Int:=if 0<=n/\n<256 then (aO W n tz,aK W n tz) else (0,0)
theorem Bx {tz:Int}(h:n<256):Kp W tz (n:Int)=(aO W n tz,aK W n tz):=by
 unfold Kp;rw[if_pos ⟨by omega,by omega⟩]
end
section
section
variable {W H : Int} {bl : Nat → Bool} {es : Nat → List LE}
theorem GEs.pos (G:GEs W H bl es)(w1:1<=W)(w2:W<=16)(h1:1<=H)(h2:H<=16){a:Nat}{e:LE}(h:e∈es a):0<=e.s/\0<=e.d/\e.s<=16/\e.d<=16/\0<e.s+e.d:=by
 obtain⟨m1,m2,m3,m4,m5,m6,_⟩:=G.mem h;have i1:=aT w1 (aE.1 m1);have i2:=aT w1 (aE.1 m2);have hs:=bV w1 w2 h1 h2 i1 i2;have hw:=m3.walk w1 (by omega) (by omega);have n1:=aG W a e.to;have n2:=aD W a e.to;rw[m5,m6];refine⟨n1,n2,hs.1,hs.2,?_⟩;apply Classical.byContradiction;intro q;have e1:aO W a e.to=0:=by omega
 have e2:aK W a e.to=0:=by omega
 have:=nQ hw (by rw[e1,e2];decide);exact m4 (by omega)
theorem zu (G:GEs W H bl es)(w1:1<=W)(w2:W<=16)(h1:1<=H)(h2:H<=16):∀{l:List Nat}{x:Nat}{s d:Int},Prc es (x::l) s d->0<=s/\0<=d/\s<=16*l.length/\d<=16*l.length/\(l≠[]->0<s+d)
 |[],x,s,d,⟨e1,e2⟩=>by
  subst e1 e2;exact⟨Nc _,Nc _,by simp,by simp,fun h=>absurd rfl h⟩
 |y::l,x,s,d,⟨e,he,e1,h⟩=>by
  obtain⟨k1,k2,k3,k4,k5⟩:=G.pos w1 w2 h1 h2 he;obtain⟨j1,j2,j3,j4,_⟩:=zu G w1 w2 h1 h2 h;have hl:(((y::l).length:Nat):Int)=(l.length:Int)+1:=rfl;rw[hl];exact⟨by omega,by omega,by omega,by omega,fun _=>by omega⟩
theorem IK (G:GEs W H bl es)(w1:1<=W)(w2:W<=16)(h1:1<=H)(h2:H<=16){most k:Nat}{st:LSt}(m6:most<=6)(m1:1<=most)(h:Rds most (crs W H bl (W*H).toNat) ⟨fun _=>0,es⟩ k st) :
  eT (crs W H bl (W*H).toNat) ⟨dr (k+1) st,st.es⟩/\(∀n,1<=dr (k+1) st n/\dr (k+1) st n<=7)/\∀{a e},e∈st.es a->∃way l,Unp st.es 6 a e.to way/\way=a::l/\l≠[]/\way.getLast? = OM e.to/\Prc es way e.s e.d:=by
 have B0:=G.btw w1 w2 h1 h2;have B:=Btw.rds (show (0:Int)<=16 by omega) B0 h;have hk:k+1<=most:=by
  cases k with
  |zero=>omega
  |succ k =>
   obtain⟨_,_,_,h2,_⟩:=h;omega
 have Rq:=bP w1 w2 h1 h2;have hU:∀{a e},e∈st.es a->∃way l,Unp st.es 6 a e.to way/\way=a::l/\l≠[]/\way.getLast? = OM e.to/\Prc es way e.s e.d:=fun {a e} he =>
  AB B.lrd (fun he hm=>Rds.own B0.lrd h he hm) 6 a e he (by have:=(B.lrd.end_le a).2;omega)
 have hd:dbl 16 k<=512:=by
  have:k<=5:=by omega
  rcases (by omega:k=0\/k=1\/k=2\/k=3\/k=4\/k=5) with rfl|rfl|rfl|rfl|rfl|rfl<;>decide
 refine⟨⟨B.lrd.esy,B.cor.ends,fun {a e} he=>?_,fun n hn=>?_⟩,fun n=>?_,hU⟩
 ·obtain⟨b1,b2,b3,b4⟩:=B.bd he;obtain⟨way,l,u1,u2,u3,u4,u5⟩:=hU he;subst u2;have:=(zu G w1 w2 h1 h2 u5).2.2.2.2 u3;exact⟨b1,b2,by omega,by omega,this⟩
 ·have:=(cR.1 hn).1;omega
 ·have:=B.lrd.end_le n;omega
end
structure Kq (W H:Int) (bl:Nat->Bool) (es:Nat->List LE) (out RP:List IE) (s d:Int) (f:Bool):Prop where
 opt:∀{o i s0 d0 s1 d1 p q:Int},eg (crs W H bl (W*H).toNat) out o s0 d0->eg (crs W H bl (W*H).toNat) RP i s1 d1->Wg (GrE es) o i p q->f=Pm/\val s d<=val (s0+p+s1) (d0+q+d1)
 snd:f=Pm->∃(o i:Nat) (s0 d0 s1 d1 p q:Int),eg (crs W H bl (W*H).toNat) out (o:Int) s0 d0/\eg (crs W H bl (W*H).toNat) RP (i:Int) s1 d1/\Wg (GrE es) (o:Int) (i:Int) p q/\s=s0+p+s1/\d=d0+q+d1/\0<=q/\q<=640000
 no:f=PB->s=0/\d=0
section
variable {W H : Int} {bl : Nat → Bool} {es : Nat → List LE} {out RP : List IE}
theorem Mv (G:GEs W H bl es)(w1:1<=W)(w2:W<=16)(h1:1<=H)(h2:H<=16){most k:Nat}{st:LSt}(m6:most<=6)(m1:1<=most)(h:Rds most (crs W H bl (W*H).toNat) ⟨fun _=>0,es⟩ k st)
  {g:Int->Int×Int}(hA:Adm (crs W H bl (W*H).toNat) st.es g (eg (crs W H bl (W*H).toNat) RP)) {way:List Nat}{s d:Int}{f:Bool}(hB:ma (crs W H bl (W*H).toNat) ⟨dr (k+1) st,st.es⟩ g out RP way s d f) (Tv:way.length<=40000):Kq W H bl es out RP s d f:=by
 obtain⟨O,_,hU⟩:=IK G w1 w2 h1 h2 m6 m1 h;have Qc:f=PB->s=0/\d=0:=by
  obtain⟨_,_,_,_,_,_,_,_,h4,_⟩:=hB;exact fun q=>(h4 q).2
 obtain⟨b1,b2⟩:=ma.best (G.btw w1 w2 h1 h2) (fun _=>rfl) h O hU hA hB;refine⟨b1,fun q=>?_,Qc⟩;obtain⟨o,i,t,s0,d0,s1,d1,p,q',c1,c2,c3,c4,c5,c6,c7⟩:=b2 q;subst c3;obtain⟨_,j2,_,j4,_⟩:=zu G w1 w2 h1 h2 c5;have hl:(o::t).length=t.length+1:=rfl;exact⟨o,i,s0,d0,s1,d1,p,q',c1,c2,c5.way c4,c6,c7,j2,by omega⟩
def frC (W:Int) (c:Nat) (l:List Nat):List LE:=l.map (fun m=>⟨m,aO W c m,aK W c m,-1⟩)
def frI (W:Int) (c:Nat) (l:List Nat):List IE:=(frC W c l).map fun e=>⟨e.to,e.s,e.d,e.mid⟩
def Cns (W H:Int) (bl:Nat->Bool) (c:Nat) (l:List Nat):Prop:=∀n:Nat,n∈l↔Dir W H bl c n/\bj W H bl n=Pm
theorem By (W:Int)(c:Nat)(l:List Nat):(frI W c l).length=l.length:=by unfold frI frC;rw[NP,NP]
theorem il (w1:1<=W)(w2:W<=16)(h1:1<=H)(h2:H<=16){c:Nat}{l:List Nat}(hc:inB W H c=Pm)(hl:Cns W H bl c l){o s d:Int}:eg (crs W H bl (W*H).toNat) (frI W c l) o s d↔0<=o/\dC W H bl o/\Dir W H bl c o/\s=aO W c o/\d=aK W c o:=by
 constructor
 ·rintro⟨e,h1,⟨⟨h2,_⟩,_⟩,rfl,rfl,rfl⟩;unfold frI frC at h1;rw[List.map_map]at h1;obtain⟨m,hm,rfl⟩:=NH.1 h1;obtain⟨k1,k2⟩:=(hl m).1 hm;exact⟨h2,aE.1 k2,k1,rfl,rfl⟩
 ·rintro⟨h0,k1,k2,rfl,rfl⟩;obtain⟨m,rfl⟩:∃m:Nat,o=(m:Int):=⟨o.toNat,by omega⟩;have hi:=aT w1 k1;have hs:=bV w1 w2 h1 h2 hc hi;have h4:0<=(m:Int)/\(m:Int)<W*H:=of_decide_eq_true hi;refine⟨⟨m,aO W c m,aK W c m,-1⟩,?_,⟨⟨by show (0:Int)<=(m:Int);omega,?_⟩,aG _ _ _,?_,aD _ _ _,?_⟩,rfl,rfl,rfl⟩
  ·unfold frI frC;rw[List.map_map];exact NH.2 ⟨m,(hl m).2 ⟨k2,aE.2 k1⟩,rfl⟩
  ·show (m:Int).toNat∈_;rw[ML];exact cR.2 ⟨by omega,aE.2 k1⟩
  ·show aO W c m<=_;omega
  ·show aK W c m<=_;omega
theorem IM (G:GEs W H bl es)(w1:1<=W)(w2:W<=16)(h1:1<=H)(h2:H<=16){most k:Nat}{st:LSt}(m6:most<=6)(m1:1<=most)(h:Rds most (crs W H bl (W*H).toNat) ⟨fun _=>0,es⟩ k st)
  {c:Nat}{l:List Nat}(hc:inB W H c=Pm) (hl:Cns W H bl c l):Adm (crs W H bl (W*H).toNat) st.es (Kp W c) (eg (crs W H bl (W*H).toNat) (frI W c l)):=fun {b i s d p q} h0 hb h3 hw=>by
 obtain⟨O,_,hU⟩:=IK G w1 w2 h1 h2 m6 m1 h;obtain⟨bn,rfl⟩:∃m:Nat,b=(m:Int):=⟨b.toNat,by omega⟩;rw[ML]at hb;rw[Bx (O.small bn hb)];obtain⟨i0,ic,idr,rfl,rfl⟩:=(il w1 w2 h1 h2 hc hl).1 h3;have key:=hw (fun x p q=>0<=x/\cU W bn x<=val p q) ⟨h0,by unfold cU;rw[fu,fw];exact Nc _⟩ (fun x p q y t u ⟨x0,hx⟩ ⟨e,k1,k2,k3,k4⟩=>by
  obtain⟨way,l',u1,u2,u3,u4,u5⟩:=hU k1;subst u2;have hwk:=GEs.walk w1 w2 h1 h2 G (by omega) (u5.way u4);have UI:=eG w1 hwk;have ex:((x.toNat:Nat):Int)=x:=by omega
  rw[ex]at UI;subst k2 k3 k4;have:=lL W bn x e.to;rw[aI];exact⟨by omega,by omega⟩)
 have ht:=lL W bn i c;rw[eu W i c]at ht;have k2:=key.2;show cU W bn c<=_;show _<=val p q+cU W c i;omega
theorem Kq.flood (G:GEs W H bl es)(w1:1<=W)(w2:W<=16)(h1:1<=H)(h2:H<=16)(B:∀c,inB W H c=Pm->ct (aF W H bl) c (Fl c)){a b:Nat}{la lb:List Nat}(ha:inB W H a=Pm)(hb:inB W H b=Pm)(hla:Cns W H bl a la)(Xk:Cns W H bl b lb)(hn:¬ ∃z,On W H bl a b z)
  {s d:Int}{f:Bool}(S:Kq W H bl es (frI W a la) (frI W b lb) s d f):(f=Pm->Fl a b=OM (s,d))/\(f=PB->Fl a b=Pk):=by
 have via:∀{s' d':Int},Fl a b=OM (s',d')->f=Pm/\val s d<=val s' d':=fun {s' d'} hF=>by
  obtain⟨c,k,p,q,k1,k2,k3,k4,k5,k6⟩:=uu w1 w2 h1 h2 G B ha hb hF hn;have i1:=aT w1 k1;have i2:=aT w1 k2;have j1:0<=c/\c<W*H:=of_decide_eq_true i1;have j2:0<=k/\k<W*H:=of_decide_eq_true i2;obtain⟨q1,q2⟩:=S.opt ((il w1 w2 h1 h2 ha hla).2 ⟨j1.1,k1,k3,rfl,rfl⟩) ((il w1 w2 h1 h2 hb Xk).2 ⟨j2.1,k2,k4,rfl,rfl⟩) k5;rw[aI,aI]at q2;unfold cU at k6;exact⟨q1,by omega⟩
 constructor
 ·intro hf;obtain⟨o,i,s0,d0,s1,d1,p,q,c1,c2,c3,c4,c5,c6,c7⟩:=S.snd hf;obtain⟨o0,oc,od,rfl,rfl⟩:=(il w1 w2 h1 h2 ha hla).1 c1;obtain⟨i0,ic,id',rfl,rfl⟩:=(il w1 w2 h1 h2 hb Xk).1 c2;have ho:=bV w1 w2 h1 h2 ha (aT w1 oc);have hi:=bV w1 w2 h1 h2 hb (aT w1 ic);have wk1:=od.walk w1 (by omega) (by omega);have wk2:=GEs.walk w1 w2 h1 h2 G o0 c3;have wk3:=(id'.walk w1 (by omega) (by omega)).back (aF.back w1);have wk:=(wk1.app wk2).app wk3;rw[<- c4,<- c5]at wk;obtain⟨s',d',e1,e2⟩:=(B a ha).least wk;obtain⟨_,e3⟩:=via e1;obtain⟨n1,n2,n3⟩:=(B a ha).small e1;have sm:=cE n1 n2 n3;have n4:=aD W a o;have n5:=aD W b i;obtain⟨q1,q2⟩:=gL s d s' d' (by omega) (by omega) (Int.le_antisymm e3 e2);rw[e1,q1,q2]
 ·intro hf;cases hF:Fl a b with
  |none=>rfl
  |some c =>
   obtain⟨s',d'⟩:=c;have:=(via hF).1;rw[hf]at this;cases this
end
end
section
section
variable {L : List Nat} {es : Nat → List LE} {l : List IE} {B : Int → Option (Int × Int)}
structure Ks (L:List Nat) (es:Nat->List LE):Prop where
 ends:∀{a e},e∈es a->a∈L/\e.to∈L
 bd:∀{a e},e∈es a->0<=e.s/\0<=e.d/\e.s<=512/\e.d<=512
 small:∀n∈L,n<256
structure RB (L:List Nat) (es:Nat->List LE) (l:List IE) (B:Int->Option (Int×Int)):Prop where
 lab:∀{a s d},B a=OM (s,d)->0<=a/\a.toNat∈L/\0<=s/\0<=d/\val s d<=97750727262208+(cnt B 256:Int)*47729847296
 snd:∀{a s d},B a=OM (s,d)->∃o s0 d0 p q,eg L l o s0 d0/\Wg (GrE es) o a p q/\s=s0+p/\d=d0+q
 hom:∀{o s d},eg L l o s d->∃s' d',B o=OM (s',d')/\val s' d'<=val s d
theorem RB.big (h:RB L es l B){a s d:Int}(hB:B a=OM (s,d)):0<=s/\0<=d/\s<=2847923/\d<=2847923/\val s d<=109969568169984:=by
 obtain⟨_,_,h1,h2,h3⟩:=h.lab hB;have hc:=iA B 256;have h4:val s d<=109969568169984:=by omega
 unfold val at h4 ⊢;omega
theorem RB.start (L:List Nat)(es:Nat->List LE):RB L es [] (fun _=>Pk) :=
 ⟨fun h=>(by cases h),fun h=>(by cases h),fun ⟨e,h,_⟩=>absurd h N6⟩
def inR (L:List Nat) (B:Int->Option (Int×Int)) (e:IE):Int->Option (Int×Int):=if decide (0<=e.to/\e.to.toNat∈L)=Pm/\bF B e.to e.s e.d=Pm then aB B e.to e.s e.d else B
theorem RB.in (O:Ks L es)(h:RB L es l B){e:IE}(hc:0<=e.s/\e.s<=1048576/\0<=e.d/\e.d<=1048576):RB L es (l++[e]) (inR L B e):=by
 have more:∀{o s d},eg L l o s d->eg L (l++[e]) o s d:=fun ⟨e',h1,h2⟩=>⟨e',MT.2 (MG h1),h2⟩;have less:∀{o s d},eg L (l++[e]) o s d->eg L l o s d\/(okE L e/\o=e.to/\s=e.s/\d=e.d):=fun ⟨e',h1,h2⟩=>by
  rcases MT.1 h1 with h1|h1
  ·exact MG ⟨e',h1,h2⟩
  ·rw[MU.1 h1]at h2;exact MF h2
 unfold inR;by_cases PY:0<=e.to/\e.to.toNat∈L
 ·have ok:okE L e:=⟨PY,hc⟩;cases hb:bF B e.to e.s e.d with
  |false =>
   rw[if_neg (fun q=>by cases q.2)];refine⟨h.lab,fun ha=>?_,fun {o s d} ho=>?_⟩
   ·obtain⟨o,s0,d0,p,q,k1,k2⟩:=h.snd ha;exact⟨o,s0,d0,p,q,more k1,k2⟩
   ·rcases less ho with ho|⟨_,rfl,rfl,rfl⟩
    ·exact h.hom ho
    ·exact kR hb
  |true =>
   rw[if_pos ⟨decide_eq_true PY,rfl⟩];have PO:=eJ.1 hb;have U8:=O.small _ PY.2;obtain⟨c1,c2⟩:=oh B (b:=e.to) (s:=e.s) (d:=e.d) PY.1 (by omega);have hme:eg L (l++[e]) e.to e.s e.d:=⟨e,MT.2 (MF (MU.2 rfl)),ok,rfl,rfl,rfl⟩;refine⟨fun {a p q} ha=>?_,fun {a p q} ha=>?_,fun {o p q} ho=>?_⟩
   ·by_cases ea:a=e.to
    ·subst ea;rw[bt]at ha;cases ha;exact⟨PY.1,PY.2,hc.1,hc.2.2.1,by unfold val;omega⟩
    ·rw[aS _ _ _ ea]at ha;obtain⟨k1,k2,k3,k4,k5⟩:=h.lab ha;exact⟨k1,k2,k3,k4,by omega⟩
   ·by_cases ea:a=e.to
    ·subst ea;rw[bt]at ha;cases ha;exact⟨e.to,e.s,e.d,0,0,hme,Wg.nil,by omega,by omega⟩
    ·rw[aS _ _ _ ea]at ha;obtain⟨o,s0,d0,p,q,k1,k2⟩:=h.snd ha;exact⟨o,s0,d0,p,q,more k1,k2⟩
   ·have key:∀{x y},B o=OM (x,y)->∃p' q',aB B e.to e.s e.d o=OM (p',q')/\val p' q'<=val x y:=fun {x y} hx=>by
     by_cases ea:o=e.to
     ·subst ea;exact⟨_,_,bt _ _ _ _,by have:=PO _ _ hx;omega⟩
     ·exact⟨x,y,by rw[aS _ _ _ ea];exact hx,Nc _⟩
    rcases less ho with ho|⟨_,rfl,rfl,rfl⟩
    ·obtain⟨x,y,k1,k2⟩:=h.hom ho;obtain⟨p',q',k3,k4⟩:=key k1;exact⟨p',q',k3,by omega⟩
    ·exact⟨_,_,bt _ _ _ _,Nc _⟩
 ·rw[if_neg (fun q=>PY (of_decide_eq_true q.1))];refine⟨h.lab,fun ha=>?_,fun {o s d} ho=>?_⟩
  ·obtain⟨o,s0,d0,p,q,k1,k2⟩:=h.snd ha;exact⟨o,s0,d0,p,q,more k1,k2⟩
  ·rcases less ho with ho|⟨ok,_⟩
   ·exact h.hom ho
   ·exact absurd ok.1 PY
theorem RB.low (O:Ks L es)(h:RB L es l B){n:Nat}{s d:Int}(hn:B (n:Int)=OM (s,d)){e:LE}(he:e∈es n)(hb:bF B (e.to:Int) (s+e.s) (d+e.d)=Pm) :
  RB L es l (aB B (e.to:Int) (s+e.s) (d+e.d))/\fR 109969568169985 (aB B (e.to:Int) (s+e.s) (d+e.d)) 256<fR 109969568169985 B 256:=by
 have PO:=eJ.1 hb;obtain⟨_,Qw,n1,n2,n3⟩:=h.lab hn;obtain⟨b1,b2,b3,b4⟩:=O.bd he;have Ri:=(O.ends he).2;have U8:=O.small _ Ri;obtain⟨c1,c2⟩:=oh B (b:=(e.to:Int)) (s:=s+e.s) (d:=d+e.d) (by omega) (by omega);have ed:GrE es (n:Int) (e.to:Int) e.s e.d:=⟨e,by rw[ML];exact he,rfl,rfl,rfl⟩;have U3:val (s+e.s) (d+e.d)=val s d+val e.s e.d:=aI ..;have hve:0<=val e.s e.d/\val e.s e.d<=47729847296:=by unfold val;omega
 have hvs:=iE n1 n2;have QU:val (s+e.s) (d+e.d)<=97750727262208+(cnt (aB B (e.to:Int) (s+e.s) (d+e.d)) 256:Int)*47729847296:=by
  cases hq:B (e.to:Int) with
  |none =>
   rw[c2 hq];omega
  |some c =>
   have k1:=PO c.1 c.2 hq;obtain⟨_,_,_,_,k2⟩:=h.lab (s:=c.1) (d:=c.2) hq;omega
 refine⟨⟨fun {a p q} ha=>?_,fun {a p q} ha=>?_,fun {o p q} ho=>?_⟩,?_⟩
 ·by_cases ea:a=(e.to:Int)
  ·subst ea;rw[bt]at ha;cases ha;exact⟨by omega,by rw[ML];exact Ri,by omega,by omega,QU⟩
  ·rw[aS _ _ _ ea]at ha;obtain⟨k1,k2,k3,k4,k5⟩:=h.lab ha;exact⟨k1,k2,k3,k4,by omega⟩
 ·by_cases ea:a=(e.to:Int)
  ·subst ea;rw[bt]at ha;cases ha;obtain⟨o,s0,d0,p,q,k1,k2,k3,k4⟩:=h.snd hn;exact⟨o,s0,d0,p+e.s,q+e.d,k1,k2.step ed,by omega,by omega⟩
  ·rw[aS _ _ _ ea]at ha;exact h.snd ha
 ·obtain⟨x,y,k1,k2⟩:=h.hom ho;by_cases ea:o=(e.to:Int)
  ·subst ea;exact⟨_,_,bt _ _ _ _,by have:=PO _ _ k1;omega⟩
  ·exact⟨x,y,by rw[aS _ _ _ ea];exact k1,k2⟩
 ·have hc:=iA (aB B (e.to:Int) (s+e.s) (d+e.d)) 256;refine xL _ _ _ 256 (by omega) (by omega) (by omega) (fun _=>by omega) (fun s' d' hq=>PO s' d' hq)
def nG (es:Nat->List LE) (B:Int->Option (Int×Int)) (n:Nat):Prop:=∀{s d e},B (n:Int)=OM (s,d)->e∈es n->∃s' d',B (e.to:Int)=OM (s',d')/\val s' d'<=val s d+val e.s e.d
theorem RB.least (h:RB L es l B)(hr:∀n∈L,nG es B n){o a s0 d0 p q:Int}(ho:eg L l o s0 d0)(hw:Wg (GrE es) o a p q):∃s d,B a=OM (s,d)/\val s d<=val s0 d0+val p q :=
 hw (fun a p q=>∃s d,B a=OM (s,d)/\val s d<=val s0 d0+val p q) (by
  obtain⟨s,d,h1,h2⟩:=h.hom ho;exact⟨s,d,h1,by have:val 0 0=0:=(by decide);omega⟩) (fun a p q b t u ⟨s,d,h1,h2⟩ ⟨e,k1,k2,k3,k4⟩=>by
  obtain⟨a0,aL,_⟩:=h.lab h1;have ea:((a.toNat:Nat):Int)=a:=by omega
  obtain⟨s',d',j1,j2⟩:=hr a.toNat aL (by rw[ea];exact h1) k1;subst k2 k3 k4;exact⟨s',d',j1,by rw[aI];omega⟩)
structure RE (L:List Nat) (B:Int->Option (Int×Int)) (l:List IE) (s d:Int) (f:Bool):Prop where
 opt:∀{e x y},e∈l->B e.to=OM (x,y)->f=Pm/\val s d<=val (x+e.s) (y+e.d)
 snd:f=Pm->∃e x y,e∈l/\B e.to=OM (x,y)/\s=x+e.s/\d=y+e.d
 no:f=PB->s=0/\d=0
theorem RE.take {d:Int}{f:Bool}(h:RE L B l s d f){e:IE}{x y:Int}(he:B e.to=OM (x,y))(PO:f=Pm->val (x+e.s) (y+e.d)<val s d):RE L B (l++[e]) (x+e.s) (y+e.d) true :=
 ⟨fun {e' x' y'} hm hB=>by
  rcases MT.1 hm with hm|hm
  ·obtain⟨k1,k2⟩:=h.opt hm hB;have:=PO k1;exact⟨rfl,by omega⟩
  ·rw[MU.1 hm]at hB ⊢;rw[he]at hB;cases hB;exact⟨rfl,Nc _⟩,fun _=>⟨e,x,y,MT.2 (MF (MU.2 rfl)),he,rfl,rfl⟩,fun q=>(by cases q)⟩
end
end
section
open Go.RowKit
structure FH (w:PG) (M X Y Z:Nat) (W H V:Int) (bl:Nat->Bool) (a b:Nat) (F G:Int->Option (Int×Int)) (qs qd:Int):Prop where
 ra:bg w M W H V bl
 ml:M<w.heap.size
 rx:gK w X a F
 ry:gK w Y b G
 z0:w.cell? ⟨Z,0,Pk⟩=OM (PE PF qs)
 z1:w.cell? ⟨Z,1,Pk⟩=OM (PE PF qd)
theorem FH.below {Z:Nat}{bl:Nat->Bool}{a b:Nat}{qs qd:Int}(h:FH w M X Y Z W H V bl a b F G qs qd){B:Nat}(hb:PI B w w')(hB:B=w.heap.size:=by rfl):FH w' M X Y Z W H V bl a b F G qs qd:=by
 subst hB;have k:∀{a:Addr}{v:PH},w.cell? a=OM v->w'.cell? a=OM v:=fun {a v} h=>(hb.cell (MK w a h)).trans h;exact⟨h.ra.below hb h.ml,MN h.ml hb.size,h.rx.below hb,h.ry.below hb,k h.z0,k h.z1⟩
def OnR (F G:Int->Option (Int×Int)) (qs qd:Int) (z:Int):Prop:=∃s d t u,F z=OM (s,d)/\G z=OM (t,u)/\s+t=qs/\d+u=qd
def Ten (w:PG) (X Y Z z a b:Nat) (s d t u x y:Int):Prop :=
 w.cell? ⟨X,0,Pk⟩=OM (PE PF a)/\w.cell? ⟨Y,0,Pk⟩=OM (PE PF b)/\w.cell? ⟨X,513+z,Pk⟩=OM (.bool Pm)/\w.cell? ⟨Y,513+z,Pk⟩=OM (.bool Pm)/\w.cell? ⟨X,1+z*2,Pk⟩=OM (PE PF s)/\w.cell? ⟨X,1+z*2+1,Pk⟩=OM (PE PF d)/\w.cell? ⟨Y,1+z*2,Pk⟩=OM (PE PF t)/\w.cell? ⟨Y,1+z*2+1,Pk⟩=OM (PE PF u)/\w.cell? ⟨Z,0,Pk⟩=OM (PE PF x)/\w.cell? ⟨Z,1,Pk⟩=OM (PE PF y)
theorem Ten.below {Z z a b:Nat}{d t u x y:Int}(h:Ten w X Y Z z a b s d t u x y)(hb:PI w.heap.size w w'):Ten w' X Y Z z a b s d t u x y:=by
 obtain⟨h1,h2,h3,h4,h5,h6,h7,h8,h9,UW⟩:=h;have k:∀{a:Addr}{v:PH},w.cell? a=OM v->w'.cell? a=OM v:=fun {a v} h=>(hb.cell (MK w a h)).trans h;exact⟨k h1,k h2,k h3,k h4,k h5,k h6,k h7,k h8,k h9,k UW⟩
theorem IN {qs qd:Int}{bl:Nat->Bool}{a b:Nat}{RB:List PH}(w:PG)(g:bg w M W H V bl)(UJ:M<w.heap.size)
  (hA:∀w:PG,gK (w.alloc (.cells RA.toArray 199)) w.heap.size a F) (hB:∀w:PG,gK (w.alloc (.cells RB.toArray 199)) w.heap.size b G)
  (hoc:∀w':PG,bg w' M W H V bl->PK prog 146 #[.pointer (OM ⟨M,0,Pk⟩),PE PF a,PE PF b] w' fun e Q2=>e=PM (.agg #[PE PF qs,PE PF qd])/\PI w'.heap.size w' Q2)
  (okA:∀z,okC (js F z) (iT F z)) (okB:∀z,okC (js G z) (iT G z)) (hb:b<256) (hn:l.length=n) (U0:n<=256) (hz:∀j,j<l.length->l.getD j 0<256) (PT:bu w A n (fun i=>(l.getD i 0:Nat))) :
  PK prog 145 #[.pointer (OM ⟨M,0,Pk⟩),.agg RA.toArray,.agg RB.toArray,.slice A n cap] w fun e w'=>∃r,e=PM (.bool r)/\(r=Pm↔F b=OM (qs,qd)/\∀j,j<l.length->l.getD j 0≠a->l.getD j 0≠b->¬OnR F G qs qd (l.getD j 0:Nat))/\PI w.heap.size w w':=by
 subst hn;have Yj:=hA w;have B1:=aQ w (.cells RA.toArray 199);have Xh:=hB (w.alloc (.cells RA.toArray 199));have bA:PI (w.alloc (.cells RA.toArray 199)).heap.size (w.alloc (.cells RA.toArray 199)) ((w.alloc (.cells RA.toArray 199)).alloc (.cells RB.toArray 199)):=al.alloc aj _;have SM:=Yj.below bA;have P3:(w.alloc (.cells RA.toArray 199)).heap.size=w.heap.size+1:=by simp
 rw[P3]at Xh;have B2:PI w.heap.size w ((w.alloc (.cells RA.toArray 199)).alloc (.cells RB.toArray 199)):=ak B1 bA;have g2:=g.below B2 UJ;have ZV:=MN UJ B2.size;have Ui:=PT.below B2;have x0:=SM.a0;have y0:=Xh.a0;have hbI:(b:Int)<256:=by omega
 go_enter func145,ntmps145;go_wp2_with fail;refine(hoc _ g2).mono ?_;rintro e w3 ⟨rfl,hb3⟩;have B3:=ak B2 hb3;have bZ:=aQ w3 (PN #[PE PF qs,PE PF qd] 53);have R4:FH (w3.alloc (PN #[PE PF qs,PE PF qd] 53)) M w.heap.size (w.heap.size+1) w3.heap.size W H V bl a b F G qs qd :=
  ⟨(g2.below hb3 ZV).below bZ (MN ZV hb3.size),MN (MN ZV hb3.size) bZ.size,(SM.below hb3).below bZ,(Xh.below hb3).below bZ,ME (w:=w3) #[PE PF qs,PE PF qd] 53 w3.heap.size 0 rfl,ME (w:=w3) #[PE PF qs,PE PF qd] 53 w3.heap.size 1 rfl⟩
 have B4:=ak B3 bZ;have Q1:=(Ui.below hb3).below bZ;clear hoc Yj B1 Xh bA SM P3 B2 g2 ZV Ui x0 y0 hb3 B3 bZ PT hA hB;go_wp2_with fail;generalize w3.alloc (PN #[PE PF qs,PE PF qd] 53)=w4 at *;generalize w3.heap.size=Z at *;generalize w.heap.size+1=Y at *;obtain⟨X,hX⟩:∃X,w.heap.size=X:=⟨_,rfl⟩;rw[hX]at R4;simp only[hX];have HX:=ae hX;clear hX;have ya:=R4.ry.a0;have xi:=R4.rx.i0 b hb;have xs:=R4.rx.s0 b hb;have xd:=R4.rx.d0 b hb;have z0:=R4.z0;have z1:=R4.z1;cases ZW:F (b:Int) with
 |none =>
  rw[ZW]at xi;have xi:w4.cell? ⟨X,513+b,Pk⟩=OM (.bool PB):=xi;go_quiet (fail);go_wp2;go_ret;exact⟨PB,rfl,⟨fun h=>(by cases h),fun h=>(by have:=ZW.symm.trans h.1;cases this)⟩,below_drewN B4 _⟩
 |some c =>
  obtain⟨s0,d0⟩:=c;rw[ZW]at xi;have xi:w4.cell? ⟨X,513+b,Pk⟩=OM (.bool Pm):=xi;rw[(cW ZW).1]at xs;rw[(cW ZW).2]at xd;by_cases e1:s0=qs
  ·by_cases e2:d0=qd
   ·subst e1 e2;go_quiet (fail);have R5:=R4.below (below_drewN (Below.refl w4.heap.size w4) nq);have B5:=below_drewN B4 nq;have Um:=Q1.below (below_drewN (Below.refl w4.heap.size w4) nq);clear R4 B4 Q1 ya xi xs xd z0 z1;generalize w4.drewN nq=w5 at *;go_wp2;go_loopg [10] l.length (fun gk iv wr=>∃i:Nat,gk=l.length-i/\iv=PE PF i/\i<=l.length/\PJ (∀j,j<i->l.getD j 0≠a->l.getD j 0≠b->¬OnR F G s0 d0 (l.getD j 0:Nat))/\FH wr M X Y Z W H V bl a b F G s0 d0/\bu wr A l.length (fun i=>(l.getD i 0:Nat))/\PI w.heap.size w wr)
    case atStart=>exact⟨0,rfl,rfl,MQ _,fun j hj=>absurd hj (by omega),R5,Um,B5⟩
    case round =>
     obtain⟨i,QD,rfl,hi,Qc,Rr,Zi,Br⟩:=hrel;clear R5 B5 Um;by_cases PO:i<l.length
     ·obtain⟨ba,oa,rfl,Tk,PU⟩:=Zi i PO;have Ug:=hz i PO;obtain⟨z,SG⟩:∃z,l.getD i 0=z:=⟨_,rfl⟩;have QH:wr.cell? ⟨ba,oa+i,Pk⟩=OM (PE PF (z:Int)):=(by rw[<- SG];exact PU);rw[SG]at Ug;have HZ:=ae SG;clear SG PU;have z3:(z:Int)<256:=(by omega);have i1:(0:Int)<=(i:Int):=(by omega);have i2:(i:Int)<(l.length:Int):=(by omega);have Yl:(z≠a->z≠b->¬OnR F G s0 d0 (z:Nat))->PJ (∀j,j<i+1->l.getD j 0≠a->l.getD j 0≠b->¬OnR F G s0 d0 (l.getD j 0:Nat)):=fun h j hj=>by
       by_cases e:j=i
       ·rw[e,HZ.out];exact h
       ·exact Qc.out j (by omega)
      have xa:=Rr.rx.a0;have ya:=Rr.ry.a0;have xi:=Rr.rx.i0 z Ug;have yi:=Rr.ry.i0 z Ug;have bD:=cI wr;by_cases ea:z=a
      ·have HN:=Yl (fun h=>absurd ea h);clear Yl;subst ea;go_wp2;go_quiet (fail);go_wp2;go_roundg (l.length-(i+1))
       case measure=>omega
       case rel=>exact⟨i+1,rfl,by go_num,by omega,HN,Rr.below (below_drewN al _),Zi.below (below_drewN al _),below_drewN Br _⟩
      ·have na:(((z:Nat):Int) != (a:Int))=true:=bne_iff_ne.2 (by omega);by_cases eb:z=b
       ·have HN:=Yl (fun _ h=>absurd eb h);clear Yl;subst eb;go_wp2;go_quiet (fail);go_wp2;go_roundg (l.length-(i+1))
        case measure=>omega
        case rel=>exact⟨i+1,rfl,by go_num,by omega,HN,Rr.below (below_drewN al _),Zi.below (below_drewN al _),below_drewN Br _⟩
       ·have nb:(((z:Nat):Int) != (b:Int))=true:=bne_iff_ne.2 (by omega);have na':¬((z:Int)=(a:Int)):=(by omega);have nb':¬((z:Int)=(b:Int)):=(by omega);cases Xl:F (z:Int) with
        |none =>
         rw[Xl]at xi;have xi:wr.cell? ⟨X,513+z,Pk⟩=OM (.bool PB):=xi;have HN:=Yl (fun _ _ h=>by obtain⟨_,_,_,_,h1,_⟩:=h;rw[Xl]at h1;cases h1);clear Yl;go_wp2;go_quiet (fail);go_wp2;go_roundg (l.length-(i+1))
         case measure=>omega
         case rel=>exact⟨i+1,rfl,by go_num,by omega,HN,Rr.below (below_drewN al _),Zi.below (below_drewN al _),below_drewN Br _⟩
        |some cz =>
         obtain⟨sz,dz⟩:=cz;rw[Xl]at xi;have xi:wr.cell? ⟨X,513+z,Pk⟩=OM (.bool Pm):=xi;cases Zj:G (z:Int) with
         |none =>
          rw[Zj]at yi;have yi:wr.cell? ⟨Y,513+z,Pk⟩=OM (.bool PB):=yi;have HN:=Yl (fun _ _ h=>by obtain⟨_,_,_,_,_,h1,_⟩:=h;rw[Zj]at h1;cases h1);clear Yl;go_wp2;go_quiet (fail);go_wp2;go_roundg (l.length-(i+1))
          case measure=>omega
          case rel=>exact⟨i+1,rfl,by go_num,by omega,HN,Rr.below (below_drewN al _),Zi.below (below_drewN al _),below_drewN Br _⟩
         |some cy =>
          obtain⟨tz,uz⟩:=cy;rw[Zj]at yi;have yi:wr.cell? ⟨Y,513+z,Pk⟩=OM (.bool Pm):=yi;have oA:=okA (z:Int);have oB:=okB (z:Int);rw[(cW Xl).1,(cW Xl).2]at oA;rw[(cW Zj).1,(cW Zj).2]at oB;have y0:=Rr.rx.s0 z Ug;have y1:=Rr.rx.d0 z Ug;have y2:=Rr.ry.s0 z Ug;have y3:=Rr.ry.d0 z Ug;rw[(cW Xl).1]at y0;rw[(cW Xl).2]at y1;rw[(cW Zj).1]at y2;rw[(cW Zj).2]at y3;have Ry:=fun w=>kM sz dz tz uz w oA oB;have CC:Ten wr.drew X Y Z z a b sz dz tz uz s0 d0:=⟨xa,ya,xi,yi,y0,y1,y2,y3,Rr.z0,Rr.z1⟩;have Rr:=Rr.below bD;have Zi:=Zi.below bD;have Br:=ak Br bD;clear bD y0 y1 y2 y3 oA oB xa ya xi yi;by_cases e1:sz+tz=s0;by_cases e2:dz+uz=d0;have HO:PJ (OnR F G s0 d0 (z:Nat)):=⟨sz,dz,tz,uz,Xl,Zj,e1,e2⟩
          rotate_left
          have HN:=Yl (fun _ _ h=>by obtain⟨_,_,_,_,h1,h2,_,h4⟩:=h;rw[Xl]at h1;rw[Zj]at h2;cases h1;cases h2;exact e2 h4)
          rotate_left
          have HN:=Yl (fun _ _ h=>by obtain⟨_,_,_,_,h1,h2,h3,_⟩:=h;rw[Xl]at h1;rw[Zj]at h2;cases h1;cases h2;exact e1 h3)
          all_goals
           clear Yl;go_wp2;go_region_held3 (fun w'=>w'.cell? ⟨X,0,Pk⟩=OM (PE PF a)/\w'.cell? ⟨Y,0,Pk⟩=OM (PE PF b)/\w'.cell? ⟨X,513+z,Pk⟩=OM (.bool Pm)/\w'.cell? ⟨Y,513+z,Pk⟩=OM (.bool Pm)/\w'.cell? ⟨X,1+z*2,Pk⟩=OM (PE PF sz)/\w'.cell? ⟨X,1+z*2+1,Pk⟩=OM (PE PF dz)/\w'.cell? ⟨Y,1+z*2,Pk⟩=OM (PE PF tz)/\w'.cell? ⟨Y,1+z*2+1,Pk⟩=OM (PE PF uz)/\w'.cell? ⟨Z,0,Pk⟩=OM (PE PF s0)/\w'.cell? ⟨Z,1,Pk⟩=OM (PE PF d0)) (first|(exact CC)) (first|(go_at_call 78;refine(Ry _).mono ?_;rintro e wx ⟨rfl,hbx⟩;have CC:=CC.below hbx;have Rr:=Rr.below hbx;have Zi:=Zi.below hbx;have Br:=ak Br hbx))
          all_goals go_wp2
          all_goals first
           |(go_ret;exact⟨PB,rfl,⟨fun h=>(by cases h),fun h=>absurd HO.out (by have:=h.2 i PO;rw[HZ.out]at this;exact this ea eb)⟩,Br⟩)
           |(go_roundg (l.length-(i+1))<;>first|omega|exact⟨i+1,rfl,by go_num,by omega,HN,Rr,Zi,Br⟩)
     ·have e:i=l.length:=(by omega);subst e;go_wp2;go_ret;exact⟨Pm,rfl,⟨fun _=>⟨ZW,Qc.out⟩,fun _=>rfl⟩,Br⟩
   ·subst e1;go_quiet (fail);go_wp2;go_ret;exact⟨PB,rfl,⟨fun h=>(by cases h),fun h=>(by have:=ZW.symm.trans h.1;simp at this;exact absurd this e2)⟩,below_drewN B4 _⟩
  ·go_quiet (fail);go_wp2;go_ret;exact⟨PB,rfl,⟨fun h=>(by cases h),fun h=>(by have:=ZW.symm.trans h.1;simp at this;exact absurd this.1 e1)⟩,below_drewN B4 _⟩
end
section
open Go.RowKit
theorem oS (w:PG)(l:List PH)(t:TypeId):(w.alloc (.cells l.toArray t)).rangeAt w.heap.size 0 l:=fun j v hj=>by
 rw[M8,MP,List.getElem?_toArray];exact hj
theorem dh {b:Nat}{l:List PH}(h:w.rangeAt b o l)(hb:PI w.heap.size w w'):w'.rangeAt b o l:=fun j v hj=>by
 have:=h j v hj;exact(hb.cell (MK w _ this)).trans this
theorem IP (a:Nat)(F:Int->Option (Int×Int))(w:PG):gK (w.alloc (.cells (kX a F).toArray 199)) w.heap.size a F:=yJ (oS w _ 199)
theorem FJ {cap:Nat}{A:Option Addr}{bl:Nat->Bool}{a b:Nat}{RB:List PH}(w:PG)(g:bg w M W H V bl)(UJ:M<w.heap.size)
  (hA:∀w:PG,gK (w.alloc (.cells RA.toArray 199)) w.heap.size a F) (hB:∀w:PG,gK (w.alloc (.cells RB.toArray 199)) w.heap.size b G) (BF:ct (aF W H bl) a F) (BG:ct (aF W H bl) b G)
  (ha:inB W H a=Pm) (hb:inB W H b=Pm) (hL:crs W H bl (W*H).toNat=L) (PT:bu w A L.length (fun i=>(L.getD i 0:Nat))) :
  PK prog 145 #[.pointer (OM ⟨M,0,Pk⟩),.agg RA.toArray,.agg RB.toArray,.slice A L.length cap] w fun e w'=>∃r,e=PM (.bool r)/\(r=Pm↔Dir W H bl a b)/\PI w.heap.size w w':=by
 have Qa:=g.w1;have Rq:=bP g.w1 g.w2 g.h1 g.h2;have U8:=bV g.w1 g.w2 g.h1 g.h2 ha hb;have Xf:0<=(b:Int)/\(b:Int)<W*H:=of_decide_eq_true hb;have T8:L.length<=256:=by rw[<- hL];have:=fF W H bl (W*H).toNat;omega
 have Tl:∀j,j<L.length->L.getD j 0<(W*H).toNat/\bj W H bl ((L.getD j 0:Nat):Int)=true:=fun j hj=>cR.1 (by rw[hL,bo _ _ hj];exact ND hj);refine(IN (cap:=cap) (A:=A) (l:=L) w g UJ hA hB (fun w' g'=>yp (a:Int) b w' g' ha hb) (Ib BF) (Ib BG) (by omega) rfl T8 (fun j hj=>by have:=(Tl j hj).1;omega) PT).mono ?_;rintro e w' ⟨r,rfl,hr,hbw⟩;refine⟨r,rfl,hr.trans ?_,hbw⟩;have hni:=oe (b:=(b:Int)) Qa (by omega) (by omega) BF;have QK:=Aw (a:=(a:Int)) (b:=(b:Int)) Qa (by omega) (by omega) BF BG;unfold Dir;rw[hni];refine and_congr_right fun _=>?_;constructor
 ·intro h k hk hc;have aeV:0<=k/\k<W*H:=of_decide_eq_true (aT Qa hc);have hm:k.toNat∈L:=by rw[<- hL];exact cR.2 ⟨by omega,by rw[Nl aeV.1];exact aE.2 hc⟩
  obtain⟨j,hj,e⟩:=Nv hm;by_cases e1:k=(a:Int)
  ·exact MG e1
  ·by_cases e2:k=(b:Int)
   ·exact MF e2
   ·exfalso;have:=h j hj (by rw[bo _ _ hj,e];omega) (by rw[bo _ _ hj,e];omega);rw[bo _ _ hj,e,Nl aeV.1]at this;exact this ((QK k).1 hk)
 ·intro h j hj h1 h2 h3;rcases h _ ((QK _).2 h3) (aE.1 (Tl j hj).2) with e|e<;>omega
theorem Bz (R:Nat->List PH)(hR:∀n,(R n).length=769):∀(L:List Nat) (i j:Nat),i<L.length->j<769->(L.flatMap R)[i*769+j]? = (R (L.getD i 0))[j]?
 |[],i,_,h,_=>absurd h (Nz i)
 |n::L,0,j,_,hj=>by
  rw[Oh,List.getElem?_append_left (by rw[hR];omega),Nat.zero_mul,M8];rfl
 |n::L,i+1,j,h,hj=>by
  have ih:=Bz R hR L i j (by simpa using h) hj;rw[Oh,List.getElem?_append_right (by rw[hR];omega),hR,show (i+1)*769+j-769=i*769+j by omega,ih];rfl
def lk (w:PG) (A:Option Addr) (R:Nat->List PH) (L:List Nat):Prop:=∀i,i<L.length->∃b,A=OM ⟨b,0,Pk⟩/\b<w.heap.size/\w.rangeAt b (i*769) (R (L.getD i 0))
theorem lk.below (h:lk w A R L)(hb:PI w.heap.size w w'):lk w' A R L:=fun i hi=>by
 obtain⟨b,e,h1,h2⟩:=h i hi;exact⟨b,e,MN h1 hb.size,dh h2 hb⟩
theorem IQ {base:Nat}(hR:∀n,(R n).length=769)(h:w.ownsRow base 199 769 v L.length (L.flatMap R)):∃A cap,v=.slice A L.length cap/\lk w A R L:=by
 rcases h.2 with⟨rfl,h0⟩|⟨g,cap,cur,rfl,_,hg,_⟩
 ·exact⟨Pk,0,by rw[h0],fun i hi=>by omega⟩
 ·refine⟨_,_,rfl,fun i hi=>⟨g,rfl,(Array.getElem?_eq_some_iff.1 hg).1,fun j v hj=>?_⟩⟩;have Zk:j<769:=by have:=(Np.1 hj).1;rw[hR]at this;exact this
  rw[h.cellAt _ (by omega),Bz R hR L i j hi Zk];exact hj
def IS (w:PG) (X Y:Nat) (RA RB:List PH) (o:Nat):Prop:=w.rangeAt X 0 RA/\w.rangeAt Y o RB
theorem IS.below {RB:List PH}(h:IS w X Y RA RB o)(hb:PI w.heap.size w w'):IS w' X Y RA RB o:=⟨dh h.1 hb,dh h.2 hb⟩
def pA (W H:Int) (bl:Nat->Bool) (self:Bool) (a:Nat) (n:Nat):Prop:=(self=Pm\/n≠a)/\Dir W H bl a n
def lU (L:List Nat) (P:Nat->Prop) (i:Nat) (F:List Nat):Prop:=F.Pairwise (·<·)/\∀n,n∈F↔∃j,j<i/\L.getD j 0=n/\P n
theorem lU.no {F:List Nat}{P:Nat->Prop}(h:lU L P i F)(hn:¬P (L.getD i 0)):lU L P (i+1) F:=by
 refine⟨h.1,fun n=>(h.2 n).trans ⟨fun ⟨j,h1,h2⟩=>⟨j,by omega,h2⟩,fun ⟨j,h1,h2,h3⟩=>?_⟩⟩;by_cases e:j=i
 ·subst e;rw[h2]at hn;exact absurd h3 hn
 ·exact⟨j,by omega,h2,h3⟩
theorem IT (h:L.Pairwise (·<·)){i j:Nat}(hi:i<L.length)(hj:j<i):L.getD j 0<L.getD i 0:=by
 rw[bo _ _ hi,bo _ _ (by omega)];exact NT.1 h j i (by omega) hi hj
theorem lU.yes {F:List Nat}{P:Nat->Prop}(hL:L.Pairwise (·<·))(hi:i<L.length)(h:lU L P i F)(hp:P (L.getD i 0)):lU L P (i+1) (F++[L.getD i 0]):=by
 refine⟨?_,fun n=>?_⟩
 ·rw[OG];refine⟨h.1,Ox _ _,fun x hx y hy=>?_⟩;rw[MU]at hy;obtain⟨j,h1,h2,_⟩:=(h.2 x).1 hx;rw[hy,<- h2];exact IT hL hi h1
 ·rw[MT,MU,h.2 n];constructor
  ·rintro (⟨j,h1,h2⟩|rfl)
   ·exact⟨j,by omega,h2⟩
   ·exact⟨i,by omega,rfl,hp⟩
  ·rintro⟨j,h1,h2,h3⟩;by_cases e:j=i
   ·subst e;exact MF h2.symm
   ·exact MG ⟨j,by omega,h2,h3⟩
theorem IU {cr cc a:Nat}{AR AC:Option Addr}{bl:Nat->Bool}{self:Bool}(w:PG)(g:bg w M W H V bl)(UJ:M<w.heap.size)
  (hA:∀w:PG,gK (w.alloc (.cells RA.toArray 199)) w.heap.size a F) (hAr:∀w:PG,(w.alloc (.cells RA.toArray 199)).rangeAt w.heap.size 0 RA) (lA:RA.length=769) (BF:ct (aF W H bl) a F) (ha:inB W H a=Pm)
  (hR:∀n,(R n).length=769) (hRn:∀(n:Nat) (w:PG),gK (w.alloc (.cells (R n).toArray 199)) w.heap.size n (Fl n)) (hB:∀c,dC W H bl c->ct (aF W H bl) c (Fl c))
  (hL:crs W H bl (W*H).toNat=L) (Ve:lk w AR R L) (PT:bu w AC L.length (fun i=>(L.getD i 0:Nat))) :
  PK prog 105 #[.pointer (OM ⟨M,0,Pk⟩),.agg RA.toArray,.slice AR L.length cr,.slice AC L.length cc,.bool self] w fun e w'=>∃v l,e=PM v/\w'.ownsRow w.heap.size 204 4 v l.length (bQ W a l)/\lU L (pA W H bl self a) L.length l/\PI w.heap.size w w':=by
 have Qa:=g.w1;have Rq:=bP g.w1 g.w2 g.h1 g.h2;obtain⟨i0,hi,P0,P3,Qd⟩:=info_parts Tryz.infoE;have T8:L.length<=256:=by rw[<- hL];have:=fF W H bl (W*H).toNat;omega
 have HC:PJ (∀i,i<L.length->L.getD i 0<256/\bj W H bl ((L.getD i 0:Nat):Int)=Pm):=fun i hi=>by
  have:=cR.1 (show L.getD i 0∈crs W H bl (W*H).toNat by rw[hL,bo _ _ hi];exact ND hi);exact⟨by omega,this.2⟩
 have HRi:PJ (L.Pairwise (·<·)):=by rw[<- hL];exact gA _ _ _ _
 have b0:=aQ w (.cells RA.toArray 199);have x0:=(hA w).a0;have xr:=hAr w;have g0:=g.below b0 UJ;have Ym:=Ve.below b0;have Un:=PT.below b0;have aqb:(w.alloc (.cells RA.toArray 199)).heap.size=w.heap.size+1:=by simp
 have HL:=ae hL;clear g Ve PT hL;go_enter func105,ntmps105;go_wp2;generalize w.alloc (.cells RA.toArray 199)=w0 at *;generalize hX:w.heap.size=X at *;have HX:=ae hX;clear hX;go_loopg [11,12] L.length (fun gk lv iv wr=>∃(i:Nat) (Fi:List Nat),gk=L.length-i/\iv=PE PF i/\i<=L.length/\PJ (lU L (pA W H bl self a) i Fi)/\wr.ownsRow w0.heap.size 204 4 lv Fi.length (bQ W a Fi)/\PI w0.heap.size w0 wr)
 case atStart=>exact⟨0,[],rfl,rfl,MQ _,⟨List.Pairwise.nil,fun n=>⟨fun h=>(by cases h),fun ⟨j,h,_⟩=>absurd h (Nz j)⟩⟩,Nj _ _ _ _,al⟩
 case round =>
  obtain⟨i,Fi,QD,rfl,VP,SN,hown,Br⟩:=hrel;by_cases PO:i<L.length
  ·obtain⟨ba,oa,rfl,Tk,P6⟩:=Un i PO;obtain⟨bb,rfl,X6,UK⟩:=(Ym.below Br) i PO;obtain⟨z,SG⟩:∃z,L.getD i 0=z:=⟨_,rfl⟩;have hc:=HC.out i PO;have Q4:=fun h=>lU.yes HRi.out PO SN.out h;have Qc:=fun h=>lU.no (P:=pA W H bl self a) SN.out h;have Yn:w0.cell? ⟨ba,oa+i,Pk⟩=OM (PE PF (z:Int)):=(by rw[<- SG];exact P6);have HS:PJ (∀w',PI w0.heap.size w0 w'->w'.cell? ⟨X,0,Pk⟩=OM (PE PF (a:Int))/\w'.cell? ⟨ba,oa+i,Pk⟩=OM (PE PF (z:Int))):=fun w' B=>⟨ar B x0,ar B Yn⟩;have PU:=(HS.out _ Br).2;rw[SG]at hc Q4 Qc UK;obtain⟨aaT,ZX⟩:=hc;have Yo:=aT Qa (aE.1 ZX);have xa:=(HS.out _ Br).1;have xq:=dh xr Br;have gr:=g0.below Br (by omega);have ZY:M<wr.heap.size:=(by have:=Br.size;omega);have Ww:=Un.below Br;have hoc:=fun (w':PG) (g':bg w' M W H V bl)=>yp (a:Int) z w' g' ha Yo;have hdi:=fun (w':PG) (g':bg w' M W H V bl) (h:M<w'.heap.size) (hr:bu w' (OM ⟨ba,oa,Pk⟩) L.length (fun i=>(L.getD i 0:Nat)))=>FJ (cap:=cc) (a:=a) (b:=z) w' g' h hA (hRn z) BF (hB z (aE.1 ZX)) ha Yo HL.out hr;have hEV:PJ (bQ W a (Fi++[z])=bQ W a Fi++[PE PF (z:Int),PE PF (aO W a z),PE PF (aK W a z),PE PF (-1)]):=rQ _ _ _ _;have ZZ:Fi.length<=256:=by
    have h1:=cQ 256 (SN.out.1.imp (fun h e=>by omega)) (fun n hn=>by
     obtain⟨j,hj,e,_⟩:=(SN.out.2 n).1 hn;have:=HC.out j (by omega);rw[e]at this;exact this.1)
    exact h1
   have Z0:PJ ((Fi++[z]).length=Fi.length+1):=(by show _=_;simp);have lB:=hR z;have H1:PJ (self=PB->z=a->lU L (pA W H bl self a) (i+1) Fi):=fun h1 h2=>Qc (fun h=>h.1.elim (fun h=>by rw[h1]at h;cases h) (fun h=>h h2));have H2:PJ (¬Dir W H bl a z->lU L (pA W H bl self a) (i+1) Fi):=fun h1=>Qc (fun h=>h1 h.2);have H3:PJ ((self=Pm\/z≠a)->Dir W H bl a z->lU L (pA W H bl self a) (i+1) (Fi++[z])):=fun h1 h2=>Q4 ⟨h1,h2⟩;have hiX:(prog.info? 199).map (·.size)=OM RA.length:=(by rw[lP,lA]);have hiY:(prog.info? 199).map (·.size)=OM (R z).length:=(by rw[lP,lB]);have i1:(0:Int)<=(i:Int):=(by omega);have i2:(i:Int)<(L.length:Int):=(by omega);clear Q4 Qc SG SN P6 Yn hA hRn hB Un Ym xr x0 b0 lB hAr lA hR aaT;generalize R z=RB at *;generalize aO W a z=es at *;generalize aK W a z=ed at *;by_cases Q0:self=PB/\z=a
   ·have HN:=H1.out Q0.1 Q0.2;obtain⟨rfl,rfl⟩:=Q0;clear H1 H2 H3 hoc hdi;go_wp2;go_quiet (fail);go_wp2;go_roundg (L.length-(i+1))
    case measure=>omega
    case rel=>exact⟨i+1,Fi,rfl,by go_num,by omega,HN,hown,below_drewN Br _⟩
   ·have Wx:self=Pm\/z≠a:=by
     by_cases e:z=a
     ·exact MG (by cases self with
       |true=>rfl
       |false=>exact absurd ⟨rfl,e⟩ Q0)
     ·exact MF e
    have H4:PJ (Dir W H bl a z->lU L (pA W H bl self a) (i+1) (Fi++[z])):=H3.out Wx;clear H1 H3 Q0;obtain⟨Fz,Xl⟩:∃Fz,Fi++[z]=Fz:=⟨_,rfl⟩;rw[Xl]at hEV Z0 H4;clear Xl;obtain⟨D,hD⟩:∃D:Prop,Dir W H bl a z=D:=⟨_,rfl⟩;rw[hD]at H2 H4;rw[hD]at hdi;clear hD ZX Yo;by_cases hez:z=a;have hs:self=true:=Wx.elim id (fun h=>absurd hez h);subst hs;have na:(((z:Nat):Int)==(a:Int))=true:=(by rw[beq_iff_eq];omega);have na':(((z:Nat):Int)=(a:Int))=True:=eq_true (by omega);clear Wx hez
    rotate_left
    have na:(((z:Nat):Int)==(a:Int))=false:=(by rw[beq_eq_false_iff_ne];omega);have na':¬(((z:Nat):Int)=(a:Int)):=(by omega);clear Wx hez
    all_goals
     go_wp2;go_quiet (fail);clear na na';have bD:PI wr.heap.size wr (wr.drewN nq):=below_drewN al _;have Br:=ak Br bD;have xq:=dh xq bD;have UK:=dh UK bD;have gr:=gr.below bD ZY;have ZY:=MN ZY bD.size;have Ww:=Ww.below bD;have hown:=aq hown bD;clear bD PU xa;generalize wr.drewN nq=w1 at *;have bD:=cI w1;have CC:IS w1.drew X bb RA RB (i*769):=⟨dh xq bD,dh UK bD⟩;have BD:=ak Br bD;have gD:=gr.below bD ZY;have mD:=MN ZY bD.size;have rD:=Ww.below bD;have oD:=aq hown bD;have hu:=underlying199;clear bD Br xq UK gr ZY Ww hown;go_wp2_with fail;refine wp_region_held_drew (S:=fun w'=>w'.rangeAt X 0 RA/\w'.rangeAt bb (i*769) RB) (by kernel_rfl) CC (fun P4=>?_);refine wpAnyH_take (i:=0) (v:=.pointer (OM ⟨M,0,Pk⟩)) rfl (by kernel_rfl) (by kernel_rfl) (by kernel_rfl) (fun _ _ _ h=>h) (MG ⟨by rfl,fun w' _=>by go_simp⟩) P4 ?_;simp only[Act.put,MX];refine wpAnyH_take (i:=1) (v:=.agg RA.toArray) rfl (by kernel_rfl) (by kernel_rfl) (by kernel_rfl) (fun _ _ _ h=>h) (yieldsIf_load_mid (by rfl) 199 (.tmp 6) rfl X 0 rfl RA _ (fun _ h=>h.1) hu rfl hiX) P4 ?_;simp only[Act.put];refine wpAnyH_take (i:=2) (v:=.slice (OM ⟨bb,0,Pk⟩) L.length cr) rfl (by kernel_rfl) (by kernel_rfl) (by kernel_rfl) (fun _ _ _ h=>h) (MG ⟨by rfl,fun w' _=>by go_simp⟩) P4 ?_;simp only[Act.put];refine wpAnyH_take (i:=3) (v:=PE PF i) rfl (by kernel_rfl) (by kernel_rfl) (by kernel_rfl) (fun _ _ _ h=>h) (MG ⟨by rfl,fun w' _=>by go_simp⟩) P4 ?_;simp only[Act.put];refine wpAnyH_take (i:=4) (v:=.pointer (OM ⟨bb,i*769,Pk⟩)) rfl (by kernel_rfl) (by kernel_rfl) (by kernel_rfl) (fun _ _ _ h=>h) (MG ⟨by rfl,fun w' _=>by go_simp⟩) P4 ?_;simp only[Act.put];refine wpAnyH_take (i:=5) (v:=.agg RB.toArray) rfl (by kernel_rfl) (by kernel_rfl) (by kernel_rfl) (fun _ _ _ h=>h) (yieldsIf_load_mid (by rfl) 199 (.tmp 35) rfl bb (i*769) rfl RB _ (fun _ h=>h.2) hu rfl hiY) P4 ?_;simp only[Act.put];refine wpAnyH_take (i:=6) (v:=.slice (OM ⟨ba,oa,Pk⟩) L.length cc) rfl (by kernel_rfl) (by kernel_rfl) (by kernel_rfl) (fun _ _ _ h=>h) (MG ⟨by rfl,fun w' _=>by go_simp⟩) P4 ?_;simp only[Act.put];refine wpAnyH_ready (rs:=[7]) (by kernel_rfl) (by simp) ?_;refine AllReadyH.cons rfl (fun K hK=>?_) AllReadyH.nil;go_simp;go_at_call 145;refine(hdi _ gD mD rD).mono ?_;rintro e w2 ⟨r,rfl,hr,hb2⟩;have CC:=CC.below hb2;have BD:=ak BD hb2;have gD:=gD.below hb2 mD;have mD:=MN mD hb2.size;have rD:=rD.below hb2;have oD:=aq oD hb2;clear hb2 hdi;go_wp2_with fail;refine hK.out _ _ CC (fun UL=>?_);clear P4 hK K;refine wpAnyH_ready (rs:=[8]) (by kernel_rfl) (by simp) ?_;refine AllReadyH.cons rfl (fun K hK=>?_) AllReadyH.nil;go_simp;refine hK.out _ _ CC (fun VZ=>?_);refine wpAnyH_done (by kernel_rfl) ?_ _;clear hK K UL VZ CC hu;cases r with
     |false =>
      have HN:=H2.out (fun h=>by have:=hr.2 h;cases this);clear H2 H4 hr;go_wp2;go_roundg (L.length-(i+1))
      case measure=>omega
      case rel=>exact⟨i+1,Fi,rfl,by go_num,by omega,HN,oD,BD⟩
     |true =>
      have HN:=H4.out (hr.1 rfl);clear H2 H4 hr;go_wp2_with fail;have bD:=cI w2;have BE:=ak BD bD;have gE:=gD.below bD mD;have oE:=aq oD bD;have mE:=MN mD bD.size;clear BD gD oD mD bD rD;have h5:=hoc w2.drew gE;have hzE:=BE.size;clear hoc gE;go_region_held3 (fun w'=>w'.cell? ⟨X,0,Pk⟩=OM (PE PF ((a:Nat):Int))/\w'.cell? ⟨ba,oa+i,Pk⟩=OM (PE PF ((z:Nat):Int))) (first|exact HS.out _ BE|exact HS.out _ B5|exact HS.out _ B6|exact HS.out _ B7)
       (first|(go_at_call 146;refine h5.mono ?_;rintro e w5 ⟨rfl,PV⟩;have B5:=ak BE PV;have o5:=aq oE PV;have z5:=B5.size;have B6:PI w0.heap.size w0 (w5.alloc (PN #[PE PF ((z:Nat):Int),PE PF es,PE PF ed,PE PF (-1)] 204)):=(B5.alloc z5 _);have o6:=(o5.alloc (PN #[PE PF ((z:Nat):Int),PE PF es,PE PF ed,PE PF (-1)] 204));clear PV o5)
             |(refine step_append_lies _ rfl (.tmp 40) (.tmp 54) 126 rfl w0.heap.size 204 i0 (.agg #[PE PF 0,PE PF 0,PE PF 0,PE PF 0]) 4 32 Tryz.underE hi P0 P3 Qd rfl (by decide) _ _ _ rfl o6 ⟨w5.heap.size,0,Pk⟩ 1 1 [PE PF ((z:Nat):Int),PE PF es,PE PF ed,PE PF (-1)] rfl rfl (bK _ _ _ _ _ _) (by intro u hu;simp at hu;rcases hu with rfl|rfl|rfl|rfl<;>rfl) (by decide) (by unfold maxLen;omega) (by omega) (by simp;omega) _ rfl ?_;intro g7 c7 w7 Tx hg7 _ ai7;have B7:PI w0.heap.size w0 w7:=(B6.grown hg7 (by simp;omega) (fun q hq=>(o6.lt q hq).1))))
      have O7:=Tx;rw[<- hEV.out,<- Z0.out]at O7;clear Tx hg7 o6 B6;go_wp2;go_roundg (L.length-(i+1))
      case measure=>omega
      case rel=>exact⟨i+1,Fz,rfl,by go_num,by omega,HN,by rw[Z0.out];rw[Z0.out]at O7;exact O7,B7⟩
  ·have hge:i=L.length:=(by omega);subst hge;go_wp2;go_ret;have hX:=HX.out;exact⟨_,Fi,rfl,ownsRow_base_a hown (by omega),SN.out,by rw[hX];exact b0.trans (Br.mono (by omega))⟩
end
section
open Go.RowKit
theorem Tryz.und89:Tryz.prog.underlying 197=OM (.slice 199):=by kernel_rfl
theorem wK:∃(ie:TypeInfo) (z:PH),prog.info? 199=OM ie/\ie.zero=OM z/\ie.size=769/\ie.bytes=4360/\z.cells.size=769:=by
 have h1:(prog.info? 199).map (·.size)=OM 769:=lP;have h2:(prog.info? 199).map (·.bytes)=OM 4360:=by kernel_rfl
 have h3:((prog.info? 199).bind (·.zero)).map (·.cells.size)=OM 769:=by kernel_rfl
 cases VQ:prog.info? 199 with
 |none=>rw[VQ]at h1;cases h1
 |some ie =>
  rw[VQ]at h1 h2 h3;cases hz:ie.zero with
  |none=>rw[Option.bind_some,hz]at h3;cases h3
  |some z =>
   rw[Option.bind_some,hz]at h3;exact⟨ie,z,rfl,hz,Option.some.inj h1,Option.some.inj h2,Option.some.inj h3⟩
theorem oT {ops:Array Oper}{rest:List Oper}{o:Oper}{a:Act}{Q:Exit->Act->PG->Prop}(Tn:o.guard=Pk)(x:Operand)(ho:o.op=.buildSlice 197 1 #[(0,x)])(RL:List PH)(lR:RL.length=769)(hx:a.eval x=.agg RL.toArray)
  (h:wpList prog ops Q rest (a.put o.dst (.slice (OM ⟨w.heap.size,0,Pk⟩) 1 1)) (w.alloc (.cells RL.toArray 199))):wpList prog ops Q (o::rest) a w:=by
 obtain⟨ie,z,VQ,hz,QC,hby,hzs⟩:=wK;refine wpList_buildSlice Tn 197 199 1 #[(0,x)] ho RL.toArray ie z Tryz.und89 VQ hz (by rw[QC];decide) (by rw[QC];decide) ?_ h;have e0:((#[(0,x)]:Array (Nat×Operand)).map fun (i,x)=>(i,a.eval x)).toList=(([a.eval x]:List PH).zipIdx 0).map fun x=>(x.2,x.1):=by simp
 rw[e0,hx,QC];have:=Great.fill_whole (s:=769) (by decide) [Value.agg RL.toArray] ((Array.range (1*769)).map (z.cells[· % z.cells.size]!)) (fun v hv=>by
  rw[MU]at hv;rw[hv];show RL.toArray.size=769;rw[List.size_toArray,lR]) (by simp)
 have e1:([Value.agg RL.toArray].flatMap fun v=>v.cells.toList)=RL:=by
  rw[Oh,List.flatMap_nil,Nt];rfl
 rw[e1]at this;exact this
theorem IV {b:Nat}{bl:Nat->Bool}(w:PG)(g:bg w b W H V bl){c:Int}(hr:inB W H c=Pm):∃F,ct (aF W H bl) c F:=by
 have hc:0<=c/\c<W*H:=of_decide_eq_true hr;obtain⟨n,rfl⟩:∃n:Nat,c=n:=⟨c.toNat,by omega⟩;obtain⟨e,w',fr,h,_⟩:=jT n w g (aJ g.c0) hr [];obtain⟨F,_,hB,_⟩:=h;exact⟨F,hB⟩
theorem Kt {bl:Nat->Bool}(c:Nat)(w:PG)(g:bg w M W H V bl)(UJ:M<w.heap.size)(hr:inB W H c=Pm)(hF:ct (aF W H bl) c F) :
  PK prog 104 #[.pointer (OM ⟨M,0,Pk⟩),PE PF (c:Int)] w fun e w'=>e=PM (.agg (kX c F).toArray)/\PI w.heap.size w w' :=
 (Iw c w g UJ hr).mono fun e w' ⟨G,he,hG,hb⟩=>⟨by rw[he,hF.unique hG],hb⟩
theorem Dh (h:i<L.length)(R:Nat->List PH):(L.take (i+1)).flatMap R=(L.take i).flatMap R++R (L.getD i 0):=by
 rw[List.take_succ_eq_append_getElem h,List.flatMap_append,<- bo _ _ h];simp
theorem lU.all {bl:Nat->Bool}{P:Nat->Prop}(h:lU (crs W H bl (W*H).toNat) P (crs W H bl (W*H).toNat).length l)(n:Nat):n∈l↔n∈crs W H bl (W*H).toNat/\P n:=by
 rw[h.2 n];constructor
 ·rintro⟨j,hj,e,hp⟩;exact⟨by rw[<- e,bo _ _ hj];exact ND hj,hp⟩
 ·rintro⟨hm,hp⟩;obtain⟨j,hj,e⟩:=Nv hm;exact⟨j,hj,by rw[bo _ _ hj,e],hp⟩
theorem Ku {bl:Nat->Bool}(w1:1<=W){n:Nat}:n∈crs W H bl (W*H).toNat↔bj W H bl (n:Int)=true:=by
 rw[cR];constructor
 ·exact fun h=>h.2
 ·intro h;have h3:0<=(n:Int)/\(n:Int)<W*H:=of_decide_eq_true (aT w1 (aE.1 h));exact⟨by omega,h⟩
end
section
open Go.RowKit
structure RGt (w:PG) (M rb mb:Nat) (W H V:Int) (bl:Nat->Bool) (A AR:Option Addr) (cap:Nat) (R:Nat->List PH) (L:List Nat) (f:Int->Option PH):Prop where
 p0:w.cell? ⟨rb,0,Pk⟩=OM (.slice A L.length cap)
 p1:w.cell? ⟨rb,1,Pk⟩=OM (.map (OM mb))
 ra:bg w M W H V bl
 row:bu w A L.length (fun i=>(L.getD i 0:Nat))
 rays:lk w AR R L
 mp:aZ prog 3 w mb f (cu (eB f) 256)
 bd:∀i,eB f i=Pm->0<=i/\i<256
section
variable {w w' : PG} {M rb mb cap : Nat} {W H V : Int} {bl : Nat → Bool} {A AR : Option Addr} {R : Nat → List PH} {L : List Nat} {f : Int → Option PH}
theorem RGt.lts (G:RGt w M rb mb W H V bl A AR cap R L f):rb<w.heap.size/\M<w.heap.size/\mb<w.heap.size:=⟨MK w _ G.p0,MK w _ G.ra.c0,G.mp.lt⟩
theorem RGt.cell (G:RGt w M rb mb W H V bl A AR cap R L f)(K:ai (fun k=>k=mb) w w'){q o:Nat}{v:PH}(h:w.cell? ⟨q,o,Pk⟩=OM v):w'.cell? ⟨q,o,Pk⟩=OM v :=
 K.cellOf h (fun e=>by
  have h':=G.mp.cell o;rw[<- e,h]at h';cases h')
theorem RGt.below (G:RGt w M rb mb W H V bl A AR cap R L f)(hb:PI w.heap.size w w'):RGt w' M rb mb W H V bl A AR cap R L f :=
 ⟨(hb.cell (p:=⟨rb,0,Pk⟩) G.lts.1).trans G.p0,(hb.cell (p:=⟨rb,1,Pk⟩) G.lts.1).trans G.p1,G.ra.below hb G.lts.2.1,G.row.below hb,G.rays.below hb,G.mp.keep (F:=fun _=>False) (ai.of_below hb) id,G.bd⟩
theorem RGt.room (_G:RGt w M rb mb W H V bl A AR cap R L f):cu (eB f) 256<maxLen:=by
 have:=lF (eB f) 256;unfold maxLen;omega
theorem RGt.put (G:RGt w M rb mb W H V bl A AR cap R L f){a:Int}{v:PH}(h0:0<=a)(h1:a<256)(hm:aZ prog 3 w' mb (bL f a v) (if (f a).isSome then cu (eB f) 256 else cu (eB f) 256+1))(ht:w.mapTurned w' mb):RGt w' M rb mb W H V bl A AR cap R L (bL f a v):=by
 have K:=aA ht;refine⟨G.cell K G.p0,G.cell K G.p1,⟨G.ra.w1,G.ra.w2,G.ra.h1,G.ra.h2,G.cell K G.ra.c0,G.cell K G.ra.c1,G.cell K G.ra.c2,fun i hi=>G.cell K (G.ra.cs i hi)⟩,fun i hi=>?_,fun i hi=>?_,?_,fun i hi=>?_⟩
 ·obtain⟨b,o,e,k1,k2⟩:=G.row i hi;exact⟨b,o,e,MN k1 K.size,G.cell K k2⟩
 ·obtain⟨b,e,k1,k2⟩:=G.rays i hi;exact⟨b,e,MN k1 K.size,fun j v hj=>G.cell K (k2 j v hj)⟩
 ·rw[jC];cases hs:eB f a with
  |true=>rw[jr hs];have e:(f a).isSome=true:=hs;rw[e]at hm;exact hm
  |false=>rw[iC (eB f) a 256 h0 h1 hs];have e:(f a).isSome=false:=hs;rw[e]at hm;exact hm
 ·rw[jC]at hi;rcases (cF _ _ _).1 hi with rfl|hi
  ·exact⟨h0,h1⟩
  ·exact G.bd i hi
end
def Eds (w:PG) (W H:Int) (bl:Nat->Bool) (L:List Nat) (f:Int->Option PH) (i:Nat):Prop:=(∀c:Int,(∃j,j<i/\c=((L.getD j 0:Nat):Int))->∃v l,f c=OM v/\w.ownsRow 1 204 4 v l.length (bQ W c l)/\j7 W H bl c l)/\∀c:Int,¬(∃j,j<i/\c=((L.getD j 0:Nat):Int))->f c=Pk
theorem Eds.next {bl:Nat->Bool}{f':Int->Option PH}(E:Eds w W H bl L f i)(M:aZ prog 3 w mb f n)(K:ai (fun k=>k=mb) w w')(hf:f'=bL f ((L.getD i 0:Nat):Int) v)
  (ho:w.ownsRow 1 204 4 v l.length (bQ W ((L.getD i 0:Nat):Int) l)) (hl:j7 W H bl ((L.getD i 0:Nat):Int) l):Eds w' W H bl L f' (i+1):=by
 have kp:∀{v:PH}{l:List Nat}{c:Int},w.ownsRow 1 204 4 v l.length (bQ W c l)->w'.ownsRow 1 204 4 v l.length (bQ W c l):=fun h=>bq h K (bJ h M);subst hf;refine⟨fun c hc=>?_,fun c hc=>?_⟩
 ·by_cases e:c=((L.getD i 0:Nat):Int)
  ·exact⟨v,l,by unfold bL;rw[if_pos e],by rw[e];exact kp ho,by rw[e];exact hl⟩
  ·obtain⟨j,hj,h⟩:=hc;have hji:j≠i:=fun e'=>e (by rw[h,e']);obtain⟨v',l',h1,h2,h3⟩:=E.1 c ⟨j,by omega,h⟩;exact⟨v',l',by unfold bL;rw[if_neg e];exact h1,kp h2,h3⟩
 ·have e:c≠((L.getD i 0:Nat):Int):=fun e=>hc ⟨i,by omega,e⟩;unfold bL;rw[if_neg e];exact E.2 c (fun ⟨j,hj,h⟩=>hc ⟨j,by omega,h⟩)
theorem Eds.below {bl:Nat->Bool}(E:Eds w W H bl L f i)(hb:PI w.heap.size w w'):Eds w' W H bl L f i :=
 ⟨fun c hc=>by obtain⟨v,l,h1,h2,h3⟩:=E.1 c hc;exact⟨v,l,h1,aq h2 hb,h3⟩,E.2⟩
def FK (w:PG) (rb mb ba o bb p z n cap oa:Nat) (RZ:List PH):Prop:=w.cell? ⟨rb,1,Pk⟩=OM (.map (OM mb))/\w.cell? ⟨rb,0,Pk⟩=OM (.slice (OM ⟨ba,oa,Pk⟩) n cap)/\w.cell? ⟨ba,o,Pk⟩=OM (PE PF (z:Int))/\w.rangeAt bb p RZ
theorem FK.below {rb ba bb p z oa:Nat}{RZ:List PH}(h:FK w rb mb ba o bb p z n cap oa RZ)(hb:PI w.heap.size w w'):FK w' rb mb ba o bb p z n cap oa RZ:=by
 have k:∀{a:Addr}{v:PH},w.cell? a=OM v->w'.cell? a=OM v:=fun {a v} h=>(hb.cell (MK w a h)).trans h;exact⟨k h.1,k h.2.1,k h.2.2.1,dh h.2.2.2 hb⟩
theorem IX {bl:Nat->Bool}(w:PG)(g:bg w M W H V bl)(UJ:M<w.heap.size)
  (hR:∀n,(R n).length=769) (hR1:∀n,∀u∈R n,u.oneCell'=Pm) (hRn:∀(n:Nat) (w:PG),gK (w.alloc (.cells (R n).toArray 199)) w.heap.size n (Fl n)) (hB:∀c,dC W H bl c->ct (aF W H bl) c (Fl c))
  (hL:crs W H bl (W*H).toNat=L)
  (hfn:∀(n:Nat) (w':PG),dC W H bl n->bg w' M W H V bl->M<w'.heap.size->PK prog 104 #[.pointer (OM ⟨M,0,Pk⟩),PE PF (n:Int)] w' fun e Q2=>e=PM (.agg (R n).toArray)/\PI w'.heap.size w' Q2) :
  PK prog 59 #[.pointer (OM ⟨M,0,Pk⟩)] w fun e w'=>∃rb mb A AR cap f,e=PM (.pointer (OM ⟨rb,0,Pk⟩))/\RGt w' M rb mb W H V bl A AR cap R L f/\Eds w' W H bl L f L.length/\PI w.heap.size w w'/\∀b o,A=OM ⟨b,o,Pk⟩->w.heap.size<=b:=by
 have Qa:=g.w1;have Rq:=bP g.w1 g.w2 g.h1 g.h2;obtain⟨ie,zr,VQ,hzr,QC,hby,hzs⟩:=wK;have T8:L.length<=256:=by rw[<- hL];have:=fF W H bl (W*H).toNat;omega
 have HC:PJ (∀i,i<L.length->dC W H bl ((L.getD i 0:Nat):Int)/\L.getD i 0<256):=fun i hi=>by
  have:=cR.1 (show L.getD i 0∈crs W H bl (W*H).toNat by rw[hL,bo _ _ hi];exact ND hi);exact⟨aE.1 this.2,by omega⟩
 have hco:=Av hL w g UJ;have HL:=ae hL;clear hL;go_enter func59,ntmps59;go_wp2_with fail;refine hco.mono ?_;rintro e w1 ⟨A,cap,rfl,PT,hb1,Sm⟩;have HFR:=ae Sm;clear hco Sm;have WV:=H9 w1;have hM:aZ prog 3 (w1.alloc (.map #[] 0)) w1.heap.size (fun _=>Pk) 0:=aZ.made w1 prog 3;have b2:PI w1.heap.size w1 ((w1.alloc (.map #[] 0)).alloc (PN #[.slice A L.length cap,.map (OM w1.heap.size)] 125)):=(al.alloc aj _).alloc (by simp) _;have XX:aZ prog 3 ((w1.alloc (.map #[] 0)).alloc (PN #[.slice A L.length cap,.map (OM w1.heap.size)] 125)) w1.heap.size (fun _=>Pk) (cu (eB fun _=>Pk) 256):=by
  rw[mI];exact hM.keep (F:=fun _=>False) ((ai.refl _ _).alloc _) id
 have q0:((w1.alloc (.map #[] 0)).alloc (PN #[.slice A L.length cap,.map (OM w1.heap.size)] 125)).cell? ⟨w1.heap.size+1,0,Pk⟩=OM (.slice A L.length cap):=ME #[.slice A L.length cap,.map (OM w1.heap.size)] 125 (w1.heap.size+1) 0 (by simp);have q1:((w1.alloc (.map #[] 0)).alloc (PN #[.slice A L.length cap,.map (OM w1.heap.size)] 125)).cell? ⟨w1.heap.size+1,1,Pk⟩=OM (.map (OM w1.heap.size)):=ME #[.slice A L.length cap,.map (OM w1.heap.size)] 125 (w1.heap.size+1) 1 (by simp);have B2:=ak hb1 b2;have UM:=PT.below b2;clear hM PT;go_wp2;generalize (w1.alloc (.map #[] 0)).alloc (PN #[.slice A L.length cap,.map (OM w1.heap.size)] 125)=w2 at *;have P3:=hb1.size;generalize hmb:w1.heap.size=mb at *;generalize hrb:mb+1=rb at *;have g2:=g.below B2 UJ;have Uf:=MN UJ B2.size;clear WV b2 hb1;go_loopg [4,5] L.length (fun gk lv iv wr=>∃(i:Nat),gk=L.length-i/\iv=PE PF i/\i<=L.length/\wr.ownsRow w2.heap.size 199 769 lv i ((L.take i).flatMap R)/\PI w2.heap.size w2 wr)
 case atStart=>exact⟨0,rfl,rfl,MQ _,Nj _ _ _ _,al⟩
 case round =>
  obtain⟨i,QD,rfl,VP,hown,Br⟩:=hrel;have gr:=g2.below Br Uf;have ZY:=MN Uf Br.size;have p0:=ar Br q0;by_cases PO:i<L.length
  ·obtain⟨ba,oa,rfl,Tk,P6⟩:=(UM.below Br) i PO;have ZX:=(HC.out i PO).1;have htk:=Dh PO R;obtain⟨z,SG⟩:∃z,L.getD i 0=z:=⟨_,rfl⟩;rw[SG]at ZX htk;have PU:wr.cell? ⟨ba,oa+i,Pk⟩=OM (PE PF (z:Int)):=(by rw[<- SG];exact P6);have hf:=hfn z wr ZX gr ZY;have Sj:=ae htk;have lz:=hR z;have oz:=hR1 z;have i1:(0:Int)<=(i:Int):=(by omega);have i2:(i:Int)<(L.length:Int):=(by omega);clear P6 SG htk;generalize R z=RZ at *;go_wp2_with fail;refine hf.mono ?_;rintro e w5 ⟨rfl,PV⟩;have Qm:=aq hown PV;have B5:=ak Br PV;have Tp:=B5.size;have hrn:=oS w5 RZ 199;clear hf hown Br PU PV p0;go_wp2_with (first
    |(refine oT rfl _ rfl RZ lz rfl ?_)
    |(at_builtin;refine wpList_append_own _ rfl _ _ 197 rfl w2.heap.size 199 ie zr 769 4360 Tryz.und89 VQ hzr QC hby hzs (by decide) _ _ _ rfl (Qm.alloc _) ⟨w5.heap.size,0,Pk⟩ 1 1 RZ rfl (by rw[lz]) ?c2 oz ?c3 ?c4 ?c5 ?_))
   case c2 =>
    intro j u hj;have:=hrn j u hj;rw[M8]at this;have QF:(⟨w5.heap.size,0,Pk⟩:Addr).add j=⟨w5.heap.size,j,Pk⟩:=(by unfold Addr.add;split<;>simp_all);rw[QF];exact this
   case c3=>unfold maxLen;omega
   case c4=>omega
   case c5=>simp;omega
   intro v6 w6 Sy hg6 _;have B6:PI w2.heap.size w2 w6:=(B5.alloc Tp _).grown hg6 (by simp;omega) (fun q hq=>(Qm.lt q hq).1);rw[<- Sj.out]at Sy;clear Qm B5 hrn hg6;go_wp2;go_roundg (L.length-(i+1))
   case measure=>omega
   case rel=>exact⟨i+1,rfl,by go_num,by omega,Sy,B6⟩
  ·have hge:i=L.length:=(by omega);subst hge;rw[M9]at hown;obtain⟨AR,cr,rfl,Ve⟩:=IQ hR hown;have G0:RGt wr M rb mb W H V bl A AR cap R L (fun _=>Pk):=⟨p0,ar Br q1,gr,UM.below Br,Ve,XX.keep (F:=fun _=>False) (ai.of_below Br) id,fun i h=>by cases h⟩;have B0:=ak B2 Br;clear hfn hown Ve q0 q1 gr ZY g2 Uf B2 UM Br XX;go_wp2;clear p0;generalize wr=w3 at *;go_loopg [6] L.length (fun gk iv wr=>∃(i:Nat) (f:Int->Option PH),gk=L.length-i/\iv=PE PF i/\i<=L.length/\RGt wr M rb mb W H V bl A AR cap R L f/\PJ (Eds wr W H bl L f i)/\PI w.heap.size w wr)
   case atStart=>exact⟨0,_,rfl,rfl,MQ _,G0,⟨fun c ⟨j,hj,_⟩=>absurd hj (Nz j),fun c _=>rfl⟩,B0⟩
   case round =>
    obtain⟨i,f,QD,rfl,VP,G,hE,Br⟩:=hrel;clear G0 B0;have p0:=G.p0;by_cases PO:i<L.length
    ·obtain⟨ba,oa,rfl,Tk,P6⟩:=G.row i PO;obtain⟨bb,rfl,X6,UK⟩:=G.rays i PO;obtain⟨z,SG⟩:∃z,L.getD i 0=z:=⟨_,rfl⟩;have hc:=HC.out i PO;have PU:wr.cell? ⟨ba,oa+i,Pk⟩=OM (PE PF (z:Int)):=(by rw[<- SG];exact P6);rw[SG]at hc UK;obtain⟨ZX,aaT⟩:=hc;have hwz:=aC (a:=(z:Int)) (by omega) (by omega);have HZ:=ae SG;have Yo:=aT Qa ZX;have bD:=cI wr;have GD:=G.below bD;have ED:=hE.out.below bD;have BD:=ak Br bD;have CC:FK wr.drew rb mb ba (oa+i) bb (i*769) z L.length cap oa (R z):=⟨GD.p1,GD.p0,ar bD PU,dh UK bD⟩;have Uo:=IU (cr:=cr) (cc:=cap) (self:=PB) wr.drew GD.ra GD.lts.2.1 (hRn z) (fun w=>oS w _ 199) (hR z) (hB z ZX) Yo hR hRn hB HL.out GD.rays GD.row;have hu:=underlying199;have hiY:(prog.info? 199).map (·.size)=OM (R z).length:=(by rw[lP,hR z]);have i1:(0:Int)<=(i:Int):=(by omega);have i2:(i:Int)<(L.length:Int):=(by omega);have Wa:=ae ED;clear P6 SG UK PU bD hE ED G;generalize (R z)=RZ at *;go_wp2_with fail;refine wp_region_held_drew (S:=fun w'=>w'.cell? ⟨rb,1,Pk⟩=OM (.map (OM mb))/\w'.cell? ⟨rb,0,Pk⟩=OM (.slice (OM ⟨ba,oa,Pk⟩) L.length cap)/\w'.cell? ⟨ba,oa+i,Pk⟩=OM (PE PF (z:Int))/\w'.rangeAt bb (i*769) RZ) (by kernel_rfl) CC (fun P4=>?_);clear p0;refine wpAnyH_take (i := 0) (oi := { dst := OM 42, op := .move (.tmp 3), type := 121, pos := "parts.go:595", after := #[], guard := Pk }) (v := .pointer (OM ⟨rb, 0, Pk⟩)) rfl (by kernel_rfl) (by kernel_rfl) (by kernel_rfl) (fun _ _ _ h => h) (MG ⟨by rfl, fun w' _ => by go_simp⟩) P4 ?_
     simp only[Act.put,MX,Nn,No];refine wpAnyH_take (i := 1) (oi := { dst := OM 43, op := .nilCheck (.tmp 42), type := 0, pos := "parts.go:595", after := #[{ on := 0, ground := .data }], guard := Pk }) (v := .pointer (OM ⟨rb, 0, Pk⟩)) rfl (by kernel_rfl) (by kernel_rfl) (by kernel_rfl) (fun _ _ _ h => h) (MG ⟨by rfl, fun w' _ => by go_simp⟩) P4 ?_
     simp only[Act.put,MX,Nn,No];refine wpAnyH_take (i := 2) (oi := { dst := OM 44, op := .fieldAddr 125 (.tmp 43) 1, type := 0, pos := "parts.go:595", after := #[{ on := 1, ground := .data }], guard := Pk }) (v := .pointer (OM ⟨rb, 1, Pk⟩)) rfl (by kernel_rfl) (by kernel_rfl) (by kernel_rfl) (fun _ _ _ h => h) (MG ⟨by rfl, fun w' _ => by go_simp⟩) P4 ?_
     simp only[Act.put,MX,Nn,No];refine wpAnyH_take (i := 3) (oi := { dst := OM 45, op := .load 123 (.tmp 44), type := 123, pos := "parts.go:595", after := #[{ on := 2, ground := .data }], guard := Pk }) (v := .map (OM mb)) rfl (by kernel_rfl) (by kernel_rfl) (by kernel_rfl) (fun _ _ _ h => h) (MG ⟨by rfl, fun w' h => by obtain ⟨s1, s2, s3, s4⟩ := h; go_simp⟩) P4 ?_
     simp only[Act.put,MX,Nn,No];refine wpAnyH_take (i := 4) (oi := { dst := OM 46, op := .move (.tmp 3), type := 121, pos := "parts.go:595", after := #[], guard := Pk }) (v := .pointer (OM ⟨rb, 0, Pk⟩)) rfl (by kernel_rfl) (by kernel_rfl) (by kernel_rfl) (fun _ _ _ h => h) (MG ⟨by rfl, fun w' _ => by go_simp⟩) P4 ?_
     simp only[Act.put,MX,Nn,No];refine wpAnyH_take (i := 5) (oi := { dst := OM 47, op := .nilCheck (.tmp 46), type := 0, pos := "parts.go:595", after := #[{ on := 4, ground := .data }], guard := Pk }) (v := .pointer (OM ⟨rb, 0, Pk⟩)) rfl (by kernel_rfl) (by kernel_rfl) (by kernel_rfl) (fun _ _ _ h => h) (MG ⟨by rfl, fun w' _ => by go_simp⟩) P4 ?_
     simp only[Act.put,MX,Nn,No];refine wpAnyH_take (i := 6) (oi := { dst := OM 48, op := .fieldAddr 125 (.tmp 47) 0, type := 0, pos := "parts.go:595", after := #[{ on := 5, ground := .data }], guard := Pk }) (v := .pointer (OM ⟨rb, 0, Pk⟩)) rfl (by kernel_rfl) (by kernel_rfl) (by kernel_rfl) (fun _ _ _ h => h) (MG ⟨by rfl, fun w' _ => by go_simp⟩) P4 ?_
     simp only[Act.put,MX,Nn,No];refine wpAnyH_take (i := 7) (oi := { dst := OM 49, op := .load 51 (.tmp 48), type := 51, pos := "parts.go:595", after := #[{ on := 6, ground := .data }], guard := Pk }) (v := .slice (OM ⟨ba, oa, Pk⟩) L.length cap) rfl (by kernel_rfl) (by kernel_rfl) (by kernel_rfl) (fun _ _ _ h => h) (MG ⟨by rfl, fun w' h => by obtain ⟨s1, s2, s3, s4⟩ := h; go_simp⟩) P4 ?_
     simp only[Act.put,MX,Nn,No];refine wpAnyH_take (i := 8) (oi := { dst := OM 50, op := .move (.tmp 6), type := 3, pos := "parts.go:595", after := #[], guard := Pk }) (v := PE PF i) rfl (by kernel_rfl) (by kernel_rfl) (by kernel_rfl) (fun _ _ _ h => h) (MG ⟨by rfl, fun w' _ => by go_simp⟩) P4 ?_
     simp only[Act.put,MX,Nn,No];refine wpAnyH_take (i := 9) (oi := { dst := OM 51, op := .indexAddr 51 (.tmp 49) (.tmp 50), type := 0, pos := "parts.go:595", after := #[{ on := 7, ground := .data }, { on := 8, ground := .data }], guard := Pk }) (v := .pointer (OM ⟨ba, oa + i, Pk⟩)) rfl (by kernel_rfl) (by kernel_rfl) (by kernel_rfl) (fun _ _ _ h => h) (MG ⟨by rfl, fun w' _ => by go_simp⟩) P4 ?_
     simp only[Act.put,MX,Nn,No];refine wpAnyH_take (i := 10) (oi := { dst := OM 52, op := .load 3 (.tmp 51), type := 3, pos := "parts.go:595", after := #[{ on := 9, ground := .data }], guard := Pk }) (v := PE PF (z : Int)) rfl (by kernel_rfl) (by kernel_rfl) (by kernel_rfl) (fun _ _ _ h => h) (MG ⟨by rfl, fun w' h => by obtain ⟨s1, s2, s3, s4⟩ := h; go_simp⟩) P4 ?_
     simp only[Act.put,MX,Nn,No];refine wpAnyH_take (i := 11) (oi := { dst := OM 53, op := .move (.tmp 0), type := 39, pos := "parts.go:595", after := #[], guard := Pk }) (v := .pointer (OM ⟨M, 0, Pk⟩)) rfl (by kernel_rfl) (by kernel_rfl) (by kernel_rfl) (fun _ _ _ h => h) (MG ⟨by rfl, fun w' _ => by go_simp⟩) P4 ?_
     simp only[Act.put,MX,Nn,No];refine wpAnyH_take (i := 12) (oi := { dst := OM 54, op := .move (.tmp 4), type := 197, pos := "parts.go:595", after := #[], guard := Pk }) (v := .slice (OM ⟨bb, 0, Pk⟩) L.length cr) rfl (by kernel_rfl) (by kernel_rfl) (by kernel_rfl) (fun _ _ _ h => h) (MG ⟨by rfl, fun w' _ => by go_simp⟩) P4 ?_
     simp only[Act.put,MX,Nn,No];refine wpAnyH_take (i := 13) (oi := { dst := OM 55, op := .move (.tmp 6), type := 3, pos := "parts.go:595", after := #[], guard := Pk }) (v := PE PF i) rfl (by kernel_rfl) (by kernel_rfl) (by kernel_rfl) (fun _ _ _ h => h) (MG ⟨by rfl, fun w' _ => by go_simp⟩) P4 ?_
     simp only[Act.put,MX,Nn,No];refine wpAnyH_take (i := 14) (oi := { dst := OM 56, op := .indexAddr 197 (.tmp 54) (.tmp 55), type := 0, pos := "parts.go:595", after := #[{ on := 12, ground := .data }, { on := 13, ground := .data }], guard := Pk }) (v := .pointer (OM ⟨bb, i * 769, Pk⟩)) rfl (by kernel_rfl) (by kernel_rfl) (by kernel_rfl) (fun _ _ _ h => h) (MG ⟨by rfl, fun w' _ => by go_simp⟩) P4 ?_
     simp only[Act.put,MX,Nn,No];refine wpAnyH_take (i := 15) (oi := { dst := OM 57, op := .load 199 (.tmp 56), type := 199, pos := "parts.go:595", after := #[{ on := 14, ground := .data }], guard := Pk }) (v := .agg RZ.toArray) rfl (by kernel_rfl) (by kernel_rfl) (by kernel_rfl) (fun _ _ _ h => h) (yieldsIf_load_mid (by rfl) 199 (.tmp 56) rfl bb (i * 769) rfl RZ _ (fun _ h => h.2.2.2) hu rfl hiY) P4 ?_
     simp only[Act.put,MX,Nn,No];refine wpAnyH_take (i := 16) (oi := { dst := OM 58, op := .move (.tmp 4), type := 197, pos := "parts.go:595", after := #[], guard := Pk }) (v := .slice (OM ⟨bb, 0, Pk⟩) L.length cr) rfl (by kernel_rfl) (by kernel_rfl) (by kernel_rfl) (fun _ _ _ h => h) (MG ⟨by rfl, fun w' _ => by go_simp⟩) P4 ?_
     simp only[Act.put,MX,Nn,No];refine wpAnyH_take (i := 17) (oi := { dst := OM 59, op := .move (.tmp 3), type := 121, pos := "parts.go:595", after := #[], guard := Pk }) (v := .pointer (OM ⟨rb, 0, Pk⟩)) rfl (by kernel_rfl) (by kernel_rfl) (by kernel_rfl) (fun _ _ _ h => h) (MG ⟨by rfl, fun w' _ => by go_simp⟩) P4 ?_
     simp only[Act.put,MX,Nn,No];refine wpAnyH_take (i := 18) (oi := { dst := OM 60, op := .nilCheck (.tmp 59), type := 0, pos := "parts.go:595", after := #[{ on := 17, ground := .data }], guard := Pk }) (v := .pointer (OM ⟨rb, 0, Pk⟩)) rfl (by kernel_rfl) (by kernel_rfl) (by kernel_rfl) (fun _ _ _ h => h) (MG ⟨by rfl, fun w' _ => by go_simp⟩) P4 ?_
     simp only[Act.put,MX,Nn,No];refine wpAnyH_take (i := 19) (oi := { dst := OM 61, op := .fieldAddr 125 (.tmp 60) 0, type := 0, pos := "parts.go:595", after := #[{ on := 18, ground := .data }], guard := Pk }) (v := .pointer (OM ⟨rb, 0, Pk⟩)) rfl (by kernel_rfl) (by kernel_rfl) (by kernel_rfl) (fun _ _ _ h => h) (MG ⟨by rfl, fun w' _ => by go_simp⟩) P4 ?_
     simp only[Act.put,MX,Nn,No];refine wpAnyH_take (i := 20) (oi := { dst := OM 62, op := .load 51 (.tmp 61), type := 51, pos := "parts.go:595", after := #[{ on := 19, ground := .data }], guard := Pk }) (v := .slice (OM ⟨ba, oa, Pk⟩) L.length cap) rfl (by kernel_rfl) (by kernel_rfl) (by kernel_rfl) (fun _ _ _ h => h) (MG ⟨by rfl, fun w' h => by obtain ⟨s1, s2, s3, s4⟩ := h; go_simp⟩) P4 ?_
     simp only[Act.put,MX,Nn,No];refine wpAnyH_ready (rs:=[21]) (by kernel_rfl) (by simp) ?_;refine AllReadyH.cons rfl (fun K hK=>?_) AllReadyH.nil;go_simp;go_at_call 105;refine Uo.mono ?_;rintro e w5 ⟨v,l,rfl,ho,SN,PV⟩;have CC:=CC.below PV;have G5:=GD.below PV;have E5:=Wa.out.below PV;have B5:=ak BD PV;clear Uo GD Wa;go_wp2_with fail;refine hK.out _ _ CC (fun UL=>?_);clear P4 hK K;obtain⟨w7,Wy,hm7,XK⟩:=G5.mp.store aY Tryz.underM G5.room hwz v;have K7:=aA XK;have G7:=G5.put (by omega) (by omega) hm7 XK;have ho':w5.ownsRow 1 204 4 v l.length (bQ W ((L.getD i 0:Nat):Int) l):=(by rw[HZ.out];exact bT ho (by have:=BD.size;omega));have E7:PJ (Eds w7 W H bl L (bL f (z:Int) v) (i+1)):=E5.next G5.mp K7 (by rw[HZ.out]) ho' (by
      rw[HZ.out];rw[<- HL.out]at SN;refine⟨SN.1,fun n=>?_⟩;rw[SN.all n,Ku Qa];unfold pA;rw[Bool.and_eq_true,decide_eq_true_iff];constructor
      ·rintro⟨h1,h2,h3⟩;exact⟨h3,by rcases h2 with h2|h2;cases h2;omega,h1⟩
      ·rintro⟨h1,h2,h3⟩;exact⟨h3,MF (by omega),h1⟩)
     have B7:PI w.heap.size w w7:=B5.trans (K7.to_below B5.size (fun k e=>by omega));have CC7:FK w7 rb mb ba (oa+i) bb (i*769) z L.length cap oa RZ:=⟨G5.cell K7 CC.1,G5.cell K7 CC.2.1,G5.cell K7 CC.2.2.1,fun j v hj=>G5.cell K7 (CC.2.2.2 j v hj)⟩;clear ho ho' SN PV E5 B5 G5 K7 hm7 XK;refine wpAnyH_ready (rs:=[22]) (by kernel_rfl) (by simp) ?_;refine AllReadyH.cons rfl (fun K hK=>?_) AllReadyH.nil;go_simp;refine hK.out _ _ CC7 (fun VZ=>?_);refine wpAnyH_done (by kernel_rfl) ?_ _;clear hK K UL VZ CC CC7 hu Wy;go_wp2;go_roundg (L.length-(i+1))
     case measure=>omega
     case rel=>exact⟨i+1,_,rfl,by go_num,by omega,G7,E7,B7⟩
    ·have hge:i=L.length:=(by omega);subst hge;go_wp2;go_ret;exact⟨rb,mb,A,AR,cap,f,rfl,G,hE.out,Br,HFR.out⟩
end
section
open Go.RowKit
structure RGm (w:PG) (rb mb cap nk:Nat) (A:Option Addr) (L:List Nat) (es:Nat->List LE) (f:Int->Option PH):Prop where
 p0:w.cell? ⟨rb,0,Pk⟩=OM (.slice A L.length cap)
 p1:w.cell? ⟨rb,1,Pk⟩=OM (.map (OM mb))
 row:bu w A L.length (fun i=>(L.getD i 0:Nat))
 mp:aZ prog 3 w mb f nk
 yes:∀n∈L,∃A cap,f (n:Int)=OM (.slice A (es n).length cap)/\dG w A (es n)
 no:∀c:Int,¬(0<=c/\c.toNat∈L)->f c=Pk
theorem RGm.below {rb nk:Nat}{es:Nat->List LE}(G:RGm w rb mb cap nk A L es f)(hb:PI w.heap.size w w'):RGm w' rb mb cap nk A L es f :=
 ⟨(hb.cell (aJ G.p0)).trans G.p0,(hb.cell (aJ G.p1)).trans G.p1,G.row.below hb,G.mp.keep (F:=fun _=>False) (ai.of_below hb) id,fun n hn=>by
   obtain⟨A,cap,h1,h2⟩:=G.yes n hn;exact⟨A,cap,h1,h2.below hb⟩,G.no⟩
theorem RGt.gm {rb:Nat}{bl:Nat->Bool}{AR:Option Addr}{es:Nat->List LE}(G:RGt w M rb mb W H V bl A AR cap R (crs W H bl (W*H).toNat) f)(E:Eds w W H bl (crs W H bl (W*H).toNat) f (crs W H bl (W*H).toNat).length)(hG:GEs W H bl es) :
  RGm w rb mb cap (cu (eB f) 256) A (crs W H bl (W*H).toNat) es f:=by
 have at':∀{n:Nat},n∈crs W H bl (W*H).toNat->∃j,j<(crs W H bl (W*H).toNat).length/\(n:Int)=(((crs W H bl (W*H).toNat).getD j 0:Nat):Int):=fun {n} hn=>by
  obtain⟨i,hi,h⟩:=Nv hn;exact⟨i,hi,by rw[bo _ _ hi,h]⟩
 refine⟨G.p0,G.p1,G.row,G.mp,fun n hn=>?_,fun c hc=>E.2 c (fun ⟨j,hj,h⟩=>hc ?_)⟩
 ·obtain⟨v,l,h1,h2,h3⟩:=E.1 (n:Int) (at' hn);obtain⟨l',k1,k2⟩:=hG.1 n (cR.1 hn).2;have e:=h3.one k1;subst e;have hl:(es n).length=l.length:=by rw[k2,NP]
  have ho:w.ownsRow 1 204 4 v (es n).length (bB (es n)):=by
   rw[hl,k2,jX];exact h2
  obtain⟨A',cap',rfl,hr,_⟩:=dY ho;exact⟨A',cap',h1,hr⟩
 ·rw[h,ML];refine⟨by omega,?_⟩;rw[bo _ _ hj];exact ND hj
def bv (B:Int->Option (Int×Int)):Int->Option Value:=fun a=>(B a).map fun _=>.bool Pm
theorem FL (B:Int->Option (Int×Int))(a s d:Int):bL (bv B) a (.bool Pm)=bv (aB B a s d):=by
 funext i
 unfold bL bv aB;by_cases e:i=a
 ·rw[if_pos e,if_pos e];rfl
 ·rw[if_neg e,if_neg e]
theorem Tryz.underBb:Tryz.prog.underlying 237=OM (.map 3 4):=by kernel_rfl
theorem ux (w:PG):(zeroValue 4).run prog w=.ok (.bool PB) w:=by kernel_rfl
structure Lbs (w:PG) (N cb ib:Nat) (B:Int->Option (Int×Int)):Prop where
 cm:aZ prog 3 w cb (fv B) (cnt B 256)
 im:aZ prog 3 w ib (bv B) (cnt B 256)
 nb:N<=cb/\N<=ib/\cb≠ib
theorem Lbs.keep {F:Nat->Prop}{cb ib:Nat}(h:Lbs w N cb ib B)(K:ai F w w')(h1:¬F cb)(h2:¬F ib):Lbs w' N cb ib B:=⟨h.cm.keep K h1,h.im.keep K h2,h.nb⟩
theorem Lbs.below {cb ib:Nat}(h:Lbs w N cb ib B)(hb:PI w.heap.size w w'):Lbs w' N cb ib B:=h.keep (F:=fun _=>False) (ai.of_below hb) id id
section
variable {w : PG} {N cb ib : Nat} {B : Int → Option (Int × Int)} {a : Int}
theorem Lbs.is (h:Lbs w N cb ib B)(ha:(Lit.int .i64 a).wf=Pm):(Instr.lookup 237 (.map (OM ib)) (.int .i64 a) PB).run prog w=.ok (.bool (B a).isSome) w:=by
 cases hB:B a with
 |none=>exact h.im.look_none aY Tryz.underBb (ux _) ha (by unfold bv;rw[hB];rfl) PB
 |some c=>exact h.im.look_some aY Tryz.underBb (ux _) ha (v:=.bool Pm) (by unfold bv;rw[hB];rfl) PB
theorem Lbs.co (h:Lbs w N cb ib B)(ha:(Lit.int .i64 a).wf=Pm):(Instr.lookup 225 (.map (OM cb)) (.int .i64 a) PB).run prog w=.ok (.agg #[.int .i64 ((B a).getD (0,0)).1,.int .i64 ((B a).getD (0,0)).2]) w:=by
 cases hB:B a with
 |none=>exact h.cm.look_none aY Tryz.underK (jD _) ha (jR hB) PB
 |some c =>
  obtain⟨s,d⟩:=c;exact h.cm.look_some aY Tryz.underK (jD _) ha (gP hB) PB
theorem lp (B:Int->Option (Int×Int))(h0:0<=a)(h1:a<256)(s d:Int):(if (B a).isSome then cnt B 256 else cnt B 256+1)=cnt (aB B a s d) 256:=by
 cases hB:B a with
 |none=>exact(fY B a s d 256 h0 (by omega) hB).symm
 |some c=>exact(iB B a s d 256 (by rw[hB];rfl)).symm
theorem Lbs.put1 (h:Lbs w N cb ib B)(ha:(Lit.int .i64 a).wf=Pm)(h0:0<=a)(h1:a<256)(s d:Int) :
  ∃w1,(Instr.mapUpdate 225 (.map (OM cb)) (PE PF a) (.agg #[PE PF s,PE PF d])).run prog w=.ok () w1/\ai (fun k=>k=cb) w w1/\aZ prog 3 w1 cb (fv (aB B a s d)) (cnt (aB B a s d) 256)/\aZ prog 3 w1 ib (bv B) (cnt B 256):=by
 have hc:=iA B 256;obtain⟨w1,Qs,hm,ht⟩:=h.cm.store aY Tryz.underK (by unfold maxLen;omega) ha (.agg #[PE PF s,PE PF d]);have K:=aA ht;refine⟨w1,Qs,K,?_,h.im.keep K (fun e=>h.nb.2.2 e.symm)⟩;rw[uR]at hm;rw[<- lp B h0 h1 s d];have e:(fv B a).isSome=(B a).isSome:=by unfold fv;rw[Option.isSome_map]
 rw[e]at hm;exact hm
theorem Lbs.put2 {d:Int}(nb:N<=cb/\N<=ib/\cb≠ib)(hc:aZ prog 3 w cb (fv (aB B a s d)) (cnt (aB B a s d) 256))(hi:aZ prog 3 w ib (bv B) (cnt B 256))(ha:(Lit.int .i64 a).wf=Pm)(h0:0<=a)(h1:a<256) :
  ∃w1,(Instr.mapUpdate 237 (.map (OM ib)) (PE PF a) (.bool Pm)).run prog w=.ok () w1/\ai (fun k=>k=ib) w w1/\Lbs w1 N cb ib (aB B a s d):=by
 have Ql:=iA B 256;obtain⟨w1,Qs,hm,ht⟩:=hi.store aY Tryz.underBb (by unfold maxLen;omega) ha (.bool Pm);have K:=aA ht;refine⟨w1,Qs,K,hc.keep K nb.2.2,?_,nb⟩;rw[FL B a s d]at hm;rw[<- lp B h0 h1 s d];have e:(bv B a).isSome=(B a).isSome:=by unfold bv;rw[Option.isSome_map]
 rw[e]at hm;exact hm
end
end
section
open Go.RowKit
theorem Di {es:Nat->List LE}(h:B (n:Int)=Pk):nG es B n:=fun {s d e} hs _=>by
 rw[h]at hs;cases hs
theorem IY {es:Nat->List LE}{B':Int->Option (Int×Int)}(h:B'=B/\∀j,j<L.length->nG es B (L.getD j 0)):∀n∈L,nG es B' n:=by
 obtain⟨rfl,h⟩:=h;intro n hn s d e hs he;obtain⟨j,hj,hjn⟩:=Nv hn;have h3:nG es B' (L.getD j 0):=h j hj;rw[bo _ _ hj,hjn]at h3;exact h3 hs he
end
section
open Go.RowKit
theorem jJ {x:LE}:∀{p q:List LE},(∀e∈p,e.to<x.to)->cV x (p++q)=p++cV x q
 |[],_,_=>rfl
 |y::p,q,h=>by
  have hy:=h y (M4 ..);show cV x (y::(p++q))=y::(p++cV x q);rw[show cV x (y::(p++q))=if x.to<y.to then x::y::(p++q) else if x.to=y.to then x::(p++q) else y::cV x (p++q) from by rw[cV]];rw[if_neg (by omega),if_neg (by omega),jJ (fun e he=>h e (MV _ he))]
theorem wL {x y:LE}:∀{p:List LE},(∃e∈p,x.to<=e.to)->cV x (p++[y])=cV x p++[y]
 |[],⟨e,he,_⟩=>absurd he N6
 |z::p,⟨e,he,hle⟩=>by
  show cV x (z::(p++[y]))=cV x (z::p)++[y];unfold cV;by_cases h1:x.to<z.to
  ·rw[if_pos h1,if_pos h1];rfl
  ·rw[if_neg h1,if_neg h1];by_cases h2:x.to=z.to
   ·rw[if_pos h2,if_pos h2];rfl
   ·rw[if_neg h2,if_neg h2];have:∃e∈p,x.to<=e.to:=by
     rcases List.mem_cons.1 he with rfl|he
     ·omega
     ·exact⟨e,he,hle⟩
    rw[wL this];rfl
theorem FM {x:LE}{p:List LE}(h:∀e∈p,e.to<x.to):cV x p=p++[x]:=by
 have:=jJ (q:=[]) h;rw[Nt]at this;exact this
structure iG (x:LE) (l:List LE) (i:Nat) (laid:Bool) (F:List LE):Prop where
 no:laid=PB->F=l.take i/\∀e∈l.take i,e.to<x.to
 yes:laid=Pm->F=cV x (l.take i)/\∃e∈l.take i,x.to<=e.to
theorem iG.start (x:LE)(l:List LE):iG x l 0 PB []:=⟨fun _=>⟨rfl,fun e he=>by rw[Pq]at he;exact absurd he N6⟩,fun h=>(by cases h)⟩
section
variable {x y : LE} {l F : List LE} {i : Nat}
theorem uy (hy:l[i]? = OM y):l.take (i+1)=l.take i++[y]:=by rw[Nb,hy];rfl
theorem iG.past (hR:Rsg l)(h:iG x l i Pm F)(hy:l[i]? = OM y):x.to<y.to/\iG x l (i+1) Pm (F++[y]):=by
 obtain⟨rfl,e,he,hle⟩:=h.yes rfl;have PO:e.to<y.to:=by
  obtain⟨j,hj,hje⟩:=Nv he;rw[MY]at hj;rw[OV]at hje;obtain⟨h1,h2⟩:=Np.1 hy;have:=NT.1 hR j i (by omega) h1 (by omega);rw[hje,h2]at this;exact this
 refine⟨by omega,fun h=>(by cases h),fun _=>?_⟩;rw[uy hy];exact⟨(wL ⟨e,he,hle⟩).symm,e,MT.2 (MG he),hle⟩
theorem iG.low (h:iG x l i PB F)(hy:l[i]? = OM y)(PO:y.to<x.to):iG x l (i+1) PB (F++[y]):=by
 obtain⟨rfl,ha⟩:=h.no rfl;refine⟨fun _=>?_,fun h=>(by cases h)⟩;rw[uy hy];refine⟨rfl,fun e he=>?_⟩;rcases MT.1 he with he|he
 ·exact ha e he
 ·rw[MU.1 he];exact PO
theorem iG.at (h:iG x l i PB F)(hy:l[i]? = OM y)(he:x.to=y.to):iG x l (i+1) Pm (F++[x]):=by
 obtain⟨rfl,ha⟩:=h.no rfl;refine⟨fun h=>(by cases h),fun _=>?_⟩;rw[uy hy,jJ ha];refine⟨?_,y,MT.2 (MF (MU.2 rfl)),by omega⟩;unfold cV;rw[if_neg (by omega),if_pos he]
theorem iG.up (h:iG x l i PB F)(hy:l[i]? = OM y)(he:x.to<y.to):iG x l (i+1) Pm (F++[x]++[y]):=by
 obtain⟨rfl,ha⟩:=h.no rfl;refine⟨fun h=>(by cases h),fun _=>?_⟩;rw[uy hy,jJ ha];refine⟨?_,y,MT.2 (MF (MU.2 rfl)),by omega⟩;unfold cV;rw[if_pos he,Nq];rfl
theorem iG.fin {b:Bool}(h:iG x l l.length b F):(b=Pm->F=cV x l)/\(b=PB->F++[x]=cV x l):=by
 constructor
 ·rintro rfl;have:=(h.yes rfl).1
  rwa [M9]at this
 ·rintro rfl;obtain⟨rfl,ha⟩:=h.no rfl;rw[M9]at ha ⊢;exact(FM ha).symm
end
theorem wM {l:List LE}{x:LE}(w:PG)(PT:dG w A l)(hR:Rsg l)(hl:l.length<=256) :
  PK prog 148 #[.slice A l.length cap,.agg #[PE PF (x.to:Int),PE PF x.s,PE PF x.d,PE PF x.mid]] w fun e w'=>∃v,e=PM v/\w'.ownsRow w.heap.size 204 4 v (cV x l).length (bB (cV x l))/\PI w.heap.size w w':=by
 obtain⟨i0,hi,P0,P3,Qd⟩:=info_parts Tryz.infoE;have b0:=aQ w (PN #[PE PF (x.to:Int),PE PF x.s,PE PF x.d,PE PF x.mid] 204);have HZ:PJ (w.heap.size<=(w.alloc (PN #[PE PF (x.to:Int),PE PF x.s,PE PF x.d,PE PF x.mid] 204)).heap.size):=by unfold PJ;simp
 have x0:(w.alloc (PN #[PE PF (x.to:Int),PE PF x.s,PE PF x.d,PE PF x.mid] 204)).cell? ⟨w.heap.size,0,Pk⟩=OM (PE PF (x.to:Int)):=ME _ _ _ 0 rfl;have x1:(w.alloc (PN #[PE PF (x.to:Int),PE PF x.s,PE PF x.d,PE PF x.mid] 204)).cell? ⟨w.heap.size,1,Pk⟩=OM (PE PF x.s):=ME _ _ _ 1 rfl;have x2:(w.alloc (PN #[PE PF (x.to:Int),PE PF x.s,PE PF x.d,PE PF x.mid] 204)).cell? ⟨w.heap.size,2,Pk⟩=OM (PE PF x.d):=ME _ _ _ 2 rfl;have x3:(w.alloc (PN #[PE PF (x.to:Int),PE PF x.s,PE PF x.d,PE PF x.mid] 204)).cell? ⟨w.heap.size,3,Pk⟩=OM (PE PF x.mid):=ME _ _ _ 3 rfl;have HXV:PJ (leV x=[PE PF (x.to:Int),PE PF x.s,PE PF x.d,PE PF x.mid]):=rfl;have HI0:PJ (iG x l 0 PB []):=iG.start x l;have HR:=ae hR;have Un:=PT.below b0;have HXT:PJ (∃xt xs xd xm,xt=(x.to:Int)/\xs=x.s/\xd=x.d/\xm=x.mid):=⟨_,_,_,_,rfl,rfl,rfl,rfl⟩;clear PT hR;clear HXT;generalize hxt:(x.to:Int)=xt at *;have HXZ:=ae hxt;clear hxt;go_enter func148,ntmps148;go_wp2;generalize w.alloc (PN #[PE PF xt,PE PF x.s,PE PF x.d,PE PF x.mid] 204)=w0 at *;go_loopw [5,6,7] (fun fv lv iv wr=>∃(i:Nat) (b:Bool) (F:List LE),i<=l.length/\iv=PE PF i/\lv=.bool b/\PJ (iG x l i b F)/\F.length<=2*i/\wr.ownsRow w0.heap.size 204 4 fv F.length (bB F)/\PI w0.heap.size w0 wr)
  (fun _ _ i _=>l.length-(intOf i).toNat)
 case atStart=>exact⟨0,PB,[],MQ _,rfl,rfl,HI0.out,aj,Nj _ _ _ _,al⟩
 case round =>
  clear HI0;obtain⟨i,b,F,hi1,rfl,rfl,HI,hF,hown,hB⟩:=hrel;have kx:∀{o:Nat}{v:PH},w0.cell? ⟨w.heap.size,o,Pk⟩=OM v->wr.cell? ⟨w.heap.size,o,Pk⟩=OM v:=fun {o v} h=>ar hB h;have y0:=kx x0;have y1:=kx x1;have y2:=kx x2;have y3:=kx x3;have VM:=hB.size;by_cases PO:i<l.length
  ·obtain⟨y,hy⟩:∃y,l[i]? = OM y:=⟨l[i],MJ PO⟩;obtain⟨ba,o,rfl,q0,q1,q2,q3⟩:=(Un.below hB) i y hy;have HQ:PJ (ba<w0.heap.size/\w0.cell? ⟨ba,o+i*4,Pk⟩=OM (PE PF (y.to:Int))/\w0.cell? ⟨ba,o+i*4+1,Pk⟩=OM (PE PF y.s)/\w0.cell? ⟨ba,o+i*4+2,Pk⟩=OM (PE PF y.d)/\w0.cell? ⟨ba,o+i*4+3,Pk⟩=OM (PE PF y.mid)):=by
    obtain⟨b',o',e',k0,k1,k2,k3⟩:=Un i y hy;cases e';exact⟨aJ k0,k0,k1,k2,k3⟩
   have HYV:PJ (leV y=[PE PF (y.to:Int),PE PF y.s,PE PF y.d,PE PF y.mid]):=rfl;have i1:(0:Int)<=(i:Int):=(by omega);have i2:(i:Int)<(l.length:Int):=(by omega);generalize hyt:(y.to:Int)=yt at *;have HYZ:=ae hyt;have HC1:PJ (x.to<=y.to↔xt<=yt):=(by have:=HXZ.out;unfold PJ;omega);have HC2:PJ (x.to=y.to↔xt=yt):=(by have:=HXZ.out;unfold PJ;omega);clear kx hyt;cases b with
   |true =>
    obtain⟨Vx,Qu⟩:=HI.out.past HR.out hy;have HN:=ae Qu;have PW:(yt != xt)=true:=bne_iff_ne.2 (fun e=>by have:=HXZ.out;have:=HYZ.out;omega);clear Qu HI hy Vx;go_wp2_with fail;go_quiet (fail);have Qg:=aq hown (w':=wr.drewN nq) (below_drewN al _);have B1:=below_drewN hB nq;have q0:=ch nq q0;have q1:=ch nq q1;have q2:=ch nq q2;have q3:=ch nq q3;have y0:=ch nq y0;clear hown hB y1 y2 y3;generalize wr.drewN nq=W1 at *;go_wp2_with fail;go_quiet (fail);have T6:=aq Qg (w':=W1.drewN nq) (below_drewN al _);have B2:=below_drewN B1 nq;have q0:=ch nq q0;have q1:=ch nq q1;have q2:=ch nq q2;have q3:=ch nq q3;clear Qg B1 y0 PW;generalize W1.drewN nq=W2 at *;go_wp2_with (at_builtin;refine wpList_append_own _ rfl _ _ 126 rfl w0.heap.size 204 i0 (.agg #[PE PF 0,PE PF 0,PE PF 0,PE PF 0]) 4 32 Tryz.underE hi P0 P3 Qd rfl (by decide) _ _ _ rfl (T6.alloc _) ⟨W2.heap.size,0,Pk⟩ 1 1 [PE PF yt,PE PF y.s,PE PF y.d,PE PF y.mid] rfl rfl (bK _ _ _ _ _ _) (by intro u hu;simp at hu;rcases hu with rfl|rfl|rfl|rfl<;>rfl) ?c3 ?c4 ?c5 ?_)
    case c3=>unfold maxLen;omega
    case c4=>have:=B2.size;omega
    case c5=>have:=B2.size;simp;omega
    intro XL W4 Qj P5 _;have Qb:=fun q hq=>(T6.lt q hq).1;have Vz:PI w0.heap.size w0 W4:=(B2.alloc B2.size _).grown P5 (by simp;have:=B2.size;omega) Qb;have Zl:W4.ownsRow w0.heap.size 204 4 XL (F++[y]).length (bB (F++[y])):=by
     rw[eU,eh,HYV.out]
     simpa using Qj
    have UN:(F++[y]).length<=1000:=(by rw[MM];show _+1<=_;omega);clear Qj P5 Qb T6 B2 q0 q1 q2 q3;go_wp2;go_roundw
    case rel=>exact⟨i+1,Pm,_,by omega,by go_num,rfl,HN.out,by simp;omega,Zl,Vz⟩
    case measure=>simp[intOf];omega
   |false =>
    by_cases hc:x.to<=y.to
    ·have hle:decide (xt<=yt)=true:=decide_eq_true (HC1.out.1 hc);by_cases he:x.to=y.to
     ·have HN:PJ (iG x l (i+1) Pm (F++[x])):=HI.out.at hy he;have PW:(yt != xt)=false:=bne_eq_false_iff_eq.2 (by have:=HXZ.out;have:=HYZ.out;omega);clear HI hy he hc;go_wp2_with fail;go_quiet (fail);have Qg:=aq hown (w':=wr.drewN nq) (below_drewN al _);have B1:=below_drewN hB nq;have q0:=ch nq q0;have y0:=ch nq y0;have y1:=ch nq y1;have y2:=ch nq y2;have y3:=ch nq y3;clear hown hB q1 q2 q3 hle;generalize wr.drewN nq=W1 at *;go_wp2_with (at_builtin;refine wpList_append_own _ rfl _ _ 126 rfl w0.heap.size 204 i0 (.agg #[PE PF 0,PE PF 0,PE PF 0,PE PF 0]) 4 32 Tryz.underE hi P0 P3 Qd rfl (by decide) _ _ _ rfl (Qg.alloc _) ⟨W1.heap.size,0,Pk⟩ 1 1 [PE PF xt,PE PF x.s,PE PF x.d,PE PF x.mid] rfl rfl (bK _ _ _ _ _ _) (by intro u hu;simp at hu;rcases hu with rfl|rfl|rfl|rfl<;>rfl) ?c3 ?c4 ?c5 ?_)
      case c3=>unfold maxLen;omega
      case c4=>have:=B1.size;omega
      case c5=>have:=B1.size;simp;omega
      intro vW2 W2 Ty RW _;have RX:=fun q hq=>(Qg.lt q hq).1;have XM:PI w0.heap.size w0 W2:=(B1.alloc B1.size _).grown RW (by simp;have:=B1.size;omega) RX;have OW2:W2.ownsRow w0.heap.size 204 4 vW2 (F++[x]).length (bB (F++[x])):=by
       rw[eU,eh,HXV.out]
       simpa using Ty
      have ab6:(F++[x]).length<=1000:=(by rw[MM];show _+1<=_;omega);clear Ty RW RX Qg B1 q0 y0 y1 y2 y3;have q0:=(XM.cell (p:=⟨ba,o+i*4,Pk⟩) HQ.out.1).trans HQ.out.2.1;have y0:=ar XM x0;go_wp2_with fail;go_quiet (fail);have QQ:=aq OW2 (w':=W2.drewN nq) (below_drewN al _);have BW3:=below_drewN XM nq;clear OW2 XM q0 y0 PW;generalize W2.drewN nq=W3 at *;have OW3:=QQ;go_wp2;go_roundw
      case rel=>exact⟨i+1,Pm,_,by omega,by go_num,rfl,HN.out,by simp;omega,OW3,BW3⟩
      case measure=>simp[intOf];omega
     ·have HN:PJ (iG x l (i+1) Pm (F++[x]++[y])):=HI.out.up hy (by omega);have PW:(yt != xt)=true:=bne_iff_ne.2 (fun e=>by have:=HXZ.out;have:=HYZ.out;omega);clear HI hy he hc;go_wp2_with fail;go_quiet (fail);have Qg:=aq hown (w':=wr.drewN nq) (below_drewN al _);have B1:=below_drewN hB nq;have y0:=ch nq y0;have y1:=ch nq y1;have y2:=ch nq y2;have y3:=ch nq y3;have q0:=ch nq q0;clear hown hB q1 q2 q3 hle;generalize wr.drewN nq=W1 at *;go_wp2_with (at_builtin;refine wpList_append_own _ rfl _ _ 126 rfl w0.heap.size 204 i0 (.agg #[PE PF 0,PE PF 0,PE PF 0,PE PF 0]) 4 32 Tryz.underE hi P0 P3 Qd rfl (by decide) _ _ _ rfl (Qg.alloc _) ⟨W1.heap.size,0,Pk⟩ 1 1 [PE PF xt,PE PF x.s,PE PF x.d,PE PF x.mid] rfl rfl (bK _ _ _ _ _ _) (by intro u hu;simp at hu;rcases hu with rfl|rfl|rfl|rfl<;>rfl) ?c3 ?c4 ?c5 ?_)
      case c3=>unfold maxLen;omega
      case c4=>have:=B1.size;omega
      case c5=>have:=B1.size;simp;omega
      intro vW2 W2 Ty RW _;have RX:=fun q hq=>(Qg.lt q hq).1;have XM:PI w0.heap.size w0 W2:=(B1.alloc B1.size _).grown RW (by simp;have:=B1.size;omega) RX;have OW2:W2.ownsRow w0.heap.size 204 4 vW2 (F++[x]).length (bB (F++[x])):=by
       rw[eU,eh,HXV.out]
       simpa using Ty
      have ab6:(F++[x]).length<=1000:=(by rw[MM];show _+1<=_;omega);clear Ty RW RX Qg B1 q0 y0 y1 y2 y3;have q0:=(XM.cell (p:=⟨ba,o+i*4,Pk⟩) HQ.out.1).trans HQ.out.2.1;have q1:=(XM.cell (p:=⟨ba,o+i*4+1,Pk⟩) HQ.out.1).trans HQ.out.2.2.1;have q2:=(XM.cell (p:=⟨ba,o+i*4+2,Pk⟩) HQ.out.1).trans HQ.out.2.2.2.1;have q3:=(XM.cell (p:=⟨ba,o+i*4+3,Pk⟩) HQ.out.1).trans HQ.out.2.2.2.2;have y0:=ar XM x0;go_wp2_with fail;go_quiet (fail);have QQ:=aq OW2 (w':=W2.drewN nq) (below_drewN al _);have BW3:=below_drewN XM nq;have q0:=ch nq q0;have q1:=ch nq q1;have q2:=ch nq q2;have q3:=ch nq q3;clear OW2 XM y0 PW;generalize W2.drewN nq=W3 at *;have HF1:PJ ((F++[x]).length<=2*i+1):=(by unfold PJ;rw[MM];show _+1<=_;omega);generalize F++[x]=F1 at *;have hF1:F1.length<=2*i+1:=HF1.out;go_wp2_with (at_builtin;refine wpList_append_own _ rfl _ _ 126 rfl w0.heap.size 204 i0 (.agg #[PE PF 0,PE PF 0,PE PF 0,PE PF 0]) 4 32 Tryz.underE hi P0 P3 Qd rfl (by decide) _ _ _ rfl (QQ.alloc _) ⟨W3.heap.size,0,Pk⟩ 1 1 [PE PF yt,PE PF y.s,PE PF y.d,PE PF y.mid] rfl rfl (bK _ _ _ _ _ _) (by intro u hu;simp at hu;rcases hu with rfl|rfl|rfl|rfl<;>rfl) ?c3 ?c4 ?c5 ?_)
      case c3=>unfold maxLen;omega
      case c4=>have:=BW3.size;omega
      case c5=>have:=BW3.size;simp;omega
      intro XL W4 Qj P5 _;have Qb:=fun q hq=>(QQ.lt q hq).1;have Vz:PI w0.heap.size w0 W4:=(BW3.alloc BW3.size _).grown P5 (by simp;have:=BW3.size;omega) Qb;have Zl:W4.ownsRow w0.heap.size 204 4 XL (F1++[y]).length (bB (F1++[y])):=by
       rw[eU,eh,HYV.out]
       simpa using Qj
      have UN:(F1++[y]).length<=1000:=(by rw[MM];show _+1<=_;omega);clear Qj P5 Qb QQ BW3 q0 q1 q2 q3;go_wp2;go_roundw
      case rel=>exact⟨i+1,Pm,_,by omega,by go_num,rfl,HN.out,by simp;omega,Zl,Vz⟩
      case measure=>simp[intOf];omega
    ·have HN:PJ (iG x l (i+1) PB (F++[y])):=HI.out.low hy (by omega);have hle:decide (xt<=yt)=false:=decide_eq_false (fun h=>hc (HC1.out.2 h));have PW:(yt != xt)=true:=bne_iff_ne.2 (fun e=>by have:=HXZ.out;have:=HYZ.out;omega);clear HI hy hc;go_wp2_with fail;go_quiet (fail);have Qg:=aq hown (w':=wr.drewN nq) (below_drewN al _);have B1:=below_drewN hB nq;have q0:=ch nq q0;have q1:=ch nq q1;have q2:=ch nq q2;have q3:=ch nq q3;have y0:=ch nq y0;clear hown hB y1 y2 y3 hle;generalize wr.drewN nq=W1 at *;go_wp2_with fail;go_quiet (fail);have T6:=aq Qg (w':=W1.drewN nq) (below_drewN al _);have B2:=below_drewN B1 nq;have q0:=ch nq q0;have q1:=ch nq q1;have q2:=ch nq q2;have q3:=ch nq q3;clear Qg B1 y0 PW;generalize W1.drewN nq=W2 at *;go_wp2_with (at_builtin;refine wpList_append_own _ rfl _ _ 126 rfl w0.heap.size 204 i0 (.agg #[PE PF 0,PE PF 0,PE PF 0,PE PF 0]) 4 32 Tryz.underE hi P0 P3 Qd rfl (by decide) _ _ _ rfl (T6.alloc _) ⟨W2.heap.size,0,Pk⟩ 1 1 [PE PF yt,PE PF y.s,PE PF y.d,PE PF y.mid] rfl rfl (bK _ _ _ _ _ _) (by intro u hu;simp at hu;rcases hu with rfl|rfl|rfl|rfl<;>rfl) ?c3 ?c4 ?c5 ?_)
     case c3=>unfold maxLen;omega
     case c4=>have:=B2.size;omega
     case c5=>have:=B2.size;simp;omega
     intro XL W4 Qj P5 _;have Qb:=fun q hq=>(T6.lt q hq).1;have Vz:PI w0.heap.size w0 W4:=(B2.alloc B2.size _).grown P5 (by simp;have:=B2.size;omega) Qb;have Zl:W4.ownsRow w0.heap.size 204 4 XL (F++[y]).length (bB (F++[y])):=by
      rw[eU,eh,HYV.out]
      simpa using Qj
     have UN:(F++[y]).length<=1000:=(by rw[MM];show _+1<=_;omega);clear Qj P5 Qb T6 B2 q0 q1 q2 q3;go_wp2;go_roundw
     case rel=>exact⟨i+1,PB,_,by omega,by go_num,rfl,HN.out,by simp;omega,Zl,Vz⟩
     case measure=>simp[intOf];omega
  ·have ei:i=l.length:=(by omega);subst ei;obtain⟨T9,Vv⟩:=HI.out.fin;have HF1:=ae T9;have Xg:=ae Vv;have hwz:w.heap.size<=w0.heap.size:=HZ.out;clear kx T9 Vv HI;cases b with
   |true =>
    have e:=HF1.out rfl;subst e;clear HF1 Xg y0 y1 y2 y3;go_wp2;go_ret;exact⟨_,rfl,bT hown hwz,b0.trans (hB.mono hwz)⟩
   |false =>
    have e:=Xg.out rfl;clear HF1 Xg;go_wp2_with (at_builtin;refine wpList_append_own _ rfl _ _ 126 rfl w0.heap.size 204 i0 (.agg #[PE PF 0,PE PF 0,PE PF 0,PE PF 0]) 4 32 Tryz.underE hi P0 P3 Qd rfl (by decide) _ _ _ rfl (hown.alloc _) ⟨wr.heap.size,0,Pk⟩ 1 1 [PE PF xt,PE PF x.s,PE PF x.d,PE PF x.mid] rfl rfl (bK _ _ _ _ _ _) (by intro u hu;simp at hu;rcases hu with rfl|rfl|rfl|rfl<;>rfl) ?c3 ?c4 ?c5 ?_)
    case c3=>unfold maxLen;omega
    case c4=>have:=hB.size;omega
    case c5=>have:=hB.size;simp;omega
    intro XL W4 Qj P5 _;have Qb:=fun q hq=>(hown.lt q hq).1;have Vz:PI w0.heap.size w0 W4:=(hB.alloc hB.size _).grown P5 (by simp;have:=hB.size;omega) Qb;have Zl:W4.ownsRow w0.heap.size 204 4 XL (F++[x]).length (bB (F++[x])):=by
     rw[eU,eh,HXV.out]
     simpa using Qj
    have UN:(F++[x]).length<=1000:=(by rw[MM];show _+1<=_;omega);clear Qj P5 Qb hown hB y0 y1 y2 y3;rw[e]at Zl;clear e UN;go_wp2;go_ret;exact⟨_,rfl,bT Zl hwz,b0.trans (Vz.mono hwz)⟩
end
section
open Go.RowKit
structure gN (w:PG) (b:Nat) (f:Int->Option PH):Prop where
 mp:aZ prog 3 w b f (cu (eB f) 256)
 bd:∀i,eB f i=Pm->0<=i/\i<256
section
variable {w w' : PG} {b : Nat} {f : Int → Option PH} {t e : TypeId} {a : Int}
theorem gN.keep {F:Nat->Prop}(h:gN w b f)(K:ai F w w')(hn:¬F b):gN w' b f:=⟨h.mp.keep K hn,h.bd⟩
theorem gN.below (h:gN w b f)(hb:PI w.heap.size w w'):gN w' b f:=h.keep (F:=fun _=>False) (ai.of_below hb) id
theorem gN.lt (h:gN w b f):b<w.heap.size:=h.mp.lt
theorem gN.made (w:PG):gN (w.alloc (.map #[] 0)) w.heap.size (fun _=>Pk):=by
 refine⟨?_,fun i hi=>by cases hi⟩;rw[mI];exact aZ.made w prog 3
theorem gN.store (h:gN w b f)(ht:prog.underlying t=OM (.map 3 e))(h0:0<=a)(h1:a<256)(v:PH) :
  ∃w1,(Instr.mapUpdate t (.map (OM b)) (PE PF a) v).run prog w=.ok () w1/\ai (fun k=>k=b) w w1/\gN w1 b (bL f a v):=by
 have hc:=lF (eB f) 256;obtain⟨w1,Qs,hm,htn⟩:=h.mp.store aY ht (by unfold maxLen;omega) (aC h0 (by omega)) v;refine⟨w1,Qs,aA htn,?_,fun i hi=>?_⟩
 ·rw[jC];cases hs:eB f a with
  |true=>rw[jr hs];have e:(f a).isSome=true:=hs;rw[e]at hm;exact hm
  |false=>rw[iC (eB f) a 256 h0 h1 hs];have e:(f a).isSome=false:=hs;rw[e]at hm;exact hm
 ·rw[jC]at hi;rcases (cF _ _ _).1 hi with rfl|hi
  ·exact⟨h0,h1⟩
  ·exact h.bd i hi
end
def lzF (L:List Nat) (lev:Nat->Nat):Int->Option Value:=fun i=>if 0<=i/\i.toNat∈L/\0<lev i.toNat then OM (PE PF (lev i.toNat:Int)) else Pk
theorem BC {lev:Nat->Nat}{t:Nat}(h:n∈L)(ht:0<t):bL (lzF L lev) (n:Int) (PE PF (t:Int))=lzF L (fun k=>if k=n then t else lev k):=by
 funext i
 unfold bL lzF;by_cases e:i=(n:Int)
 ·subst e;rw[if_pos rfl,if_pos]
  ·show _=OM (NB .i64 ((if (n:Int).toNat=n then t else lev (n:Int).toNat:Nat):Int));rw[ML,if_pos rfl]
  ·refine⟨by omega,by rw[ML];exact h,?_⟩;rw[ML];show 0<(if n=n then t else lev n);rw[if_pos rfl];exact ht
 ·rw[if_neg e];by_cases hi:0<=i
  ·have PW:i.toNat≠n:=(by omega);show _=if 0<=i/\i.toNat∈L/\0<(if i.toNat=n then t else lev i.toNat) then OM (NB .i64 ((if i.toNat=n then t else lev i.toNat:Nat):Int)) else Pk
   rw[if_neg PW]
  ·rw[if_neg (fun q=>hi q.1),if_neg (fun q=>hi q.1)]
structure RLv (w:PG) (lb vb eb top:Nat) (L:List Nat) (st:LSt) (f:Int->Option PH):Prop where
 c0:w.cell? ⟨lb,0,Pk⟩=OM (.map (OM vb))
 c1:w.cell? ⟨lb,1,Pk⟩=OM (.map (OM eb))
 c2:w.cell? ⟨lb,2,Pk⟩=OM (PE PF (top:Int))
 fz:w.frozen? ⟨lb,2,Pk⟩=PB
 lv:gN w vb (lzF L st.lev)
 em:gN w eb f
 yes:∀n∈L,∃A cap,f (n:Int)=OM (.slice A (st.es n).length cap)/\dG w A (st.es n)
 no:∀c:Int,¬(0<=c/\c.toNat∈L)->f c=Pk
 ne:vb≠eb
 bd:∀n∈L,n<256
section
variable {w w' : PG} {lb vb eb top : Nat} {L : List Nat} {st : LSt} {f : Int → Option PH}
theorem RLv.below (G:RLv w lb vb eb top L st f)(hb:PI w.heap.size w w'):RLv w' lb vb eb top L st f :=
 ⟨(hb.cell (aJ G.c0)).trans G.c0,(hb.cell (aJ G.c1)).trans G.c1,(hb.cell (aJ G.c2)).trans G.c2,(hb.frozen (p:=⟨lb,2,Pk⟩) (aJ G.c2)).trans G.fz,G.lv.below hb,G.em.below hb,fun n hn=>by
   obtain⟨A,cap,h1,h2⟩:=G.yes n hn;exact⟨A,cap,h1,h2.below hb⟩,G.no,G.ne,G.bd⟩
theorem RLv.lts (G:RLv w lb vb eb top L st f):lb<w.heap.size/\vb<w.heap.size/\eb<w.heap.size:=⟨aJ G.c0,G.lv.lt,G.em.lt⟩
theorem RLv.nes (G:RLv w lb vb eb top L st f):lb≠vb/\lb≠eb:=by
 constructor
 ·intro e;have h:=G.lv.mp.cell 0;rw[<- e,G.c0]at h;cases h
 ·intro e;have h:=G.em.mp.cell 0;rw[<- e,G.c0]at h;cases h
theorem RLv.keep {F:Nat->Prop}(G:RLv w lb vb eb top L st f)(K:ai F w w')(h1:¬F lb)(h2:¬F vb)(h3:¬F eb)(h4:∀n∈L,∀A cap,f (n:Int)=OM (.slice A (st.es n).length cap)->∀b o,A=OM ⟨b,o,Pk⟩->0<(st.es n).length->¬F b):RLv w' lb vb eb top L st f :=
 ⟨K.cellOf G.c0 h1,K.cellOf G.c1 h1,K.cellOf G.c2 h1,(K.frozen (p:=⟨lb,2,Pk⟩) G.lts.1 h1).trans G.fz,G.lv.keep K h2,G.em.keep K h3,fun n hn=>by
  obtain⟨A,cap,e1,e2⟩:=G.yes n hn;refine⟨A,cap,e1,fun i e hi=>?_⟩;have hl:0<(st.es n).length:=Nat.lt_of_le_of_lt (MQ i) (Np.1 hi).1;obtain⟨b,o,e0,k1,k2,k3,k4⟩:=e2 i e hi;have Xe:=h4 n hn A cap e1 b o e0 hl;exact⟨b,o,e0,K.cellOf k1 Xe,K.cellOf k2 Xe,K.cellOf k3 Xe,K.cellOf k4 Xe⟩,G.no,G.ne,G.bd⟩
theorem RLv.off (G:RLv w lb vb eb top L st f){m:Nat}(hm:∀o,w.cell? ⟨m,o,Pk⟩=Pk):∀n∈L,∀A cap,f (n:Int)=OM (.slice A (st.es n).length cap)->∀b o,A=OM ⟨b,o,Pk⟩->0<(st.es n).length->¬b=m:=fun n hn A cap h b o hA hl e=>by
 obtain⟨A',cap',e1,e2⟩:=G.yes n hn;rw[h]at e1;cases e1;obtain⟨b',o',e0,k1,_⟩:=e2 0 _ (MJ hl);rw[hA]at e0;cases e0;rw[e,hm]at k1;cases k1
theorem RLv.look (G:RLv w lb vb eb top L st f){n:Nat}(hn:n∈L):(Instr.lookup 129 (.map (OM vb)) (PE PF (n:Int)) PB).run prog w=.ok (PE PF (st.lev n:Int)) w:=by
 have hw:=aC (a:=(n:Int)) (by omega) (by have:=G.bd n hn;omega);by_cases h:0<st.lev n
 ·exact G.lv.mp.look_some aY Tryz.underV (kP w) hw (by unfold lzF;rw[ML,if_pos ⟨by omega,hn,h⟩]) PB
 ·have h0:st.lev n=0:=by omega
  rw[h0];exact G.lv.mp.look_none aY Tryz.underV (kP w) hw (by unfold lzF;rw[ML,if_neg (fun q=>h q.2.2)]) PB
theorem RLv.edges (G:RLv w lb vb eb top L st f){n:Nat}(hn:n∈L):∃A cap,(Instr.lookup 123 (.map (OM eb)) (PE PF (n:Int)) PB).run prog w=.ok (.slice A (st.es n).length cap) w/\dG w A (st.es n)/\f (n:Int)=OM (.slice A (st.es n).length cap):=by
 obtain⟨A,cap,e1,e2⟩:=G.yes n hn;exact⟨A,cap,G.em.mp.look_some aY Tryz.underM (j6 w) (aC (by omega) (by have:=G.bd n hn;omega)) e1 PB,e2,e1⟩
end
def apE (st:LSt) (n:Nat):Nat->List LE:=fun a=>(st.es a).filter (fun e=>decide (st.lev e.to=0/\e.to≠n))
theorem lq {st:LSt}{a:Nat}{e:LE}:e∈apE st n a↔e∈st.es a/\st.lev e.to=0/\e.to≠n:=by
 unfold apE;rw[Ns,decide_eq_true_eq]
theorem FN (st:LSt)(n:Nat)(a b t u:Int):GrE (apE st n) a b t u↔EdR st n a b t u:=by
 constructor
 ·rintro⟨e,h1,h2,h3,h4⟩;obtain⟨k1,k2,k3⟩:=lq.1 h1;exact⟨e,k1,h2,h3,h4,k2,k3⟩
 ·rintro⟨e,h1,h2,h3,h4,k2,k3⟩;exact⟨e,lq.2 ⟨h1,k2,k3⟩,h2,h3,h4⟩
theorem Kv {st:LSt}(O:Okl L 512 st)(hb:∀n∈L,n<256)(n:Nat):Ks L (apE st n) :=
 ⟨fun he=>O.cor.ends (lq.1 he).1,fun he=>O.bd (lq.1 he).1,hb⟩
structure Apt (L:List Nat) (st:LSt) (n o:Nat) (B:Int->Option (Int×Int)):Prop where
 rb:RB L (apE st n) [⟨(o:Int),0,0,0⟩] B
 rl:∀x∈L,nG (apE st n) B x
theorem Apt.need {st:LSt}{a b:LE}(h:Apt L st n a.to B)(ha:a.to∈L) :
  uQ st n a b↔bF B (b.to:Int) (a.s+b.s) (a.d+b.d)=true:=by
 have Vf:eg L [⟨(a.to:Int),0,0,0⟩] (a.to:Int) 0 0:=⟨_,MU.2 rfl,⟨⟨by show (0:Int)<=(a.to:Int);omega,by show ((a.to:Int)).toNat∈L;rw[ML];exact ha⟩,Nc 0,(by show (0:Int)<=1048576;decide),Nc 0,(by show (0:Int)<=1048576;decide)⟩,rfl,rfl,rfl⟩;have z:val 0 0=0:=by decide
 rw[eJ];constructor
 ·intro hN s d hB;obtain⟨o',s0,d0,p,q,⟨e',k1,_,rfl,rfl,rfl⟩,k2,k3,k4⟩:=h.rb.snd hB;rw[MU.1 k1]at k2 k3 k4;have hs:s=p:=by simpa using k3
  have hd:d=q:=by simpa using k4
  subst hs hd;have hw:Wg (EdR st n) (a.to:Int) (b.to:Int) s d:=k2.mono (fun a b t u h=>(FN st n a b t u).1 h);by_cases hle:val s d<=val (a.s+b.s) (a.d+b.d)
  ·exact absurd ⟨s,d,hw,hle⟩ hN
  ·omega
 ·rintro PO ⟨p,q,hw,hle⟩;obtain⟨s,d,k1,k2⟩:=h.rb.least h.rl Vf (hw.mono (fun a b t u h=>(FN st n a b t u).2 h));have:=PO s d k1;omega
end
section
open Go.RowKit
theorem IZ {st:LSt}{x:Nat}(h:∀m e s d,m<(st.es x).length->(st.es x)[m]? = OM e->(st.lev e.to=0/\e.to≠n)->B (x:Int)=OM (s,d)->∃s' d',B (e.to:Int)=OM (s',d')/\val s' d'<=val s d+val e.s e.d):nG (apE st n) B x:=fun {s d e} hs he=>by
 obtain⟨k1,k2⟩:=lq.1 he;obtain⟨m,hm,hme⟩:=Nv k1;exact h m e s d hm (by rw[MJ hm,hme]) k2 hs
theorem zv (a s d:Int):bF (fun _=>Pk) a s d=true:=rfl
theorem zx {capN:Nat}{st:LSt}(w:PG)(G:RLv w lb vb eb top L st f)(O:Okl L 512 st)(PT:bu w A L.length (fun i=>(L.getD i 0:Nat)))(T8:L.length<=256)(ho:o∈L) :
  PK prog 147 #[.pointer (OM ⟨lb,0,Pk⟩),.slice A L.length capN,PE PF (o:Int),PE PF (n:Int)] w fun e w'=>∃cb ib B,e=PM (.tuple #[.map (OM cb),.map (OM ib)])/\Lbs w' w.heap.size cb ib B/\Apt L st n o B/\PI w.heap.size w w':=by
 have WV:=@run_makeMap prog;have WZ:=G.bd o ho;have hwo:=aC (a:=(o:Int)) (by omega) (by omega);have EO:=Kv O G.bd n;have HEO:=ae EO;have HEL:PJ (∀a,(st.es a).length<=256):=fun a=>O.len G.bd a;have Q8:PJ (∀{a e},e∈st.es a->0<=e.s/\0<=e.d/\e.s<=512/\e.d<=512):=fun he=>O.bd he;have HEN:PJ (∀{a e},e∈st.es a->e.to∈L):=fun he=>(O.cor.ends he).2;have HLB:PJ (∀x∈L,x<256):=G.bd;have b1:=aQ w (.map #[] 0);have m1:=aZ.made w prog 3;obtain⟨w1,ae4,Vt,ht1⟩:=m1.store aY Tryz.underK (by unfold maxLen;omega) hwo (.agg #[PE PF 0,PE PF 0]);have K1:=aA ht1;have B1:PI w.heap.size w w1:=b1.trans (K1.to_below b1.size (fun g hg=>by omega));have m2:=aZ.made w1 prog 3;obtain⟨w2,Yp,Uf,Wo⟩:=m2.store aY Tryz.underBb (by unfold maxLen;omega) hwo (.bool Pm);have K2:=aA Wo;have b2:=aQ w1 (.map #[] 0);have B2:PI w.heap.size w w2:=(ak B1 b2).trans (K2.to_below (ak B1 b2).size (fun g hg=>by have:=B1.size;omega));have ajc:w.heap.size<w1.heap.size:=Vt.lt;have l0:Lbs w2 w.heap.size w.heap.size w1.heap.size (aB (fun _=>Pk) (o:Int) 0 0):=by
  refine⟨?_,?_,aj,by omega,by omega⟩
  ·have h:=(Vt.keep (F:=fun _=>False) (ai.of_below b2) id).keep K2 (by omega);have e:=lp (a:=(o:Int)) (fun _=>Pk) (by omega) (by omega) 0 0;rw[jg]at e;rw[<- e,<- uR];exact h
  ·have e:=lp (a:=(o:Int)) (fun _=>Pk) (by omega) (by omega) 0 0;rw[jg]at e;rw[<- e,<- FL];exact Uf
 have HR0:PJ (RB L (apE st n) [⟨(o:Int),0,0,0⟩] (aB (fun _=>Pk) (o:Int) 0 0)):=by
  have h:=(RB.start L (apE st n)).in EO (e:=⟨(o:Int),0,0,0⟩) ⟨Nc 0,(by show (0:Int)<=1048576;decide),Nc 0,(by show (0:Int)<=1048576;decide)⟩
  have e:inR L (fun _=>Pk) ⟨(o:Int),0,0,0⟩=aB (fun _=>Pk) (o:Int) 0 0:=by
   unfold inR;rw[if_pos ⟨decide_eq_true ⟨by show (0:Int)<=(o:Int);omega,by show ((o:Int)).toNat∈L;rw[ML];exact ho⟩,zv _ _ _⟩]
  rw[e]at h;exact h
 have HG:=ae G;have HRW:PJ (bu w A L.length (fun i=>(L.getD i 0:Nat))):=PT;have Rg:=ae T8;generalize aB (fun _=>Pk) (o:Int) 0 0=B0 at *;clear m1 Vt ht1 K1 B1 m2 Uf Wo K2 b2 b1 EO O G PT T8 WZ;go_enter func147,ntmps147;go_wp2;generalize w1.heap.size=ib at *;clear WV ae4 Yp hwo;clear w1;go_loopg [12] (fR 109969568169985 B0 256+1) (fun gk av wr=>∃(ag:Bool) (B:Int->Option (Int×Int)),av=.bool ag/\gk=fR 109969568169985 B 256+(if ag then 1 else 0)/\Lbs wr w.heap.size w.heap.size ib B/\PJ (RB L (apE st n) [⟨(o:Int),0,0,0⟩] B)/\PJ (ag=PB->∀x∈L,nG (apE st n) B x)/\PI w.heap.size w wr)
 case atStart=>exact⟨Pm,B0,rfl,rfl,l0,HR0,fun q=>(by cases q),B2⟩
 case round =>
  clear l0 HR0 B2 B0;obtain⟨ag,B,rfl,QD,lb0,Tz,Yq,hB⟩:=hrel;have HGK:PJ _:=QD;clear QD;cases ag with
  |true =>
   clear Yq;go_wp2;go_loopw [12,13] (fun av iv wr=>∃(ag:Bool) (i:Nat) (B':Int->Option (Int×Int)),av=.bool ag/\iv=PE PF i/\i<=L.length/\Lbs wr w.heap.size w.heap.size ib B'/\PJ (RB L (apE st n) [⟨(o:Int),0,0,0⟩] B')/\PJ (ag=Pm->fR 109969568169985 B' 256<fR 109969568169985 B 256)/\PJ (ag=PB->B'=B/\∀j,j<i->nG (apE st n) B (L.getD j 0))/\PI w.heap.size w wr)
    (fun _ i _=>L.length-(intOf i).toNat)
   case atStart=>exact⟨PB,0,B,rfl,rfl,MQ _,lb0,Tz,fun q=>(by cases q),fun _=>⟨rfl,fun j hj=>absurd hj (Nz j)⟩,hB⟩
   case round =>
    clear lb0 Tz hB;obtain⟨ag,i,B1,rfl,rfl,hi1,lb1,Tz,SO,Ro,hB⟩:=hrel;have T8:L.length<=256:=Rg.out;by_cases PO:i<L.length
    ·obtain⟨ba,oa,hA,Tk,P6⟩:=(HRW.out.below hB) i PO;subst hA;have i1:(0:Int)<=(i:Int):=(by omega);have i2:(i:Int)<(L.length:Int):=(by omega);obtain⟨x,hx⟩:∃x,L.getD i 0=x:=⟨_,rfl⟩;have PU:wr.cell? ⟨ba,oa+i,Pk⟩=OM (PE PF (x:Int)):=(by rw[<- hx];exact P6);have hxL:x∈L:=(by rw[<- hx,bo _ _ PO];exact ND PO);have HNI:PJ (L.getD i 0=x/\x∈L):=⟨hx,hxL⟩;have U8:=HLB.out x hxL;have Tf:=aC (a:=(x:Int)) (by omega) (by omega);have TA:=lb1.is Tf;have HW1:=ae hB;clear hx hxL P6;cases hBx:B1 (x:Int) with
     |none =>
      rw[hBx]at TA;have TA:(Instr.lookup 237 (.map (OM ib)) (PE PF (x:Int)) PB).run prog wr=.ok (.bool PB) wr:=TA;have HRX:PJ (ag=PB->B1=B/\∀j,j<i+1->nG (apE st n) B (L.getD j 0)):=fun q=>by
       obtain⟨e1,e2⟩:=Ro.out q;refine⟨e1,fun j hj=>?_⟩;by_cases ej:j<i
       ·exact e2 j ej
       ·have:j=i:=(by omega);subst this;rw[HNI.out.1];exact Di (by rw[<- e1];exact hBx)
      clear Ro;go_wp2;go_roundw
      case rel=>exact⟨ag,i+1,B1,rfl,by go_num,by omega,lb1,Tz,SO,HRX.out,hB⟩
      case measure=>simp[intOf];omega
     |some c0 =>
      rw[hBx]at TA
      replace TA:(Instr.lookup 237 (.map (OM ib)) (PE PF (x:Int)) PB).run prog wr=.ok (.bool Pm) wr:=TA
      have XN:PJ (∃s d,B1 (x:Int)=OM (s,d)):=⟨c0.1,c0.2,hBx⟩;clear hBx c0;go_wp2;clear PU TA;obtain⟨WB,hWB⟩:∃WB,WB=wr:=⟨_,rfl⟩;go_loopw [12,15] (fun av kv wr=>∃(ag:Bool) (k:Nat) (B':Int->Option (Int×Int)),av=.bool ag/\kv=PE PF k/\k<=(st.es x).length/\Lbs wr w.heap.size w.heap.size ib B'/\PJ (RB L (apE st n) [⟨(o:Int),0,0,0⟩] B')/\PJ (∃s d,B' (x:Int)=OM (s,d))/\PJ (ag=Pm->fR 109969568169985 B' 256<fR 109969568169985 B 256)/\PJ (ag=PB->B'=B/\(∀j,j<i->nG (apE st n) B (L.getD j 0))/\∀m e s d,m<k->(st.es x)[m]? = OM e->(st.lev e.to=0/\e.to≠n)->B (x:Int)=OM (s,d)->∃s' d',B (e.to:Int)=OM (s',d')/\val s' d'<=val s d+val e.s e.d)/\PI w.heap.size w wr)
       (fun _ k _=>(st.es x).length-(intOf k).toNat)
      case atStart=>exact⟨ag,0,B1,rfl,rfl,MQ _,lb1,Tz,XN,SO,fun q=>⟨(Ro.out q).1,(Ro.out q).2,fun m _ _ _ hm=>absurd hm (Nz m)⟩,hB⟩
      case round =>
       clear lb1 Tz hB SO Ro hWB WB HW1 XN;obtain⟨ag,k,B2,rfl,rfl,hk,lb2,Tz,XN,SO,Ro,hB⟩:=hrel;have Gr:=HG.out.below hB;have p1:=Gr.c1;have p0:=Gr.c0;obtain⟨A',cap',Z3,PT,_⟩:=Gr.edges HNI.out.2;have Wb:(st.es x).length<=256:=HEL.out x;by_cases Yr:k<(st.es x).length
       ·obtain⟨e,he⟩:∃e,(st.es x)[k]? = OM e:=⟨(st.es x)[k],MJ Yr⟩;obtain⟨bb,oo,Z4,d0,d1,d2,d3⟩:=PT k e he;subst Z4;have k1:(0:Int)<=(k:Int):=(by omega);have k2:(k:Int)<((st.es x).length:Int):=(by omega);have heM:=MZ he;have Xm:=HEN.out heM;have Qq:=HLB.out _ Xm;have hwt:=aC (a:=(e.to:Int)) (by omega) (by omega);have HE:PJ ((st.es x)[k]? = OM e/\e∈st.es x/\e.to∈L):=⟨he,heM,Xm⟩;have b5:=aQ wr (PN #[PE PF (e.to:Int),PE PF e.s,PE PF e.d,PE PF e.mid] 204);have y0:(wr.alloc (PN #[PE PF (e.to:Int),PE PF e.s,PE PF e.d,PE PF e.mid] 204)).cell? ⟨wr.heap.size,0,Pk⟩=OM (PE PF (e.to:Int)):=ME #[PE PF (e.to:Int),PE PF e.s,PE PF e.d,PE PF e.mid] 204 wr.heap.size 0 rfl;have y1:(wr.alloc (PN #[PE PF (e.to:Int),PE PF e.s,PE PF e.d,PE PF e.mid] 204)).cell? ⟨wr.heap.size,1,Pk⟩=OM (PE PF e.s):=ME #[PE PF (e.to:Int),PE PF e.s,PE PF e.d,PE PF e.mid] 204 wr.heap.size 1 rfl;have y2:(wr.alloc (PN #[PE PF (e.to:Int),PE PF e.s,PE PF e.d,PE PF e.mid] 204)).cell? ⟨wr.heap.size,2,Pk⟩=OM (PE PF e.d):=ME #[PE PF (e.to:Int),PE PF e.s,PE PF e.d,PE PF e.mid] 204 wr.heap.size 2 rfl;have lb5:=lb2.below b5;have B5:=ak hB b5;have Gr5:=Gr.below b5;have h46:=fun m=>(Gr5.below (below_drewN al m)).look Xm;have g0:=Gr5.c0;clear Gr PT lb2 hB he heM Xm p0 b5;go_upto_region 15 with fail
        clear Z3 d0 d1 d2 d3 p1;generalize wr.alloc (PN #[PE PF (e.to:Int),PE PF e.s,PE PF e.d,PE PF e.mid] 204)=w5 at *;generalize wr.heap.size=Y at *;go_cut [73] from 60 to 73 (fun b wd=>b=.bool (!decide (st.lev e.to=0/\e.to≠n))/\PI w5.heap.size w5 wd)
        case first =>
         clear lb5 Gr5 y1 y2;have hlz:st.lev e.to=0↔(st.lev e.to:Int)=0:=(by omega);have ZH:e.to=n↔(e.to:Int)=(n:Int):=(by omega);have Rf:0<=(st.lev e.to:Int):=(by omega);generalize (st.lev e.to:Int)=lvz at *;generalize (e.to:Int)=et at *;generalize (n:Int)=nz at *;by_cases q1:lvz=0
         ·have d1:decide (0<lvz)=false:=decide_eq_false (by omega);by_cases q2:et=nz
          ·have hr:decide (st.lev e.to=0/\e.to≠n)=false:=decide_eq_false (fun h=>h.2 (ZH.2 q2));have d2:(et==nz)=true:=beq_iff_eq.2 q2;have HHR:PJ _:=hr;clear hr hlz ZH q1 q2 Rf;go_quiet (fail);go_wp2_with fail;go_meet;exact⟨by rw[HHR.out];rfl,below_drewN al _⟩
          ·have hr:decide (st.lev e.to=0/\e.to≠n)=true:=decide_eq_true ⟨hlz.2 q1,fun h=>q2 (ZH.1 h)⟩;have d2:(et==nz)=false:=beq_eq_false_iff_ne.2 q2;have HHR:PJ _:=hr;clear hr hlz ZH q1 q2 Rf;go_quiet (fail);go_wp2_with fail;go_meet;exact⟨by rw[HHR.out];rfl,below_drewN al _⟩
         ·have d1:decide (0<lvz)=true:=decide_eq_true (by omega);have hr:decide (st.lev e.to=0/\e.to≠n)=false:=decide_eq_false (fun h=>q1 (hlz.1 h.1));have HHR:PJ _:=hr;clear hr hlz ZH q1 Rf;go_quiet (fail);go_wp2_with fail;go_meet;exact⟨by rw[HHR.out];rfl,below_drewN al _⟩
        case rest =>
         obtain⟨rfl,Qr⟩:=hcut;have lb6:=lb5.below Qr;have B6:=ak B5 Qr;have kc:∀{y:Addr}{z:PH},w5.cell? y=OM z->wc.cell? y=OM z:=fun {y z} h=>(Qr.cell (MK w5 y h)).trans h;have y0:=kc y0;have y1:=kc y1;have y2:=kc y2;clear kc Qr lb5 B5 h46 g0 Gr5;cases hq:decide (st.lev e.to=0/\e.to≠n) with
         |false =>
          have Xg:PJ (ag=PB->B2=B/\(∀j,j<i->nG (apE st n) B (L.getD j 0))/\∀m e s d,m<k+1->(st.es x)[m]? = OM e->(st.lev e.to=0/\e.to≠n)->B (x:Int)=OM (s,d)->∃s' d',B (e.to:Int)=OM (s',d')/\val s' d'<=val s d+val e.s e.d):=fun q=>by
           obtain⟨e1,e2,e3⟩:=Ro.out q;refine⟨e1,e2,fun m e' s2 d2 hm UE hp' Rz=>?_⟩;by_cases em:m<k
           ·exact e3 m e' s2 d2 em UE hp' Rz
           ·have:m=k:=(by omega);subst this;rw[HE.out.1]at UE;cases UE;exact absurd hp' (of_decide_eq_false hq)
          clear Ro hq y0 y1 y2;go_wp2;go_roundw
          case rel=>exact⟨ag,k+1,B2,rfl,by go_num,by omega,lb6,Tz,XN,SO,Xg.out,B6⟩
          case measure=>simp[intOf];omega
         |true =>
          have hap:=of_decide_eq_true hq;obtain⟨s,d,hBn⟩:=XN.out;have Z5:=lb6.co Tf;rw[hBn]at Z5
          replace Z5:(Instr.lookup 225 (.map (OM w.heap.size)) (PE PF (x:Int)) PB).run prog wc=.ok (.agg #[PE PF s,PE PF d]) wc:=Z5
          have Ys:=Tz.out.big hBn;have TL:=Q8.out HE.out.2.1;have ok1:okC s d:=(by unfold okC;omega);have ok2:okC e.s e.d:=(by unfold okC;omega);have ok3:okC (s+e.s) (d+e.d):=(by unfold okC;omega);have Ry:=kM s d e.s e.d wc ok1 ok2;have HLE:PJ _:=lb6;have HAP:PJ (e∈apE st n x):=lq.2 ⟨HE.out.2.1,hap⟩;have HBN:=ae hBn;clear Ys TL lb6 hq hap hBn XN;go_wp2_with fail;clear Z5;refine Ry.mono ?_;rintro r w6 ⟨rfl,Qr⟩;have b7:=Qr.alloc Qr.size (PN #[PE PF (s+e.s),PE PF (d+e.d)] 53);have z7:=bz.new w6 (s+e.s) (d+e.d);have lb7:=HLE.out.below b7;have y0:=ar b7 y0;have B7:=ak B6 b7;have t126:=lb7.is hwt;have t125:=lb7.co hwt;have x0:=z7.c0;have x1:=z7.c1;have HZ7:PJ _:=z7;have HL7:PJ _:=lb7;clear Ry Qr b7 y1 y2 HLE B6 z7 lb7;go_upto_region 17 with fail
          generalize w6.alloc (PN #[PE PF (s+e.s),PE PF (d+e.d)] 53)=w7 at *;generalize w6.heap.size=Z at *;go_cut [93] from 80 to 93 (fun b wd=>b=.bool (bF B2 (e.to:Int) (s+e.s) (d+e.d))/\PI w7.heap.size w7 wd)
          case first =>
           cases hBe:B2 (e.to:Int) with
           |none =>
            have Z6:bF B2 (e.to:Int) (s+e.s) (d+e.d)=true:=(by unfold bF;rw[hBe]);rw[hBe]at t126
            replace t126:(Instr.lookup 237 (.map (OM ib)) (PE PF (e.to:Int)) PB).run prog w7=.ok (.bool PB) w7:=t126
            clear t125;go_wp2_with fail;go_meet;exact⟨by rw[Z6],al⟩
           |some c =>
            obtain⟨s',d'⟩:=c;have Ys:=Tz.out.big hBe;have ok4:okC s' d':=(by unfold okC;omega);have Xn:decide (iU (s+e.s) (d+e.d) s' d'<0)=bF B2 (e.to:Int) (s+e.s) (d+e.d):=by
             unfold bF;rw[hBe,iV _ _ _ _ ok3 ok4];exact decide_eq_decide.2 (mQ _ _)
            rw[hBe]at t126 t125
            replace t126:(Instr.lookup 237 (.map (OM ib)) (PE PF (e.to:Int)) PB).run prog w7=.ok (.bool Pm) w7:=t126
            replace t125:(Instr.lookup 225 (.map (OM w.heap.size)) (PE PF (e.to:Int)) PB).run prog w7=.ok (.agg #[PE PF s',PE PF d']) w7:=t125
            have ab9:=rz (s+e.s) (d+e.d) s' d' w7 ok3 ok4;clear Ys;go_wp2_with (first|(go_at_call 79;refine ab9.mono ?_;rintro r w8 ⟨rfl,Rn⟩));go_meet;exact⟨by rw[<- Xn],Rn⟩
          case rest =>
           obtain⟨rfl,Rn⟩:=hcut;have lb8:=HL7.out.below Rn;have z8:=HZ7.out.below Rn;have B8:=ak B7 Rn;have y0:=ar Rn y0;have x0:=z8.c0;have x1:=z8.c1;clear t126 t125 Rn HL7 HZ7 B7;cases hq:bF B2 (e.to:Int) (s+e.s) (d+e.d) with
           |false =>
            have Xg:PJ (ag=PB->B2=B/\(∀j,j<i->nG (apE st n) B (L.getD j 0))/\∀m e s d,m<k+1->(st.es x)[m]? = OM e->(st.lev e.to=0/\e.to≠n)->B (x:Int)=OM (s,d)->∃s' d',B (e.to:Int)=OM (s',d')/\val s' d'<=val s d+val e.s e.d):=fun q=>by
             obtain⟨e1,e2,e3⟩:=Ro.out q;refine⟨e1,e2,fun m e' s2 d2 hm UE hp' Rz=>?_⟩;by_cases em:m<k
             ·exact e3 m e' s2 d2 em UE hp' Rz
             ·have:m=k:=(by omega);subst this;rw[HE.out.1]at UE;cases UE;rw[<- e1,HBN.out]at Rz;cases Rz;obtain⟨s',d',j1,j2⟩:=kR hq;rw[aI]at j2;exact⟨s',d',by rw[<- e1];exact j1,j2⟩
            have XN:PJ (∃s d,B2 (x:Int)=OM (s,d)):=⟨s,d,HBN.out⟩;clear Ro x0 x1 y0 z8 hq;go_wp2;go_roundw
            case rel=>exact⟨ag,k+1,B2,rfl,by go_num,by omega,lb8,Tz,XN,SO,Xg.out,B8⟩
            case measure=>simp[intOf];omega
           |true =>
            obtain⟨r1,r2⟩:=Tz.out.low HEO.out HBN.out HAP.out hq;have VB:=ae r1;have HP2:PJ (Pm=Pm->fR 109969568169985 (aB B2 (e.to:Int) (s+e.s) (d+e.d)) 256<fR 109969568169985 B 256):=fun _=>by
             cases ag with
             |true=>have:=SO.out rfl;omega
             |false=>have:=(Ro.out rfl).1;subst this;exact r2
            have XN:PJ (∃s' d',aB B2 (e.to:Int) (s+e.s) (d+e.d) (x:Int)=OM (s',d')):=by
             by_cases ex:(x:Int)=(e.to:Int)
             ·rw[ex];exact⟨_,_,bt _ _ _ _⟩
             ·exact⟨s,d,by rw[aS _ _ _ ex];exact HBN.out⟩
            obtain⟨w9,Wz,K9,m9,m9'⟩:=lb8.put1 hwt (by omega) (by omega) (s+e.s) (d+e.d);obtain⟨Tq,ajm,XJ,ajn⟩:=Lbs.put2 lb8.nb m9 m9' hwt (by omega) (by omega);have B9:=B8.trans (K9.to_below B8.size (fun g hg=>by rw[hg];exact lb8.nb.1));have Ts:=B9.trans (XJ.to_below B9.size (fun g hg=>by rw[hg];exact lb8.nb.2.1));have y9:w9.cell? ⟨Y,0,Pk⟩=OM (PE PF (e.to:Int)):=K9.cellOf y0 (fun q=>by
             have h':=lb8.cm.cell 0;rw[<- q,y0]at h';cases h')
            clear r1 r2 SO Ro hq lb8 z8 B8 B9 K9 XJ m9 m9';go_wp2;go_roundw
            case rel=>exact⟨Pm,k+1,_,rfl,by go_num,by omega,ajn,VB.out,XN.out,HP2.out,fun q=>(by cases q),Ts⟩
            case measure=>simp[intOf];omega
       ·have ek:k=(st.es x).length:=(by omega);subst ek;have HRX:PJ (ag=PB->B2=B/\∀j,j<i+1->nG (apE st n) B (L.getD j 0)):=fun q=>by
         obtain⟨e1,e2,e3⟩:=Ro.out q;refine⟨e1,fun j hj=>?_⟩;by_cases ej:j<i
         ·exact e2 j ej
         ·have:j=i:=(by omega);subst this;rw[HNI.out.1];exact IZ e3
        clear Ro Gr PT p0;go_wp2;go_roundw
        case rel=>exact⟨ag,i+1,B2,rfl,by go_num,by omega,lb2,Tz,SO,HRX.out,hB⟩
        case measure=>simp[intOf];omega
    ·have ei:i=L.length:=(by omega);subst ei;go_wp2;go_roundg (fR 109969568169985 B1 256+(if ag then 1 else 0))
     case measure =>
      have h1:=HGK.out;cases ag with
      |true=>have h2:=SO.out rfl;simp at h1 ⊢;omega
      |false=>have h2:=(Ro.out rfl).1;subst h2;simp at h1 ⊢;omega
     case rel =>
      exact⟨ag,B1,rfl,rfl,lb1,Tz,fun q=>IY (Ro.out q),hB⟩
  |false =>
   have ajo:PJ (Apt L st n o B):=⟨Tz.out,Yq.out rfl⟩;clear Yq Tz HGK;go_wp2;go_ret2;exact⟨_,_,B,rfl,lb0,ajo.out,hB⟩
end
section
open Go.RowKit
section
variable {w w' : PG} {m : Nat} {A : Option Addr}
theorem dG.map {l:List LE}(h:dG w A l)(K:ai (fun k=>k=m) w w')(hm:∀o,w.cell? ⟨m,o,Pk⟩=Pk):dG w' A l:=fun i e hi=>by
 obtain⟨b,o,e0,h1,h2,h3,h4⟩:=h i e hi;have hb:¬b=m:=fun q=>by rw[q,hm]at h1;cases h1
 exact⟨b,o,e0,K.cellOf h1 hb,K.cellOf h2 hb,K.cellOf h3 hb,K.cellOf h4 hb⟩
theorem bu.map {xs:Nat->Int}(h:bu w A n xs)(K:ai (fun k=>k=m) w w')(hm:∀o,w.cell? ⟨m,o,Pk⟩=Pk):bu w' A n xs:=fun i hi=>by
 obtain⟨b,o,e0,h0,h1⟩:=h i hi;have hb:¬b=m:=fun q=>by rw[q,hm]at h1;cases h1
 exact⟨b,o,e0,MN h0 K.size,K.cellOf h1 hb⟩
end
def nzF (nr:Nat->Bool):Int->Option Value:=fun i=>if 0<=i/\nr i.toNat=Pm then OM (.bool Pm) else Pk
theorem I0 (nr:Nat->Bool)(m:Nat):bL (nzF nr) (m:Int) (.bool Pm)=nzF (fun k=>nr k || m==k):=by
 funext i
 unfold bL nzF;by_cases e:i=(m:Int)
 ·subst e;rw[if_pos rfl,if_pos ⟨by omega,by rw[ML];simp⟩]
 ·rw[if_neg e];by_cases h0:0<=i
  ·have PW:(m==i.toNat)=false:=by
    rw[beq_eq_false_iff_ne];omega
   show _=if 0<=i/\(nr i.toNat || m==i.toNat)=Pm then _ else _
   rw[PW,Bool.or_false]
  ·rw[if_neg (fun q=>h0 q.1),if_neg (fun q=>h0 q.1)]
theorem FO:nzF (fun _=>PB)=fun _=>none:=by
 funext i
 unfold nzF;rw[if_neg (fun q=>by cases q.2)]
structure RRS (w wr:PG) (lb vb eb nb t:Nat) (L:List Nat) (A:Option Addr) (st:LSt) (f:Int->Option PH) (nr:Nat->Bool):Prop where
 lv:RLv wr lb vb eb t L st f
 nm:gN wr nb (nzF nr)
 row:bu wr A L.length (fun i=>(L.getD i 0:Nat))
 ne:nb≠vb/\nb≠eb/\nb≠lb
 hn:w.heap.size<=nb
 kp:ai (fun k=>k=vb\/k=eb) w wr
 nl:∀n,nr n=Pm->n∈L
section
variable {w wr wq : PG} {lb vb eb nb t : Nat} {L : List Nat} {A : Option Addr} {st : LSt} {f : Int → Option PH} {nr : Nat → Bool}
theorem RRS.below (R:RRS w wr lb vb eb nb t L A st f nr)(hb:PI wr.heap.size wr wq):RRS w wq lb vb eb nb t L A st f nr :=
 ⟨R.lv.below hb,R.nm.below hb,R.row.below hb,R.ne,R.hn,R.kp.below hb,R.nl⟩
theorem RRS.skip (R:RRS w wr lb vb eb nb t L A st f nr){n:Nat}(hn:n∈L):(Instr.lookup 237 (.map (OM nb)) (PE PF (n:Int)) PB).run prog wr=.ok (.bool (nr n)) wr:=by
 have hw:=aC (a:=(n:Int)) (by omega) (by have:=R.lv.bd n hn;omega);cases h:nr n with
 |true=>exact R.nm.mp.look_some aY Tryz.underBb (ux _) hw (v:=.bool Pm) (by unfold nzF;rw[ML,if_pos ⟨by omega,h⟩]) PB
 |false=>exact R.nm.mp.look_none aY Tryz.underBb (ux _) hw (by unfold nzF;rw[ML,if_neg (fun q=>by rw[h]at q;cases q.2)]) PB
theorem RRS.near (R:RRS w wr lb vb eb nb t L A st f nr){m:Nat}(hm:m∈L):∃w1,(Instr.mapUpdate 237 (.map (OM nb)) (PE PF (m:Int)) (.bool Pm)).run prog wr=.ok () w1/\ai (fun k=>k=nb) wr w1/\RRS w w1 lb vb eb nb t L A st f (fun k=>nr k || m==k):=by
 have hb:=R.lv.bd m hm;obtain⟨w1,h1,K,M⟩:=R.nm.store Tryz.underBb (a:=(m:Int)) (by omega) (by omega) (.bool Pm);rw[I0]at M;have hc:=fun o=>R.nm.mp.cell o;refine⟨w1,h1,K,R.lv.keep K (fun h=>R.ne.2.2 h.symm) (fun h=>R.ne.1 h.symm) (fun h=>R.ne.2.1 h.symm) (R.lv.off hc),M,R.row.map K hc,R.ne,R.hn,R.kp.trans K (fun i hi e=>by have:=R.hn;omega),fun n Sn=>?_⟩;rcases Bool.or_eq_true_iff.1 Sn with h|h
 ·exact R.nl n h
 ·rw[<- beq_iff_eq.1 h];exact hm
theorem RRS.level (R:RRS w wr lb vb eb nb t L A st f nr){n:Nat}(hn:n∈L)(ht:0<t):∃w1,(Instr.mapUpdate 129 (.map (OM vb)) (PE PF (n:Int)) (PE PF (t:Int))).run prog wr=.ok () w1/\ai (fun k=>k=vb) wr w1/\RRS w w1 lb vb eb nb t L A ⟨fun k=>if k=n then t else st.lev k,st.es⟩ f nr:=by
 have hb:=R.lv.bd n hn;obtain⟨w1,h1,K,M⟩:=R.lv.lv.store Tryz.underV (a:=(n:Int)) (by omega) (by omega) (PE PF (t:Int));rw[BC hn ht]at M;have hc:=fun o=>R.lv.lv.mp.cell o;have hl:lb≠vb:=R.lv.nes.1;refine⟨w1,h1,K,⟨K.cellOf R.lv.c0 hl,K.cellOf R.lv.c1 hl,K.cellOf R.lv.c2 hl,(K.frozen (p:=⟨lb,2,Pk⟩) R.lv.lts.1 hl).trans R.lv.fz,M,R.lv.em.keep K (fun h=>R.lv.ne h.symm),fun x hx=>?_,R.lv.no,R.lv.ne,R.lv.bd⟩,R.nm.keep K R.ne.1,R.row.map K hc,R.ne,R.hn,R.kp.trans K (fun i hi e=>MG e),R.nl⟩;obtain⟨A',cap',e1,e2⟩:=R.lv.yes x hx;exact⟨A',cap',e1,e2.map K hc⟩
theorem RRS.edge (R:RRS w wr lb vb eb nb t L A st f nr){a cap':Nat}{A':Option Addr}{l:List LE}(ha:a∈L)(hl:dG wr A' l):∃w1,(Instr.mapUpdate 123 (.map (OM eb)) (PE PF (a:Int)) (.slice A' l.length cap')).run prog wr=.ok () w1/\ai (fun k=>k=eb) wr w1/\RRS w w1 lb vb eb nb t L A ⟨st.lev,fJ st.es a l⟩ (bL f (a:Int) (.slice A' l.length cap')) nr:=by
 have hb:=R.lv.bd a ha;obtain⟨w1,h1,K,M⟩:=R.lv.em.store Tryz.underM (a:=(a:Int)) (by omega) (by omega) (.slice A' l.length cap');have hc:=fun o=>R.lv.em.mp.cell o;have Xk:lb≠eb:=R.lv.nes.2;refine⟨w1,h1,K,⟨K.cellOf R.lv.c0 Xk,K.cellOf R.lv.c1 Xk,K.cellOf R.lv.c2 Xk,(K.frozen (p:=⟨lb,2,Pk⟩) R.lv.lts.1 Xk).trans R.lv.fz,R.lv.lv.keep K R.lv.ne,M,fun x hx=>?_,fun c Rj=>?_,R.lv.ne,R.lv.bd⟩,R.nm.keep K R.ne.2.1,R.row.map K hc,R.ne,R.hn,R.kp.trans K (fun i hi e=>MF e),R.nl⟩
 ·show ∃A2 cap2,bL f (a:Int) (.slice A' l.length cap') (x:Int)=OM (.slice A2 (fJ st.es a l x).length cap2)/\dG w1 A2 (fJ st.es a l x);unfold fJ;by_cases e:x=a
  ·subst e;rw[if_pos rfl];exact⟨A',cap',ck _ _ _,hl.map K hc⟩
  ·rw[if_neg e,cT _ _ (by omega)];obtain⟨A2,cap2,e1,e2⟩:=R.lv.yes x hx;exact⟨A2,cap2,e1,e2.map K hc⟩
 ·have PW:c≠(a:Int):=fun e=>Rj (by subst e;exact⟨by omega,by rw[ML];exact ha⟩);rw[cT _ _ PW];exact R.lv.no c Rj
theorem RRS.start (G:RLv w lb vb eb t L st f)(hr:bu w A L.length (fun i=>(L.getD i 0:Nat))):RRS w (w.alloc (.map #[] 0)) lb vb eb w.heap.size t L A st f (fun _=>PB):=by
 have b:=aQ w (.map #[] 0);have hl:=G.lts;refine⟨G.below b,?_,hr.below b,⟨by omega,by omega,by omega⟩,aj,ai.of_below b,fun n h=>by cases h⟩;rw[FO];exact gN.made w
end
end
section
open Go.RowKit Go.Maps
theorem LI {m:Nat}{a1 a2 a3 a4 a5 a6:Addr}{v1 v2 v3 v4 v5 v6:PH}(K:ai (fun k=>k=m) w w')(hm:∀o,w.cell? ⟨m,o,Pk⟩=Pk)(h:w.cell? a1=OM v1/\w.cell? a2=OM v2/\w.cell? a3=OM v3/\w.cell? a4=OM v4/\w.cell? a5=OM v5/\w.cell? a6=OM v6) :
  w'.cell? a1=OM v1/\w'.cell? a2=OM v2/\w'.cell? a3=OM v3/\w'.cell? a4=OM v4/\w'.cell? a5=OM v5/\w'.cell? a6=OM v6:=by
 have kk:∀{a:Addr}{v:PH},w.cell? a=OM v->w'.cell? a=OM v:=fun {a v} q=>K.cellOf q (fun e=>by
  obtain⟨b,o,s⟩:=a;have hs:=World.cell?_spot q;simp only at hs e;subst hs e;rw[hm]at q;cases q)
 exact⟨kk h.1,kk h.2.1,kk h.2.2.1,kk h.2.2.2.1,kk h.2.2.2.2.1,kk h.2.2.2.2.2⟩
theorem zy {t capN:Nat}{st:LSt}{K:Int}(w:PG)(G:RLv w lb vb eb t L st f)(PT:bu w A L.length (fun i=>(L.getD i 0:Nat)))(T8:L.length<=256)(hA:All L t K st (fun _=>PB))(Z7:0<=K)(hK:K<=256)(ht:0<t) :
  PK prog 106 #[.pointer (OM ⟨lb,0,Pk⟩),.slice A L.length capN] w fun e w'=>∃PQ Qx got f',e=PM (.bool got)/\Rnd t L st (fun _=>PB) PQ Qx got/\RLv w' lb vb eb t L PQ f'/\bu w' A L.length (fun i=>(L.getD i 0:Nat))/\ai (fun k=>k=vb\/k=eb) w w':=by
 have WV:=@run_makeMap prog;have RS0:=RRS.start G PT;have Q8:PJ (∀n∈L,n<256):=G.bd;obtain⟨i67,afb,P0,P3,Qd⟩:=info_parts Tryz.infoE;obtain⟨i3,hi3,Xh,XT,hy2⟩:=info_parts Tryz.info3;go_enter func106,ntmps106;go_wp2;clear WV G PT;go_loopw [5,7] (fun gv iv wr=>∃(i:Nat) (PQ:LSt) (nr:Nat->Bool) (f':Int->Option PH) (got:Bool),i<=L.length/\iv=PE PF i/\gv=.bool got/\RRS w wr lb vb eb w.heap.size t L A PQ f' nr/\PJ (Rnd t (L.take i) st (fun _=>PB) PQ nr got)/\PJ (All L t K PQ nr))
  (fun _ i _=>L.length-(intOf i).toNat)
 case atStart=>exact⟨0,st,fun _=>PB,f,PB,MQ _,rfl,rfl,RS0,⟨rfl,rfl,rfl⟩,hA⟩
 case round =>
  clear RS0;obtain⟨i,PQ,nr,f',got,hi,rfl,rfl,RS,HR,HA⟩:=hrel;by_cases PO:i<L.length
  ·obtain⟨ba,oa,Ux,Tk,P6⟩:=RS.row i PO;subst Ux;obtain⟨n,hn⟩:∃n,L[i]? = OM n:=⟨L[i],MJ PO⟩;have TB:L.getD i 0=n:=(by rw[MS,hn];rfl);have PU:wr.cell? ⟨ba,oa+i,Pk⟩=OM (PE PF (n:Int)):=(by rw[<- TB];exact P6);have Qw:=MZ hn;have Uh:=Q8.out n Qw;have SZ:=aC (a:=(n:Int)) (by omega) (by omega);have Sj:PJ (L.take (i+1)=L.take i++[n]):=(by rw[Nb,hn];rfl);have i1:(0:Int)<=(i:Int):=(by omega);have i2:(i:Int)<(L.length:Int):=(by omega);have c0:=RS.lv.c0;have h46:=RS.lv.look Qw;have TA:=RS.skip Qw;have Wv:=ae Qw;clear hn TB Qw P6;by_cases hsk:0<PQ.lev n\/nr n=Pm
   ·have VB:PJ (Rnd t (L.take (i+1)) st (fun _=>PB) PQ nr got):=by
     rw[Sj.out];have h1:=HR.out.snoc (n:=n) (st2:=PQ) (nr2:=nr) (g2:=PB) (MG ⟨hsk,rfl,rfl,rfl⟩);rw[Bool.or_false]at h1;exact h1
    by_cases Rf:0<PQ.lev n
    ·have hd:decide (0<(PQ.lev n:Int))=true:=decide_eq_true (by omega);clear hsk HR Rf;generalize (PQ.lev n:Int)=lz at *;go_wp2;go_roundw
     case rel=>exact⟨i+1,PQ,nr,f',got,by omega,by go_num,rfl,RS,VB.out,HA.out⟩
     case measure=>simp[intOf];omega
    ·have Sn:nr n=true:=hsk.resolve_left Rf;have hz:(PQ.lev n:Int)=0:=(by omega);rw[hz]at h46;rw[Sn]at TA;clear hsk HR Rf Sn hz;go_wp2;go_roundw
     case rel=>exact⟨i+1,PQ,nr,f',got,by omega,by go_num,rfl,RS,VB.out,HA.out⟩
     case measure=>simp[intOf];omega
   ·have hz:(PQ.lev n:Int)=0:=by
     have:¬0<PQ.lev n:=fun h=>hsk (MG h);omega
    have Sn:nr n=false:=by
     cases h:nr n with
     |false=>rfl
     |true=>exact absurd (MF h) hsk
    rw[hz]at h46;rw[Sn]at TA;have UO:=ae hsk;have O:Okl L 512 PQ:=⟨HA.out.lin.esy,HA.out.cor,fun he=>by
     obtain⟨p1,p2⟩:=HA.out.bdd.pos he;obtain⟨p3,p4⟩:=HA.out.bdd.new he;exact⟨p1,p2,by omega,by omega⟩⟩
    have HO:=ae O;obtain⟨p,hp⟩:∃p:LE->LE->Bool,∀a b,p a b=Pm↔uQ PQ n a b:=⟨fun a b=>@decide (uQ PQ n a b) (Classical.propDecidable _),fun a b=>@decide_eq_true_iff _ (Classical.propDecidable _)⟩;have HP:=ae hp;have Wb:(PQ.es n).length<=256:=O.len Q8.out n;have HRS:PJ (RRS w wr lb vb eb w.heap.size t L (OM ⟨ba,oa,Pk⟩) PQ f' nr):=RS;clear hsk hp O hz Sn;go_wp2;clear PU c0 h46 TA RS;obtain⟨W1,hW1⟩:∃W1,W1=wr:=⟨_,rfl⟩;rw[<- hW1]at HRS;go_loopw [9,10] (fun ev kv wr=>∃(k:Nat),k<=(PQ.es n).length/\kv=PE PF k/\wr.ownsRow W1.heap.size 204 4 ev (dS (fun e=>PQ.lev e.to==0) (PQ.es n) k).length (bB (dS (fun e=>PQ.lev e.to==0) (PQ.es n) k))/\PI W1.heap.size W1 wr)
     (fun _ k _=>(PQ.es n).length-(intOf k).toNat)
    case atStart=>exact⟨0,MQ _,rfl,Nj _ _ _ _,by rw[hW1];exact al⟩
    case round =>
     clear hW1;obtain⟨k,hk,rfl,hown,hB⟩:=hrel;have RS:=HRS.out.below hB;have c1:=RS.lv.c1;obtain⟨A',cap',VC,Qo⟩:=RS.lv.yes n Wv.out;have Z3:(Instr.lookup 123 (.map (OM eb)) (PE PF (n:Int)) PB).run prog wr=.ok (.slice A' (PQ.es n).length cap') wr:=RS.lv.em.mp.look_some aY Tryz.underM (j6 _) SZ VC PB;by_cases Yr:k<(PQ.es n).length
     ·as_aux_lemma =>
       obtain⟨e,he⟩:∃e,(PQ.es n)[k]? = OM e:=⟨(PQ.es n)[k],MJ Yr⟩;obtain⟨bb,oo,Z4,q0,q1,q2,q3⟩:=Qo k e he;subst Z4;have k1:(0:Int)<=(k:Int):=(by omega);have k2:(k:Int)<((PQ.es n).length:Int):=(by omega);have Xm:=(HO.out.cor.ends (MZ he)).2;have c0:=RS.lv.c0;have afd:∀m,(Instr.lookup 123 (.map (OM eb)) (PE PF (n:Int)) PB).run prog (wr.drewN m)=.ok (.slice (OM ⟨bb,oo,Pk⟩) (PQ.es n).length cap') (wr.drewN m):=fun m=>(RS.lv.below (below_drewN al m)).em.mp.look_some aY Tryz.underM (j6 _) SZ VC PB;have Yt:=fun m=>(RS.lv.below (below_drewN al m)).look Xm;have afe:(PQ.lev e.to==0)=((PQ.lev e.to:Int)==0):=by
        by_cases q:PQ.lev e.to=0
        ·rw[q];rfl
        ·rw[beq_eq_false_iff_ne.2 q,beq_eq_false_iff_ne.2 (show (PQ.lev e.to:Int)≠0 by omega)]
       have HPE:PJ _:=afe;clear afe;have Xo:PJ ((PQ.lev e.to==0)=Pm->dS (fun e=>PQ.lev e.to==0) (PQ.es n) (k+1)=dS (fun e=>PQ.lev e.to==0) (PQ.es n) k++[e]):=fun h=>tU (p:=fun e=>PQ.lev e.to==0) he h;have SW:PJ ((PQ.lev e.to==0)=PB->dS (fun e=>PQ.lev e.to==0) (PQ.es n) (k+1)=dS (fun e=>PQ.lev e.to==0) (PQ.es n) k):=fun h=>yr (p:=fun e=>PQ.lev e.to==0) he h;have ZZ:(dS (fun e=>PQ.lev e.to==0) (PQ.es n) k).length<=256:=M5 tV Wb;have Zm:PJ (leV e=[PE PF (e.to:Int),PE PF e.s,PE PF e.d,PE PF e.mid]):=rfl;clear he Xm RS VC Qo;cases WA:(PQ.lev e.to==0) with
       |false =>
        have HS:=SW.out WA;have hz:((PQ.lev e.to:Int)==0)=false:=HPE.out.symm.trans WA;clear Xo SW HPE WA;generalize (PQ.lev e.to:Int)=lz at *;go_wp2_with fail;go_quiet (fail);go_wp2;have b9:PI wr.heap.size wr (wr.drewN nq):=below_drewN al _;have aa2:=aq hown b9;rw[<- HS]at aa2;go_roundw
        case rel=>exact⟨k+1,by omega,by go_num,aa2,ak hB b9⟩
        case measure=>simp[intOf];omega
       |true =>
        have HS:PJ _:=Xo.out WA;have hz:((PQ.lev e.to:Int)==0)=true:=HPE.out.symm.trans WA;clear Xo SW HPE WA;generalize (PQ.lev e.to:Int)=lz at *;generalize dS (fun e=>PQ.lev e.to==0) (PQ.es n) k=F at *;go_wp2_with fail;go_quiet (fail);have b9:PI wr.heap.size wr (wr.drewN nq):=below_drewN al _;have T7:=aq hown b9;have B9:=ak hB b9;have q0:=ch nq q0;have q1:=ch nq q1;have q2:=ch nq q2;have q3:=ch nq q3;have c1:=ch nq c1;have ajp:=afd nq;clear hown hB b9 Z3 afd Yt c0 hz;generalize wr.drewN nq=W2 at *;generalize (e.to:Int)=et at *;generalize e.s=es at *;generalize e.d=ed at *;generalize e.mid=em at *;go_wp2_with (at_builtin;refine wpList_append_own _ rfl _ _ 126 rfl W1.heap.size 204 i67 (.agg #[PE PF 0,PE PF 0,PE PF 0,PE PF 0]) 4 32 Tryz.underE afb P0 P3 Qd rfl (by decide) _ _ _ rfl (T7.alloc _) ⟨W2.heap.size,0,Pk⟩ 1 1 [PE PF et,PE PF es,PE PF ed,PE PF em] rfl rfl (bK _ _ _ _ _ _) (by intro u hu;simp at hu;rcases hu with rfl|rfl|rfl|rfl<;>rfl) ?c3 ?c4 ?c5 ?_)
        case c3=>unfold maxLen;omega
        case c4=>have:=B9.size;omega
        case c5=>have:=B9.size;simp;omega
        intro XL W4 Qj P5 _;have Qb:=fun q hq=>(T7.lt q hq).1;have Vz:PI W1.heap.size W1 W4:=(B9.alloc B9.size _).grown P5 (by simp;have:=B9.size;omega) Qb;have Zl:W4.ownsRow W1.heap.size 204 4 XL (F++[e]).length (bB (F++[e])):=by
         rw[eU,eh,Zm.out]
         simpa using Qj
        clear Qj Qb T7 B9 q0 q1 q2 q3 c1 ajp P5;go_wp2;go_roundw
        case rel=>exact⟨k+1,by omega,by go_num,by rw[HS.out];exact Zl,Vz⟩
        case measure=>simp[intOf];omega
     ·have ek:k=(PQ.es n).length:=(by omega);subst ek;have HFE:PJ (dS (fun e=>PQ.lev e.to==0) (PQ.es n) (PQ.es n).length=feF PQ n):=tW;rw[HFE.out]at hown;have RY:(feF PQ n).length<=256:=M5 (List.length_filter_le _ _) Wb;have Sk:PJ (∀e∈feF PQ n,e∈PQ.es n/\e.to∈L):=fun e he=>⟨(Ns.1 he).1,(HO.out.cor.ends (Ns.1 he).1).2⟩;have HFQ:PJ (∃l,feF PQ n=l):=⟨_,rfl⟩;obtain⟨l,hl⟩:=HFQ.out;have Zn:=ae hl;rw[hl]at hown RY Sk;obtain⟨A3,RD,rfl,QX,_⟩:=dY hown;have HRE:PJ (RRS w wr lb vb eb w.heap.size t L (OM ⟨ba,oa,Pk⟩) PQ f' nr):=RS;have HR3:=ae QX;clear hl HFQ HFE hown RS QX Qo VC hk hB HRS;go_wp2;clear Z3 c1 Yr;obtain⟨WE,hWE⟩:∃WE,WE=wr:=⟨_,rfl⟩;rw[<- hWE]at HRE HR3;go_loopw [11,12,13] (fun fv mv av wr=>∃(a:Nat),a<=l.length/\av=PE PF a/\wr.ownsRow WE.heap.size 3 1 fv (mTo p n l a).length (aH ((mTo p n l a).map Prod.fst))/\wr.ownsRow WE.heap.size 204 4 mv (mTo p n l a).length (bB ((mTo p n l a).map Prod.snd))/\PI WE.heap.size WE wr)
       (fun _ _ a _=>l.length-(intOf a).toNat)
      case atStart=>exact⟨0,MQ _,rfl,by rw[oq];exact Nj _ _ _ _,by rw[oq];exact Nj _ _ _ _,by rw[hWE];exact al⟩
      case round =>
       clear hWE;obtain⟨a,ha,rfl,TC,Ua,hB⟩:=hrel;by_cases UC:a<l.length
       ·obtain⟨ea,hea⟩:∃ea,l[a]? = OM ea:=⟨l[a],MJ UC⟩;have R8:=HR3.out.below hB;obtain⟨b3,o3,hA3,q0,q1,q2,q3⟩:=R8 a ea hea;subst hA3;have a1:(0:Int)<=(a:Int):=(by omega);have a2:(a:Int)<(l.length:Int):=(by omega);have Z8:=Sk.out ea (MZ hea);have RS:=HRE.out.below hB;have hap:=zx (n:=n) (o:=ea.to) (capN:=capN) wr RS.lv HO.out RS.row T8 Z8.2;have QV:PJ (mTo p n l (a+1)=mTo p n l a++dt p n ea (l.drop (a+1))):=rX hea;have hmL:=ou p n l a;have aql:a*l.length<=256*256:=Ov (by omega) RY;obtain⟨e1,e2,e3,e4⟩:=HO.out.bd Z8.1;have HEA:PJ (l[a]? = OM ea/\ea.to∈L/\0<=ea.s/\0<=ea.d/\ea.s<=512/\ea.d<=512):=⟨hea,Z8.2,e1,e2,e3,e4⟩;clear hea Z8 e1 e2 e3 e4 RS R8;go_wp2_with fail;refine hap.mono ?_;rintro r w5 ⟨cb,ib,B,rfl,LB,hAP,PV⟩;have HAP:=ae hAP;have B5:=ak hB PV;have Up:=aq TC PV;have Uq:=aq Ua PV;obtain⟨W3,hW3⟩:∃W3,W3=wr.heap.size:=⟨_,rfl⟩;rw[<- hW3]at LB;clear hap hAP hB TC Ua q0 q1 q2 q3 PV hW3;go_wp2;go_loopw [11,12,16] (fun fv mv bv wr=>∃(j:Nat),j<=(l.drop (a+1)).length/\bv=PE PF ((a:Int)+1+(j:Int))/\wr.ownsRow WE.heap.size 3 1 fv (mTo p n l a++dt p n ea ((l.drop (a+1)).take j)).length (aH ((mTo p n l a++dt p n ea ((l.drop (a+1)).take j)).map Prod.fst))/\wr.ownsRow WE.heap.size 204 4 mv (mTo p n l a++dt p n ea ((l.drop (a+1)).take j)).length (bB ((mTo p n l a++dt p n ea ((l.drop (a+1)).take j)).map Prod.snd))/\Lbs wr W3 cb ib B/\PI WE.heap.size WE wr)
         (fun _ _ b _=>l.length-(intOf b).toNat)
        case atStart =>
         have e0:mTo p n l a++dt p n ea ((l.drop (a+1)).take 0)=mTo p n l a:=(by rw[Pq];exact Nt _);refine⟨0,MQ _,by simp,?_,?_,LB,B5⟩
         ·rw[e0];exact Up
         ·rw[e0];exact Uq
        case round =>
         clear LB B5 Up Uq;obtain⟨j,hj,rfl,TC,Ua,LB,hB⟩:=hrel;have XO:(l.drop (a+1)).length=l.length-(a+1):=List.length_drop;have HDL:PJ _:=XO;by_cases Vw:a+1+j<l.length
         ·as_aux_lemma =>
           have acb:(l.drop (a+1))[j]? = l[a+1+j]? := List.getElem?_drop;obtain⟨Qi,heb⟩:∃Qi,l[a+1+j]? = OM Qi:=⟨l[a+1+j],MJ Vw⟩;rw[heb]at acb;have R8:=HR3.out.below hB;obtain⟨b3',o3',Yu,_,p1,p2,_⟩:=R8 a ea HEA.out.1;cases Yu;obtain⟨b3',o3',Yu,r0,r1,r2,_⟩:=R8 (a+1+j) Qi heb;cases Yu;have acd:=Sk.out Qi (MZ heb);obtain⟨e1,e2,e3,e4⟩:=HO.out.bd acd.1;obtain⟨_,_,g1,g2,g3,g4⟩:=HEA.out;have ok1:okC ea.s ea.d:=(by unfold okC;omega);have ok2:okC Qi.s Qi.d:=(by unfold okC;omega);have ok3:okC (ea.s+Qi.s) (ea.d+Qi.d):=(by unfold okC;omega);have XE:=Q8.out _ acd.2;have hwb:=aC (a:=(Qi.to:Int)) (by omega) (by omega);have j1:(0:Int)<=(a:Int)+1+(j:Int):=(by omega);have j2:(a:Int)+1+(j:Int)<(l.length:Int):=(by omega);have j3:((a:Int)+1+(j:Int)).toNat=a+1+j:=(by omega);have HEB:PJ (l[a+1+j]? = OM Qi/\(l.drop (a+1))[j]? = OM Qi):=⟨heb,acb⟩;have HPB:PJ (p ea Qi=bF B (Qi.to:Int) (ea.s+Qi.s) (ea.d+Qi.d)):=by
            have h:=(HP.out ea Qi).trans (HAP.out.need (b:=Qi) HEA.out.2.1);cases h1:p ea Qi with
            |true=>exact(h.1 h1).symm
            |false =>
             cases h2:bF B (Qi.to:Int) (ea.s+Qi.s) (ea.d+Qi.d) with
             |false=>rfl
             |true=>rw[h.2 h2]at h1;cases h1
           have afi:PJ (∀{c s d},B c=OM (s,d)->okC s d):=fun h=>by
            have:=HAP.out.rb.big h;unfold okC;omega
           clear heb acb R8 acd e1 e2 e3 e4 g1 g2 g3 g4 XO;go_upto_region 23 with fail
           go_cut [17] from 110 to 120 (fun pv wd=>∃T2,pv=.pointer (OM ⟨T2,0,Pk⟩)/\wr.heap.size<=T2/\bz wd T2 (ea.s+Qi.s) (ea.d+Qi.d)/\PI wr.heap.size wr wd)
           case first =>
            have b0:=cI wr;have bA:PI wr.heap.size wr (wr.drew.alloc (PN #[PE PF 0,PE PF 0] 53)):=b0.alloc b0.size _;have sA:bz (wr.drew.alloc (PN #[PE PF 0,PE PF 0] 53)) wr.heap.size 0 0:=bz.new wr.drew 0 0;have CC:PJ (∀w',PI wr.heap.size wr w'->w'.cell? ⟨b3,o3+a*4+1,Pk⟩=OM (PE PF ea.s)/\w'.cell? ⟨b3,o3+a*4+2,Pk⟩=OM (PE PF ea.d)/\w'.cell? ⟨b3,o3+(a+1+j)*4+1,Pk⟩=OM (PE PF Qi.s)/\w'.cell? ⟨b3,o3+(a+1+j)*4+2,Pk⟩=OM (PE PF Qi.d)):=fun w' h=>by
             have k:∀{a:Addr}{v:PH},wr.cell? a=OM v->w'.cell? a=OM v:=fun {a v} q=>(h.cell (MK wr a q)).trans q;exact⟨k p1,k p2,k r1,k r2⟩
            have Ry:PJ (∀w',_):=fun w'=>kM ea.s ea.d Qi.s Qi.d w' ok1 ok2;clear p1 p2 r0 r1 r2 TC Ua LB hB;go_region_held3 (fun w'=>w'.cell? ⟨b3,o3+a*4+1,Pk⟩=OM (PE PF ea.s)/\w'.cell? ⟨b3,o3+a*4+2,Pk⟩=OM (PE PF ea.d)/\w'.cell? ⟨b3,o3+(a+1+j)*4+1,Pk⟩=OM (PE PF Qi.s)/\w'.cell? ⟨b3,o3+(a+1+j)*4+2,Pk⟩=OM (PE PF Qi.d)) (first|exact CC.out _ b0|exact CC.out _ bA|exact CC.out _ b6|exact CC.out _ (b6.alloc b6.size _)|exact CC.out _ ((b6.setCell (p:=⟨wr.heap.size,0,Pk⟩) aj _).setCell (p:=⟨wr.heap.size,1,Pk⟩) aj _))
             (first|(go_at_call 78;refine(Ry.out _).mono ?_;rintro r w6 ⟨rfl,Qr⟩;first|(have b6:=ak b0 Qr)|(have b6:=ak bA Qr;have s6:=sA.below Qr;have g0:=s6.c0;have g1:=s6.c1;have g2:=s6.z0;have g3:=s6.z1)))
            all_goals
             go_wp2_with fail;go_meet
             first
              |exact⟨_,rfl,b6.size,bz.new w6 _ _,b6.alloc b6.size _⟩
              |exact⟨_,rfl,aj,s6.set _ _,(b6.setCell (p:=⟨wr.heap.size,0,Pk⟩) aj _).setCell (p:=⟨wr.heap.size,1,Pk⟩) aj _⟩
           case rest =>
            obtain⟨T2,rfl,Th,sT,PV⟩:=hcut;have LB5:=LB.below PV;have Up:=aq TC PV;have Uq:=aq Ua PV;have B5:=ak hB PV;have kc:∀{y:Addr}{z:PH},wr.cell? y=OM z->wc.cell? y=OM z:=fun {y z} h=>(PV.cell (MK wr y h)).trans h;have r0:=kc r0;have t126:=LB5.is hwb;have t125:=LB5.co hwb;have u0:=sT.c0;have u1:=sT.c1;have HNF:PJ (∀g,u11.ownBlock=OM g->g≠T2):=fun g hg=>by have:=(TC.lt g hg).2;omega
            have WC:PJ _:=sT;clear kc p1 p2 r1 r2 LB TC Ua hB PV sT;go_upto_region 25 with fail
            go_cut [137] from 126 to 137 (fun bv wd=>bv=.bool (bF B (Qi.to:Int) (ea.s+Qi.s) (ea.d+Qi.d))/\PI wc.heap.size wc wd)
            case first =>
             clear Up Uq LB5 B5 WC;cases hBe:B (Qi.to:Int) with
             |none =>
              have Z6:bF B (Qi.to:Int) (ea.s+Qi.s) (ea.d+Qi.d)=true:=(by unfold bF;rw[hBe]);rw[hBe]at t126
              replace t126:(Instr.lookup 237 (.map (OM ib)) (PE PF (Qi.to:Int)) PB).run prog wc=.ok (.bool PB) wc:=t126
              clear t125;go_wp2_with fail;go_meet;exact⟨by rw[Z6],al⟩
             |some c =>
              obtain⟨s',d'⟩:=c;have ok4:okC s' d':=afi.out hBe;have Xn:decide (iU (ea.s+Qi.s) (ea.d+Qi.d) s' d'<0)=bF B (Qi.to:Int) (ea.s+Qi.s) (ea.d+Qi.d):=by
               unfold bF;rw[hBe,iV _ _ _ _ ok3 ok4];exact decide_eq_decide.2 (mQ _ _)
              rw[hBe]at t126 t125
              replace t126:(Instr.lookup 237 (.map (OM ib)) (PE PF (Qi.to:Int)) PB).run prog wc=.ok (.bool Pm) wc:=t126
              replace t125:(Instr.lookup 225 (.map (OM cb)) (PE PF (Qi.to:Int)) PB).run prog wc=.ok (.agg #[PE PF s',PE PF d']) wc:=t125
              have ab9:=rz (ea.s+Qi.s) (ea.d+Qi.d) s' d' wc ok3 ok4;go_wp2_with (first|(go_at_call 79;refine ab9.mono ?_;rintro r w8 ⟨rfl,Rn⟩));go_meet;exact⟨by rw[<- Xn],Rn⟩
            case rest =>
             obtain⟨rfl,Rn⟩:=hcut;have LB8:=LB5.below Rn;have TD:=aq Up Rn;have WD:=aq Uq Rn;have B8:=ak B5 Rn;have S8:=WC.out.below Rn;clear t126 t125 u0 u1 r0 LB5 Up Uq B5 WC Rn;cases hq:bF B (Qi.to:Int) (ea.s+Qi.s) (ea.d+Qi.d) with
             |false =>
              have HS:PJ (dt p n ea ((l.drop (a+1)).take (j+1))=dt p n ea ((l.drop (a+1)).take j)):=Cn HEB.out.2 (HPB.out.trans hq);clear hq;go_wp2;go_roundw
              case rel=>exact⟨j+1,by have:=HDL.out;omega,by push_cast;rw[Nx],by rw[HS.out];exact TD,by rw[HS.out];exact WD,LB8,B8⟩
              case measure=>simp[intOf];omega
             |true =>
              have HEQ:PJ (mTo p n l a++dt p n ea ((l.drop (a+1)).take (j+1))=(mTo p n l a++dt p n ea ((l.drop (a+1)).take j))++[(ea.to,⟨Qi.to,ea.s+Qi.s,ea.d+Qi.d,(n:Int)⟩)]):=by
               unfold PJ;rw[yw HEB.out.2 (HPB.out.trans hq),Nq]
              have ZW:(mTo p n l a++dt p n ea ((l.drop (a+1)).take j)).length<=100000:=by
               have h1:=rY p n ea ((l.drop (a+1)).take j);rw[MY]at h1;rw[MM];have:=HDL.out;omega
              obtain⟨b3',o3',Yu,p0,_⟩:=(HR3.out.below B8) a ea HEA.out.1;cases Yu;have HXV:PJ (leV ⟨Qi.to,ea.s+Qi.s,ea.d+Qi.d,(n:Int)⟩=[PE PF (Qi.to:Int),PE PF (ea.s+Qi.s),PE PF (ea.d+Qi.d),PE PF (n:Int)]):=rfl;clear hq HPB;generalize mTo p n l a++dt p n ea ((l.drop (a+1)).take j)=F at *;go_wp2_with (at_builtin;refine wpList_append_own _ rfl _ _ 51 rfl WE.heap.size 3 i3 (PE PF 0) 1 8 underlying51 hi3 Xh XT hy2 rfl (by decide) _ _ _ rfl (TD.alloc _) ⟨wc.heap.size,0,Pk⟩ 1 1 [PE PF (ea.to:Int)] rfl rfl ?c1 ?c2 ?c3 ?c4 ?c5 ?_)
              case c1 =>
               intro j u hj
               match j,hj with
               |0,hj =>
                simp at hj;subst hj;simp only[Addr.add];exact ME (w:=wc) #[PE PF (ea.to:Int)] 3 wc.heap.size 0 rfl
              case c2=>intro u hu;simp at hu;subst hu;rfl
              case c3=>unfold maxLen;omega
              case c4=>have:=B8.size;omega
              case c5=>have:=B8.size;simp;omega
              intro XL W4 Qj P5 _;have Qb:=fun q hq=>(TD.lt q hq).1;have Vz:PI WE.heap.size WE W4:=(B8.alloc B8.size _).grown P5 (by simp;have:=B8.size;omega) Qb;have bW4:=aQ wc (PN #[PE PF (ea.to:Int)] 3);have afl:=lO WD TD (by decide);have Ur:=(aq WD bW4).kept P5 (by
               cases h:u12.ownBlock with
               |none=>exact MG rfl
               |some g=>exact MF (afl g h))
              have KW4:ai (fun k=>u11.ownBlock=OM k) wc W4:=((ai.refl _ wc).alloc _).grown P5 (fun k hk _=>hk);have LB9:=LB8.keep KW4 (fun h=>bJ TD LB8.cm _ h rfl) (fun h=>bJ TD LB8.im _ h rfl);have S9:=S8.keep KW4 (fun h=>HNF.out T2 h rfl);have OF4:W4.ownsRow WE.heap.size 3 1 XL (F++[(ea.to,(⟨Qi.to,ea.s+Qi.s,ea.d+Qi.d,(n:Int)⟩:LE))]).length (aH ((F++[(ea.to,(⟨Qi.to,ea.s+Qi.s,ea.d+Qi.d,(n:Int)⟩:LE))]).map Prod.fst)):=by simpa [aH]using Qj
              have u0:=S9.c0;have u1:=S9.c1;clear Qj P5 Qb bW4 KW4 afl TD WD LB8 S8 B8 p0;go_wp2_with (at_builtin;refine wpList_append_own _ rfl _ _ 126 rfl WE.heap.size 204 i67 (.agg #[PE PF 0,PE PF 0,PE PF 0,PE PF 0]) 4 32 Tryz.underE afb P0 P3 Qd rfl (by decide) _ _ _ rfl (Ur.alloc _) ⟨W4.heap.size,0,Pk⟩ 1 1 [PE PF (Qi.to:Int),PE PF (ea.s+Qi.s),PE PF (ea.d+Qi.d),PE PF (n:Int)] rfl rfl (bK _ _ _ _ _ _) (by intro u hu;simp at hu;rcases hu with rfl|rfl|rfl|rfl<;>rfl) ?c3 ?c4 ?c5 ?_)
              case c3=>unfold maxLen;omega
              case c4=>have:=Vz.size;omega
              case c5=>have:=Vz.size;simp;omega
              intro vW5 W5 Yv Ta _;have WG:=fun q hq=>(Ur.lt q hq).1;have BW5:PI WE.heap.size WE W5:=(Vz.alloc Vz.size _).grown Ta (by simp;have:=Vz.size;omega) WG;have OW5:W5.ownsRow WE.heap.size 204 4 vW5 (F.map Prod.snd++[(⟨Qi.to,ea.s+Qi.s,ea.d+Qi.d,(n:Int)⟩:LE)]).length (bB (F.map Prod.snd++[(⟨Qi.to,ea.s+Qi.s,ea.d+Qi.d,(n:Int)⟩:LE)])):=by
               rw[eU,eh,HXV.out]
               simpa using Yv
              clear Yv WG;have afm:=lO OF4 Ur (by decide);have bW5:=aQ W4 (PN #[PE PF (Qi.to:Int),PE PF (ea.s+Qi.s),PE PF (ea.d+Qi.d),PE PF (n:Int)] 204);have OF5:=(aq OF4 bW5).kept Ta (by
               cases h:XL.ownBlock with
               |none=>exact MG rfl
               |some g=>exact MF (afm g h))
              have KW5:ai (fun k=>u12.ownBlock=OM k) W4 W5:=((ai.refl _ W4).alloc _).grown Ta (fun k hk _=>hk);have ajv:=LB9.keep KW5 (fun h=>bJ Ur LB9.cm _ h rfl) (fun h=>bJ Ur LB9.im _ h rfl);have OM5:W5.ownsRow WE.heap.size 204 4 vW5 (F++[(ea.to,(⟨Qi.to,ea.s+Qi.s,ea.d+Qi.d,(n:Int)⟩:LE))]).length (bB ((F++[(ea.to,(⟨Qi.to,ea.s+Qi.s,ea.d+Qi.d,(n:Int)⟩:LE))]).map Prod.snd)):=by
               rw[List.map_append]
               simpa using OW5
              clear u0 u1 afm bW5 KW5 Ta OW5 OF4 Ur LB9 S9 Vz;go_wp2;go_roundw
              case rel=>exact⟨j+1,by have:=HDL.out;omega,by push_cast;rw[Nx],by rw[HEQ.out];exact OF5,by rw[HEQ.out];exact OM5,ajv,BW5⟩
              case measure=>simp[intOf];omega
         ·have ej:j=(l.drop (a+1)).length:=(by rw[XO]at hj ⊢;omega);have e0:mTo p n l a++dt p n ea ((l.drop (a+1)).take j)=mTo p n l (a+1):=(by rw[ej,M9,QV.out]);rw[e0]at TC Ua;have Ql:¬((a:Int)+1+(j:Int))<(l.length:Int):=(by omega);clear XO e0 ej;go_wp2;go_roundw
          case rel=>exact⟨a+1,by omega,by go_num,TC,Ua,hB⟩
          case measure=>simp[intOf];omega
       ·as_aux_lemma =>
         have ea':a=l.length:=(by omega);subst ea';have HQ:PJ (mTo p n l l.length=cq p n (feF PQ n)):=(by unfold PJ;rw[Zn.out];exact ot p n l);have hQl:(mTo p n l l.length).length<=65536:=M5 (ou p n l l.length) (Ov RY RY);have HE:PJ (∀x∈mTo p n l l.length,x.1∈L/\x.2.to∈L/\x.2.mid=(n:Int)):=fun x hx=>by
          rw[ot]at hx;obtain⟨⟨a,ha1,ha2⟩,⟨b,hb1,hb2⟩,hm⟩:=mM hx;exact⟨by rw[ha2];exact(Sk.out a ha1).2,by rw[hb2];exact(Sk.out b hb1).2,hm⟩
         have RS:=HRE.out.below hB;have QX:=HR3.out.below hB;generalize mTo p n l l.length=Q at *;obtain⟨AF,aqt,hvF,R9⟩:=iw (l:=Q.map Prod.fst) (by rw[NP];exact TC);obtain⟨AM,TE,hvM,Sr,_⟩:=dY (l:=Q.map Prod.snd) (by rw[NP];exact Ua);rw[NP]at hvF hvM R9;subst hvF hvM;clear TC Ua hB HRE HR3 ha UC;by_cases Vx:l.length<Q.length
         ·have acf:(l.length:Int)<(Q.length:Int):=(by omega);have VB:PJ (Rnd t (L.take (i+1)) st (fun _=>PB) PQ nr got):=by
           rw[Sj.out];have h1:=HR.out.snoc (n:=n) (st2:=PQ) (nr2:=nr) (g2:=PB) (MF ⟨UO.out,p,HP.out,MG ⟨by rw[<- HQ.out,Zn.out];exact Vx,rfl,rfl,rfl⟩⟩);rw[Bool.or_false]at h1;exact h1
          clear HR Sj UO HP HE HQ Zn Sk QX R9 Sr;go_wp2;go_roundw
          case rel=>exact⟨i+1,PQ,nr,f',got,by omega,by go_num,rfl,RS,VB.out,HA.out⟩
          case measure=>simp[intOf];omega
         ·have acf:¬(l.length:Int)<(Q.length:Int):=(by omega);have HTO:PJ (∀e∈l,e.to∈L):=fun e he=>(Sk.out e he).2;have HLO:PJ (iR L PQ.es):=fun a=>⟨HO.out.esy.ord a,fun e he=>(HO.out.cor.ends he).2⟩;clear Sk;go_wp2;go_loopw [19] (fun kv wr=>∃(k:Nat),k<=l.length/\kv=PE PF k/\RRS w wr lb vb eb w.heap.size t L (OM ⟨ba,oa,Pk⟩) PQ f' (fun x=>nr x || (l.take k).any (fun e=>e.to==x))/\dG wr A3 l/\bu wr AF Q.length (fun i=>((Q.map Prod.fst).getD i 0:Nat))/\dG wr AM (Q.map Prod.snd))
           (fun k _=>l.length-(intOf k).toNat)
          case atStart =>
           refine⟨0,MQ _,rfl,?_,QX,R9,Sr⟩;have e:(fun x=>nr x || (l.take 0).any (fun e=>e.to==x))=nr:=by
            funext x
            simp
           rw[e];exact RS
          case round =>
           clear RS QX R9 Sr;obtain⟨k,hk,rfl,RS,QX,R9,Sr⟩:=hrel;by_cases Yr:k<l.length
           ·obtain⟨e,he⟩:∃e,l[k]? = OM e:=⟨l[k],MJ Yr⟩;obtain⟨b3,o3,rfl,q0,_⟩:=QX k e he;have Xm:=HTO.out e (MZ he);have k1:(0:Int)<=(k:Int):=(by omega);have k2:(k:Int)<(l.length:Int):=(by omega);obtain⟨w8,Sa,K8,VE⟩:=RS.near Xm;have hc:=fun o=>RS.nm.mp.cell o;have Z9:=QX.map K8 hc;have WH:=R9.map K8 hc;have WI:=Sr.map K8 hc;have HNR:PJ ((fun x=>(nr x || (l.take k).any (fun e=>e.to==x)) || e.to==x)=fun x=>nr x || (l.take (k+1)).any (fun e=>e.to==x)):=by
             unfold PJ
             funext x
             rw[Nb,he,List.any_append,Bool.or_assoc];simp
            clear RS QX R9 Sr hc K8 he Xm;go_wp2;go_roundw
            case rel=>exact⟨k+1,by omega,by go_num,by rw[<- HNR.out];exact VE,Z9,WH,WI⟩
            case measure=>simp[intOf];omega
           ·have ek:k=l.length:=(by omega);subst ek;rw[M9]at RS;have bD:=cI wr;have UP:=RS.below bD;have aa4:=R9.below bD;have aa5:=Sr.below bD;have c0:=UP.lv.c0;have c2:=UP.lv.c2;obtain⟨w8,Sa,K8,VE⟩:=UP.level Wv.out ht;have hc:=fun o=>UP.lv.lv.mp.cell o;have WH:=aa4.map K8 hc;have WI:=aa5.map K8 hc;have ZK:lb≠vb:=UP.lv.nes.1;have d0:=K8.cellOf c0 ZK;have d2:=K8.cellOf c2 ZK;clear RS QX R9 Sr hc K8 UP aa4 aa5 bD ZK hk Yr;go_upto_region 34 with fail
            go_region;clear Sa c0 c2 d0 d2;go_wp2;go_loopw [20] (fun kv wr=>∃(k:Nat) (f2:Int->Option PH),k<=Q.length/\kv=PE PF k/\RRS w wr lb vb eb w.heap.size t L (OM ⟨ba,oa,Pk⟩) ⟨fun x=>if x=n then t else PQ.lev x,cf PQ.es (Q.take k)⟩ f2 (fun x=>nr x || l.any (fun e=>e.to==x))/\bu wr AF Q.length (fun i=>((Q.map Prod.fst).getD i 0:Nat))/\dG wr AM (Q.map Prod.snd)/\PJ (iR L (cf PQ.es (Q.take k))))
             (fun k _=>Q.length-(intOf k).toNat)
            case atStart=>exact⟨0,f',MQ _,rfl,VE,WH,WI,HLO⟩
            case round =>
             clear VE WH WI;obtain⟨k,f2,hk,rfl,RS,R9,Sr,Zo⟩:=hrel;by_cases Yr:k<Q.length
             ·as_aux_lemma =>
               obtain⟨x,hx⟩:∃x,Q[k]? = OM x:=⟨Q[k],MJ Yr⟩;obtain⟨h1L,h2L,Wc⟩:=HE.out x (MZ hx);have T9:(Q.map Prod.fst).getD k 0=x.1:=(by rw[MS,NF,hx];rfl);have Vt:(Q.map Prod.snd)[k]? = OM x.2:=(by rw[NF,hx];rfl);obtain⟨bf,of,hAF,_,g0'⟩:=R9 k Yr;subst hAF;have g0:wr.cell? ⟨bf,of+k,Pk⟩=OM (PE PF (x.1:Int)):=(by rw[<- T9];exact g0');obtain⟨bm,om,hAM,m0,m1,m2,m3⟩:=Sr k x.2 Vt;subst hAM;rw[Wc]at m3;have k1:(0:Int)<=(k:Int):=(by omega);have k2:(k:Int)<(Q.length:Int):=(by omega);have QV:PJ (cf PQ.es (Q.take (k+1))=lay2 (cf PQ.es (Q.take k)) x):=pJ hx;have hx2:x.2=⟨x.2.to,x.2.s,x.2.d,(n:Int)⟩:=(by rw[<- Wc]);have HX2:PJ _:=hx2;have HXM:=ae Wc;have hb1:=Q8.out _ h1L;have hb2:=Q8.out _ h2L;have RF:=aC (a:=(x.1:Int)) (by omega) (by omega);have Vy:=aC (a:=(x.2.to:Int)) (by omega) (by omega);have b5:=aQ wr (PN #[PE PF (x.2.to:Int),PE PF x.2.s,PE PF x.2.d,PE PF (n:Int)] 204);have y0:(wr.alloc (PN #[PE PF (x.2.to:Int),PE PF x.2.s,PE PF x.2.d,PE PF (n:Int)] 204)).cell? ⟨wr.heap.size,0,Pk⟩=OM (PE PF (x.2.to:Int)):=ME _ _ _ 0 rfl;have y1:(wr.alloc (PN #[PE PF (x.2.to:Int),PE PF x.2.s,PE PF x.2.d,PE PF (n:Int)] 204)).cell? ⟨wr.heap.size,1,Pk⟩=OM (PE PF x.2.s):=ME _ _ _ 1 rfl;have y2:(wr.alloc (PN #[PE PF (x.2.to:Int),PE PF x.2.s,PE PF x.2.d,PE PF (n:Int)] 204)).cell? ⟨wr.heap.size,2,Pk⟩=OM (PE PF x.2.d):=ME _ _ _ 2 rfl;have y3:(wr.alloc (PN #[PE PF (x.2.to:Int),PE PF x.2.s,PE PF x.2.d,PE PF (n:Int)] 204)).cell? ⟨wr.heap.size,3,Pk⟩=OM (PE PF (n:Int)):=ME _ _ _ 3 rfl;have RS5:=RS.below b5;have aa6:=R9.below b5;have aa7:=Sr.below b5;have g5:=ar b5 g0;clear hx T9 Vt hx2 Wc g0' RS R9 Sr g0 b5;go_upto_region 39 with fail
               clear m0 m1 m2 m3;generalize wr.alloc (PN #[PE PF (x.2.to:Int),PE PF x.2.s,PE PF x.2.d,PE PF (n:Int)] 204)=w5 at *;generalize wr.heap.size=Y at *;have afp:PJ (∀a,(cf PQ.es (Q.take k) a).length<=256):=fun a=>Zo.out.len Q8.out a;generalize cf PQ.es (Q.take k)=E2 at *;have HR5:PJ _:=RS5;have HOF:PJ (bu w5 (OM ⟨bf,of,Pk⟩) Q.length (fun i=>((Q.map Prod.fst).getD i 0:Nat))):=aa6;have ZP:=ae aa7;clear RS5 aa6 aa7;go_cut [] from 189 to 207 (fun wd=>∃f3,RRS w wd lb vb eb w.heap.size t L (OM ⟨ba,oa,Pk⟩) ⟨fun x=>if x=n then t else PQ.lev x,fJ E2 x.1 (cV x.2 (E2 x.1))⟩ f3 (fun x=>nr x || l.any (fun e=>e.to==x))/\bu wd (OM ⟨bf,of,Pk⟩) Q.length (fun i=>((Q.map Prod.fst).getD i 0:Nat))/\dG wd (OM ⟨bm,om,Pk⟩) (Q.map Prod.snd)/\wd.cell? ⟨bf,of+k,Pk⟩=OM (PE PF (x.1:Int))/\wd.cell? ⟨Y,0,Pk⟩=OM (PE PF (x.2.to:Int))/\wd.cell? ⟨Y,1,Pk⟩=OM (PE PF x.2.s)/\wd.cell? ⟨Y,2,Pk⟩=OM (PE PF x.2.d))
               case first =>
                obtain⟨A1,Xp,T9,QR⟩:=HR5.out.lv.yes x.1 h1L;have QR:dG w5 A1 (E2 x.1):=QR;have T9:f2 (x.1:Int)=OM (.slice A1 (E2 x.1).length Xp):=T9;have b0:=cI w5;have Z3:(Instr.lookup 123 (.map (OM eb)) (PE PF (x.1:Int)) PB).run prog w5.drew=.ok (.slice A1 (E2 x.1).length Xp) w5.drew:=(HR5.out.lv.below b0).em.mp.look_some aY Tryz.underM (j6 _) RF T9 PB;have CC:PJ (∀w',PI w5.heap.size w5 w'->w'.cell? ⟨lb,1,Pk⟩=OM (.map (OM eb))/\w'.cell? ⟨bf,of+k,Pk⟩=OM (PE PF (x.1:Int))/\w'.cell? ⟨Y,0,Pk⟩=OM (PE PF (x.2.to:Int))/\w'.cell? ⟨Y,1,Pk⟩=OM (PE PF x.2.s)/\w'.cell? ⟨Y,2,Pk⟩=OM (PE PF x.2.d)/\w'.cell? ⟨Y,3,Pk⟩=OM (PE PF (n:Int))):=fun w' h=>by
                 have kk:∀{a:Addr}{v:PH},w5.cell? a=OM v->w'.cell? a=OM v:=fun {a v} q=>(h.cell (MK w5 a q)).trans q;exact⟨kk HR5.out.lv.c1,kk g5,kk y0,kk y1,kk y2,kk y3⟩
                have Xq:PJ (∀w',PI w5.heap.size w5 w'->_):=fun w' h=>wM (cap:=Xp) (x:=⟨x.2.to,x.2.s,x.2.d,(n:Int)⟩) w' (QR.below h) (Zo.out x.1).1 (afp.out x.1);clear g5 y0 y1 y2 y3 QR T9;go_region_held3 (fun w'=>w'.cell? ⟨lb,1,Pk⟩=OM (.map (OM eb))/\w'.cell? ⟨bf,of+k,Pk⟩=OM (PE PF (x.1:Int))/\w'.cell? ⟨Y,0,Pk⟩=OM (PE PF (x.2.to:Int))/\w'.cell? ⟨Y,1,Pk⟩=OM (PE PF x.2.s)/\w'.cell? ⟨Y,2,Pk⟩=OM (PE PF x.2.d)/\w'.cell? ⟨Y,3,Pk⟩=OM (PE PF (n:Int))) (first|exact CC.out _ b0|exact CC.out _ b6|exact C7)
                 (first|(go_at_call 148;refine(Xq.out _ b0).mono ?_;rintro r w6 ⟨v6,rfl,Qh,Qr⟩;obtain⟨A6,acj,rfl,SP,_⟩:=dY Qh;have b6:=ak b0 Qr;obtain⟨w7,Wy,K7,Us⟩:=(HR5.out.below b6).edge (a:=x.1) (cap':=acj) h1L SP;have C6:=CC.out _ b6;have hc7:=fun o=>(HR5.out.below b6).lv.em.mp.cell o;have C7:=LI K7 hc7 C6))
                all_goals
                 have O7:=(HOF.out.below b6).map K7 hc7;have M7:=(ZP.out.below b6).map K7 hc7;go_wp2_with fail;go_meet;refine⟨_,by rw[HX2.out];exact Us,O7,M7,C7.2.1,C7.2.2.1,C7.2.2.2.1,C7.2.2.2.2.1⟩
               case rest =>
                obtain⟨f3,Zp,aa8,aa9,g6,z0,z1,z2⟩:=hcut;have HL3:PJ (iR L (fJ E2 x.1 (cV x.2 (E2 x.1)))):=Zo.out.put h2L;have HLN:PJ (iR L (fJ (fJ E2 x.1 (cV x.2 (E2 x.1))) x.2.to (cV ⟨x.1,x.2.s,x.2.d,x.2.mid⟩ (fJ E2 x.1 (cV x.2 (E2 x.1)) x.2.to)))):=HL3.out.put h1L;have HLY:PJ (lay2 E2 x=fJ (fJ E2 x.1 (cV x.2 (E2 x.1))) x.2.to (cV ⟨x.1,x.2.s,x.2.d,x.2.mid⟩ (fJ E2 x.1 (cV x.2 (E2 x.1)) x.2.to))):=rfl;have ajx:PJ (∀a,(fJ E2 x.1 (cV x.2 (E2 x.1)) a).length<=256):=fun a=>HL3.out.len Q8.out a;generalize fJ E2 x.1 (cV x.2 (E2 x.1))=E3 at *;have HR6:PJ (RRS w wc lb vb eb w.heap.size t L (OM ⟨ba,oa,Pk⟩) ⟨fun x=>if x=n then t else PQ.lev x,E3⟩ f3 (fun x=>nr x || l.any (fun e=>e.to==x))):=Zp;have ajy:PJ (bu wc (OM ⟨bf,of,Pk⟩) Q.length (fun i=>((Q.map Prod.fst).getD i 0:Nat))):=aa8;have ajz:=ae aa9;clear Zp aa8 aa9 HR5 HOF ZP g5 y0 y1 y2 y3 Zo afp;go_upto_region 40 with fail
                have e8:fJ E3 x.2.to (cV ⟨x.1,x.2.s,x.2.d,(n:Int)⟩ (E3 x.2.to))=cf PQ.es (Q.take (k+1)):=(by rw[QV.out,HLY.out,HXM.out]);have HE8:PJ _:=e8;have HL8:PJ (iR L (cf PQ.es (Q.take (k+1)))):=by
                 rw[QV.out,HLY.out];exact HLN.out
                clear e8 HLN HLY HXM QV HX2;obtain⟨A1,Xp,T9,QR⟩:=HR6.out.lv.yes x.2.to h2L;have QR:dG wc A1 (E3 x.2.to):=QR;have T9:f3 (x.2.to:Int)=OM (.slice A1 (E3 x.2.to).length Xp):=T9;have b0:=cI wc;have Z3:(Instr.lookup 123 (.map (OM eb)) (PE PF (x.2.to:Int)) PB).run prog wc.drew=.ok (.slice A1 (E3 x.2.to).length Xp) wc.drew:=(HR6.out.lv.below b0).em.mp.look_some aY Tryz.underM (j6 _) Vy T9 PB;have CC:PJ (∀w',PI wc.heap.size wc w'->w'.cell? ⟨lb,1,Pk⟩=OM (.map (OM eb))/\w'.cell? ⟨bf,of+k,Pk⟩=OM (PE PF (x.1:Int))/\w'.cell? ⟨Y,0,Pk⟩=OM (PE PF (x.2.to:Int))/\w'.cell? ⟨Y,1,Pk⟩=OM (PE PF x.2.s)/\w'.cell? ⟨Y,2,Pk⟩=OM (PE PF x.2.d)/\w'.cell? ⟨Y,0,Pk⟩=OM (PE PF (x.2.to:Int))):=fun w' h=>by
                 have kk:∀{a:Addr}{v:PH},wc.cell? a=OM v->w'.cell? a=OM v:=fun {a v} q=>(h.cell (MK wc a q)).trans q;exact⟨kk HR6.out.lv.c1,kk g6,kk z0,kk z1,kk z2,kk z0⟩
                have Xq:PJ (∀w',PI wc.heap.size wc w'->_):=fun w' h=>wM (cap:=Xp) (x:=⟨x.1,x.2.s,x.2.d,(n:Int)⟩) w' (QR.below h) (HL3.out x.2.to).1 (ajx.out x.2.to);clear g6 z0 z1 z2 QR T9;go_region_held3 (fun w'=>w'.cell? ⟨lb,1,Pk⟩=OM (.map (OM eb))/\w'.cell? ⟨bf,of+k,Pk⟩=OM (PE PF (x.1:Int))/\w'.cell? ⟨Y,0,Pk⟩=OM (PE PF (x.2.to:Int))/\w'.cell? ⟨Y,1,Pk⟩=OM (PE PF x.2.s)/\w'.cell? ⟨Y,2,Pk⟩=OM (PE PF x.2.d)/\w'.cell? ⟨Y,0,Pk⟩=OM (PE PF (x.2.to:Int))) (first|exact CC.out _ b0|exact CC.out _ b6|exact C7)
                 (first|(go_at_call 148;refine(Xq.out _ b0).mono ?_;rintro r w6 ⟨v6,rfl,Qh,Qr⟩;obtain⟨A6,acj,rfl,SP,_⟩:=dY Qh;have b6:=ak b0 Qr;obtain⟨w7,Wy,K7,Us⟩:=(HR6.out.below b6).edge (a:=x.2.to) (cap':=acj) h2L SP;have C6:=CC.out _ b6;have hc7:=fun o=>(HR6.out.below b6).lv.em.mp.cell o;have C7:=LI K7 hc7 C6))
                all_goals
                 have O7:=(ajy.out.below b6).map K7 hc7;have M7:=(ajz.out.below b6).map K7 hc7;have VE:=Us;rw[HE8.out]at VE;go_wp2;go_roundw
                 case rel=>exact⟨k+1,_,by omega,by go_num,VE,O7,M7,HL8.out⟩
                 case measure=>simp[intOf];omega
             ·have ek:k=Q.length:=(by omega);subst ek;rw[M9]at RS;have HTU:PJ (ef t n PQ nr ⟨fun x=>if x=n then t else PQ.lev x,cf PQ.es Q⟩ (fun x=>nr x || l.any (fun e=>e.to==x)) Pm):=by
               refine MF ⟨UO.out,p,HP.out,MF ⟨by rw[<- HQ.out,Zn.out];exact Vx,by rw[<- HQ.out],by rw[Zn.out],rfl⟩⟩
              have VB:PJ (Rnd t (L.take (i+1)) st (fun _=>PB) ⟨fun x=>if x=n then t else PQ.lev x,cf PQ.es Q⟩ (fun x=>nr x || l.any (fun e=>e.to==x)) Pm):=by
               rw[Sj.out];have h1:=HR.out.snoc HTU.out;rw[Bool.or_true]at h1;exact h1
              have HA2:PJ (All L t K ⟨fun x=>if x=n then t else PQ.lev x,cf PQ.es Q⟩ (fun x=>nr x || l.any (fun e=>e.to==x))):=HA.out.turn Z7 Wv.out HTU.out;clear HTU HR HA Sj UO HP HE HQ Zn R9 Sr Zo;go_wp2;go_roundw
              case rel=>exact⟨i+1,_,_,f2,Pm,by omega,by go_num,rfl,RS,VB.out,HA2.out⟩
              case measure=>simp[intOf];omega
  ·have ei:i=L.length:=(by omega);subst ei;have HRF:PJ (Rnd t L st (fun _=>PB) PQ nr got):=by
    have h:=HR.out;rw[M9]at h;exact h
   clear HR HA;go_wp2;go_ret;exact⟨PQ,nr,got,f',rfl,HRF.out,RS.lv,RS.row,RS.kp⟩
end
section
open Go.RowKit Go.Maps
section
variable {w w' : PG} {lb vb eb top : Nat} {L : List Nat} {st : LSt} {f : Int → Option PH}
theorem RLv.level (R:RLv w lb vb eb top L st f){n:Nat}(hn:n∈L)(ht:0<top):∃w1,(Instr.mapUpdate 129 (.map (OM vb)) (PE PF (n:Int)) (PE PF (top:Int))).run prog w=.ok () w1/\ai (fun k=>k=vb) w w1/\RLv w1 lb vb eb top L ⟨fun k=>if k=n then top else st.lev k,st.es⟩ f:=by
 have hb:=R.bd n hn;obtain⟨w1,h1,K,M⟩:=R.lv.store Tryz.underV (a:=(n:Int)) (by omega) (by omega) (PE PF (top:Int));rw[BC hn ht]at M;have hc:=fun o=>R.lv.mp.cell o;have hl:lb≠vb:=R.nes.1;refine⟨w1,h1,K,K.cellOf R.c0 hl,K.cellOf R.c1 hl,K.cellOf R.c2 hl,(K.frozen (p:=⟨lb,2,Pk⟩) R.lts.1 hl).trans R.fz,M,R.em.keep K (fun h=>R.ne h.symm),fun x hx=>?_,R.no,R.ne,R.bd⟩;obtain⟨A',cap',e1,e2⟩:=R.yes x hx;exact⟨A',cap',e1,e2.map K hc⟩
theorem RLv.ends {T:Nat}{es:Nat->List LE}{lev:Nat->Nat}(R:RLv w lb vb eb top L ⟨fun x=>if x∈L.take L.length/\lev x=0 then T else lev x,es⟩ f):RLv w lb vb eb top L ⟨dr T ⟨lev,es⟩,es⟩ f:=by
 have e:lzF L (fun x=>if x∈L.take L.length/\lev x=0 then T else lev x)=lzF L (dr T ⟨lev,es⟩):=by
  funext i
  unfold lzF;by_cases h:0<=i/\i.toNat∈L
  ·have e1:(if i.toNat∈L.take L.length/\lev i.toNat=0 then T else lev i.toNat)=dr T ⟨lev,es⟩ i.toNat:=by
    unfold dr;by_cases hz:lev i.toNat=0
    ·rw[if_pos ⟨by rw[M9];exact h.2,hz⟩,if_pos hz]
    ·rw[if_neg (fun q=>hz q.2),if_neg hz]
   show (if 0<=i/\i.toNat∈L/\0<(if i.toNat∈L.take L.length/\lev i.toNat=0 then T else lev i.toNat) then OM (NB .i64 (((if i.toNat∈L.take L.length/\lev i.toNat=0 then T else lev i.toNat):Nat):Int)) else Pk)=_;rw[e1]
  ·rw[if_neg (fun q=>h ⟨q.1,q.2.1⟩),if_neg (fun q=>h ⟨q.1,q.2.1⟩)]
 have UX:gN w vb (lzF L (fun x=>if x∈L.take L.length/\lev x=0 then T else lev x)):=R.lv;rw[e]at UX;exact⟨R.c0,R.c1,R.c2,R.fz,UX,R.em,R.yes,R.no,R.ne,R.bd⟩
theorem RLv.up (R:RLv w lb vb eb top L st f)(h3:∀o,w.cell? ⟨lb,o+3,Pk⟩=Pk)(T:Nat):RLv (w.setCell ⟨lb,2,Pk⟩ (PE PF (T:Int))) lb vb eb T L st f/\ai (fun k=>k=lb) w (w.setCell ⟨lb,2,Pk⟩ (PE PF (T:Int))):=by
 have K:ai (fun k=>k=lb) w (w.setCell ⟨lb,2,Pk⟩ (PE PF (T:Int))):=(ai.refl (fun k=>k=lb) w).setCell (p:=⟨lb,2,Pk⟩) (fun _=>rfl) _;refine⟨⟨?_,?_,?_,?_,R.lv.keep K (fun h=>R.nes.1 h.symm),R.em.keep K (fun h=>R.nes.2 h.symm),fun n hn=>?_,R.no,R.ne,R.bd⟩,K⟩
 ·rw[MH _ _ _ _ (by intro e;cases e)];exact R.c0
 ·rw[MH _ _ _ _ (by intro e;cases e)];exact R.c1
 ·exact World.cell?_setCell_same _ _ _ R.c2
 ·rw[World.frozen?_setCell];exact R.fz
 ·obtain⟨A,cap,e1,e2⟩:=R.yes n hn;refine⟨A,cap,e1,fun i e hi=>?_⟩;obtain⟨b,o,e0,k1,k2,k3,k4⟩:=e2 i e hi;have PW:b≠lb:=fun q=>by
   subst q;generalize o+i*4=x at *;have h0:=R.c0;have h1:=R.c1
   match x,k1,k2,k3 with
   |0,k1,_,_=>rw[h0]at k1;cases k1
   |1,k1,_,_=>rw[h1]at k1;cases k1
   |2,_,k2,_=>rw[h3 0]at k2;cases k2
   |x+3,k1,_,_=>rw[h3 x]at k1;cases k1
  exact⟨b,o,e0,K.cellOf k1 PW,K.cellOf k2 PW,K.cellOf k3 PW,K.cellOf k4 PW⟩
end
def upF (L:List Nat) (f:Int->Option PH) (i:Nat):Int->Option Value:=fun c=>if 0<=c/\c.toNat∈L.take i then f c else Pk
theorem FP (L:List Nat)(f:Int->Option PH):upF L f 0=fun _=>none:=by
 funext c
 unfold upF;rw[if_neg (fun q=>by rw[Pq]at q;exact absurd q.2 N6)]
theorem FQ (hn:L[i]? = OM n)(hv:f (n:Int)=OM v):bL (upF L f i) (n:Int) v=upF L f (i+1):=by
 funext c
 unfold bL upF;rw[Nb,hn];by_cases e:c=(n:Int)
 ·rw[if_pos e,if_pos ⟨by omega,MT.2 (MF (by rw[e,ML];exact MU.2 rfl))⟩,e,hv]
 ·rw[if_neg e];by_cases h:0<=c/\c.toNat∈L.take i
  ·rw[if_pos h,if_pos ⟨h.1,MT.2 (MG h.2)⟩]
  ·rw[if_neg h,if_neg (fun q=>h ⟨q.1,(MT.1 q.2).resolve_right (fun k=>e (by have:=MU.1 k;omega))⟩)]
theorem I2 (h:∀c:Int,¬(0<=c/\c.toNat∈L)->f c=Pk):upF L f L.length=f:=by
 funext c
 unfold upF;rw[M9];by_cases q:0<=c/\c.toNat∈L
 ·rw[if_pos q]
 ·rw[if_neg q,h c q]
theorem FT (L:List Nat):lzF L (fun _=>0)=fun _=>none:=by
 funext i
 unfold lzF;rw[if_neg (fun q=>Nat.lt_irrefl 0 q.2.2)]
structure RHd (w:PG) (lb vb eb:Nat):Prop where
 c0:w.cell? ⟨lb,0,Pk⟩=OM (.map (OM vb))
 c1:w.cell? ⟨lb,1,Pk⟩=OM (.map (OM eb))
 c2:w.cell? ⟨lb,2,Pk⟩=OM (PE PF 1)
 fz:w.frozen? ⟨lb,2,Pk⟩=PB
 c3:∀o,w.cell? ⟨lb,o+3,Pk⟩=Pk
theorem RHd.keep {F:Nat->Prop}(h:RHd w lb vb eb)(K:ai F w w')(hn:¬F lb):RHd w' lb vb eb:=by
 have hl:=aJ h.c0;exact⟨K.cellOf h.c0 hn,K.cellOf h.c1 hn,K.cellOf h.c2 hn,(K.frozen (p:=⟨lb,2,Pk⟩) hl hn).trans h.fz,fun o=>(K.cell (p:=⟨lb,o+3,Pk⟩) hl hn).trans (h.c3 o)⟩
theorem wN {rb nk most:Nat}{es:Nat->List LE}(w:PG)(G:RGm w rb mb cap nk A L es f)(hr:L.Pairwise (·<·))(TL:∀n∈L,n<256)(T8:L.length<=256)(B:Btw L 0 16 ⟨fun _=>0,es⟩)(m1:1<=most)(m6:most<=6) :
  PK prog 60 #[.pointer (OM ⟨rb,0,Pk⟩),PE PF (most:Int)] w fun e w'=>∃lb vb eb k st f',e=PM (.pointer (OM ⟨lb,0,Pk⟩))/\Rds most L ⟨fun _=>0,es⟩ k st/\lY most L k st/\RLv w' lb vb eb (k+1) L ⟨dr (k+1) st,st.es⟩ f'/\PI w.heap.size w w':=by
 have WV:=@run_makeMap prog;obtain⟨W0,Ru⟩:∃W0,W0=((w.alloc (.map #[] 0)).alloc (.map #[] 0)).alloc (PN #[.map (OM w.heap.size),.map (OM (w.heap.size+1)),PE PF 1] 131):=⟨_,rfl⟩;have BW:PI w.heap.size w W0:=by
  rw[Ru];exact((al.alloc aj _).alloc (by simp) _).alloc (by simp;omega) _
 have H0:RHd W0 (w.heap.size+2) w.heap.size (w.heap.size+1):=by
  rw[Ru];refine⟨ME _ _ _ 0 (by simp),ME _ _ _ 1 (by simp),ME _ _ _ 2 (by simp),?_,fun o=>?_⟩
  ·rw[frozen?_alloc_cells];simp[World.frozen?]
  ·have e:((w.alloc (.map #[] 0)).alloc (.map #[] 0)).heap.size=w.heap.size+2:=(by simp);rw[<- e,MP];simp
 have M1:gN W0 w.heap.size (lzF L fun _=>0):=by
  rw[Ru,FT];exact((gN.made w).below (al.alloc aj _)).below (al.alloc aj _)
 have M2:gN W0 (w.heap.size+1) (upF L f 0):=by
  rw[Ru,FP];have h:=gN.made (w.alloc (.map #[] 0));have e:(w.alloc (.map #[] 0)).heap.size=w.heap.size+1:=by simp
  rw[e]at h;exact h.below (al.alloc aj _)
 have HG:=ae G;have HR:=ae hr;have Q8:=ae TL;have HB:=ae B;clear hr TL B;go_enter func60,ntmps60;go_wp2;rw[<- Ru];clear WV Ru G;go_loopw [6] (fun iv wr=>∃(i:Nat),i<=L.length/\iv=PE PF i/\RHd wr (w.heap.size+2) w.heap.size (w.heap.size+1)/\gN wr w.heap.size (lzF L fun _=>0)/\gN wr (w.heap.size+1) (upF L f i)/\PI w.heap.size w wr)
  (fun i _=>L.length-(intOf i).toNat)
 case atStart=>exact⟨0,MQ _,rfl,H0,M1,M2,BW⟩
 case round =>
  clear H0 M1 M2 BW;obtain⟨i,hi,rfl,H0,M1,M2,hB⟩:=hrel;have Gr:=HG.out.below hB;have p0:=Gr.p0;by_cases PO:i<L.length
  ·obtain⟨ba,oa,hA,Tk,P6⟩:=Gr.row i PO;subst hA;have i1:(0:Int)<=(i:Int):=(by omega);have i2:(i:Int)<(L.length:Int):=(by omega);obtain⟨n,hn⟩:∃n,L[i]? = OM n:=⟨L[i],MJ PO⟩;have TB:L.getD i 0=n:=(by rw[MS,hn];rfl);have PU:wr.drew.cell? ⟨ba,oa+i,Pk⟩=OM (PE PF (n:Int)):=(by rw[<- TB];exact P6);have Qw:=MZ hn;have Uh:=Q8.out n Qw;have SZ:=aC (a:=(n:Int)) (by omega) (by omega);obtain⟨A',cap',VC,_⟩:=Gr.yes n Qw;have bD:=cI wr;have Z3:(Instr.lookup 123 (.map (OM mb)) (PE PF (n:Int)) PB).run prog wr.drew=.ok (.slice A' (es n).length cap') wr.drew:=(Gr.below bD).mp.look_some aY Tryz.underM (j6 _) SZ VC PB;obtain⟨w3,Vg,K3,M3⟩:=(M2.below bD).store Tryz.underM (a:=(n:Int)) (by omega) (by omega) (.slice A' (es n).length cap');rw[FQ hn VC]at M3;have H3:=(H0.keep (F:=fun _=>False) (ai.of_below bD) id).keep K3 (by omega);have M13:=(M1.below bD).keep K3 (by omega);have B3:=(ak hB bD).trans (K3.to_below (ak hB bD).size (fun g hg=>by omega));have p0D:=bH p0;have p1D:wr.drew.cell? ⟨rb,1,Pk⟩=OM (.map (OM mb)):=Gr.p1;have c1:wr.drew.cell? ⟨w.heap.size+2,1,Pk⟩=OM (.map (OM (w.heap.size+1))):=H0.c1;clear hn TB Qw P6 Gr VC bD K3 H0 M1 M2;go_wp2_with fail;go_region;clear Z3 Vg p0D p1D c1 PU p0;go_wp2;go_roundw
   case rel=>exact⟨i+1,by omega,by go_num,H3,M13,M3,B3⟩
   case measure=>simp[intOf];omega
  ·have ei:i=L.length:=(by omega);subst ei;rw[I2 Gr.no]at M2;have V1:RLv wr (w.heap.size+2) w.heap.size (w.heap.size+1) 1 L ⟨fun _=>0,es⟩ f:=⟨H0.c0,H0.c1,H0.c2,H0.fz,M1,M2,Gr.yes,Gr.no,by omega,Q8.out⟩;have h3:=H0.c3;have Yw:PJ (Rds most L ⟨fun _=>0,es⟩ 0 ⟨fun _=>0,es⟩):=rfl;clear H0 M1 M2 Gr hi PO;go_wp2;clear p0;go_loopg [7] most (fun gj _ wq=>∃(k:Nat) (PQ:LSt) (f':Int->Option PH),gj=most-k/\k+1<=most/\RLv wq (w.heap.size+2) w.heap.size (w.heap.size+1) (k+1) L PQ f'/\PJ (∀o,wq.cell? ⟨w.heap.size+2,o+3,Pk⟩=Pk)/\PJ (Rds most L ⟨fun _=>0,es⟩ k PQ)/\PI w.heap.size w wq)
   case atStart=>exact⟨0,_,f,rfl,m1,V1,h3,Yw,hB⟩
   case round =>
    clear V1 Yw hB h3;obtain⟨k,PQ,f',QD,hk,V1,h3,XP,hB⟩:=hrel;have HGK:PJ _:=QD;clear QD;have q2:=V1.c2;by_cases PO:k+1<most
    ·have UA:(k:Int)+1<(most:Int):=(by omega);have Z7:=fo (show (0:Int)<=16 by omega) k;have XU:dbl 16 k<=256:=by
      have:k=0\/k=1\/k=2\/k=3\/k=4:=(by omega);rcases this with rfl|rfl|rfl|rfl|rfl<;>decide
     have hA:=(Btw.rds (show (0:Int)<=16 by omega) HB.out XP.out).all Z7;have Gr:=HG.out.below hB;have p0:=Gr.p0;have hrd:=zy (capN:=cap) wr V1 Gr.row T8 hA Z7 XU (Nat.succ_pos k);clear hA Gr;go_wp2_with fail;refine hrd.mono ?_;rintro e w5 ⟨st2,nr2,got,f2,rfl,Yx,V5,_,K5⟩;have B5:PI w.heap.size w w5:=hB.trans (K5.to_below hB.size (fun q hq=>by omega));have h5:∀o,w5.cell? ⟨w.heap.size+2,o+3,Pk⟩=none:=fun o=>(K5.cell (p:=⟨w.heap.size+2,o+3,Pk⟩) V1.lts.1 (fun h=>by rcases h with h|h<;>(simp at h;try omega))).trans (h3.out o);clear hrd K5 hB h3 V1 p0 q2;cases got with
     |true =>
      have UQ:PJ (Rds most L ⟨fun _=>0,es⟩ (k+1) st2):=⟨PQ,nr2,XP.out,PO,Yx⟩;have p2:=V5.c2;have pz:=V5.fz;have SN:=V5.up h5 (k+1+1);have B6:=B5.trans (SN.2.to_below B5.size (fun q e=>by omega));have h6:∀o,(w5.setCell ⟨w.heap.size+2,2,Pk⟩ (PE PF ((k+1+1:Nat):Int))).cell? ⟨w.heap.size+2,o+3,Pk⟩=none:=fun o=>by
       rw[MH _ _ _ _ (by intro e;cases e)];exact h5 o
      have aaa:=SN.1;have HUP:PJ _:=aaa;have HB6:=ae B6;have HH6:=ae h6;clear SN V5 B5 Yx XP aaa B6 h6 h5;go_wp2;go_roundg (most-(k+1))
      case measure=>have:=HGK.out;omega
      case rel=>exact⟨k+1,st2,f2,rfl,by omega,HUP.out,HH6.out,UQ,HB6.out⟩
     |false =>
      have e2:=Yx.none;subst e2;have UQ:PJ (Rds most L ⟨fun _=>0,es⟩ k st2):=XP.out;have HOV:PJ (lY most L k st2):=MF ⟨st2,nr2,Yx⟩;have V0:RLv w5 (w.heap.size+2) w.heap.size (w.heap.size+1) (k+1) L ⟨fun x=>if x∈L.take 0/\(st2).lev x=0 then k+1 else (st2).lev x,(st2).es⟩ f2:=by
       have e:(fun x=>if x∈L.take 0/\(st2).lev x=0 then k+1 else (st2).lev x)=(st2).lev:=by
        funext x
        rw[if_neg (fun q=>by rw[Pq]at q;exact absurd q.1 N6)]
       rw[e];exact V5
      have B0:PI w.heap.size w w5:=B5;clear V5 B5 Yx h5;generalize (st2)=Qn at *;generalize f2=fE at *;go_wp2;go_loopw [8] (fun iv wr=>∃(i:Nat),i<=L.length/\iv=PE PF i/\RLv wr (w.heap.size+2) w.heap.size (w.heap.size+1) (k+1) L ⟨fun x=>if x∈L.take i/\Qn.lev x=0 then k+1 else Qn.lev x,Qn.es⟩ fE/\PI w.heap.size w wr)
       (fun i _=>L.length-(intOf i).toNat)
      case atStart=>exact⟨0,MQ _,rfl,V0,B0⟩
      case round =>
       clear V0 B0;obtain⟨i,hi,rfl,V1,hB⟩:=hrel;have Gr:=HG.out.below hB;have p0:=Gr.p0;by_cases PO:i<L.length
       ·obtain⟨ba,oa,hA,Tk,P6⟩:=Gr.row i PO;subst hA;have i1:(0:Int)<=(i:Int):=(by omega);have i2:(i:Int)<(L.length:Int):=(by omega);obtain⟨n,hn⟩:∃n,L[i]? = OM n:=⟨L[i],MJ PO⟩;have TB:L.getD i 0=n:=(by rw[MS,hn];rfl);have PU:wr.cell? ⟨ba,oa+i,Pk⟩=OM (PE PF (n:Int)):=(by rw[<- TB];exact P6);have Qw:=MZ hn;have hnt:n∉L.take i:=fun hm=>by
         obtain⟨j,hj,h⟩:=Nv hm;have hji:j<i:=(by rw[MY]at hj;omega);rw[OV]at h;have h3:=NT.1 HR.out j i (by omega) PO hji;obtain⟨h4,h5⟩:=Np.1 hn;omega
        have HLV:PJ ((fun x=>if x∈L.take i/\Qn.lev x=0 then k+1 else Qn.lev x) n=Qn.lev n):=by
         show (if n∈L.take i/\Qn.lev n=0 then k+1 else Qn.lev n)=Qn.lev n;rw[if_neg (fun q=>hnt q.1)]
        have Sj:PJ (L.take (i+1)=L.take i++[n]):=(by rw[Nb,hn];rfl);have c0:=V1.c0;have Yt:∀m,(Instr.lookup 129 (.map (OM w.heap.size)) (PE PF (n:Int)) PB).run prog (wr.drewN m)=.ok (PE PF (Qn.lev n:Int)) (wr.drewN m):=fun m=>by
         have h:=(V1.below (below_drewN al m)).look Qw;have e:((fun x=>if x∈L.take i/\Qn.lev x=0 then k+1 else Qn.lev x) n:Nat)=Qn.lev n:=HLV.out;have h':(Instr.lookup 129 (.map (OM w.heap.size)) (PE PF (n:Int)) PB).run prog (wr.drewN m)=.ok (PE PF (((fun x=>if x∈L.take i/\Qn.lev x=0 then k+1 else Qn.lev x) n:Nat):Int)) (wr.drewN m):=h;rw[e]at h';exact h'
        have Wv:=ae Qw;clear hn TB P6 Qw hnt Gr;by_cases hz:Qn.lev n=0
        ·have Ug:((Qn.lev n:Int)==0)=true:=(by rw[hz];rfl);have HLQ:PJ ((fun x=>if x=n then k+1 else (fun x=>if x∈L.take i/\Qn.lev x=0 then k+1 else Qn.lev x) x)=fun x=>if x∈L.take (i+1)/\Qn.lev x=0 then k+1 else Qn.lev x):=by
          unfold PJ
          funext x
          rw[Sj.out];by_cases e:x=n
          ·rw[if_pos e,if_pos ⟨MT.2 (MF (MU.2 e)),by rw[e];exact hz⟩]
          ·rw[if_neg e];show (if x∈L.take i/\Qn.lev x=0 then k+1 else Qn.lev x)=_;by_cases h1:x∈L.take i/\Qn.lev x=0
           ·rw[if_pos h1,if_pos ⟨MT.2 (MG h1.1),h1.2⟩]
           ·rw[if_neg h1,if_neg (fun q=>h1 ⟨(MT.1 q.1).resolve_right (fun h=>e (MU.1 h)),q.2⟩)]
         generalize (Qn.lev n:Int)=lz at *;go_wp2_with fail;go_quiet (fail);have bD:PI wr.heap.size wr (wr.drewN nq):=below_drewN al _;have VD:=V1.below bD;have BD:=ak hB bD;have Vh:=ch nq PU;have p0D:=ch nq p0;clear V1 hB PU p0 c0 Yt bD Ug;generalize wr.drewN nq=W2 at *;go_wp2_with fail;have b2:=cI W2;have V2:=VD.below b2;have B2:=ak BD b2;obtain⟨w3,Vg,K3,V3⟩:=V2.level Wv.out (Nat.succ_pos k);have B3:=B2.trans (K3.to_below B2.size (fun g hg=>by omega));have Vh:=bH Vh;have p0D:=bH p0D;have c0:=V2.c0;have c2:=V2.c2;have ek:((k+1:Nat):Int)=(k:Int)+1:=(by omega);rw[ek]at Vg c2;clear VD BD b2 V2 B2 K3 ek;rw[HLQ.out]at V3;go_region;go_wp2;go_roundw
         case rel=>exact⟨i+1,by omega,by go_num,V3,B3⟩
         case measure=>simp[intOf];omega
        ·have Ug:((Qn.lev n:Int)==0)=false:=beq_eq_false_iff_ne.2 (by omega);have HLQ:PJ ((fun x=>if x∈L.take i/\Qn.lev x=0 then k+1 else Qn.lev x)=fun x=>if x∈L.take (i+1)/\Qn.lev x=0 then k+1 else Qn.lev x):=by
          unfold PJ
          funext x
          rw[Sj.out];by_cases h1:x∈L.take i/\Qn.lev x=0
          ·rw[if_pos h1,if_pos ⟨MT.2 (MG h1.1),h1.2⟩]
          ·rw[if_neg h1,if_neg (fun q=>h1 ⟨(MT.1 q.1).resolve_right (fun h=>hz (by rw[<- MU.1 h];exact q.2)),q.2⟩)]
         rw[HLQ.out]at V1;generalize (Qn.lev n:Int)=lz at *;go_wp2_with fail;go_quiet (fail);have bD:PI wr.heap.size wr (wr.drewN nq):=below_drewN al _;go_wp2;go_roundw
         case rel=>exact⟨i+1,by omega,by go_num,V1.below bD,ak hB bD⟩
         case measure=>simp[intOf];omega
       ·have ei:i=L.length:=(by omega);subst ei;have V9:=V1.ends (T:=k+1);clear V1 Gr;go_wp2;go_ret;exact⟨_,_,_,k,Qn,fE,rfl,UQ.out,HOV.out,V9,hB⟩
    ·have UA:¬(k:Int)+1<(most:Int):=(by omega);have UQ:PJ (Rds most L ⟨fun _=>0,es⟩ k PQ):=XP.out;have HOV:PJ (lY most L k PQ):=MG (by omega);have V0:RLv wr (w.heap.size+2) w.heap.size (w.heap.size+1) (k+1) L ⟨fun x=>if x∈L.take 0/\(PQ).lev x=0 then k+1 else (PQ).lev x,(PQ).es⟩ f':=by
      have e:(fun x=>if x∈L.take 0/\(PQ).lev x=0 then k+1 else (PQ).lev x)=(PQ).lev:=by
       funext x
       rw[if_neg (fun q=>by rw[Pq]at q;exact absurd q.1 N6)]
      rw[e];exact V1
     have B0:PI w.heap.size w wr:=hB;clear V1 hB h3;generalize (PQ)=Qn at *;generalize f'=fE at *;go_wp2;go_loopw [8] (fun iv wr=>∃(i:Nat),i<=L.length/\iv=PE PF i/\RLv wr (w.heap.size+2) w.heap.size (w.heap.size+1) (k+1) L ⟨fun x=>if x∈L.take i/\Qn.lev x=0 then k+1 else Qn.lev x,Qn.es⟩ fE/\PI w.heap.size w wr)
      (fun i _=>L.length-(intOf i).toNat)
     case atStart=>exact⟨0,MQ _,rfl,V0,B0⟩
     case round =>
      clear V0 B0;obtain⟨i,hi,rfl,V1,hB⟩:=hrel;have Gr:=HG.out.below hB;have p0:=Gr.p0;by_cases PO:i<L.length
      ·obtain⟨ba,oa,hA,Tk,P6⟩:=Gr.row i PO;subst hA;have i1:(0:Int)<=(i:Int):=(by omega);have i2:(i:Int)<(L.length:Int):=(by omega);obtain⟨n,hn⟩:∃n,L[i]? = OM n:=⟨L[i],MJ PO⟩;have TB:L.getD i 0=n:=(by rw[MS,hn];rfl);have PU:wr.cell? ⟨ba,oa+i,Pk⟩=OM (PE PF (n:Int)):=(by rw[<- TB];exact P6);have Qw:=MZ hn;have hnt:n∉L.take i:=fun hm=>by
        obtain⟨j,hj,h⟩:=Nv hm;have hji:j<i:=(by rw[MY]at hj;omega);rw[OV]at h;have h3:=NT.1 HR.out j i (by omega) PO hji;obtain⟨h4,h5⟩:=Np.1 hn;omega
       have HLV:PJ ((fun x=>if x∈L.take i/\Qn.lev x=0 then k+1 else Qn.lev x) n=Qn.lev n):=by
        show (if n∈L.take i/\Qn.lev n=0 then k+1 else Qn.lev n)=Qn.lev n;rw[if_neg (fun q=>hnt q.1)]
       have Sj:PJ (L.take (i+1)=L.take i++[n]):=(by rw[Nb,hn];rfl);have c0:=V1.c0;have Yt:∀m,(Instr.lookup 129 (.map (OM w.heap.size)) (PE PF (n:Int)) PB).run prog (wr.drewN m)=.ok (PE PF (Qn.lev n:Int)) (wr.drewN m):=fun m=>by
        have h:=(V1.below (below_drewN al m)).look Qw;have e:((fun x=>if x∈L.take i/\Qn.lev x=0 then k+1 else Qn.lev x) n:Nat)=Qn.lev n:=HLV.out;have h':(Instr.lookup 129 (.map (OM w.heap.size)) (PE PF (n:Int)) PB).run prog (wr.drewN m)=.ok (PE PF (((fun x=>if x∈L.take i/\Qn.lev x=0 then k+1 else Qn.lev x) n:Nat):Int)) (wr.drewN m):=h;rw[e]at h';exact h'
       have Wv:=ae Qw;clear hn TB P6 Qw hnt Gr;by_cases hz:Qn.lev n=0
       ·have Ug:((Qn.lev n:Int)==0)=true:=(by rw[hz];rfl);have HLQ:PJ ((fun x=>if x=n then k+1 else (fun x=>if x∈L.take i/\Qn.lev x=0 then k+1 else Qn.lev x) x)=fun x=>if x∈L.take (i+1)/\Qn.lev x=0 then k+1 else Qn.lev x):=by
         unfold PJ
         funext x
         rw[Sj.out];by_cases e:x=n
         ·rw[if_pos e,if_pos ⟨MT.2 (MF (MU.2 e)),by rw[e];exact hz⟩]
         ·rw[if_neg e];show (if x∈L.take i/\Qn.lev x=0 then k+1 else Qn.lev x)=_;by_cases h1:x∈L.take i/\Qn.lev x=0
          ·rw[if_pos h1,if_pos ⟨MT.2 (MG h1.1),h1.2⟩]
          ·rw[if_neg h1,if_neg (fun q=>h1 ⟨(MT.1 q.1).resolve_right (fun h=>e (MU.1 h)),q.2⟩)]
        generalize (Qn.lev n:Int)=lz at *;go_wp2_with fail;go_quiet (fail);have bD:PI wr.heap.size wr (wr.drewN nq):=below_drewN al _;have VD:=V1.below bD;have BD:=ak hB bD;have Vh:=ch nq PU;have p0D:=ch nq p0;clear V1 hB PU p0 c0 Yt bD Ug;generalize wr.drewN nq=W2 at *;go_wp2_with fail;have b2:=cI W2;have V2:=VD.below b2;have B2:=ak BD b2;obtain⟨w3,Vg,K3,V3⟩:=V2.level Wv.out (Nat.succ_pos k);have B3:=B2.trans (K3.to_below B2.size (fun g hg=>by omega));have Vh:=bH Vh;have p0D:=bH p0D;have c0:=V2.c0;have c2:=V2.c2;have ek:((k+1:Nat):Int)=(k:Int)+1:=(by omega);rw[ek]at Vg c2;clear VD BD b2 V2 B2 K3 ek;rw[HLQ.out]at V3;go_region;go_wp2;go_roundw
        case rel=>exact⟨i+1,by omega,by go_num,V3,B3⟩
        case measure=>simp[intOf];omega
       ·have Ug:((Qn.lev n:Int)==0)=false:=beq_eq_false_iff_ne.2 (by omega);have HLQ:PJ ((fun x=>if x∈L.take i/\Qn.lev x=0 then k+1 else Qn.lev x)=fun x=>if x∈L.take (i+1)/\Qn.lev x=0 then k+1 else Qn.lev x):=by
         unfold PJ
         funext x
         rw[Sj.out];by_cases h1:x∈L.take i/\Qn.lev x=0
         ·rw[if_pos h1,if_pos ⟨MT.2 (MG h1.1),h1.2⟩]
         ·rw[if_neg h1,if_neg (fun q=>h1 ⟨(MT.1 q.1).resolve_right (fun h=>hz (by rw[<- MU.1 h];exact q.2)),q.2⟩)]
        rw[HLQ.out]at V1;generalize (Qn.lev n:Int)=lz at *;go_wp2_with fail;go_quiet (fail);have bD:PI wr.heap.size wr (wr.drewN nq):=below_drewN al _;go_wp2;go_roundw
        case rel=>exact⟨i+1,by omega,by go_num,V1.below bD,ak hB bD⟩
        case measure=>simp[intOf];omega
      ·have ei:i=L.length:=(by omega);subst ei;have V9:=V1.ends (T:=k+1);clear V1 Gr;go_wp2;go_ret;exact⟨_,_,_,k,Qn,fE,rfl,UQ.out,HOV.out,V9,hB⟩
end
section
open Go.RowKit
theorem zD {b:Nat}{H V:Int}{bl:Nat->Bool}(c d:Nat)(w:PG)(g:bg w b W H V bl)(hr:inB W H c=Pm)(hd:d<8) :
  PK prog 20 #[.pointer (OM ⟨b,0,Pk⟩),PE PF c,PE PF d] w fun e w'=>e=PM (PE PF (clr W H bl ((c:Int)%W) ((c:Int)/W) d:Nat))/\∃m,w'=w.drewN m:=by
 obtain⟨k1,k2⟩:=bP g.w1 g.w2 g.h1 g.h2;have Qa:=g.w1;have gw:=g.w2;have Yy:=g.h1;have gh:=g.h2;have hle:=E8 W H bl ((c:Int)%W) ((c:Int)/W) d;go_enter func20,ntmps20;go_wp2;go_loopg [1,7] (clr W H bl ((c:Int)%W) ((c:Int)/W) d) (fun gk cv nv wr=>∃(a:Int) (n:Nat),gk=clr W H bl (a%W) (a/W) d/\cv=PE PF a/\nv=PE PF n/\inB W H a=Pm/\n+clr W H bl (a%W) (a/W) d=clr W H bl ((c:Int)%W) ((c:Int)/W) d/\∃m,wr=w.drewN m)
 case atStart=>exact⟨c,0,rfl,rfl,rfl,hr,by omega,0,rfl⟩
 case round =>
  obtain⟨a,n,QD,rfl,rfl,PY,Xr,X4⟩:=hrel;have gr:bg wr b W H V bl:=by obtain⟨m,hm⟩:=X4;rw[hm];exact g.drewN m
  have HW:∀k,PJ (∃m,wr.drewN k=w.drewN m):=fun k=>by obtain⟨m,hm⟩:=X4;rw[hm];exact⟨m+k,tL w m k⟩
  clear X4;have c0:=gr.c0;obtain⟨Sh,hai⟩:=mV Qa PY;have hq:0<=a/\a<W*H:=of_decide_eq_true PY;obtain⟨x1,x2,y1,y2⟩:=gF.1 Sh;obtain⟨q1,q2⟩:=hq;have HG:=ae QD;have HS:=ae Xr;clear QD;have hn:n<=16:=by omega
  clear Xr;cases hM:bC W H bl (a%W) (a/W) d with
  |false =>
   have hz:=Bi hM;go_wp2;go_quiet ((go_at_call 48;exact Calls.quiet_of (uN hM _ (gr.drewN _) hd (by omega) (by omega) (by omega) (by omega))));go_wp2;go_ret;refine⟨?_,(HW _).out⟩;have:=HS.out;rw[hz]at this;rw[<- this];rfl
  |true =>
   have SU:=Bh gw gh hd hM;have Ri:=Fb hM;have VS:=(fL hM).2;obtain⟨p1,p2,p3⟩:=fp VS;have PO:=(uh Qa gw Yy gh VS).2;rw[hai]at Ri;generalize idx W (a%W+ah d) (a/W+af d)=r at *;rw[<- p2,<- p3]at SU;have HC:=ae SU;have ZI:inB W H r=true:=decide_eq_true ⟨by omega,PO⟩;have abL:=fun w g=>Cc (b:=b) (H:=H) (V:=V) (bl:=bl) Ri w g hd (by omega) (by omega);clear p1 p2 p3 VS SU Ri hai hle;go_wp2;go_quiet ((go_at_call 48;exact Calls.quiet_of (uN hM _ (gr.drewN _) hd (by omega) (by omega) (by omega) (by omega))));go_wp2_with (go_at_call 49;refine(abL _ ((gr.drewN _))).mono ?_;rintro e w' ⟨rfl,rfl⟩);go_roundg (clr W H bl ((r:Int)%W) ((r:Int)/W) d)
   case measure=>have:=HG.out;have:=HC.out;omega
   case rel=>exact⟨r,n+1,rfl,rfl,by go_num,ZI,by have:=HS.out;have:=HC.out;omega,(HW _).out⟩
end
end Go.Proofs.YtmaefimaeelkbaaGreatDoor
