/- Texts laid together. -/
import Derived.Test.YtmaefimaeelkbaaGreatDoorP11
import Derived.Test.YtmaefimaeelkbaaGreatDoorP12
namespace Go.Proofs.YtmaefimaeelkbaaGreatDoor
open Go.Value renaming int→NB,ownBlock→NA
open _root_.List renaming range→NX,getElem?_toArray→N9,getElem?_cons_succ→Oc,getElem?_map→NF,getD_eq_getElem?_getD→MS,getElem?_eq_getElem→MJ,append_nil→Nt,length_cons→Nf,length_eq_zero_iff→NK,take_length→M9,length_filter_le→Nk,length_map→NP,mem_of_getElem?→MZ,length_take→MY,mem_range→NR
open Go.World renaming cell?_alloc_new→MP,block_lt_of_cell?→MK,cell?_alloc_at→ME,cell?_alloc_old→OR,cell?_setCell_other→MH,cell?_setCell_same→MO,ownsRow_nil→Nj,frozen?_setCell→NY,cell?→Pn
open _root_.Int renaming toNat_natCast→ML,tdiv_eq_ediv_of_nonneg→Od,toNat_of_nonneg→Nl
open _root_.Nat renaming ne_of_lt→NO,not_lt_zero→Nz,zero_le→MQ,zero_add→M8,lt_of_lt_of_le→MN,eq_zero_or_pos→Ob,le_of_lt→ON,le_trans→M5
open _root_.Or renaming inl→MG,inr→MF
open Go.Value renaming int→PE
open Go.IntKind renaming i64→PF
open Go.Proofs.Tryz
open _root_.Option renaming some→OM,none→Pk
open _root_.Bool renaming true→Pm,false→PB
open Go renaming World→PG,Value→PH,Calls→PK
open Go.RowKit renaming Below→PI,Hid→PJ
open Go.Ending renaming returned→PM
open Go.Obj renaming cells→PN
variable {W H d V tz:Int}{t k gc xc yc M B N cap lb most c base rb pb mb lo hi sb xb:Nat}{bl:Nat->Bool}{F:Nat->Prop}{w w':PG}{v:PH}{A:Option Addr}{la way:List Nat}
set_option maxHeartbeats 8000000
set_option maxRecDepth 1000000
section
open Go.RowKit
def Gg (W H:Int) (bl:Nat->Bool):Array Value:=(NB .i64 W::PE PF H::((NX 256).map (fun i=>Value.bool (bl i))++[PE PF 0])).toArray
theorem Gh (bl:Nat->Bool)(w:PG)(w1:1<=W)(w2:W<=16)(h1:1<=H)(h2:H<=16):bg (w.alloc (.cells (Gg W H bl) 38)) w.heap.size W H 0 bl:=by
 refine⟨w1,w2,h1,h2,?_,?_,?_,fun i hi=>?_⟩
 ·rw[MP];rfl
 ·rw[MP];rfl
 ·rw[MP];unfold Gg;rw[N9,Oc,Oc,List.getElem?_append_right (by simp)];simp
 ·rw[MP];unfold Gg;rw[N9,show 2+i=i+1+1 by omega,Oc,Oc,List.getElem?_append_left (by simpa using hi),NF,List.getElem?_range hi];rfl
theorem LW (bl:Nat->Bool)(w:PG)(w1:1<=W)(w2:W<=16)(h1:1<=H)(h2:H<=16):∃Fl:Int->Int->Option (Int×Int),∀c,inB W H c=Pm->ct (aF W H bl) c (Fl c):=by
 have h:∀c,∃F,inB W H c=Pm->ct (aF W H bl) c F:=fun c=>by
  by_cases hc:inB W H c=Pm
  ·have h4:0<=c/\c<W*H:=of_decide_eq_true hc;obtain⟨n,rfl⟩:∃n:Nat,c=n:=⟨c.toNat,by omega⟩;have h:=jT n _ (Gh bl w w1 w2 h1 h2) (by simp) hc [];obtain⟨e,w',fr,h,_⟩:=h;obtain⟨F,_,hB,_⟩:=h;exact⟨F,fun _=>hB⟩
  ·exact⟨fun _=>Pk,fun h=>absurd h hc⟩
 exact⟨fun c=>Classical.choose (h c),fun c hc=>Classical.choose_spec (h c) hc⟩
section
variable {W H : Int} {bl : Nat → Bool}
def Cp (W H:Int) (bl:Nat->Bool):Int->List Nat->Int->Int->Int->Prop
 |a,[],t,s,d=>a=t/\s=0/\d=0
 |a,r::l,t,s,d=>∃k,aF W H bl a k (r:Int)/\Cp W H bl (r:Int) l t (s-stS k) (d-stD k)
theorem Cp.cast {a t s s' d':Int}{l:List Nat}(h:Cp W H bl a l t s d)(e1:s=s')(e2:d=d'):Cp W H bl a l t s' d':=by
 subst e1 e2;exact h
theorem Cp.app:∀{l m:List Nat}{a b t s d p q:Int},Cp W H bl a l b s d->Cp W H bl b m t p q->Cp W H bl a (l++m) t (s+p) (d+q)
 |[],m,a,b,t,s,d,p,q,⟨e1,e2,e3⟩,h=>by
  subst e1 e2 e3;exact h.cast (by omega) (by omega)
 |r::l,m,a,b,t,s,d,p,q,⟨k,e,h1⟩,h=>⟨k,e,(Cp.app h1 h).cast (by omega) (by omega)⟩
theorem Cp.walk:∀{l:List Nat}{a t s d:Int},Cp W H bl a l t s d->Wk (aF W H bl) a t s d
 |[],a,t,s,d,⟨e1,e2,e3⟩=>by
  subst e1 e2 e3;exact Wk.nil
 |r::l,a,t,s,d,⟨k,e,h⟩=>by
  have:=Wk.cons e (Cp.walk h)
  rwa [show s-stS k+stS k=s by omega,show d-stD k+stD k=d by omega]at this
theorem Cp.len:∀{l:List Nat}{a t s d:Int},Cp W H bl a l t s d->s+d=(l.length:Int)
 |[],a,t,s,d,⟨_,e2,e3⟩=>by
  subst e2 e3;rfl
 |r::l,a,t,s,d,⟨k,_,h⟩=>by
  have h1:=Cp.len h;have h2:=iz k;have h3:(((r::l).length:Nat):Int)=(l.length:Int)+1:=rfl;rw[h3];omega
theorem jb (w1:1<=W){a t:Int}:∀{l:List Nat}{p:Int},Chn (WSt W H bl a t) p (ug l) t->Cp W H bl p l t (aO W p t) (aK W p t)
 |[],p,h=>by
  have e:p=t:=h;subst e;exact⟨rfl,fu W p,fw W p⟩
 |r::l,p,⟨⟨k,hk⟩,h⟩=>by
  obtain⟨g1,g2⟩:=(dD w1 hk.1.1).1 hk.1.2.1;exact⟨k,hk.1.1,(jb w1 h).cast (by omega) (by omega)⟩
theorem Dy {a b:Int}(ha:bl a.toNat=PB)(e:aF W H bl a k b):bl b.toNat=false:=Cg ha (uY e)
theorem Cp.wkV (w1:1<=W){a:Nat}{l:List Nat}{t s d:Int}(ha:inB W H a=Pm)(hf:bl a=PB)(h:Cp W H bl a l t s d):wkV W H bl (fun i=>(((a::l).getD i 0:Nat):Int)) (a::l).length=((s,d),0)/\(((a::l).getD l.length 0:Nat):Int)=t:=by
 have key:∀i,i<=l.length->∃s' d',wkS W H bl (fun i=>(((a::l).getD i 0:Nat):Int)) (i+1)=.ok (s',d')/\Cp W H bl (((a::l).getD i 0:Nat):Int) (l.drop i) t (s-s') (d-d')/\inB W H (((a::l).getD i 0:Nat):Int)=Pm/\bl ((a::l).getD i 0)=false:=by
  intro i
  induction i with
  |zero =>
   intro _;refine⟨0,0,?_,h.cast (by omega) (by omega),ha,hf⟩;have e:wkS W H bl (fun i=>(((a::l).getD i 0:Nat):Int)) 0=.ok (0,0):=rfl;rw[iW e];unfold wk1;have hz:ffv W H bl (((a::l).getD 0 0:Nat):Int)=0:=jz ha hf;rw[if_pos hz,if_pos rfl]
  |succ i ih =>
   intro hi;obtain⟨s',d',h1,h2,h3,h4⟩:=ih (by omega);have hr:l.drop i=l[i]::l.drop (i+1):=List.drop_eq_getElem_cons (by omega);rw[hr]at h2;obtain⟨k,e,h5⟩:=h2;have hx:(a::l).getD (i+1) 0=l[i]:=by
    rw[MS,Oc,MJ (by omega)];rfl
   have PY:=e.in' w1
   have Sm:bl l[i]=false:=Dy (a:=(((a::l).getD i 0:Nat):Int)) (b:=((l[i]:Nat):Int)) (by rw[ML];exact h4) e;rw[hx];refine⟨s'+stS k,d'+stD k,?_,h5.cast (by omega) (by omega),PY,Sm⟩;rw[iW h1];unfold wk1;have hz:ffv W H bl (((a::l).getD (i+1) 0:Nat):Int)=0:=(by rw[hx];exact jz PY Sm);rw[if_pos hz,if_neg (Nat.succ_ne_zero i)];have Qq:mS W H bl (((a::l).getD (i+1-1) 0:Nat):Int) (((a::l).getD (i+1) 0:Nat):Int)=OM k:=by
    rw[Nat.add_sub_cancel,hx];exact yZ w1 e
   rw[Qq]
 obtain⟨s',d',h1,h2,_,_⟩:=key l.length aj;rw[List.drop_length]at h2;obtain⟨e1,e2,e3⟩:=h2;have q1:s'=s:=by omega
 have q2:d'=d:=by omega
 subst q1 q2;exact⟨EX h1 (by simp),e1⟩
theorem zM {a t:Int}(h1:inB W H a=Pm)(h2:bl a.toNat=PB)(h3:inB W H t=Pm)(h4:bl t.toNat=PB):ff2 W H bl a t=0:=by
 unfold ff2;rw[if_pos (jz h1 h2)];exact jz h3 h4
def NrC (W H:Int) (bl:Nat->Bool):Nat->List Nat->Prop
 |_,[]=>True
 |a,t::st=>(∃z,On W H bl (a:Int) (t:Int) z)/\ff2 W H bl a t=0/\NrC W H bl t st
def JnR (W H:Int) (bl:Nat->Bool):Nat->List Nat->List Nat->Prop
 |_,[],l=>l=[]
 |a,t::st,l=>∃l1 r,Chn (WSt W H bl a t) a (ug l1) t/\JnR W H bl t st r/\l=l1++r
theorem JnR.snoc:∀{st:List Nat}{a t:Nat}{l l2:List Nat},JnR W H bl a st l->Chn (WSt W H bl ((st.getLast?).getD a:Nat) t) ((st.getLast?).getD a:Nat) (ug l2) t->JnR W H bl a (st++[t]) (l++l2)
 |[],a,t,l,l2,h,h2=>by
  have e:l=[]:=h;subst e;exact⟨l2,[],h2,rfl,by simp⟩
 |x::st,a,t,l,l2,⟨l1,r,h1,h3,h4⟩,h2=>by
  refine⟨l1,r++l2,h1,JnR.snoc h3 ?_,by rw[h4,List.append_assoc]⟩;cases st with
  |nil=>exact h2
  |cons y st =>
   have e:(x::y::st).getLast? = (y::st).getLast? :=(by simp);rw[e]at h2;cases hq:(y::st).getLast? with
   |none=>simp at hq
   |some z=>rw[hq]at h2;exact h2
noncomputable def esF (W H:Int) (bl:Nat->Bool):Nat->List LE:=@dite _ (∃es,GEs W H bl es) (Classical.propDecidable _) (fun h=>Classical.choose h) (fun _ _=>[])
theorem iS (w1:1<=W):GEs W H bl (esF W H bl):=by
 have h:=Lm W H bl w1;unfold esF;rw[dif_pos h];exact Classical.choose_spec h
def Cnp (W H:Int) (bl:Nat->Bool) (c:Nat) (l:List Nat):Prop:=l.Pairwise (·<·)/\Cns W H bl c l
def gsN (W H tz:Int) (n:Int):Int×Int:=if inB W H n=Pm then (aO W n tz,aK W n tz) else (aO W 0 tz,aK W 0 tz)
theorem KH (w1:1<=W)(w2:W<=16)(h1:1<=H)(h2:H<=16){tz:Int}(ht:inB W H tz=Pm)(n:Nat):0<=(gsN W H tz n).1/\(gsN W H tz n).1<=1024/\0<=(gsN W H tz n).2/\(gsN W H tz n).2<=1024:=by
 have key:∀m:Int,inB W H m=Pm->0<=aO W m tz/\aO W m tz<=1024/\0<=aK W m tz/\aK W m tz<=1024:=fun m hm=>by
  have a1:=bV w1 w2 h1 h2 hm ht;have a2:=aG W m tz;have a3:=aD W m tz;omega
 have h0:inB W H 0=true:=by
  have:=bP w1 w2 h1 h2;exact decide_eq_true (by omega)
 unfold gsN;split
 ·exact key _ (by assumption)
 ·exact key _ h0
theorem Gi {es:Nat->List LE}(G:GEs W H bl es)(w1:1<=W)(w2:W<=16)(h1:1<=H)(h2:H<=16){most k:Nat}{st:LSt}(m6:most<=6)(m1:1<=most)(h:Rds most (crs W H bl (W*H).toNat) ⟨fun _=>0,es⟩ k st)
  {c:Nat}{l:List Nat}(hc:inB W H c=Pm) (hl:Cns W H bl c l):Adm (crs W H bl (W*H).toNat) st.es (gsN W H c) (eg (crs W H bl (W*H).toNat) (frI W c l)):=fun {b i s d p q} h0 hb h3 hw=>by
 have h4:=IM G w1 w2 h1 h2 m6 m1 h hc hl h0 hb h3 hw;have Rq:=bP w1 w2 h1 h2;obtain⟨bn,rfl⟩:∃m:Nat,b=(m:Int):=⟨b.toNat,by omega⟩;have PO:=(cR.1 hb).1;rw[ML]at PO;have hi:inB W H bn=true:=decide_eq_true (by omega);rw[Bx (by omega)]at h4;unfold gsN;rw[if_pos hi];exact h4
def OvR (W H:Int) (bl:Nat->Bool) (most:Nat) (a t:Nat) (way:List Nat) (s d:Int) (f:Bool):Prop :=
 ∃k st la lb stops,Rds most (crs W H bl (W*H).toNat) ⟨fun _=>0,esF W H bl⟩ k st/\lY most (crs W H bl (W*H).toNat) k st/\Cnp W H bl a la/\Cnp W H bl t lb /\
  ma (crs W H bl (W*H).toNat) ⟨dr (k+1) st,st.es⟩ (gsN W H t) (frI W a la) (frI W t lb) stops s d f/\stops.length<=40000/\(f=PB->way=[])/\(f=Pm->∃l,way=a::l/\JnR W H bl a (stops++[t]) l)
def xf (W H:Int) (bl:Nat->Bool) (most:Nat) (a t:Int) (way:List Nat) (s d err:Int):Prop :=
 (ff2 W H bl a t≠0/\err=ff2 W H bl a t/\way=[]/\s=0/\d=0) \/
 (ff2 W H bl a t=0/\(((∃z,On W H bl a t z)/\err=0/\(∃l,way=a.toNat::l/\Chn (WSt W H bl a t) a (ug l) t)/\s=aO W a t/\d=aK W a t) \/
  ((¬ ∃z,On W H bl a t z)/\∃f,OvR W H bl most a.toNat t.toNat way s d f/\err=if f then 0 else 5)))
theorem JV (w1:1<=W)(w2:W<=16)(h1:1<=H)(h2:H<=16){es:Nat->List LE}(G:GEs W H bl es){t i:Nat}(ht:inB W H t=Pm)(VG:bl t=PB)(hd:Dir W H bl t i)(Rl:dC W H bl i):∀{l:List Nat}{o:Nat}{p q:Int},Prc es (o::l) p q->(o::l).getLast? = OM i->NrC W H bl o (l++[t])
 |[],o,p,q,_,hl=>by
  have e:o=i:=by simpa using hl
  subst e;have PY:=aT w1 Rl;have Sm:bl o=false:=by have:=fT (aE.2 Rl);rwa [ML]at this
  exact⟨hd.sym.1,zM PY (by rw[ML];exact Sm) ht (by rw[ML];exact VG),trivial⟩
 |y::l,o,p,q,⟨e,he,e1,h⟩,hl=>by
  obtain⟨k1,k2,k3,_⟩:=G.mem he;rw[e1]at k2 k3;have f1:bl o=false:=by have:=fT k1;rwa [ML]at this
  have f2:bl y=false:=by have:=fT k2;rwa [ML]at this
  refine⟨k3.1,zM (aT w1 (aE.1 k1)) (by rw[ML];exact f1) (aT w1 (aE.1 k2)) (by rw[ML];exact f2),JV w1 w2 h1 h2 G ht VG hd Rl h ?_⟩;rw[<- hl];simp
theorem JW (w1:1<=W){es:Nat->List LE}(G:GEs W H bl es){t i:Nat}:∀{l:List Nat}{o:Nat}{p q:Int}{m:List Nat},Prc es (o::l) p q->(o::l).getLast? = OM i->JnR W H bl o (l++[t]) m->Cp W H bl o m t (p+aO W i t) (q+aK W i t)
 |[],o,p,q,m,⟨e1,e2⟩,hl,⟨l1,r,h1,h2,h3⟩=>by
  have e:o=i:=by simpa using hl
  subst e;have e3:r=[]:=h2;subst e1 e2 e3;rw[h3,Nt];exact(jb w1 h1).cast (by omega) (by omega)
 |y::l,o,p,q,m,⟨e,he,e1,h⟩,hl,⟨l1,r,j1,j2,j3⟩=>by
  obtain⟨_,_,_,_,k5,k6,_⟩:=G.mem he;rw[e1]at k5 k6;have hl':(y::l).getLast? = OM i:=by rw[<- hl];simp
  rw[j3];exact((jb w1 j1).app (JW w1 G h hl' j2)).cast (by omega) (by omega)
structure Rt (W H:Int) (bl:Nat->Bool) (a t:Int) (way:List Nat) (s d err:Int):Prop where
 bad:ff2 W H bl a t≠0->err=ff2 W H bl a t/\way=[]/\s=0/\d=0
 no:ff2 W H bl a t=0->(∀p q,¬Wk (aF W H bl) a t p q)->err=5/\way=[]/\s=0/\d=0
 yes:ff2 W H bl a t=0->∀{p q},Wk (aF W H bl) a t p q->err=0/\val s d<=val p q
 path:ff2 W H bl a t=0->err=0->∃l,way=a.toNat::l/\Cp W H bl a l t s d/\0<=s/\0<=d/\s<=400/\d<=256
theorem OvR.stops (w1:1<=W)(w2:W<=16)(h1:1<=H)(h2:H<=16){most k:Nat}{st:LSt}(m1:1<=most)(m6:most<=6){a t:Nat}(ha:inB W H a=Pm)(Rh:bl a=PB)(ht:inB W H t=Pm)(VG:bl t=PB){la lb stops:List Nat}{s d:Int}(hR:Rds most (crs W H bl (W*H).toNat) ⟨fun _=>0,esF W H bl⟩ k st)(hla:Cnp W H bl a la)(Xk:Cnp W H bl t lb)
  (hB:ma (crs W H bl (W*H).toNat) ⟨dr (k+1) st,st.es⟩ (gsN W H t) (frI W a la) (frI W t lb) stops s d Pm):NrC W H bl a (stops++[t])/\∀l,JnR W H bl a (stops++[t]) l->Cp W H bl a l t s d:=by
 have G:=iS (W:=W) (H:=H) (bl:=bl) w1;obtain⟨O,_,hU⟩:=IK G w1 w2 h1 h2 m6 m1 hR;obtain⟨_,b2⟩:=ma.best (G.btw w1 w2 h1 h2) (fun _=>rfl) hR O hU (Gi G w1 w2 h1 h2 m6 m1 hR ht Xk.2) hB;obtain⟨o,i,r,s0,d0,s1,d1,p,q,c1,c2,c3,c4,c5,c6,c7⟩:=b2 rfl;subst c3;obtain⟨o0,oc,od,rfl,rfl⟩:=(il w1 w2 h1 h2 ha hla.2).1 c1;obtain⟨i0,ic,id',rfl,rfl⟩:=(il w1 w2 h1 h2 ht Xk.2).1 c2;have f1:bl o=false:=by have:=fT (aE.2 oc);rwa [ML]at this
 refine⟨⟨od.1,zM ha (by rw[ML];exact Rh) (aT w1 oc) (by rw[ML];exact f1),JV w1 w2 h1 h2 G ht VG id' ic c5 c4⟩,fun l hl=>?_⟩;obtain⟨l1,r1,j1,j2,j3⟩:=hl;have k1:=jb w1 j1;have k2:=JW w1 G c5 c4 j2;rw[j3];have e1:=aV W i t;have e2:=aW W i t;exact(k1.app k2).cast (by omega) (by omega)
theorem xf.right (w:PG)(w1:1<=W)(w2:W<=16)(h1:1<=H)(h2:H<=16){most:Nat}(m1:1<=most)(m6:most<=6){a t:Int}{way:List Nat}{s d err:Int}(h:xf W H bl most a t way s d err):Rt W H bl a t way s d err:=by
 rcases h with⟨a1,rfl,rfl,rfl,rfl⟩|⟨a1,h⟩
 ·exact⟨fun _=>⟨rfl,rfl,rfl,rfl⟩,fun h=>absurd h a1,fun h=>absurd h a1,fun h=>absurd h a1⟩
 ·obtain⟨⟨Sg,Rh⟩,⟨hit,VG⟩⟩:=oH a1;have ja:0<=a/\a<W*H:=of_decide_eq_true Sg;have jt:0<=t/\t<W*H:=of_decide_eq_true hit;obtain⟨aN,rfl⟩:∃aN:Nat,a=(aN:Int):=⟨a.toNat,by omega⟩;obtain⟨tN,rfl⟩:∃tN:Nat,t=(tN:Int):=⟨t.toNat,by omega⟩;rw[ML]at Rh VG;have U8:=bV w1 w2 h1 h2 Sg hit;have n1:=aG W aN tN;have n2:=aD W aN tN;rcases h with⟨⟨z,c1⟩,rfl,⟨l,rfl,c2⟩,rfl,rfl⟩|⟨c1,f,⟨k,st,la,lb,stops,r1,r2,r3,r4,r5,r8,r6,r7⟩,rfl⟩
  ·refine⟨fun h=>absurd a1 h,fun _ h=>?_,fun _ {p q} hw=>⟨rfl,eG w1 hw⟩,fun _ _=>⟨l,rfl,jb w1 c2,n1,n2,by omega,by omega⟩⟩;exact absurd (c1.ends w1 (by omega) (by omega)).2.2 (h _ _)
  ·rw[ML,ML]at *;have G:=iS (W:=W) (H:=H) (bl:=bl) w1;obtain⟨Fl,ZZ⟩:=LW bl w w1 w2 h1 h2;have S:=Mv G w1 w2 h1 h2 m6 m1 r1 (Gi G w1 w2 h1 h2 m6 m1 r1 hit r4.2) r5 r8;obtain⟨f1,f2⟩:=S.flood G w1 w2 h1 h2 ZZ Sg hit r3.2 r4.2 c1;refine⟨fun h=>absurd a1 h,fun _ h=>?_,fun _ {p q} hw=>?_,fun _ he=>?_⟩
   ·cases f with
    |true=>exact absurd ((ZZ aN Sg).sound (f1 rfl)) (h _ _)
    |false =>
     obtain⟨e1,e2⟩:=S.no rfl;exact⟨rfl,r6 rfl,e1,e2⟩
   ·obtain⟨s',d',e1,e2⟩:=(ZZ aN Sg).least hw;cases f with
    |false=>rw[f2 rfl]at e1;cases e1
    |true =>
     rw[f1 rfl]at e1;cases e1;exact⟨rfl,e2⟩
   ·cases f with
    |false=>exact absurd he (by decide)
    |true =>
     obtain⟨l,rfl,j⟩:=r7 rfl;obtain⟨q1,q2,q3⟩:=(ZZ aN Sg).small (f1 rfl);obtain⟨q4,q5⟩:=cE q1 q2 q3;exact⟨l,rfl,(OvR.stops w1 w2 h1 h2 m1 m6 Sg Rh hit VG r1 r3 r4 r5).2 l j,q1,q2,q4,q5⟩
end
end
section
open Go.RowKit
theorem gs' {n x y tx ty S D:Int}{ev:PH}(w:PG)(cg:w.cell? ⟨gc,0,Pk⟩=OM (.pointer (OM ⟨M,0,Pk⟩)))(cx:w.cell? ⟨xc,0,Pk⟩=OM (PE PF tx))(cy:w.cell? ⟨yc,0,Pk⟩=OM (PE PF ty))
  (hP:∀w',PI w.heap.size w w'->PK prog 84 #[.pointer (OM ⟨M,0,Pk⟩),PE PF n] w' fun e Q2=>e=PM (.tuple #[PE PF x,PE PF y,ev])/\∃m,Q2=w'.drewN m)
  (ho:∀w,PK prog 86 #[PE PF x,PE PF y,PE PF tx,PE PF ty] w fun e w'=>e=PM (.agg #[PE PF S,PE PF D])/\PI w.heap.size w w') :
  PK prog 85 #[PE PF n,.pointer (OM ⟨gc,0,Pk⟩),.pointer (OM ⟨xc,0,Pk⟩),.pointer (OM ⟨yc,0,Pk⟩)] w fun e w'=>e=PM (.agg #[PE PF S,PE PF D])/\PI w.heap.size w w':=by
 have lx:=aJ cx;have ly:=aJ cy;have sl:=bz.new w 0 0;have B0:=aQ w (PN #[PE PF 0,PE PF 0] 53);have cg:=ar B0 cg;go_enter func85,ntmps85;go_wp2_with fail;refine(hP _ B0).mono ?_;rintro e w1 ⟨rfl,m1,RF⟩;have B1:PI w.heap.size w w1:=by rw[RF];exact below_drewN B0 _
 have Xd:bz w1 w.heap.size 0 0:=by rw[RF];exact sl.below (below_drewN al _)
 have cx1:=(B1.cell lx).trans cx;have cy1:=(B1.cell ly).trans cy;clear RF sl B0 hP cg cx cy;go_wp2_with fail;refine(ho _).mono ?_;rintro e w3 ⟨rfl,hb3⟩;have B3:=ak B1 hb3;have RO:=Xd.below hb3;have c0:=RO.c0;have c1:=RO.c1;have z0:=RO.z0;have z1:=RO.z1;clear hb3 Xd B1 ho cx1 cy1;go_wp2;have q:=kK w3 w.heap.size S D c0 c1;have hd:=q.1;have ht:=q.2;refine bodyPost_ret (v:=.agg #[PE PF S,PE PF D]) (by simp[results,results85,go_sem,hd,ht]) rfl ⟨rfl,?_⟩;exact(B3.setCell (p:=⟨w.heap.size,0,Pk⟩) aj _).setCell (p:=⟨w.heap.size,1,Pk⟩) aj _
theorem BN {n:Int}(w:PG)(cg:w.cell? ⟨gc,0,Pk⟩=OM (.pointer (OM ⟨M,0,Pk⟩)))(cx:w.cell? ⟨xc,0,Pk⟩=OM (PE PF (tz%W)))(cy:w.cell? ⟨yc,0,Pk⟩=OM (PE PF (tz/W)))(g:aw w M W H V bl)(hz:inB W H tz=Pm) :
  PK prog 85 #[PE PF n,.pointer (OM ⟨gc,0,Pk⟩),.pointer (OM ⟨xc,0,Pk⟩),.pointer (OM ⟨yc,0,Pk⟩)] w fun e w'=>e=PM (.agg #[PE PF (gsN W H tz n).1,PE PF (gsN W H tz n).2])/\PI w.heap.size w w':=by
 have hM:=aJ g.c0;obtain⟨u1,u2,v1,v2⟩:=dA g.w1 hz;have gw:=g.w2;have gh:=g.h2;unfold gsN;by_cases hn:inB W H n=Pm
 ·rw[if_pos hn];obtain⟨x1,x2,y1,y2⟩:=dA g.w1 hn;exact gs' w cg cx cy (fun w' hB=>dZ n w' (g.below hB hM) hn) (fun w=>kY _ _ _ _ w (bG (by omega) (by omega)) (bG (by omega) (by omega)) (bG (by omega) (by omega)) (bG (by omega) (by omega)))
 ·rw[if_neg hn];have Xe:inB W H n=false:=by simpa using hn
  have ho:∀w,PK prog 86 #[PE PF 0,PE PF 0,PE PF (tz%W),PE PF (tz/W)] w fun e w'=>e=PM (.agg #[PE PF (aO W 0 tz),PE PF (aK W 0 tz)])/\PI w.heap.size w w':=fun w=>by
   have h:=kY 0 0 (tz%W) (tz/W) w (bG (by omega) (by omega)) (bG (by omega) (by omega)) (bG (by omega) (by omega)) (bG (by omega) (by omega));unfold aO aK;rw[Int.zero_emod,Int.zero_ediv];exact h
  exact gs' w cg cx cy (fun w' hB=>DP n w' (g.below hB hM) Xe) ho
theorem LX (w0:PG)(cg:w0.cell? ⟨gc,0,Pk⟩=OM (.pointer (OM ⟨M,0,Pk⟩)))(cx:w0.cell? ⟨xc,0,Pk⟩=OM (PE PF (tz%W)))(cy:w0.cell? ⟨yc,0,Pk⟩=OM (PE PF (tz/W)))(g:aw w0 M W H V bl)(hz:inB W H tz=Pm) :
  AV w0 w0.heap.size 85 [.pointer (OM ⟨gc,0,Pk⟩),.pointer (OM ⟨xc,0,Pk⟩),.pointer (OM ⟨yc,0,Pk⟩)] (gsN W H tz) :=
 ⟨fun args w=>by kernel_rfl,fun w n hB _=>by
  have k:∀{a:Addr}{v:PH},w0.cell? a=OM v->w.cell? a=OM v:=fun {a v} h=>(hB.cell (MK w0 a h)).trans h;exact BN w (k cg) (k cx) (k cy) (g.below hB (aJ g.c0)) hz⟩
def Dz (w:PG) (gc xc yc M:Nat) (W tz:Int):Prop:=w.cell? ⟨gc,0,Pk⟩=OM (.pointer (OM ⟨M,0,Pk⟩))/\w.cell? ⟨xc,0,Pk⟩=OM (PE PF (tz%W))/\w.cell? ⟨yc,0,Pk⟩=OM (PE PF (tz/W))
theorem pD (w:PG)(g:aw w M W H V bl)(hz:inB W H tz=Pm) :
  PK prog 43 #[.pointer (OM ⟨M,0,Pk⟩),PE PF tz] w fun e w'=>∃gc xc yc,e=PM (.func (.func 85) #[] #[.pointer (OM ⟨gc,0,Pk⟩),.pointer (OM ⟨xc,0,Pk⟩),.pointer (OM ⟨yc,0,Pk⟩)])/\Dz w' gc xc yc M W tz/\PI w.heap.size w w':=by
 have hM:=aJ g.c0;have b0:=aQ w (PN #[.pointer (OM ⟨M,0,Pk⟩)] 80);have q0:(w.alloc (PN #[.pointer (OM ⟨M,0,Pk⟩)] 80)).cell? ⟨w.heap.size,0,Pk⟩=OM (.pointer (OM ⟨M,0,Pk⟩)):=ME #[.pointer (OM ⟨M,0,Pk⟩)] 80 w.heap.size 0 rfl;have hp:=dZ tz _ (g.below b0 hM) hz;go_enter func43,ntmps43;go_wp2_with fail;refine hp.mono ?_;rintro e w1 ⟨rfl,m1,RF⟩;have B1:PI w.heap.size w w1:=by rw[RF];exact below_drewN b0 _
 have q1:w1.cell? ⟨w.heap.size,0,Pk⟩=OM (.pointer (OM ⟨M,0,Pk⟩)):=by rw[RF];exact q0
 clear hp q0 b0 RF;go_wp2;go_ret;refine⟨_,_,_,rfl,⟨?_,?_,?_⟩,(B1.alloc B1.size _).alloc (by have:=B1.size;simp;omega) _⟩
 ·have l1:=aJ q1;have l1:w.heap.size<w1.heap.size:=l1;rw[OR _ _ _ (by simp;omega),OR _ _ _ (NO l1)];exact q1
 ·rw[OR _ _ _ (by simp)];exact ME #[PE PF (tz%W)] 3 w1.heap.size 0 rfl
 ·exact ME (w:=w1.alloc (PN #[PE PF (tz%W)] 3)) #[PE PF (tz/W)] 3 (w1.heap.size+1) 0 (by simp)
structure An (w:PG) (B:Nat) (v:PH) (s d e:Int):Prop where
 c0:w.cell? ⟨B,0,Pk⟩=OM v
 c1:w.cell? ⟨B,1,Pk⟩=OM (PE PF s)
 c2:w.cell? ⟨B,2,Pk⟩=OM (PE PF d)
 c3:w.cell? ⟨B,3,Pk⟩=OM (PE PF e)
 z0:w.frozen? ⟨B,0,Pk⟩=PB
 z1:w.frozen? ⟨B,1,Pk⟩=PB
 z2:w.frozen? ⟨B,2,Pk⟩=PB
 z3:w.frozen? ⟨B,3,Pk⟩=PB
theorem An.keep {s e:Int}(h:An w B v s d e)(K:ai F w w')(hn:¬F B):An w' B v s d e:=by
 have hB:=MK w _ h.c0;exact⟨K.cellOf h.c0 hn,K.cellOf h.c1 hn,K.cellOf h.c2 hn,K.cellOf h.c3 hn,(K.frozen (p:=⟨B,0,Pk⟩) hB hn).trans h.z0,(K.frozen (p:=⟨B,1,Pk⟩) hB hn).trans h.z1,(K.frozen (p:=⟨B,2,Pk⟩) hB hn).trans h.z2,(K.frozen (p:=⟨B,3,Pk⟩) hB hn).trans h.z3⟩
theorem An.below {s e:Int}(h:An w B v s d e)(hb:PI w.heap.size w w'):An w' B v s d e:=h.keep (F:=fun _=>False) (ai.of_below hb) id
theorem An.new (w:PG)(v:PH)(s d e:Int):An (w.alloc (PN #[v,PE PF s,PE PF d,PE PF e] 56)) w.heap.size v s d e:=by
 have k:∀o,(w.alloc (PN #[v,PE PF s,PE PF d,PE PF e] 56)).cell? ⟨w.heap.size,o,Pk⟩=#[v,PE PF s,PE PF d,PE PF e][o]? := fun o=>MP ..;have f:=bE w #[v,PE PF s,PE PF d,PE PF e] 56 w.heap.size aj;exact⟨k 0,k 1,k 2,k 3,f 0,f 1,f 2,f 3⟩
theorem An.set {v0:PH}{s0 d0 e0:Int}(A:An w B v0 s0 d0 e0)(v:PH)(s d e:Int):An ((((w.setCell ⟨B,0,Pk⟩ v).setCell ⟨B,1,Pk⟩ (PE PF s)).setCell ⟨B,2,Pk⟩ (PE PF d)).setCell ⟨B,3,Pk⟩ (PE PF e)) B v s d e:=by
 have ne:∀{i j:Nat},i≠j->(⟨B,i,Pk⟩:Addr)≠⟨B,j,Pk⟩:=fun h q=>h (Addr.mk.inj q).2.1;refine⟨?_,?_,?_,?_,by simpa using A.z0,by simpa using A.z1,by simpa using A.z2,by simpa using A.z3⟩
 ·rw[MH _ _ _ _ (ne (by decide)),MH _ _ _ _ (ne (by decide)),MH _ _ _ _ (ne (by decide))];exact MO _ _ _ A.c0
 ·rw[MH _ _ _ _ (ne (by decide)),MH _ _ _ _ (ne (by decide))];refine MO _ _ _ (u:=PE PF s0) ?_;rw[MH _ _ _ _ (ne (by decide))];exact A.c1
 ·rw[MH _ _ _ _ (ne (by decide))];refine MO _ _ _ (u:=PE PF d0) ?_;rw[MH _ _ _ _ (ne (by decide)),MH _ _ _ _ (ne (by decide))];exact A.c2
 ·refine MO _ _ _ (u:=PE PF e0) ?_;rw[MH _ _ _ _ (ne (by decide)),MH _ _ _ _ (ne (by decide)),MH _ _ _ _ (ne (by decide))];exact A.c3
theorem nL (w:PG)(B:Nat)(v:PH)(s d e:Int):ai (fun k=>k=B) w ((((w.setCell ⟨B,0,Pk⟩ v).setCell ⟨B,1,Pk⟩ (PE PF s)).setCell ⟨B,2,Pk⟩ (PE PF d)).setCell ⟨B,3,Pk⟩ (PE PF e)) :=
 ((((ai.refl (fun k=>k=B) w).setCell (p:=⟨B,0,Pk⟩) (fun _=>rfl) _).setCell (p:=⟨B,1,Pk⟩) (fun _=>rfl) _).setCell (p:=⟨B,2,Pk⟩) (fun _=>rfl) _).setCell (p:=⟨B,3,Pk⟩) (fun _=>rfl) _
theorem jc {w0:PG}(h:PI N w0 w)(hB:N<=B)(v:PH)(s d e:Int):PI N w0 ((((w.setCell ⟨B,0,Pk⟩ v).setCell ⟨B,1,Pk⟩ (PE PF s)).setCell ⟨B,2,Pk⟩ (PE PF d)).setCell ⟨B,3,Pk⟩ (PE PF e)) :=
 (((h.setCell (p:=⟨B,0,Pk⟩) hB _).setCell (p:=⟨B,1,Pk⟩) hB _).setCell (p:=⟨B,2,Pk⟩) hB _).setCell (p:=⟨B,3,Pk⟩) hB _
end
section
open Go.RowKit Go.Lib
theorem Gj :∀{st:List Nat}{a i:Nat},NrC W H bl a st->i<st.length->∃t,st[i]? = OM t/\(∃z,On W H bl (((st.take i).getLast?).getD a:Nat) (t:Int) z)/\ff2 W H bl (((st.take i).getLast?).getD a:Nat) t=0
 |[],_,i,_,hi=>absurd hi (Nz i)
 |t::st,a,0,⟨h1,h2,_⟩,_=>⟨t,rfl,h1,h2⟩
 |t::st,a,i+1,⟨_,_,h3⟩,hi=>by
  obtain⟨t',k1,k2⟩:=Gj h3 (Nat.lt_of_succ_lt_succ hi);have e:(((t::st).take (i+1)).getLast?).getD a=((st.take i).getLast?).getD t:=by
   rw[List.take_succ_cons];cases hq:st.take i with
   |nil=>rfl
   |cons y l =>
    have e2:(t::y::l).getLast? = (y::l).getLast? :=(by simp);rw[e2];cases hq2:(y::l).getLast? with
    |none=>simp at hq2
    |some z=>rfl
  rw[e];exact⟨t',k1,k2⟩
theorem tk {st:List Nat}{i:Nat}(h:st[i]? = OM t):st.take (i+1)=st.take i++[t]:=by
 obtain⟨hi,he⟩:=List.getElem?_eq_some_iff.1 h;rw[List.take_succ_eq_append_getElem hi,he]
theorem DA (l:List Nat)(t a:Nat):((l++[t]).getLast?).getD a=t:=by simp
theorem DC {b gl:Nat}{a:Nat}{st:List Nat}(w:PG)(g:aw w b W H V bl)(s:az w)(d:bX w)(hr:l5 w gl 0 st)(hn:NrC W H bl a st)(hl:st.length<=50000) :
  PK prog 89 #[.pointer (OM ⟨b,0,Pk⟩),PE PF (a:Int),.slice (OM ⟨gl,0,Pk⟩) st.length cap] w fun e w'=>∃v l,e=PM v/\w'.ownsRow w.heap.size 3 1 v (a::l).length (aH (a::l))/\JnR W H bl a st l/\l.length<=64*st.length/\PI w.heap.size w w':=by
 obtain⟨i0,hi,P0,P3,Qd⟩:=info_parts Tryz.info3;have hb:=aJ g.c0;have UU:=s.pos;have b0:=aQ w (PN #[PE PF (a:Int)] 3);have YD:(w.alloc (PN #[PE PF (a:Int)] 3)).ownsRow w.heap.size 3 1 (.slice (OM ⟨w.heap.size,0,Pk⟩) 1 1) [a].length (aH [a]):=World.ownsRow_lit w #[PE PF (a:Int)] 1 aj (by unfold maxLen;omega) rfl;have HN:=ae hn;have HR:=ae hr;clear hn hr;go_enter func89,ntmps89;go_wp2;go_loopw [1,7,16] (fun fv v iv wr=>∃(i c:Nat) (l:List Nat),i<=st.length/\iv=PE PF i/\fv=PE PF (c:Int)/\PJ (c=((st.take i).getLast?).getD a)/\wr.ownsRow w.heap.size 3 1 v (a::l).length (aH (a::l))/\PJ (JnR W H bl a (st.take i) l)/\l.length<=64*i/\PI w.heap.size w wr)
  (fun _ _ i _=>st.length-(intOf i).toNat)
 case atStart=>exact⟨0,a,[],MQ _,rfl,rfl,rfl,YD,rfl,MQ _,b0⟩
 case round =>
  clear YD b0;obtain⟨i,c,l,SJ,rfl,rfl,hc,own,hj,Wp,hB⟩:=hrel;obtain⟨gw,aq0,rfl,_,hgw,aq1,hcw,aq3⟩:=fg own (by simp);by_cases PO:i<st.length
  ·obtain⟨t,ht,QK,hff⟩:=Gj HN.out PO;have hc':=hc.out;rw[<- hc']at QK hff;have q0:=(HR.out.below hB) i _ (pT ht);rw[Addr.add_lit,M8]at q0;have hw:=A9 c (t:Int) wr (g.below hB hb) (s.below hB (by omega)) (d.below hB) (MN hb hB.size) hff QK;have HT:PJ (st.take (i+1)=st.take i++[t]):=tk ht;have i1:(i:Int)<(st.length:Int):=(by omega);have z1:=hB.size;clear hc' QK hff ht;go_wp2_with fail;refine hw.mono ?_;rintro e w3 ⟨v3,l2,rfl,QQ,XY,Ut,B3⟩;obtain⟨g3,RD,rfl,QX,Sf,aiP,hc3,aiQ⟩:=fg QQ (by simp);have QG:=aq own B3;have B4:=ak hB B3;have Sq:=QX.tail;have z4:=B4.size;simp only[Nf]at hc3 QG hcw ⊢;simp only[List.tail_cons,M8]at Sq;have HJ:PJ (JnR W H bl a (st.take (i+1)) (l++l2)):=by
    show JnR W H bl a (st.take (i+1)) (l++l2);rw[HT.out];refine JnR.snoc hj.out ?_;rw[<- hc.out];exact XY
   have HC:PJ (t=((st.take (i+1)).getLast?).getD a):=by
    show t=((st.take (i+1)).getLast?).getD a;rw[HT.out,DA]
   clear hw XY QQ own QX hB B3 hj hc q0;rcases Ob l2.length with h0|h0
   ·have e0:l2=[]:=NK.1 h0;subst e0;simp only[List.length_nil,M8]at hc3;rcases Decidable.em (RD=1) with VR|VR
    ·subst VR;go_wp2;go_roundw
     case rel=>exact⟨i+1,t,l,by omega,by go_num,rfl,HC.out,QG,by have:=HJ.out;rwa [Nt]at this,by omega,B4⟩
     case measure=>simp[intOf];omega
    ·have W9:1<RD:=(by omega);go_wp2;go_roundw
     case rel=>exact⟨i+1,t,l,by omega,by go_num,rfl,HC.out,QG,by have:=HJ.out;rwa [Nt]at this,by omega,B4⟩
     case measure=>simp[intOf];omega
   ·go_wp2_with (at_builtin;refine wpList_append_own _ rfl _ _ 51 rfl w.heap.size 3 i0 (PE PF 0) 1 8 underlying51 hi P0 P3 Qd rfl (by decide) _ _ _ rfl QG ⟨g3,1,Pk⟩ l2.length (RD-1) (aH l2) rfl ?c0 Sq (kW _) ?c3 ?c4 ?c5 ?_)
    case c0=>rw[iF];omega
    case c3=>unfold maxLen;omega
    case c4=>omega
    case c5=>exact z4
    intro v' w6 PS PR _;have B6:PI w.heap.size w w6:=B4.grown PR z4 (fun q hq=>(QG.lt q hq).1);have O6:w6.ownsRow w.heap.size 3 1 v' (a::(l++l2)).length (aH (a::(l++l2))):=by
     have e1:(a::(l++l2)).length=l.length+1+l2.length:=(by simp;omega);have e2:aH (a::(l++l2))=aH (a::l)++aH l2:=(by simp[aH]);rw[e1,e2];exact PS
    clear PS PR QG;go_wp2;go_roundw
    case rel=>exact⟨i+1,t,l++l2,by omega,by go_num,rfl,HC.out,O6,HJ.out,by rw[List.length_append];omega,B6⟩
    case measure=>simp[intOf];omega
  ·have e:i=st.length:=(by omega);subst e;have Zk:=hj.out;rw[M9]at Zk;have HJ:=ae Zk;clear hj Zk hc;go_wp2;go_ret;exact⟨_,l,rfl,own,HJ.out,Wp,hB⟩
end
section
open Go.RowKit
theorem Lvd.below {es:Nat->List LE}(h:Lvd w N lb most W H bl es)(hb:PI w.heap.size w w'):Lvd w' N lb most W H bl es:=by
 obtain⟨vb,eb,k,st,f,h1,h2,V⟩:=h;exact⟨vb,eb,k,st,f,h1,h2,V.below hb⟩
theorem Jf {l:List Nat}(w1:1<=W)(w2:W<=16)(h1:1<=H)(h2:H<=16)(hr:l.Pairwise (·<·))(hl:Cns W H bl c l):l.length<=256/\∀n∈l,n<256:=by
 have Rq:=bP w1 w2 h1 h2;have hm:∀n∈l,n∈crs W H bl (W*H).toNat:=fun n hn=>by
  have h:=((hl n).1 hn).2;have h4:0<=(n:Int)/\(n:Int)<W*H:=of_decide_eq_true (aT w1 (aE.1 h));exact cR.2 ⟨by omega,h⟩
 have he:l=(crs W H bl (W*H).toNat).filter (fun x=>decide (x∈l)) :=
  pY hr (List.Pairwise.filter _ (gA _ _ _ _)) (fun n=>by
   rw[List.mem_filter,decide_eq_true_iff];exact⟨fun h=>⟨hm n h,h⟩,fun h=>h.2⟩)
 have a1:=congrArg List.length he;have a2:=Nk (fun x=>decide (x∈l)) (crs W H bl (W*H).toNat);have a3:=fF W H bl (W*H).toNat;refine⟨by omega,fun n hn=>?_⟩;have:=(cR.1 (hm n hn)).1;omega
theorem Jg {l:List Nat}(h:w.ownsRow base 204 4 v l.length (bQ W (c:Int) l))(hl:∀n∈l,n<256):∃A cap,v=.slice A (frI W c l).length cap/\sJ w A (frI W c l):=by
 rw[<- jX W c l]at h;have e:(frC W c l).length=l.length:=by unfold frC;rw[NP]
 have h':w.ownsRow base 204 4 v (frC W c l).length (bB (frC W c l)):=by rw[e];exact h
 obtain⟨A,cap,rfl,hr,_⟩:=dY h';refine⟨A,cap,by rw[By,e],fun i x hi=>?_⟩;unfold frI at hi;rw[NF]at hi;cases hq:(frC W c l)[i]? with
 |none=>rw[hq]at hi;cases hi
 |some y =>
  rw[hq]at hi;cases hi;refine⟨?_,hr i y hq⟩;have hy:=MZ hq;unfold frC at hy;obtain⟨m,hm,rfl⟩:=List.mem_map.1 hy;have:=hl m hm;exact aC (by show (0:Int)<=(m:Int);omega) (by show (m:Int)<256;omega)
end
section
open Go.RowKit Go.Lib
structure fD (w:PG) (lo hi sb rb pb mb lb tb gb N x:Nat) (W H V V2:Int) (bl:Nat->Bool) (most:Nat):Prop where
 c0:w.cell? ⟨sb,0,Pk⟩=OM (PE PF (most:Int))
 c1:w.cell? ⟨sb,1,Pk⟩=OM (.pointer (OM ⟨rb,0,Pk⟩))
 c2:w.cell? ⟨sb,2,Pk⟩=OM (.pointer (OM ⟨lb,0,Pk⟩))
 c3:w.cell? ⟨sb,3,Pk⟩=OM (.pointer (OM ⟨tb,0,Pk⟩))
 fz:w.frozen? ⟨sb,2,Pk⟩=PB
 gi:de w rb pb mb W H V bl (fun g=>g≠tb/\g≠gb/\g≠sb)
 lv:Lvd w N lb most W H bl (esF W H bl)
 ta:fB w tb gb W H V2 bl
 l1:lo<=rb/\lo<=pb/\lo<=mb/\lo<=N
 l2:rb<x/\pb<x/\mb<x
 l3:x<=tb/\x<=gb/\tb<sb/\gb<sb
 l4:sb<hi
 m1:1<=most
 m6:most<=6
 vv:V2=V
def Sv (w:PG) (lo hi sb:Nat) (W H V:Int) (bl:Nat->Bool) (most:Nat):Prop:=∃rb pb mb lb tb gb N x V2,fD w lo hi sb rb pb mb lb tb gb N x W H V V2 bl most
section
variable {w w' : PG} {lo hi sb rb pb mb lb tb gb N x most : Nat} {W H V V2 : Int} {bl : Nat → Bool}
theorem fD.gr (S:fD w lo hi sb rb pb mb lb tb gb N x W H V V2 bl most):dI w rb pb mb W H V bl:=S.gi.graph
theorem fD.lt (S:fD w lo hi sb rb pb mb lb tb gb N x W H V V2 bl most):sb<w.heap.size:=aJ S.c0
theorem fD.below (S:fD w lo hi sb rb pb mb lb tb gb N x W H V V2 bl most)(hb:PI w.heap.size w w'):fD w' lo hi sb rb pb mb lb tb gb N x W H V V2 bl most:=by
 have k:∀{a:Addr}{v:PH},w.cell? a=OM v->w'.cell? a=OM v:=fun {a v} h=>(hb.cell (MK w a h)).trans h;exact⟨k S.c0,k S.c1,k S.c2,k S.c3,(hb.frozen (p:=⟨sb,2,Pk⟩) S.lt).trans S.fz,S.gi.below hb,S.lv.below hb,S.ta.below hb,S.l1,S.l2,S.l3,S.l4,S.m1,S.m6,S.vv⟩
theorem Sv.below (S:Sv w lo hi sb W H V bl most)(hb:PI w.heap.size w w'):Sv w' lo hi sb W H V bl most:=by
 obtain⟨rb,pb,mb,lb,tb,gb,N,x,V2,S⟩:=S;exact⟨rb,pb,mb,lb,tb,gb,N,x,V2,S.below hb⟩
theorem fD.st (S:fD w lo hi sb rb pb mb lb tb gb N x W H V V2 bl most):az w:=by
 obtain⟨T,t,_⟩:=S.ta.ok;exact t.st
theorem fD.side (S:fD w lo hi sb rb pb mb lb tb gb N x W H V V2 bl most):1<=W/\W<=16/\1<=H/\H<=16:=by
 obtain⟨f,G,_⟩:=S.gr;exact⟨G.ga.w1,G.ga.w2,G.ga.h1,G.ga.h2⟩
theorem Sv.side (S:Sv w lo hi sb W H V bl most):1<=W/\W<=16/\1<=H/\H<=16:=by
 obtain⟨rb,pb,mb,lb,tb,gb,N,x,V2,S⟩:=S;exact S.side
theorem Sv.mst (S:Sv w lo hi sb W H V bl most):1<=most/\most<=6:=by
 obtain⟨rb,pb,mb,lb,tb,gb,N,x,V2,S⟩:=S;exact⟨S.m1,S.m6⟩
end
theorem qT (w:PG)(G:dI w rb pb mb W H V bl)(s:az w)(w1:1<=W)(w2:W<=16)(h1:1<=H)(h2:H<=16)(hc:inB W H c=Pm)(Qk:bl c=PB) :
  PK prog 87 #[.pointer (OM ⟨rb,0,Pk⟩),PE PF (c:Int)] w fun e w'=>∃A cap l,e=PM (.tuple #[.slice A (frI W c l).length cap,.nilIface])/\sJ w' A (frI W c l)/\Cnp W H bl c l/\(frI W c l).length<=1000/\PI w.heap.size w w':=by
 refine(Iz w G s hc (by rw[ML];exact Qk)).mono ?_;rintro e w' ⟨v,l,rfl,hown,⟨hr,hl⟩,hb⟩;obtain⟨a1,a2⟩:=Jf w1 w2 h1 h2 hr hl;obtain⟨A,cap,rfl,PT⟩:=Jg hown a2;exact⟨A,cap,l,rfl,PT,⟨hr,hl⟩,by rw[By];omega,hb⟩
theorem Dz.below (h:Dz w gc xc yc M W tz)(hb:PI w.heap.size w w'):Dz w' gc xc yc M W tz:=by
 have k:∀{a:Addr}{v:PH},w.cell? a=OM v->w'.cell? a=OM v:=fun {a v} h=>(hb.cell (MK w a h)).trans h;exact⟨k h.1,k h.2.1,k h.2.2⟩
def Bst (W H:Int) (bl:Nat->Bool) (most:Nat) (a t:Nat) (la lb:List Nat) (stops:List Nat) (s d:Int) (f:Bool):Prop :=
 ∃k st,Rds most (crs W H bl (W*H).toNat) ⟨fun _=>0,esF W H bl⟩ k st/\lY most (crs W H bl (W*H).toNat) k st/\ma (crs W H bl (W*H).toNat) ⟨dr (k+1) st,st.es⟩ (gsN W H t) (frI W a la) (frI W t lb) stops s d f
theorem DD {cap2 a:Nat}{A2:Option Addr}{lt:List Nat}(w:PG)(hL:Lvd w N lb most W H bl (esF W H bl))(g:aw w M W H V bl)(G:Dz w gc xc yc M W (t:Int))(ht:inB W H t=Pm)(m1:1<=most)(m6:most<=6)(ho:sJ w A (frI W a la))(hi:sJ w A2 (frI W t lt))(hol:(frI W a la).length<=1000)(SJ:(frI W t lt).length<=1000) :
  PK prog 88 #[.pointer (OM ⟨lb,0,Pk⟩),.slice A (frI W a la).length cap,.slice A2 (frI W t lt).length cap2,.func (.func 85) #[] #[.pointer (OM ⟨gc,0,Pk⟩),.pointer (OM ⟨xc,0,Pk⟩),.pointer (OM ⟨yc,0,Pk⟩)]] w fun e w'=>∃stops s d b v,e=PM (.tuple #[v,.agg #[PE PF s,PE PF d],.bool b])/\Bst W H bl most a t la lt stops s d b/\w'.ownsRow w.heap.size 3 1 v stops.length (aH stops)/\stops.length<=40000/\PI w.heap.size w w':=by
 obtain⟨vb,eb,k,st,f,hR,hO,V⟩:=hL;obtain⟨O,UX,hU⟩:=IK (iS g.w1) g.w1 g.w2 g.h1 g.h2 m6 m1 hR;refine(FG (cs:=[.pointer (OM ⟨gc,0,Pk⟩),.pointer (OM ⟨xc,0,Pk⟩),.pointer (OM ⟨yc,0,Pk⟩)]) w V O UX hU (LX w G.1 G.2.1 G.2.2 g ht) (KH g.w1 g.w2 g.h1 g.h2 ht) ho hi hol SJ).mono ?_;rintro e w' ⟨way,s,d,b,v,rfl,hB,hown,Tv,hb⟩;exact⟨way,s,d,b,v,rfl,⟨k,st,hR,hO,hB⟩,hown,Tv,hb⟩
end
section
open Go.RowKit Go.Lib
structure Hf (w:PG) (lo hi sb rb pb mb tb gb x:Nat) (W H V:Int) (bl:Nat->Bool) (most:Nat):Prop where
 c0:w.cell? ⟨sb,0,Pk⟩=OM (PE PF (most:Int))
 c1:w.cell? ⟨sb,1,Pk⟩=OM (.pointer (OM ⟨rb,0,Pk⟩))
 c2:∃u,w.cell? ⟨sb,2,Pk⟩=OM u
 c3:w.cell? ⟨sb,3,Pk⟩=OM (.pointer (OM ⟨tb,0,Pk⟩))
 fz:w.frozen? ⟨sb,2,Pk⟩=PB
 gi:de w rb pb mb W H V bl (fun g=>g≠tb/\g≠gb/\g≠sb)
 ta:fB w tb gb W H V bl
 l1:lo<=rb/\lo<=pb/\lo<=mb
 l2:rb<x/\pb<x/\mb<x
 l3:x<=tb/\x<=gb/\tb<sb/\gb<sb
 l4:sb<hi
def Wr (pb mb tb gb:Nat) (k:Nat):Prop:=k=pb\/k=mb\/k=tb\/k=gb
section
variable {w w' : PG} {lo hi sb rb pb mb lb tb gb N x most : Nat} {W H V V2 : Int} {bl : Nat → Bool}
theorem fD.hf (S:fD w lo hi sb rb pb mb lb tb gb N x W H V V2 bl most):Hf w lo hi sb rb pb mb tb gb x W H V bl most:=by
 have ta:=S.ta;rw[S.vv]at ta;exact⟨S.c0,S.c1,⟨_,S.c2⟩,S.c3,S.fz,S.gi,ta,⟨S.l1.1,S.l1.2.1,S.l1.2.2.1⟩,S.l2,S.l3,S.l4⟩
theorem Hf.lt (S:Hf w lo hi sb rb pb mb tb gb x W H V bl most):sb<w.heap.size:=aJ S.c0
theorem Hf.below (S:Hf w lo hi sb rb pb mb tb gb x W H V bl most)(hb:PI w.heap.size w w'):Hf w' lo hi sb rb pb mb tb gb x W H V bl most:=by
 have k:∀{a:Addr}{v:PH},w.cell? a=OM v->w'.cell? a=OM v:=fun {a v} h=>(hb.cell (MK w a h)).trans h;obtain⟨u,c2⟩:=S.c2;exact⟨k S.c0,k S.c1,⟨u,k c2⟩,k S.c3,(hb.frozen (p:=⟨sb,2,Pk⟩) S.lt).trans S.fz,S.gi.below hb,S.ta.below hb,S.l1,S.l2,S.l3,S.l4⟩
theorem Hf.side (S:Hf w lo hi sb rb pb mb tb gb x W H V bl most):1<=W/\W<=16/\1<=H/\H<=16:=by
 obtain⟨f,G,_⟩:=S.gi;exact⟨G.ga.w1,G.ga.w2,G.ga.h1,G.ga.h2⟩
theorem de.keep {Q:Nat->Prop}(G:de w rb pb mb W H V bl Q)(K:ai F w w')(h1:¬F rb)(h2:¬F pb)(h3:¬F mb)(h4:∀g,Q g->¬F g):de w' rb pb mb W H V bl Q:=by
 obtain⟨f,S,E,I⟩:=G;exact⟨f,S.keep K h1 h2 h3,fun c=>(E c).kept K (fun v l g hfc ho hg _=>h4 g (I c v g hfc hg)) rfl,I⟩
end
theorem qU {v:Bool}(h:bl c=v):upd bl c v=bl:=by
 funext n
 unfold upd;split
 ·next e=>rw[e,h]
 ·rfl
def My (w w':PG) (e:Ending) (lo hi sb rb pb mb tb gb x:Nat) (W H V:Int) (bl:Nat->Bool) (most c:Nat) (v:Bool):Prop :=
 (bl c=v/\e=PM (.bool PB)/\PI w.heap.size w w')\/(bl c=!v/\e=PM (.bool Pm)/\Hf w' lo hi sb rb pb mb tb gb x W H (V+1) (upd bl c v) most/\ai (Wr pb mb tb gb) w w')
theorem Gk {tb gb x:Nat}(v:Bool)(w:PG)(S:Hf w lo hi sb rb pb mb tb gb x W H V bl most)(hc:inB W H c=Pm)(v1:0<=V)(v2:V<=1000000)(YE:2<=lo) :
  PK prog 36 #[.pointer (OM ⟨sb,0,Pk⟩),.agg #[PE PF c,.bool v]] w fun e w'=>My w w' e lo hi sb rb pb mb tb gb x W H V bl most c v:=by
 obtain⟨a1,a2,a3⟩:=S.l1;obtain⟨a4,a5,a6⟩:=S.l2;obtain⟨a7,a8,a9,a10⟩:=S.l3;have VF:=S.lt;have b0:=aQ w (PN #[PE PF c,.bool v] 78);have q0:(w.alloc (PN #[PE PF c,.bool v] 78)).cell? ⟨w.heap.size,0,Pk⟩=OM (PE PF c):=ME #[PE PF c,.bool v] 78 w.heap.size 0 rfl;have q1:(w.alloc (PN #[PE PF c,.bool v] 78)).cell? ⟨w.heap.size,1,Pk⟩=OM (.bool v):=ME #[PE PF c,.bool v] 78 w.heap.size 1 rfl;have S0:=S.below b0;go_enter func36,ntmps36;go_wp2_with fail;have P0:w.heap.size<(w.alloc (PN #[PE PF c,.bool v] 78)).heap.size:=by simp
 generalize w.alloc (PN #[PE PF c,.bool v] 78)=wa at *;have e0:=cI wa;have S1:=S0.below e0;have hzd:w.heap.size<wa.drew.heap.size:=P0;have ta:fB wa.drew tb gb W H V bl:=S1.ta;have c3:=S1.c3;have q0:=bH q0;have q1:=bH q1;have B1:PI w.heap.size w wa.drew:=ak b0 e0;by_cases hv:bl c=v
 ·have ht:=Dk c v wa.drew ta hc hv;have HV:=ae hv;clear hv ta;go_region_held3 (fun w'=>w'.cell? ⟨sb,3,Pk⟩=OM (.pointer (OM ⟨tb,0,Pk⟩))/\w'.cell? ⟨w.heap.size,0,Pk⟩=OM (PE PF c)/\w'.cell? ⟨w.heap.size,1,Pk⟩=OM (.bool v)) (first|with_reducible exact⟨c3,q0,q1⟩)
   (first|(go_at_call 73;refine ht.mono ?_;rintro r w5 ⟨rfl,m5,Ub⟩;have h5:PI wa.drew.heap.size wa.drew w5:=(by rw[Ub];exact below_drewN al _);clear Ub;have c3:=ar h5 c3;have q0:=ar h5 q0;have q1:=ar h5 q1))
  go_wp2_with fail;have e5:=cI w5;have S5:=(S1.below h5).below e5;have c1:=S5.c1;have q0:=bH q0;have q1:=bH q1;have B5:=(ak B1 h5).trans (e5.mono (ak B1 h5).size);have hg:=Dj v w5.drew S5.gi.graph hc HV.out;clear ht c3 S0 S1 S;go_region_held3 (fun w'=>w'.cell? ⟨sb,1,Pk⟩=OM (.pointer (OM ⟨rb,0,Pk⟩))/\w'.cell? ⟨w.heap.size,0,Pk⟩=OM (PE PF c)/\w'.cell? ⟨w.heap.size,1,Pk⟩=OM (.bool v)) (first|with_reducible exact⟨c1,q0,q1⟩)
   (first|(go_at_call 74;refine hg.mono ?_;rintro r w6 ⟨rfl,h6⟩;have c1:=ar h6 c1;have q0:=ar h6 q0;have q1:=ar h6 q1))
  go_wp2;go_ret;exact MG ⟨HV.out,rfl,ak B5 h6⟩
 ·have hv':bl c=!v:=by cases hb:bl c<;>cases v<;>simp_all
  have ht:=FV c v wa.drew ta hc hv' v1 v2;have HV:=ae hv';have n1:sb≠tb/\sb≠gb:=⟨by omega,by omega⟩;have n2:w.heap.size≠tb/\w.heap.size≠gb:=⟨by omega,by omega⟩;have n3:w.heap.size≠pb/\w.heap.size≠mb:=⟨by omega,by omega⟩;clear hv hv' ta;go_region_held3 (fun w'=>w'.cell? ⟨sb,3,Pk⟩=OM (.pointer (OM ⟨tb,0,Pk⟩))/\w'.cell? ⟨w.heap.size,0,Pk⟩=OM (PE PF c)/\w'.cell? ⟨w.heap.size,1,Pk⟩=OM (.bool v)) (first|with_reducible exact⟨c3,q0,q1⟩)
   (first|(go_at_call 73;refine ht.mono ?_;rintro r w5 ⟨rfl,T5,K5⟩;have c3:=K5.cellOf c3 (fun h=>h.elim n1.1 n1.2);have q0:=K5.cellOf q0 (fun h=>h.elim n2.1 n2.2);have q1:=K5.cellOf q1 (fun h=>h.elim n2.1 n2.2)))
  go_wp2_with fail;have e5:=cI w5;have YF:ai (fun k=>k=tb\/k=gb) wa.drew w5.drew:=K5.drew;have QC:=YF.size;have st5:az w5.drew:=by
   obtain⟨T,t,_⟩:=(T5.below e5).ok;exact t.st
  have c1:=YF.cellOf S1.c1 (fun h=>h.elim n1.1 n1.2);have q0:=bH q0;have q1:=bH q1;have G5:=S1.gi.keep YF (fun h=>h.elim (by omega) (by omega)) (fun h=>h.elim (by omega) (by omega)) (fun h=>h.elim (by omega) (by omega)) (fun g hg h=>h.elim hg.1 hg.2.1);have hg:=FU v w5.drew G5 (fun g hg=>⟨by omega,by omega,by omega⟩) st5 hc HV.out v1 v2 (by omega) (by omega);have T5':=T5.below e5;have d0:=YF.cellOf S1.c0 (fun h=>h.elim n1.1 n1.2);have d2:∃u,w5.drew.cell? ⟨sb,2,Pk⟩=OM u:=by
   obtain⟨u,hu⟩:=S1.c2;exact⟨u,YF.cellOf hu (fun h=>h.elim n1.1 n1.2)⟩
  have d3:=YF.cellOf S1.c3 (fun h=>h.elim n1.1 n1.2);have d4:=(YF.frozen (p:=⟨sb,2,Pk⟩) S1.lt (fun h=>h.elim n1.1 n1.2)).trans S1.fz;have HK5:PJ (ai (Wr pb mb tb gb) w w5.drew):=(ai.of_below B1).trans YF (fun k _ h=>h.elim (fun h=>MF (MF (MG h))) (fun h=>MF (MF (MF h))));have HD:PJ (w5.drew.cell? ⟨sb,0,Pk⟩=OM (PE PF (most:Int))/\(∃u,w5.drew.cell? ⟨sb,2,Pk⟩=OM u)/\w5.drew.cell? ⟨sb,3,Pk⟩=OM (.pointer (OM ⟨tb,0,Pk⟩))/\w5.drew.frozen? ⟨sb,2,Pk⟩=PB):=⟨d0,d2,d3,d4⟩;have HL:PJ ((lo<=rb/\lo<=pb/\lo<=mb)/\(rb<x/\pb<x/\mb<x)/\(x<=tb/\x<=gb/\tb<sb/\gb<sb)/\sb<hi):=⟨S.l1,S.l2,S.l3,S.l4⟩;have UU:sb≠pb/\sb≠mb:=⟨by omega,by omega⟩;have PT:tb≠pb/\tb≠mb/\gb≠pb/\gb≠mb/\1≠pb/\1≠mb:=⟨by omega,by omega,by omega,by omega,by omega,by omega⟩;have hsd:sb<w5.drew.heap.size:=MN S1.lt QC;clear ht c3 S0 S1 S K5 YF G5 st5 T5 d0 d2 d3 d4;go_region_held3 (fun w'=>w'.cell? ⟨sb,1,Pk⟩=OM (.pointer (OM ⟨rb,0,Pk⟩))/\w'.cell? ⟨w.heap.size,0,Pk⟩=OM (PE PF c)/\w'.cell? ⟨w.heap.size,1,Pk⟩=OM (.bool v)) (first|with_reducible exact⟨c1,q0,q1⟩)
   (first|(go_at_call 74;refine hg.mono ?_;rintro r w6 ⟨rfl,G6,K6⟩;have c1:=K6.cellOf c1 (fun h=>h.elim UU.1 UU.2);have q0:=K6.cellOf q0 (fun h=>h.elim n3.1 n3.2);have q1:=K6.cellOf q1 (fun h=>h.elim n3.1 n3.2)))
  obtain⟨d0,⟨u,d2⟩,d3,d4⟩:=HD.out;obtain⟨k1,k2,k3,k4⟩:=HL.out;have HF:PJ (Hf w6 lo hi sb rb pb mb tb gb x W H (V+1) (upd bl c v) most):=⟨K6.cellOf d0 (fun h=>h.elim UU.1 UU.2),c1,⟨u,K6.cellOf d2 (fun h=>h.elim UU.1 UU.2)⟩,K6.cellOf d3 (fun h=>h.elim UU.1 UU.2),(K6.frozen (p:=⟨sb,2,Pk⟩) hsd (fun h=>h.elim UU.1 UU.2)).trans d4,G6,T5'.keep K6 (fun h=>h.elim PT.1 PT.2.1) (fun h=>h.elim PT.2.2.1 PT.2.2.2.1) (fun h=>h.elim PT.2.2.2.2.1 PT.2.2.2.2.2),k1,k2,k3,k4⟩;have HK6:PJ (ai (Wr pb mb tb gb) w w6):=HK5.out.trans K6 (fun k _ h=>h.elim MG (fun h=>MF (MG h)));clear d0 d2 d3 d4 T5' G6 K6;go_wp2;go_ret;exact MF ⟨HV.out,rfl,HF.out,HK6.out⟩
end
section
open Go.RowKit Go.Lib
theorem Bst.ov {a:Nat}{lb stops:List Nat}{s:Int}{f:Bool}(h:Bst W H bl most a t la lb stops s d f)(h1:Cnp W H bl a la)(h2:Cnp W H bl t lb)(h3:stops.length<=40000)(h4:f=PB->way=[])(h5:f=Pm->∃l,way=a::l/\JnR W H bl a (stops++[t]) l):OvR W H bl most a t way s d f:=by
 obtain⟨k,st,r1,r2,r3⟩:=h;exact⟨k,st,la,lb,stops,r1,r2,h1,h2,r3,h3,h4,h5⟩
theorem Bst.near (w1:1<=W)(w2:W<=16)(h1:1<=H)(h2:H<=16){most a t:Nat}(m1:1<=most)(m6:most<=6){la lb stops:List Nat}{s d:Int}(h:Bst W H bl most a t la lb stops s d Pm)(ha:inB W H a=Pm)(Rh:bl a=PB)(ht:inB W H t=Pm)(VG:bl t=PB)(k1:Cnp W H bl a la)(k2:Cnp W H bl t lb):NrC W H bl a (stops++[t]):=by
 obtain⟨k,st,r1,r2,r3⟩:=h;exact(OvR.stops w1 w2 h1 h2 m1 m6 ha Rh ht VG r1 k1 k2 r3).1
theorem Bst.no {a:Nat}{lb stops:List Nat}{s:Int}(h:Bst W H bl most a t la lb stops s d PB):s=0/\d=0:=by
 obtain⟨k,st,_,_,r3⟩:=h;obtain⟨_,_,_,_,_,_,_,_,h4,_⟩:=r3;exact(h4 rfl).2
theorem DE {tb gb x a:Nat}{V2 V3:Int}(w:PG)(S:fD w lo hi sb rb pb mb lb tb gb N x W H V V2 bl most)(d:bX w)(g:aw w M W H V3 bl)(ha:inB W H a=Pm)(Rh:bl a=PB)(ht:inB W H t=Pm)(VG:bl t=PB) :
  PK prog 44 #[.pointer (OM ⟨sb,0,Pk⟩),.pointer (OM ⟨M,0,Pk⟩),PE PF (a:Int),PE PF (t:Int)] w fun e w'=>∃v way s d f,e=PM (.agg #[v,PE PF s,PE PF d,PE PF (if f then 0 else 5)])/\w'.ownsRow w.heap.size 3 1 v way.length (aH way)/\OvR W H bl most a t way s d f/\PI w.heap.size w w':=by
 obtain⟨w1,w2,h1,h2⟩:=S.side;obtain⟨i0,hi,P0,P3,Qd⟩:=info_parts Tryz.info3;have hM:=aJ g.c0;have b0:=aQ w (PN #[.slice Pk 0 0,PE PF 0,PE PF 0,PE PF 0] 56);have an0:=An.new w (.slice Pk 0 0) 0 0 0;have S0:=S.below b0;have q1:=S0.c1;have UH:=qT _ S0.gr S0.st w1 w2 h1 h2 ha Rh;go_enter func44,ntmps44;go_wp2_with fail;generalize w.alloc (PN #[.slice Pk 0 0,PE PF 0,PE PF 0,PE PF 0] 56)=wa at *;refine UH.mono ?_;rintro e wb ⟨A1,X0,la,rfl,r1,cn1,le1,hb1⟩;have S1:=S0.below hb1;have VH:=an0.below hb1;have B1:=ak b0 hb1;have q1:=S1.c1;have W9:=qT _ S1.gr S1.st w1 w2 h1 h2 ht VG;clear UH S0 an0 hb1 b0;go_wp2_with fail;refine W9.mono ?_;rintro e wr ⟨A2,cap2,lt,rfl,r2,cn2,le2,hb2⟩;have S2:=S1.below hb2;have Sb:=VH.below hb2;have B2:=ak B1 hb2;have r1:=r1.below aj hb2;have HC:PJ (Cnp W H bl a la/\Cnp W H bl t lt):=⟨cn1,cn2⟩;have c2:=S2.c2;have g2:=g.below B2 hM;have XX:M<wr.heap.size:=MN hM B2.size;have sz2:w.heap.size<wr.heap.size:=aJ Sb.c0;clear W9 S1 VH hb2 B1 cn1 cn2 q1;have HG:PJ (∀w',PI wr.heap.size wr w'->_):=fun w' hb=>pD w' (g2.below hb XX) ht;have HB:PJ (∀w' gc xc yc,PI wr.heap.size wr w'->Dz w' gc xc yc M W (t:Int)->_):=fun w' gc xc yc hb G=>DD (cap:=X0) (cap2:=cap2) w' (S2.lv.below hb) (g2.below hb XX) G ht S2.m1 S2.m6 (r1.below aj hb) (r2.below aj hb) le1 le2;go_upto_region 3 with fail
 go_cut [13,14,15] from 34 to 47 (fun cv pv fv wd=>∃stops s d f T vS,vS=cv/\pv=.pointer (OM ⟨T,0,Pk⟩)/\fv=.bool f/\bz wd T s d/\w.heap.size<T/\wd.ownsRow (w.heap.size+1) 3 1 vS stops.length (aH stops)/\(∀q,vS.ownBlock=OM q->q≠T)/\Bst W H bl most a t la lt stops s d f/\stops.length<=40000/\PI wr.heap.size wr wd)
 case first =>
  have e0:=cI wr;have eA:PI wr.heap.size wr (wr.drew.alloc (PN #[PE PF 0,PE PF 0] 53)):=e0.alloc e0.size _;have sA:bz (wr.drew.alloc (PN #[PE PF 0,PE PF 0] 53)) wr.heap.size 0 0:=bz.new wr.drew 0 0;have CC:PJ (∀w',PI wr.heap.size wr w'->w'.cell? ⟨sb,2,Pk⟩=OM (.pointer (OM ⟨lb,0,Pk⟩))):=fun w' h=>(h.cell (MK wr _ c2)).trans c2;clear c2 r1 r2 S2 g2 Sb;go_region_held3 (fun w'=>w'.cell? ⟨sb,2,Pk⟩=OM (.pointer (OM ⟨lb,0,Pk⟩))) (first|exact CC.out _ e0|exact CC.out _ eA|exact CC.out _ e5|exact CC.out _ (e5.alloc e5.size _)|exact CC.out _ e6|exact CC.out _ (e6.alloc e6.size _)|exact CC.out _ ((e6.setCell (p:=⟨_,0,Pk⟩) (by first|exact aj|exact e5.size) _).setCell (p:=⟨_,1,Pk⟩) (by first|exact aj|exact e5.size) _)|exact CC.out _ (((e6.alloc e6.size _).setCell (p:=⟨_,0,Pk⟩) e6.size _).setCell (p:=⟨_,1,Pk⟩) e6.size _))
   (first
    |(go_at_call 43;first|(refine(HG.out _ e0).mono ?_;rintro r w5 ⟨gc,xc,yc,rfl,G5,PV⟩;have e5:=ak e0 PV)|(refine(HG.out _ eA).mono ?_;rintro r w5 ⟨gc,xc,yc,rfl,G5,PV⟩;have e5:=ak eA PV;have sl:=sA.below PV))
    |(go_at_call 88;first|(refine(HB.out _ _ _ _ e5 G5).mono ?_;rintro r w6 ⟨stops,s,d',f,v,rfl,US,hown,VF,Qr⟩;have e6:=ak e5 Qr;first|(have s6:=sl.below Qr;have g0:=s6.c0;have g1:=s6.c1;have g2:=s6.z0;have g3:=s6.z1)|skip)|(refine(HB.out _ _ _ _ (e5.alloc e5.size _) (G5.below (al.alloc aj _))).mono ?_;rintro r w6 ⟨stops,s,d',f,v,rfl,US,hown,VF,Qr⟩;have e6:=(e5.alloc e5.size _).trans (Qr.mono (e5.alloc e5.size _).size);have s6:=(bz.new w5 0 0).below Qr;have g0:=s6.c0;have g1:=s6.c1;have g2:=s6.z0;have g3:=s6.z1)))
  all_goals
   go_wp2_with fail;go_meet
  ·exact⟨stops,s,d',f,_,_,rfl,rfl,rfl,bz.new w6 _ _,by have:=e6.size;omega,bT (World.ownsRow.alloc hown _) (by have:=e5.size;omega),fun q hq=>NO (hown.lt q hq).2,US,VF,e6.alloc e6.size _⟩
  ·have z5:=e5.size;refine⟨stops,s,d',f,_,_,rfl,rfl,rfl,s6.set _ _,by omega,bT (bq hown (eF w6 w5.heap.size s d') (fun q hq=>by have:=(hown.lt q hq).1;simp at this;omega)) (by simp;omega),(fun q hq=>by have:=(hown.lt q hq).1;simp at this;omega),US,VF,?_⟩;exact(e6.setCell (p:=⟨w5.heap.size,0,Pk⟩) z5 _).setCell (p:=⟨w5.heap.size,1,Pk⟩) z5 _
  ·have z5:=e5.size;have z6:wr.heap.size<w5.heap.size:=aJ sl.c0;refine⟨stops,s,d',f,_,_,rfl,rfl,rfl,s6.set _ _,by omega,bT (bq hown (eF w6 wr.heap.size s d') (fun q hq=>by have:=(hown.lt q hq).1;omega)) (by omega),(fun q hq=>by have:=(hown.lt q hq).1;omega),US,VF,?_⟩;exact(e6.setCell (p:=⟨wr.heap.size,0,Pk⟩) aj _).setCell (p:=⟨wr.heap.size,1,Pk⟩) aj _
 case rest =>
  obtain⟨stops,s,d',f,T,vS,rfl,rfl,rfl,slT,hT,hown,hqT,US,VF,hb3⟩:=hcut;have Q9:=Sb.below hb3;have B3:=ak B2 hb3;have x0:=Q9.c0;have x1:=Q9.c1;have x2:=Q9.c2;have x3:=Q9.c3;have y0:=Q9.z0;have y1:=Q9.z1;have y2:=Q9.z2;have y3:=Q9.z3;clear HG HB r1 r2 Sb c2 hb3;cases f with
  |false =>
   obtain⟨e1,e2⟩:=US.no;subst e1 e2;clear slT hown;go_wp2;have r:=Q9.set (.slice Pk 0 0) 0 0 5;refine bodyPost_ret (v:=.agg #[.slice Pk 0 0,PE PF 0,PE PF 0,PE PF 5]) (by simp[results,results44,go_sem,r.c0,r.c1,r.c2,r.c3]) rfl ?_;exact⟨_,[],0,0,PB,rfl,Nj _ _ _ _,US.ov HC.out.1 HC.out.2 VF (fun _=>rfl) (fun q=>by cases q),jc B3 aj _ _ _ _⟩
  |true =>
   have HNR:=Bst.near w1 w2 h1 h2 S.m1 S.m6 US ha Rh ht VG HC.out.1 HC.out.2;have g3:=g.below B3 hM;have s3:az wc:=S.st.below B3 (by omega);have d3:=d.below B3;have t0:=slT.c0;have t1:=slT.c1;have hTl:T<wc.heap.size:=aJ t0;have hlw:w.heap.size<wc.heap.size:=aJ x0;have HJ:PJ (∀(w7:PG) (g7 c7:Nat),PI w.heap.size w w7->w7.ownsRow (w.heap.size+1) 3 1 (.slice (OM ⟨g7,0,Pk⟩) (stops.length+1) c7) (stops.length+1) (aH stops++[PE PF (t:Int)])->PK prog 89 #[.pointer (OM ⟨M,0,Pk⟩),PE PF (a:Int),.slice (OM ⟨g7,0,Pk⟩) (stops.length+1) c7] w7 fun e w'=>∃g8 c8 l,e=PM (.slice (OM ⟨g8,0,Pk⟩) (l.length+1) c8)/\w'.ownsRow w7.heap.size 3 1 (.slice (OM ⟨g8,0,Pk⟩) (l.length+1) c8) (a::l).length (aH (a::l))/\JnR W H bl a (stops++[t]) l/\PI w7.heap.size w7 w'):=fun w7 g7 c7 hb ho=>by
    have e1:stops.length+1=(stops++[t]).length:=(by simp);have e2:aH stops++[PE PF (t:Int)]=aH (stops++[t]):=(by simp[aH]);rw[e1,e2]at ho;rw[e1];obtain⟨g9,c9,q1,q2,_⟩:=fg ho (by simp);cases q1;refine(DC w7 (g.below hb hM) (S.st.below hb (by omega)) (d.below hb) q2 HNR (by simp;omega)).mono ?_;rintro e w' ⟨v,l,h1,h2,h3,_,h4⟩;obtain⟨g8,c8,rfl,_⟩:=fg h2 (by simp);exact⟨g8,c8,l,h1,h2,h3,h4⟩
   clear g3 s3 d3 HNR;go_upto_region 6 with fail
   have e0:=cI wc;have B0:=ak B3 e0;have o0:=aq hown e0;have k0:ai (fun k=>vS.ownBlock=OM k) wc wc.drew:=ai.of_below e0;have CC:PJ (∀w',ai (fun k=>vS.ownBlock=OM k) wc w'->w'.cell? ⟨T,0,Pk⟩=OM (PE PF s)/\w'.cell? ⟨T,1,Pk⟩=OM (PE PF d')):=fun w' h=>⟨h.cellOf t0 (fun q=>hqT T q rfl),h.cellOf t1 (fun q=>hqT T q rfl)⟩;have hqw:∀q,vS.ownBlock=OM q->w.heap.size<q:=fun q hq=>(hown.lt q hq).1;have zc:w.heap.size<=wc.heap.size:=B3.size;have o6:=o0.alloc (PN #[PE PF (t:Int)] 3);have B6:PI w.heap.size w (wc.drew.alloc (PN #[PE PF (t:Int)] 3)):=B0.alloc zc _;have kA:=k0.alloc (PN #[PE PF (t:Int)] 3);have a1:∀j u,[NB .i64 (t:Int)][j]? = OM u->(wc.drew.alloc (PN #[PE PF (t:Int)] 3)).cell? ((⟨wc.heap.size,0,Pk⟩:Addr).add j)=OM u:=fun j u hj=>by
    match j,hj with
    |0,hj =>
     cases hj;exact ME (w:=wc.drew) #[PE PF (t:Int)] 3 wc.heap.size 0 rfl
   have a2:∀u∈[NB .i64 (t:Int)],u.oneCell'=true:=fun u hu=>by simp at hu;subst hu;rfl
   have a3:stops.length+1<=maxLen:=(by unfold maxLen;omega);have a4:(stops.length+1)*8<=140737488355328:=(by omega);have a5:w.heap.size+1<=(wc.drew.alloc (PN #[PE PF (t:Int)] 3)).heap.size:=(by simp;omega);clear t0 t1 slT hown x0 x1 x2 x3 y0 y1 y2 y3;go_region_held3 (fun w'=>w'.cell? ⟨T,0,Pk⟩=OM (PE PF s)/\w'.cell? ⟨T,1,Pk⟩=OM (PE PF d')) (first|exact CC.out _ k0|exact CC.out _ kA|exact CC.out _ k7|exact CC.out _ k8|exact⟨(nL w8 w.heap.size _ _ _ _).cellOf (CC.out _ k8).1 (Nat.ne_of_gt hT),(nL w8 w.heap.size _ _ _ _).cellOf (CC.out _ k8).2 (Nat.ne_of_gt hT)⟩)
    (first
     |(refine step_append_lies _ rfl (.tmp 53) (.tmp 55) 51 rfl (w.heap.size+1) 3 i0 (PE PF 0) 1 8 underlying51 hi P0 P3 Qd rfl (by decide) _ _ _ rfl o6 ⟨wc.heap.size,0,Pk⟩ 1 1 [PE PF (t:Int)] rfl rfl a1 a2 (by decide) a3 a4 a5 _ rfl ?_;intro g7 c7 w7 Tx hg7 _ ai7;have B7:PI w.heap.size w w7:=(B6.grown hg7 (by simp;omega) (fun q hq=>ON (hqw q hq)));have k7:=kA.grown hg7 (fun k hk _=>hk);have h8:=HJ.out w7 g7 c7 B7 Tx)
     |(go_at_call 89;refine h8.mono ?_;rintro r w8 ⟨g8,c8,l8,rfl,abg,hj8,Rn⟩;have k8:=k7.below Rn;have an8:=Q9.keep k8 (fun q=>absurd (hqw _ q) (Nat.lt_irrefl _));have x0:=an8.c0;have x1:=an8.c1;have x2:=an8.c2;have x3:=an8.c3;have y0:=an8.z0;have y1:=an8.z1;have y2:=an8.z2;have y3:=an8.z3;have B8:=ak B7 Rn))
   go_wp2;have r:=an8.set (.slice (OM ⟨g8,0,Pk⟩) (l8.length+1) c8) s d' 0;refine bodyPost_ret (v:=.agg #[.slice (OM ⟨g8,0,Pk⟩) (l8.length+1) c8,PE PF s,PE PF d',PE PF 0]) (by simp[results,results44,go_sem,r.c0,r.c1,r.c2,r.c3]) rfl ?_;refine⟨_,a::l8,s,d',Pm,rfl,bT (bq abg (nL w8 w.heap.size _ _ _ _) (fun q hq=>by have:=(abg.lt q hq).1;have:=B7.size;have:w.heap.size<w7.heap.size:=MN hlw k7.size;omega)) B7.size,US.ov HC.out.1 HC.out.2 VF (fun q=>by cases q) (fun _=>⟨l8,rfl,hj8⟩),jc B8 aj _ _ _ _⟩
end
section
open Go.RowKit Go.Lib
theorem DF (W H:Int)(bl:Nat->Bool)(a t:Int):ff2 W H bl a t=0\/ff2 W H bl a t=1\/ff2 W H bl a t=4:=by
 have h:∀c,ffv W H bl c=0\/ffv W H bl c=1\/ffv W H bl c=4:=fun c=>by
  unfold ffv;split
  ·split
   ·exact .inr (.inr rfl)
   ·exact .inl rfl
  ·exact .inr (.inl rfl)
 unfold ff2;split
 ·exact h t
 ·exact h a
theorem Gl (w:PG)(n:Int):PK prog 45 #[.iface 54 (PE PF n)] w fun e w'=>e=PM (PE PF n)/\w'=w:=by
 have h:∀(v:PH) (w:PG),(Instr.typeAssert (.iface 54 v) 27 54 Pm).run prog w=.ok (.tuple #[v,.bool Pm]) w:=fun v w=>by kernel_rfl
 go_enter func45,ntmps45;go_wp2;go_ret;exact⟨rfl,rfl⟩
theorem eq5 (w:PG):(binOp .eql 27 (.iface 54 (PE PF 5)) (.iface 54 (PE PF 5))).run prog w=.ok (.bool Pm) w:=by kernel_rfl
theorem eq1 (w:PG):(binOp .eql 27 (.iface 54 (PE PF 1)) (.iface 54 (PE PF 5))).run prog w=.ok (.bool PB) w:=by kernel_rfl
theorem eq4 (w:PG):(binOp .eql 27 (.iface 54 (PE PF 4)) (.iface 54 (PE PF 5))).run prog w=.ok (.bool PB) w:=by kernel_rfl
theorem Jh (a t:Int)(w:PG)(S:Sv w lo hi sb W H V bl most)(d:bX w) :
  PK prog 16 #[.pointer (OM ⟨sb,0,Pk⟩),PE PF a,PE PF t] w fun e w'=>∃v way s d err,e=PM (.agg #[v,PE PF s,PE PF d,PE PF err])/\w'.ownsRow w.heap.size 3 1 v way.length (aH way)/\xf W H bl most a t way s d err/\PI w.heap.size w w':=by
 obtain⟨rb,pb,mb,lb,tb,gb,N,x,V2,S⟩:=S;obtain⟨w1,w2,h1,h2⟩:=S.side;have b0:=aQ w (PN #[.slice Pk 0 0,PE PF 0,PE PF 0,PE PF 0] 56);have an0:=An.new w (.slice Pk 0 0) 0 0 0;have S0:=S.below b0;have q1:=S0.c1;have Tb:=k9 _ S0.gr;have UU:=S.st.pos;have q5:=eq5;have q4:=eq4;have q1':=eq1;go_enter func16,ntmps16;go_wp2_with fail;generalize w.alloc (PN #[.slice Pk 0 0,PE PF 0,PE PF 0,PE PF 0] 56)=wa at *;refine Tb.mono ?_;rintro e wb ⟨rfl,hb1,P3,g1,_⟩;have S1:=S0.below hb1;have VH:=an0.below hb1;have B1:=ak b0 hb1;have d1:=d.below B1;generalize hMw:wa.heap.size=M at *;clear Tb S0 an0 q1 hb1 hMw b0;rcases DF W H bl a t with hf|hf
 ·obtain⟨⟨Sg,Rh⟩,⟨hit,VG⟩⟩:=oH hf;have ja:0<=a/\a<W*H:=of_decide_eq_true Sg;have jt:0<=t/\t<W*H:=of_decide_eq_true hit;obtain⟨aN,rfl⟩:∃aN:Nat,a=(aN:Int):=⟨a.toNat,by omega⟩;obtain⟨tN,rfl⟩:∃tN:Nat,t=(tN:Int):=⟨t.toNat,by omega⟩;rw[ML]at Rh VG;by_cases hn:∃z,On W H bl (aN:Int) (tN:Int) z
  ·have hw:=A9 aN (tN:Int) wb g1 S1.st d1 P3 hf hn;go_wp2_with fail;refine hw.mono ?_;rintro e wd ⟨v,l,rfl,hown,XY,hl,hb2⟩;obtain⟨g3,RD,rfl,_,Sf,_⟩:=fg hown (by simp);have B2:=ak B1 hb2;have Sb:=VH.below hb2;have g2:=g1.below hb2 P3;have Vx:=pD wd g2 hit;have HA:PJ (xf W H bl most (aN:Int) (tN:Int) (aN::l) (aO W aN tN) (aK W aN tN) 0):=MF ⟨hf,MG ⟨hn,rfl,⟨l,rfl,XY⟩,rfl,rfl⟩⟩;have PO:w.heap.size<wb.heap.size:=aJ VH.c0;have XX:=MN P3 hb2.size;clear hw VH S1 XY hn;go_wp2_with fail;refine Vx.mono ?_;rintro e we ⟨gc,xc,yc,rfl,G3,hb3⟩;have B3:=ak B2 hb3;have Q9:=Sb.below hb3;have QQ:=aq hown hb3;have TT:=BN (n:=(aN:Int)) we G3.1 G3.2.1 G3.2.2 (g2.below hb3 XX) hit;have hgn:gsN W H (tN:Int) (aN:Int)=(aO W aN tN,aK W aN tN):=(by unfold gsN;rw[if_pos Sg]);rw[hgn]at TT;clear Vx Sb G3 hb3 hown hgn;go_wp2_with fail;refine TT.mono ?_;rintro e wf ⟨rfl,QB⟩;have B4:=ak B3 QB;have Xu:=Q9.below QB;have QG:=aq QQ QB;have x0:=Xu.c0;have x1:=Xu.c1;have x2:=Xu.c2;have x3:=Xu.c3;have y0:=Xu.z0;have y1:=Xu.z1;have y2:=Xu.z2;have y3:=Xu.z3;clear TT Q9 QQ QB;generalize aO W (aN:Int) (tN:Int)=os at *;generalize aK W (aN:Int) (tN:Int)=od at *;go_wp2;have r:=Xu.set (.slice (OM ⟨g3,0,Pk⟩) (l.length+1) RD) os od 0;refine bodyPost_ret (v:=.agg #[.slice (OM ⟨g3,0,Pk⟩) (l.length+1) RD,PE PF os,PE PF od,PE PF 0]) (by simp[results,results16,go_sem,r.c0,r.c1,r.c2,r.c3]) rfl ?_;exact⟨_,aN::l,os,od,0,rfl,bT (bq QG (nL wf w.heap.size _ _ _ _) (fun q hq=>by have:=(QG.lt q hq).1;omega)) (by omega),HA.out,jc B4 aj _ _ _ _⟩
  ·have hw:=Cy (aN:Int) (tN:Int) wb g1 S1.st d1 P3 hf hn;go_wp2_with fail;refine hw.mono ?_;rintro e wd ⟨rfl,hb2⟩;have B2:=ak B1 hb2;have Sb:=VH.below hb2;have hov:=DE wd (S1.below hb2) (d1.below hb2) (g1.below hb2 P3) Sg Rh hit VG;have PO:w.heap.size<wd.heap.size:=aJ Sb.c0;have HN:=ae hn;clear hw VH S1 hn hb2;go_wp2_with fail;refine hov.mono ?_;rintro e we ⟨v,way,s,dd,f,rfl,hown,hO,hb3⟩;have B3:=ak B2 hb3;have Q9:=Sb.below hb3;have x0:=Q9.c0;have x1:=Q9.c1;have x2:=Q9.c2;have x3:=Q9.c3;have y0:=Q9.z0;have y1:=Q9.z1;have y2:=Q9.z2;have y3:=Q9.z3;have HA:PJ (xf W H bl most (aN:Int) (tN:Int) way s dd (if f then 0 else 5)):=MF ⟨hf,MF ⟨HN.out,f,by rw[ML,ML];exact hO,rfl⟩⟩;obtain⟨n,A,cap,rfl⟩:∃(n:Nat) (A:Option Addr) (cap:Nat),v=.slice A n cap:=by
    rcases hown.2 with⟨rfl,_⟩|⟨g9,ajM,_,rfl,_⟩
    ·exact⟨_,_,_,rfl⟩
    ·exact⟨_,_,_,rfl⟩
   generalize (if f then (0:Int) else 5)=er at *;clear hov Sb hb3 hO;go_wp2;have r:=Q9.set (.slice A n cap) s dd er;refine bodyPost_ret (v:=.agg #[.slice A n cap,PE PF s,PE PF dd,PE PF er]) (by simp[results,results16,go_sem,r.c0,r.c1,r.c2,r.c3]) rfl ?_;exact⟨_,way,s,dd,er,rfl,bT (bq hown (nL we w.heap.size _ _ _ _) (fun q hq=>by have:=(hown.lt q hq).1;omega)) (by omega),HA.out,jc B3 aj _ _ _ _⟩
 ·have PW:ff2 W H bl a t≠0:=by omega
  have hw:=EU a t wb g1 P3 PW;have HA:PJ (xf W H bl most a t [] 0 0 (ff2 W H bl a t)):=MG ⟨PW,rfl,rfl,rfl,rfl⟩;rw[jB PW]at hw;generalize ff2 W H bl a t=n at *;go_wp2_with fail;refine hw.mono ?_;rintro e wd ⟨rfl,hb2⟩;have B2:=ak B1 hb2;have Sb:=VH.below hb2;have U1:=Gl wd n;have x0:=Sb.c0;have x1:=Sb.c1;have x2:=Sb.c2;have x3:=Sb.c3;have y0:=Sb.z0;have y1:=Sb.z1;have y2:=Sb.z2;have y3:=Sb.z3;clear hw VH S1 hb2 PW;rcases hf with rfl|rfl
  ·go_wp2_with fail;refine U1.mono ?_;rintro e w' ⟨rfl,rfl⟩;go_wp2;have r:=Sb.set (.slice Pk 0 0) 0 0 1;refine bodyPost_ret (v:=.agg #[.slice Pk 0 0,PE PF 0,PE PF 0,PE PF 1]) (by simp[results,results16,go_sem,r.c0,r.c1,r.c2,r.c3]) rfl ?_;exact⟨_,[],0,0,1,rfl,Nj _ _ _ _,HA.out,jc B2 aj _ _ _ _⟩
  ·go_wp2_with fail;refine U1.mono ?_;rintro e w' ⟨rfl,rfl⟩;go_wp2;have r:=Sb.set (.slice Pk 0 0) 0 0 4;refine bodyPost_ret (v:=.agg #[.slice Pk 0 0,PE PF 0,PE PF 0,PE PF 4]) (by simp[results,results16,go_sem,r.c0,r.c1,r.c2,r.c3]) rfl ?_;exact⟨_,[],0,0,4,rfl,Nj _ _ _ _,HA.out,jc B2 aj _ _ _ _⟩
end
section
open Go.RowKit Go.Lib
theorem BO {b:Nat}{most:Int}(w:PG)(g:aw w b W H V bl)(s:az w)(hm:most<1\/6<most) :
  PK prog 32 #[.pointer (OM ⟨b,0,Pk⟩),PE PF most] w fun e w'=>e=PM (.tuple #[.pointer Pk,.iface 54 (PE PF 1)])/\PI w.heap.size w w':=by
 have hb:=aJ g.c0;have hg:=Et w g s hb;go_enter func32,ntmps32;go_wp2_with fail;refine hg.mono ?_;rintro e w1 ⟨rb,pb,mb,rfl,G1,_,_,_,hb1⟩;have hl:=JP (rb:=rb) w1 hm;clear hg;go_wp2_with fail;refine hl.mono ?_;rintro e w2 ⟨rfl,rfl⟩;go_wp2;go_ret2;exact⟨rfl,hb1⟩
theorem BP {b:Nat}(w:PG)(g:aw w b W H V bl)(s:az w)(m1:1<=most)(m6:most<=6) :
  PK prog 32 #[.pointer (OM ⟨b,0,Pk⟩),PE PF (most:Int)] w fun e w'=>∃sb,e=PM (.tuple #[.pointer (OM ⟨sb,0,Pk⟩),.nilIface])/\Sv w' w.heap.size w'.heap.size sb W H V bl most/\w.heap.size<=sb/\PI w.heap.size w w':=by
 have hb:=aJ g.c0;have Qa:=g.w1;have UU:=s.pos;have hg:=og w g s hb;go_enter func32,ntmps32;go_wp2_with fail;refine hg.mono ?_;rintro e w1 ⟨rb,pb,mb,rfl,I1,r1,r2,r3,hb1⟩;have G1:=I1.graph;have hl:=sd w1 G1 (iS Qa) m1 m6;obtain⟨l1,l2,l3⟩:rb<w1.heap.size/\pb<w1.heap.size/\mb<w1.heap.size:=by
  obtain⟨f,G,_⟩:=G1;exact G.lts
 clear hg;go_wp2_with fail;refine hl.mono ?_;rintro e w2 ⟨lb,rfl,L2,hb2⟩;have B2:=ak hb1 hb2;have G2:=I1.lt.below hb2;have ht:=Fe w2 (g.below B2 hb) (s.below B2 (by omega));have z2:=hb2.size;clear hl G1 I1;go_wp2_with fail;refine ht.mono ?_;rintro e w3 ⟨tb,gb,rfl,T3,t1,t2,hb3⟩;have B3:=ak B2 hb3;have z1:=hb1.size;obtain⟨t3,t4⟩:tb<w3.heap.size/\gb<w3.heap.size:=by
  obtain⟨T,t,_⟩:=T3.ok;exact t.blocks
 have b4:=aQ w3 (PN #[PE PF (most:Int),.pointer (OM ⟨rb,0,Pk⟩),.pointer (OM ⟨lb,0,Pk⟩),.pointer (OM ⟨tb,0,Pk⟩)] 95);have G4:=((G2.below hb3).below b4).mono (Q':=fun g=>g≠tb/\g≠gb/\g≠w3.heap.size) (fun g h=>⟨by omega,by omega,by have:=hb3.size;omega⟩);have L4:=(L2.below hb3).below b4;have T4:=T3.below b4;have k:∀o,(w3.alloc (PN #[PE PF (most:Int),.pointer (OM ⟨rb,0,Pk⟩),.pointer (OM ⟨lb,0,Pk⟩),.pointer (OM ⟨tb,0,Pk⟩)] 95)).cell? ⟨w3.heap.size,o,Pk⟩=#[NB .i64 (most:Int),.pointer (OM ⟨rb,0,Pk⟩),.pointer (OM ⟨lb,0,Pk⟩),.pointer (OM ⟨tb,0,Pk⟩)][o]? := fun o=>MP ..;have f:=bE w3 #[PE PF (most:Int),.pointer (OM ⟨rb,0,Pk⟩),.pointer (OM ⟨lb,0,Pk⟩),.pointer (OM ⟨tb,0,Pk⟩)] 95 w3.heap.size aj;have SV:Sv (w3.alloc (PN #[PE PF (most:Int),.pointer (OM ⟨rb,0,Pk⟩),.pointer (OM ⟨lb,0,Pk⟩),.pointer (OM ⟨tb,0,Pk⟩)] 95)) w.heap.size (w3.heap.size+1) w3.heap.size W H V bl most :=
  ⟨rb,pb,mb,lb,tb,gb,w1.heap.size,w2.heap.size,V,k 0,k 1,k 2,k 3,f 2,G4,L4,T4,⟨r1,r2,r3,z1⟩,⟨by omega,by omega,by omega⟩,⟨t1,t2,t3,t4⟩,Nat.lt_succ_self _,m1,m6,rfl⟩
 clear ht G2 L2 T3 G4 L4 T4 k f;go_wp2;go_ret2;exact⟨w3.heap.size,rfl,by simpa using SV,by omega,ak B3 b4⟩
theorem xh (w:PG)(s:az w)(hW:aU W=Pm)(hH:aU H=Pm)(m1:1<=most)(m6:most<=6) :
  PK prog 8 #[PE PF W,PE PF H,PE PF (most:Int)] w fun e w'=>∃sb,e=PM (.tuple #[.pointer (OM ⟨sb,0,Pk⟩),.nilIface])/\Sv w' w.heap.size w'.heap.size sb W H 0 (fun _=>PB) most/\PI w.heap.size w w':=by
 have hn:=Ad W H w hW hH;have g0:=mA W H w hW hH;have b0:=aQ w (.cells (eL W H) 136);have ho:=BP _ g0 (s.below b0 (by have:=s.pos;omega)) m1 m6;go_enter func8,ntmps8;go_wp2_with fail;refine hn.mono ?_;rintro e w1 ⟨rfl,rfl⟩;clear hn g0;go_wp2_with fail;refine ho.mono ?_;rintro e w2 ⟨sb,rfl,S2,XE,hb2⟩;go_wp2;go_ret2;obtain⟨rb,pb,mb,lb,tb,gb,N,x,V2,S2⟩:=S2;have l1:=S2.l1;simp only[World.size_alloc]at l1;exact⟨sb,rfl,⟨rb,pb,mb,lb,tb,gb,N,x,V2,S2.c0,S2.c1,S2.c2,S2.c3,S2.fz,S2.gi,S2.lv,S2.ta,⟨by omega,by omega,by omega,by omega⟩,S2.l2,S2.l3,S2.l4,S2.m1,S2.m6,S2.vv⟩,ak b0 hb2⟩
theorem Sv.low {lo':Nat}(S:Sv w lo hi sb W H V bl most)(h:lo'<=lo):Sv w lo' hi sb W H V bl most:=by
 obtain⟨rb,pb,mb,lb,tb,gb,N,x,V2,S⟩:=S;have l1:=S.l1;exact⟨rb,pb,mb,lb,tb,gb,N,x,V2,S.c0,S.c1,S.c2,S.c3,S.fz,S.gi,S.lv,S.ta,⟨by omega,by omega,by omega,by omega⟩,S.l2,S.l3,S.l4,S.m1,S.m6,S.vv⟩
theorem DH {W H:Nat}{t:List UInt8}{cs:List Bool}(w:PG)(E:Env w)(s:az w)(hr:cY t=.good W H cs)(m1:1<=most)(m6:most<=6) :
  PK prog 11 #[.string (str t),PE PF (most:Int)] w fun e w'=>∃sb,e=PM (.tuple #[.pointer (OM ⟨sb,0,Pk⟩),.nilIface])/\Sv w' w.heap.size w'.heap.size sb W H (blocks cs) (fC cs) most/\PI w.heap.size w w':=by
 have hn:=qF hr w E;have UU:=s.pos;go_enter func11,ntmps11;go_wp2_with fail;refine hn.mono ?_;rintro e w1 ⟨B,q1,q2,rfl,C1,hb1⟩;have ho:=BP w1 C1.1 (s.below hb1 (by omega)) m1 m6;clear hn;go_wp2_with fail;refine ho.mono ?_;rintro e w2 ⟨sb,rfl,S2,XE,hb2⟩;clear ho;go_wp2;go_ret2;exact⟨sb,rfl,S2.low hb1.size,ak hb1 hb2⟩
theorem DI {W H:Nat}{most:Int}{t:List UInt8}{cs:List Bool}(w:PG)(E:Env w)(s:az w)(hr:cY t=.good W H cs)(hm:most<1\/6<most) :
  PK prog 11 #[.string (str t),PE PF most] w fun e w'=>e=PM (.tuple #[.pointer Pk,.iface 54 (PE PF 1)])/\PI w.heap.size w w':=by
 have hn:=qF hr w E;have UU:=s.pos;go_enter func11,ntmps11;go_wp2_with fail;refine hn.mono ?_;rintro e w1 ⟨B,q1,q2,rfl,C1,hb1⟩;have ho:=BO w1 C1.1 (s.below hb1 (by omega)) hm;clear hn;go_wp2_with fail;refine ho.mono ?_;rintro e w2 ⟨rfl,hb2⟩;clear ho;go_wp2;go_ret2;exact⟨rfl,ak hb1 hb2⟩
end
section
open Go.RowKit
section
variable {W H W' H' : Int} {bl Qt : Nat → Bool} {a t c a' t' : Int} {way ara arb : List Nat} {s d err s' d' arc p q e2 : Int}
theorem Rt.ok (h:Rt W H bl a t way s d err)(h0:err=0):ff2 W H bl a t=0/\Wk (aF W H bl) a t s d:=by
 by_cases hf:ff2 W H bl a t=0
 ·obtain⟨l,_,h1,_⟩:=h.path hf h0;exact⟨hf,h1.walk⟩
 ·have:=(h.bad hf).1;exact absurd (this.symm.trans h0) hf
theorem Rt.err_no (h:Rt W H bl a t way s d err)(h0:err≠0):s=0/\d=0/\way=[]:=by
 by_cases hf:ff2 W H bl a t=0
 ·by_cases hw:∃p q,Wk (aF W H bl) a t p q
  ·obtain⟨p,q,hw⟩:=hw;exact absurd (h.yes hf hw).1 h0
  ·obtain⟨_,h1,h2,h3⟩:=h.no hf (fun p q k=>hw ⟨p,q,k⟩);exact⟨h2,h3,h1⟩
 ·obtain⟨_,h1,h2,h3⟩:=h.bad hf;exact⟨h2,h3,h1⟩
theorem Rt.len (h:Rt W H bl a t way s d err):way.length<=700:=by
 by_cases h0:err=0
 ·obtain⟨l,e,h1,h2⟩:=h.path (h.ok h0).1 h0;have:=h1.len;rw[e,Nf];omega
 ·obtain⟨_,_,e⟩:=h.err_no h0;rw[e];exact MQ _
theorem Gm (h1:0<=d)(h2:d<=256)(h3:0<=d')(h4:d'<=256)(e1:val s d<=val s' d')(e2:val s' d'<=val s d):s=s'/\d=d' :=
 gL s d s' d' (by omega) (by omega) (Int.le_antisymm e1 e2)
end
end
section
open Go.RowKit Go.Lib
def Eqv (W H:Int) (bl Qt:Nat->Bool):Prop:=∀n:Nat,(n:Int)<W*H->bl n=Qt n
section
variable {W H : Int} {bl Qt : Nat → Bool}
theorem Eqv.symm (h:Eqv W H bl Qt):Eqv W H Qt bl:=fun n hn=>(h n hn).symm
end
end
section
open Go.RowKit Go.Lib
theorem lD {l:List Nat}(h:w.ownsRow base 3 1 v l.length (aH l)):∃A cap,v=.slice A l.length cap/\bu w A l.length (fun i=>((l.getD i 0:Nat):Int))/\(l=[]->True):=by
 rcases Ob l.length with h0|h0
 ·have e:l=[]:=NK.1 h0;subst e;rcases h.2 with⟨rfl,_⟩|⟨g,cap,_,rfl,_⟩
  ·exact⟨Pk,0,rfl,fun i hi=>absurd hi (Nz i),fun _=>trivial⟩
  ·exact⟨_,cap,rfl,fun i hi=>absurd hi (Nz i),fun _=>trivial⟩
 ·obtain⟨g,cap,rfl,hr,_,hg,_⟩:=fg h h0;refine⟨_,cap,rfl,fun i hi=>⟨g,0,rfl,hg,?_⟩,fun _=>trivial⟩;have e:l[i]? = OM (l.getD i 0):=by
   rw[MS,MJ hi];rfl
  have:=hr i _ (pT e)
  rwa [Addr.add_lit]at this
theorem Rt.reads {a t s err:Int}{F:Int->Option (Int×Int)}(R:Rt W H bl a t way s d err)(w1:1<=W)(hf:ff2 W H bl a t=0)(B:ct (aF W H bl) a F):(F t=Pk/\err=5/\way=[]/\s=0/\d=0) \/
  (F t=OM (s,d)/\err=0/\0<way.length/\wkV W H bl (fun i=>((way.getD i 0:Nat):Int)) way.length=((s,d),0)/\((way.getD 0 0:Nat):Int)=a/\((way.getD (way.length-1) 0:Nat):Int)=t):=by
 cases hF:F t with
 |none =>
  left;refine⟨rfl,R.no hf (fun p q hw=>?_)⟩;obtain⟨s',d',e,_⟩:=B.least hw;rw[hF]at e;cases e
 |some c =>
  right;obtain⟨s',d'⟩:=c;obtain⟨z,hv⟩:=R.yes hf (B.sound hF);obtain⟨l,rfl,hc,b1,b2,b3,b4⟩:=R.path hf z;obtain⟨s2,d2,e1,e2⟩:=B.least hc.walk;rw[hF]at e1;cases e1;obtain⟨q1,q2,q3⟩:=B.small hF;obtain⟨q4,q5⟩:=cE q1 q2 q3;obtain⟨r1,r2⟩:=Gm b2 b4 q2 q5 hv e2;subst r1 r2;obtain⟨⟨i1,i2⟩,_⟩:=oH hf;have i3:0<=a/\a<W*H:=of_decide_eq_true i1;obtain⟨aN,rfl⟩:∃aN:Nat,a=(aN:Int):=⟨a.toNat,by omega⟩;rw[ML]at *;obtain⟨k1,k2⟩:=hc.wkV w1 i1 i2;exact⟨rfl,z,Nat.succ_pos _,k1,rfl,k2⟩
theorem tl {a t s err:Int}(w:PG)(cx:w.cell? ⟨xb,0,Pk⟩=OM (.pointer (OM ⟨mb,0,Pk⟩)))(g:bg w mb W H V bl)(hown:w.ownsRow base 3 1 v way.length (aH way))(R:Rt W H bl a t way s d err) :
  PK prog 15 #[.pointer (OM ⟨xb,0,Pk⟩),PE PF a,PE PF t,.agg #[v,PE PF s,PE PF d,PE PF err]] w fun e w'=>e=PM (.bool Pm)/\PI w.heap.size w w':=by
 obtain⟨A,cap,rfl,hold,_⟩:=lD hown;have Se:=aJ cx;have hlm:=aJ g.c0;have b0:=aQ w (PN #[.slice A way.length cap,PE PF s,PE PF d,PE PF err] 56);have an0:=An.new w (.slice A way.length cap) s d err;have cx0:=(b0.cell Se).trans cx;have T9:=yY a _ (g.below b0 hlm);have ZH:=R.len;go_enter func15,ntmps15;go_wp2_with fail;generalize w.alloc (PN #[.slice A way.length cap,PE PF s,PE PF d,PE PF err] 56)=wa at *;refine T9.mono ?_;rintro e wb ⟨rfl,hb1⟩;have B1:=ak b0 hb1;have VH:=an0.below hb1;have cx1:=(B1.cell Se).trans cx;clear T9 an0 cx0 hb1 b0;have ffp:∀c,¬ffv W H bl c=0->0<ffv W H bl c:=fun c h=>by unfold ffv at h ⊢;split<;>(try split)<;>simp_all
 by_cases X5:ffv W H bl a=0
 ·have Vv:=yY t wb (g.below B1 hlm);rw[X5];go_wp2_with fail;refine Vv.mono ?_;rintro e wd ⟨rfl,hb2⟩;have B2:=ak B1 hb2;have Sb:=VH.below hb2;have cx2:=(B2.cell Se).trans cx;clear Vv VH cx1 hb2;by_cases hzt:ffv W H bl t=0
  ·have hf:ff2 W H bl a t=0:=(by unfold ff2;rw[if_pos X5];exact hzt);obtain⟨⟨Sg,Rh⟩,⟨hit,VG⟩⟩:=oH hf;have ja:0<=a/\a<W*H:=of_decide_eq_true Sg;have jt:0<=t/\t<W*H:=of_decide_eq_true hit;obtain⟨aN,rfl⟩:∃aN:Nat,a=(aN:Int):=⟨a.toNat,by omega⟩;obtain⟨tN,rfl⟩:∃tN:Nat,t=(tN:Int):=⟨t.toNat,by omega⟩;have W8:=g.w1;have Rq:=bP g.w1 g.w2 g.h1 g.h2;rw[hzt];have RO:=bz.new wd 0 0;have b3:=aQ wd (PN #[PE PF 0,PE PF 0] 53);have B3:=ak B2 b3;have Q9:=Sb.below b3;have cx3:=(B3.cell Se).trans cx;have RY:=jT aN _ (g.below B3 hlm) (MN hlm B3.size) Sg;have hwC:w.heap.size<wd.heap.size:=aJ Sb.c0;clear Sb cx2 b3;go_wp2_with fail;generalize wd.alloc (PN #[PE PF 0,PE PF 0] 53)=we at *;generalize wd.heap.size=C at *;refine RY.mono ?_;rintro e YG ⟨F,rfl,BF,acx⟩;obtain⟨t54,t55,LA,hbL⟩:=Ia YG F;have o1:=lK F;have o2:=p6 F;have Ql:=di F;have SJ:=lJ F;have aag:=ak acx hbL;have B22:=ak B3 aag;have Xu:=Q9.below aag;have UY:=RO.below aag;have cx4:=(B22.cell Se).trans cx;have x0:=UY.c0;have x1:=UY.c1;have x2:=UY.z0;have x3:=UY.z1;have tlt:tN<256:=(by omega);have y0:=LA.i0 tN tlt;have y1:=LA.c0 tN tlt;have y2:=LA.c1 tN tlt;have i1:(0:Int)<=(tN:Int):=(by omega);have i2:(tN:Int)<256:=(by omega);have acy:∀{q:Nat},q=YG.heap.size\/q=YG.heap.size+1->q≠C:=fun {q} h e=>by
    have l1:C<we.heap.size:=aJ RO.c0;have l2:=acx.size;omega
   have hrd:=R.reads W8 hf BF;clear RY acx hbL aag BF Q9 RO cx3;generalize cX F=cs at *;generalize isL F=is' at *;have hsc:=run_storeCells_cells (P:=prog) (YG.heap.size+1) 0 is' 0 (((YG.alloc (.cells zC 96)).alloc (.cells zB 36)).setCells YG.heap.size 0 cs) (fun j hj=>by simpa using (t55 j (by omega)).1) (fun j hj=>by simpa using (t55 j (by omega)).2) o2;simp only[Nat.add_zero]at hsc;go_upto_region 7 with (first|(refine kN rfl rfl ?_)|(refine kO rfl rfl ?_)|(refine wpList_store_mid rfl 96 _ _ rfl _ _ cs.toArray rfl rfl (J3 Ql t54) (J4 Ql Am) (all_oneCell_toArray o1) ?_)|(refine wpList_store_mid rfl 36 _ _ rfl _ _ is'.toArray rfl rfl (J3 SJ t55) (J4 SJ Ao) (all_oneCell_toArray o2) ?_))
   clear hsc o1 o2 Ql SJ t54 t55;generalize (((YG.alloc (.cells zC 96)).alloc (.cells zB 36)).setCells YG.heap.size 0 cs).setCells (YG.heap.size+1) 0 is'=w22 at *;generalize YG.heap.size+1=IB at *;generalize YG.heap.size=CB at *;have hCI:=acy (MF rfl);have hCC:=acy (MG rfl);clear acy;rcases hrd with⟨hF,rfl,rfl,rfl,rfl⟩|⟨hF,rfl,Rf,hwk,afz,afA⟩
   ·obtain⟨e1,e2⟩:=xX hF;rw[e1]at y1;rw[e2]at y2;rw[hF]at y0;simp only[Option.isSome_none]at y0;have S5:=UY.set 0 0;have K5:=eF w22 C 0 0;have y0':=K5.cellOf y0 hCI;have Zt:=Xu.keep K5 (NO hwC);have u0:=Zt.c0;have u1:=Zt.c1;have u2:=Zt.c2;have u3:=Zt.c3;have B5:PI w.heap.size w ((w22.setCell ⟨C,0,Pk⟩ (PE PF 0)).setCell ⟨C,1,Pk⟩ (PE PF 0)):=(B22.setCell (p:=⟨C,0,Pk⟩) (ON hwC) _).setCell (p:=⟨C,1,Pk⟩) (ON hwC) _;clear K5 S5;go_wp2;go_ret;exact⟨rfl,B5⟩
   ·obtain⟨e1,e2⟩:=cW hF;rw[e1]at y1;rw[e2]at y2;rw[hF]at y0;simp only[Option.isSome_some]at y0;have S5:=UY.set s d;have K5:=eF w22 C s d;have y0':=K5.cellOf y0 hCI;have Zt:=Xu.keep K5 (NO hwC);have B5:PI w.heap.size w ((w22.setCell ⟨C,0,Pk⟩ (PE PF s)).setCell ⟨C,1,Pk⟩ (PE PF d)):=(B22.setCell (p:=⟨C,0,Pk⟩) (ON hwC) _).setCell (p:=⟨C,1,Pk⟩) (ON hwC) _;have cx5:=(B5.cell Se).trans cx;obtain⟨n,hn⟩:∃n,way.length=n+1:=⟨way.length-1,by omega⟩;obtain⟨bA,oA,rfl,Zu,r0⟩:=hold 0 Rf;obtain⟨bA',oA',eA,_,rn⟩:=hold (way.length-1) (by omega);cases eA;have q0:w.cell? ⟨bA,oA,Pk⟩=OM (PE PF (aN:Int)):=(by rw[<- afz];exact r0);have qn:w.cell? ⟨bA,oA+n,Pk⟩=OM (PE PF (tN:Int)):=by
     rw[<- afA,show n=way.length-1 by omega];exact rn
    have HW:PJ (∀w',PI w.heap.size w w'->PK prog 40 #[.pointer (OM ⟨mb,0,Pk⟩),.slice (OM ⟨bA,oA,Pk⟩) (n+1) cap] w' fun e Q2=>e=PM (.tuple #[.agg #[PE PF s,PE PF d],PE PF 0])/\PI w'.heap.size w' Q2):=fun w' hb=>by
     have h:=CI (cap:=cap) w' (g.below hb hlm) (MN hlm hb.size) (hold.below hb) (show way.length<=1000 by omega);rw[hwk,hn]at h;exact h
    rw[hn]at Zt ⊢;clear K5 Xu cx4 r0 rn hwk afz afA hold hown UY LA y0 X5 hzt ffp;go_upto_region 12 with fail
    clear y0' y1 y2 x0 x1 x2 x3;generalize (w22.setCell ⟨C,0,Pk⟩ (PE PF s)).setCell ⟨C,1,Pk⟩ (PE PF d)=W5 at *;have z5:=B5.size;go_cut [13,14] from 66 to 75 (fun pv fv wd=>∃T,pv=.pointer (OM ⟨T,0,Pk⟩)/\fv=PE PF 0/\bz wd T s d/\PI W5.heap.size W5 wd)
    case first =>
     have c0:=Zt.c0;have e0:=cI W5;have eA:PI W5.heap.size W5 (W5.drew.alloc (PN #[PE PF 0,PE PF 0] 53)):=e0.alloc e0.size _;have sA:bz (W5.drew.alloc (PN #[PE PF 0,PE PF 0] 53)) W5.heap.size 0 0:=bz.new W5.drew 0 0;have CC:PJ (∀w',PI W5.heap.size W5 w'->w'.cell? ⟨xb,0,Pk⟩=OM (.pointer (OM ⟨mb,0,Pk⟩))/\w'.cell? ⟨w.heap.size,0,Pk⟩=OM (.slice (OM ⟨bA,oA,Pk⟩) (n+1) cap)):=fun w' h=>⟨(h.cell (MK W5 _ cx5)).trans cx5,(h.cell (MK W5 _ c0)).trans c0⟩;have HW2:PJ (∀w',PI W5.heap.size W5 w'->_):=fun w' hb=>HW.out w' (B5.trans (hb.mono z5));clear c0 cx5 Zt S5;go_region_held3 (fun w'=>w'.cell? ⟨xb,0,Pk⟩=OM (.pointer (OM ⟨mb,0,Pk⟩))/\w'.cell? ⟨w.heap.size,0,Pk⟩=OM (.slice (OM ⟨bA,oA,Pk⟩) (n+1) cap)) (first|exact CC.out _ e0|exact CC.out _ eA|exact CC.out _ e6|exact CC.out _ (e6.alloc e6.size _)|exact CC.out _ ((e6.setCell (p:=⟨W5.heap.size,0,Pk⟩) aj _).setCell (p:=⟨W5.heap.size,1,Pk⟩) aj _))
      (first|(go_at_call 40;first|(refine(HW2.out _ e0).mono ?_;rintro r w6 ⟨rfl,Qr⟩;have e6:=ak e0 Qr)|(refine(HW2.out _ eA).mono ?_;rintro r w6 ⟨rfl,Qr⟩;have e6:=ak eA Qr;have s6:=sA.below Qr;have g0:=s6.c0;have g1:=s6.c1;have g2:=s6.z0;have g3:=s6.z1)))
     all_goals
      go_wp2_with fail;go_meet
      first
       |exact⟨_,rfl,rfl,bz.new w6 _ _,e6.alloc e6.size _⟩
       |exact⟨_,rfl,rfl,s6.set _ _,(e6.setCell (p:=⟨W5.heap.size,0,Pk⟩) aj _).setCell (p:=⟨W5.heap.size,1,Pk⟩) aj _⟩
    case rest =>
     obtain⟨T,rfl,rfl,slT,Rm⟩:=hcut;have B7:=B5.trans (Rm.mono z5);have an7:=Zt.below Rm;have s7:=S5.below Rm;have u0:=an7.c0;have u1:=an7.c1;have u2:=an7.c2;have u3:=an7.c3;have v0:=s7.c0;have v1:=s7.c1;have t0:=slT.c0;have t1:=slT.c1;have q0':=ar B7 q0;have qn':=ar B7 qn;clear Zt S5 cx5 HW Rm q0 qn slT s7 an7;go_wp2;go_ret;exact⟨rfl,B7⟩
  ·have TL:ff2 W H bl a t≠0:=(by unfold ff2;rw[if_pos X5];exact hzt);obtain⟨e1,e2,e3,e4⟩:=R.bad TL;have e5:err=ffv W H bl t:=(by rw[e1];unfold ff2;rw[if_pos X5]);have hp:=ffp t hzt;clear e1 TL;subst e2 e3 e4;rw[e5]at Sb;generalize ffv W H bl t=n at *;have b3:=aQ wd (PN #[PE PF 0,PE PF 0] 53);have B3:=ak B2 b3;have Q9:=Sb.below b3;have x0:=Q9.c0;have x1:=Q9.c1;have x2:=Q9.c2;have x3:=Q9.c3;clear b3 Sb e5;go_wp2;go_ret;exact⟨rfl,B3⟩
 ·have TL:ff2 W H bl a t≠0:=by unfold ff2;rw[if_neg X5];exact X5
  obtain⟨e1,e2,e3,e4⟩:=R.bad TL;have e5:err=ffv W H bl a:=by rw[e1];unfold ff2;rw[if_neg X5]
  have hp:=ffp a X5;clear e1 TL;subst e2 e3 e4;rw[e5]at VH;generalize ffv W H bl a=n at *;have b3:=aQ wb (PN #[PE PF 0,PE PF 0] 53);have B3:=ak B1 b3;have Q9:=VH.below b3;have x0:=Q9.c0;have x1:=Q9.c1;have x2:=Q9.c2;have x3:=Q9.c3;clear b3 VH e5 cx1;go_wp2;go_ret;exact⟨rfl,B3⟩
end
section
open Go.RowKit Go.Lib
theorem zN (a t:Int)(w:PG)(S:Sv w lo hi sb W H V bl most)(d:bX w) :
  PK prog 16 #[.pointer (OM ⟨sb,0,Pk⟩),PE PF a,PE PF t] w fun e w'=>∃A cap way s d err,e=PM (.agg #[.slice A way.length cap,PE PF s,PE PF d,PE PF err])/\w'.ownsRow w.heap.size 3 1 (.slice A way.length cap) way.length (aH way)/\bu w' A way.length (fun i=>((way.getD i 0:Nat):Int))/\xf W H bl most a t way s d err/\Rt W H bl a t way s d err/\PI w.heap.size w w':=by
 obtain⟨w1,w2,h1,h2⟩:=S.side;obtain⟨m1,m6⟩:=S.mst;refine(Jh a t w S d).mono ?_;rintro e w' ⟨v,way,s,dd,err,rfl,ho,hA,hb⟩;obtain⟨A,cap,rfl,hold,_⟩:=lD ho;exact⟨A,cap,way,s,dd,err,rfl,ho,hold,hA,hA.right w w1 w2 h1 h2 m1 m6,hb⟩
end
section
open Go.RowKit Go.Lib
def frN (bl:Nat->Bool):Nat->Nat
 |0=>0
 |k+1=>frN bl k+if bl k then 0 else 1
theorem zO (bl:Nat->Bool):∀k,frN bl k<=k
 |0=>aj
 |k+1=>by
  have:=zO bl k;unfold frN;split<;>omega
theorem sB {b:Nat}(w:PG)(g:aw w b W H V bl) :
  PK prog 53 #[.pointer (OM ⟨b,0,Pk⟩)] w fun e w'=>e=PM (PE PF (frN bl (W*H).toNat:Nat))/\PI w.heap.size w w':=by
 have Rq:=bP g.w1 g.w2 g.h1 g.h2;obtain⟨K,hK⟩:∃K:Nat,W*H=(K:Int):=⟨(W*H).toNat,by omega⟩;have hc:=gS w g;have HK:=ae hK;rw[hK]at hc Rq ⊢;rw[ML];clear hK;go_enter func53,ntmps53;go_wp2_with fail;refine hc.mono ?_;rintro e w1 ⟨rfl,m,rfl⟩;clear hc;go_wp2;go_loopw [3,9] (fun cv iv wr=>∃j:Nat,j<=K/\iv=PE PF j/\cv=PE PF (frN bl j:Nat)/\∃m,wr=w.drewN m)
  (fun _ i _=>K-(intOf i).toNat)
 case atStart=>exact⟨0,MQ _,rfl,rfl,m,rfl⟩
 case round =>
  obtain⟨j,hj,rfl,rfl,m,rfl⟩:=hrel;by_cases PO:j<K
  ·have j1:(j:Int)<(K:Int):=(by omega);have PY:inB W H j=true:=decide_eq_true (by rw[HK.out];omega);have hf:=jL j (w.drewN m) (g.drewN m) PY;have hle:=zO bl j;have HF:PJ (frN bl (j+1)=frN bl j+if bl j then 0 else 1):=rfl;generalize frN bl j=c at *;cases hb:bl j with
   |true =>
    rw[hb]at hf;have Xg:PJ (frN bl (j+1)=c):=(by have:=HF.out;rw[hb]at this;exact this);clear HF hb;go_wp2_with fail;refine hf.mono ?_;rintro e w2 ⟨rfl,m2,rfl⟩;go_wp2;go_roundw
    case rel=>exact⟨j+1,by omega,by go_num,by rw[Xg.out],_,rfl⟩
    case measure=>simp[intOf];omega
   |false =>
    rw[hb]at hf;have Xg:PJ (frN bl (j+1)=c+1):=(by have:=HF.out;rw[hb]at this;exact this);clear HF hb;go_wp2_with fail;refine hf.mono ?_;rintro e w2 ⟨rfl,m2,rfl⟩;go_wp2;go_roundw
    case rel=>exact⟨j+1,by omega,by go_num,by rw[Xg.out];go_num,_,rfl⟩
    case measure=>simp[intOf];omega
  ·have e:j=K:=(by omega);subst e;go_wp2;go_ret;exact⟨rfl,below_drewN al _⟩
noncomputable def edN (W H:Int) (bl:Nat->Bool) (l:List Nat):Nat:=(l.map fun n=>(esF W H bl n).length).sum
theorem GEs.len {es:Nat->List LE}(G:GEs W H bl es)(w1:1<=W)(w2:W<=16)(h1:1<=H)(h2:H<=16)(n:Nat):(es n).length<=256:=by
 have Rq:=bP w1 w2 h1 h2;cases hc:bj W H bl n with
 |true =>
  obtain⟨l,k1,k2⟩:=G.1 n hc;rw[k2,NP];exact k1.len w1 Rq.2
 |false =>
  rw[G.2 n hc];exact MQ _
theorem zP {W H:Int}{bl:Nat->Bool}(w1:1<=W)(w2:W<=16)(h1:1<=H)(h2:H<=16):∀l:List Nat,edN W H bl l<=256*l.length
 |[]=>aj
 |n::l=>by
  have:=zP w1 w2 h1 h2 l (bl:=bl);have h3:=(iS (W:=W) (H:=H) (bl:=bl) w1).len w1 w2 h1 h2 n;unfold edN at this ⊢;rw[List.map_cons,List.sum_cons,Nf];omega
theorem xj {l:List Nat}{n:Nat}(h:l[k]? = OM n):edN W H bl (l.take (k+1))=edN W H bl (l.take k)+(esF W H bl n).length:=by
 unfold edN;rw[tk h,List.map_append,List.sum_append];simp
theorem qV (w:PG)(G:dI w rb pb mb W H V bl)(w1:1<=W)(w2:W<=16)(h1:1<=H)(h2:H<=16) :
  PK prog 55 #[.pointer (OM ⟨rb,0,Pk⟩)] w fun e w'=>e=PM (PE PF (edN W H bl (crs W H bl (W*H).toNat)/2:Nat))/\PI w.heap.size w w':=by
 have YH:=o8 w G;have Rq:=bP w1 w2 h1 h2;have HC:PJ (∀n∈crs W H bl (W*H).toNat,bj W H bl n=Pm/\n<256):=fun n hn=>by
  have:=cR.1 hn;exact⟨this.2,by omega⟩
 have T8:(crs W H bl (W*H).toNat).length<=256:=by have:=fF W H bl (W*H).toNat;omega
 have HG:=ae G;have HE:PJ (GEs W H bl (esF W H bl)):=iS w1;have HLE:PJ (∀l,edN W H bl l<=256*l.length):=zP w1 w2 h1 h2;clear G;generalize crs W H bl (W*H).toNat=L at *;go_enter func55,ntmps55;go_wp2_with fail;refine YH.mono ?_;rintro e wb ⟨vL,rfl,TG,hb1⟩;obtain⟨AL,acz,rfl,hold,_⟩:=lD TG;have HO:PJ (bu wb AL L.length (fun i=>((L.getD i 0:Nat):Int))):=hold;clear YH TG hold;go_wp2;go_loopw [3,11] (fun cv iv wr=>∃j:Nat,j<=L.length/\iv=PE PF j/\cv=PE PF (edN W H bl (L.take j):Nat)/\PI wb.heap.size wb wr)
  (fun _ i _=>L.length-(intOf i).toNat)
 case atStart=>exact⟨0,MQ _,rfl,rfl,al⟩
 case round =>
  obtain⟨j,hj,rfl,rfl,hB⟩:=hrel;by_cases PO:j<L.length
  ·have j1:(j:Int)<(L.length:Int):=(by omega);obtain⟨bA,oA,rfl,_,q0⟩:=(HO.out.below hB) j PO;obtain⟨nn,Si⟩:∃nn,L[j]? = OM nn:=⟨L[j],MJ PO⟩;have q1:wr.cell? ⟨bA,oA+j,Pk⟩=OM (PE PF (nn:Int)):=by
    have e:L.getD j 0=nn:=(by rw[MS,Si];rfl);rw[<- e];exact q0
   obtain⟨Rj,U0⟩:=HC.out nn (MZ Si);have BW:=ak hb1 hB;have Uo:=tT wr (HG.out.below BW) Rj (aC (by omega) (by omega));have HN:PJ (edN W H bl (L.take (j+1))=edN W H bl (L.take j)+(esF W H bl nn).length):=xj Si;have hle:=HLE.out (L.take j);have YI:=HLE.out (L.take (j+1));rw[MY]at hle YI;clear q0 Si;go_wp2_with fail;refine Uo.mono ?_;rintro e w3 ⟨v,l,rfl,hown,hEL,hb3⟩;have hlen:(esF W H bl nn).length=l.length:=by
    obtain⟨l',k1,k2⟩:=HE.out.1 nn Rj;rw[k2,NP,k1.one hEL]
   have SK:PJ (edN W H bl (L.take (j+1))=edN W H bl (L.take j)+l.length):=(by rw[<- hlen];exact HN.out);have hl3:edN W H bl (L.take j)+l.length<=65536:=(by have:=SK.out;omega);obtain⟨A3,RD,rfl⟩:∃(A:Option Addr) (cap:Nat),v=.slice A l.length cap:=by
    rcases hown.2 with⟨rfl,h0⟩|⟨g9,ajM,_,rfl,_⟩
    ·exact⟨Pk,0,by rw[h0]⟩
    ·exact⟨_,_,rfl⟩
   have B3:=ak hB hb3;clear Uo hown hEL hlen HN q1;generalize edN W H bl (L.take j)=c at *;go_wp2;go_roundw
   case rel=>exact⟨j+1,by omega,by go_num,by rw[SK.out];go_num,B3⟩
   case measure=>simp[intOf];omega
  ·have e:j=L.length:=(by omega);subst e;have hle:=HLE.out L;rw[M9];obtain⟨c,hc⟩:∃c,edN W H bl L=c:=⟨_,rfl⟩;have HCC:=ae hc;rw[hc]at hle ⊢;clear hc;have hq:Int.tdiv (c:Int) 2=((c/2:Nat):Int):=(by rw[Od (by omega)];omega);have hwq:IntKind.i64.wrap ((c/2:Nat):Int)=((c/2:Nat):Int):=iP (by omega) (by omega);have BW:=ak hb1 hB;go_wp2;go_ret;exact⟨by rw[HCC.out];simp,BW⟩
end
section
open Go.RowKit Go.Lib
noncomputable def lvK (W H:Int) (bl:Nat->Bool) (most:Nat):Nat×LSt:=@dite _ (∃p:Nat×LSt,Rds most (crs W H bl (W*H).toNat) ⟨fun _=>0,esF W H bl⟩ p.1 p.2/\lY most (crs W H bl (W*H).toNat) p.1 p.2) (Classical.propDecidable _) (fun h=>Classical.choose h) (fun _=>(0,⟨fun _=>0,fun _=>[]⟩))
theorem zQ {st:LSt}(h:Rds most (crs W H bl (W*H).toNat) ⟨fun _=>0,esF W H bl⟩ k st)(ho:lY most (crs W H bl (W*H).toNat) k st):lvK W H bl most=(k,st):=by
 have hx:∃p:Nat×LSt,Rds most (crs W H bl (W*H).toNat) ⟨fun _=>0,esF W H bl⟩ p.1 p.2/\lY most (crs W H bl (W*H).toNat) p.1 p.2:=⟨(k,st),h,ho⟩;unfold lvK;rw[dif_pos hx];obtain⟨h1,h2⟩:=Classical.choose_spec hx;obtain⟨e1,e2⟩:=Ai h1 h2 h ho;exact Prod.ext e1 e2
noncomputable def uH (W H:Int) (bl:Nat->Bool) (most:Nat):Nat:=dX (lV (lvK W H bl most).2.es) (dj (crs W H bl (W*H).toNat)) 256
noncomputable def stV (W H V:Int) (bl:Nat->Bool) (most:Nat):Array Value:=#[PE PF (W*H),PE PF (frN bl (W*H).toNat:Nat),PE PF ((crs W H bl (W*H).toNat).length:Nat),PE PF (edN W H bl (crs W H bl (W*H).toNat)/2:Nat),PE PF ((uH W H bl most:Nat)/2:Int),PE PF ((lvK W H bl most).1+1:Nat),PE PF V]
section
variable {w : PG} {lo hi sb rb pb mb lb tb gb N x most : Nat} {W H V V2 : Int} {bl : Nat → Bool}
theorem fD.added (w:PG)(S:fD w lo hi sb rb pb mb lb tb gb N x W H V V2 bl most):PK prog 56 #[.pointer (OM ⟨lb,0,Pk⟩)] w fun e w'=>e=PM (PE PF ((uH W H bl most:Nat)/2:Int))/\PI w.heap.size w w':=by
 obtain⟨w1,w2,h1,h2⟩:=S.side;obtain⟨vb,eb,k,st,f,hR,hO,V⟩:=S.lv;have Rq:=bP w1 w2 h1 h2;have B:=Btw.rds (show (0:Int)<=16 by omega) ((iS (W:=W) (H:=H) (bl:=bl) w1).btw w1 w2 h1 h2) hR;have hl:∀n,(st.es n).length<=256:=fun n=>iR.len (L:=crs W H bl (W*H).toNat) (fun a=>⟨B.lrd.esy.ord a,fun e he=>(B.cor.ends he).2⟩) (fun n hn=>by have:=(cR.1 hn).1;omega) n;have h:=Dr w V hl;unfold uH;rw[zQ hR hO];exact h
theorem fD.topl (w:PG)(S:fD w lo hi sb rb pb mb lb tb gb N x W H V V2 bl most):PK prog 57 #[.pointer (OM ⟨lb,0,Pk⟩)] w fun e w'=>e=PM (PE PF ((lvK W H bl most).1+1:Nat))/\PI w.heap.size w w':=by
 obtain⟨vb,eb,k,st,f,hR,hO,V⟩:=S.lv;rw[zQ hR hO];exact(JQ w V).mono fun e w' ⟨h1,h2⟩=>⟨h1,by rw[h2];exact al⟩
theorem fD.nodes (w:PG)(S:fD w lo hi sb rb pb mb lb tb gb N x W H V V2 bl most):PK prog 54 #[.pointer (OM ⟨rb,0,Pk⟩)] w fun e w'=>∃A cap,e=PM (.slice A (crs W H bl (W*H).toNat).length cap)/\PI w.heap.size w w':=by
 refine(o8 w S.gr).mono ?_;rintro e w' ⟨v,rfl,ho,hb⟩;obtain⟨A,cap,rfl,_⟩:=lD ho;exact⟨A,cap,rfl,hb⟩
end
def st7 (w:PG) (B:Nat) (a0 a1 a2 a3 a4 a5 a6:PH):World:=((((((w.setCell ⟨B,0,Pk⟩ a0).setCell ⟨B,1,Pk⟩ a1).setCell ⟨B,2,Pk⟩ a2).setCell ⟨B,3,Pk⟩ a3).setCell ⟨B,4,Pk⟩ a4).setCell ⟨B,5,Pk⟩ a5).setCell ⟨B,6,Pk⟩ a6
theorem xk (w:PG)(B:Nat)(a0 a1 a2 a3 a4 a5 a6:PH):ai (fun k=>k=B) w (st7 w B a0 a1 a2 a3 a4 a5 a6):=by
 unfold st7;exact((((((((ai.refl (fun k=>k=B) w).setCell (p:=⟨B,0,Pk⟩) (fun _=>rfl) _).setCell (p:=⟨B,1,Pk⟩) (fun _=>rfl) _).setCell (p:=⟨B,2,Pk⟩) (fun _=>rfl) _).setCell (p:=⟨B,3,Pk⟩) (fun _=>rfl) _).setCell (p:=⟨B,4,Pk⟩) (fun _=>rfl) _).setCell (p:=⟨B,5,Pk⟩) (fun _=>rfl) _).setCell (p:=⟨B,6,Pk⟩) (fun _=>rfl) _)
theorem Gn {u:PH}(h:∀o,o<7->w.cell? ⟨B,o,Pk⟩=OM u)(a0 a1 a2 a3 a4 a5 a6:PH):(st7 w B a0 a1 a2 a3 a4 a5 a6).cell? ⟨B,0,Pk⟩=OM a0/\(st7 w B a0 a1 a2 a3 a4 a5 a6).cell? ⟨B,1,Pk⟩=OM a1/\(st7 w B a0 a1 a2 a3 a4 a5 a6).cell? ⟨B,2,Pk⟩=OM a2/\(st7 w B a0 a1 a2 a3 a4 a5 a6).cell? ⟨B,3,Pk⟩=OM a3/\(st7 w B a0 a1 a2 a3 a4 a5 a6).cell? ⟨B,4,Pk⟩=OM a4/\(st7 w B a0 a1 a2 a3 a4 a5 a6).cell? ⟨B,5,Pk⟩=OM a5/\(st7 w B a0 a1 a2 a3 a4 a5 a6).cell? ⟨B,6,Pk⟩=OM a6:=by
 have ne:∀{i j:Nat},i≠j->(⟨B,i,Pk⟩:Addr)≠⟨B,j,Pk⟩:=fun h q=>h (Addr.mk.inj q).2.1;have st:∀(v:PG) (i j:Nat) (a:PH),i≠j->(v.setCell ⟨B,j,Pk⟩ a).cell? ⟨B,i,Pk⟩=v.cell? ⟨B,i,Pk⟩:=fun v i j a hij=>MH _ _ _ _ (ne (Ne.symm hij));unfold st7;refine⟨?_,?_,?_,?_,?_,?_,?_⟩
 ·rw[st _ 0 6 _ (by decide),st _ 0 5 _ (by decide),st _ 0 4 _ (by decide),st _ 0 3 _ (by decide),st _ 0 2 _ (by decide),st _ 0 1 _ (by decide)];exact MO _ _ _ (h 0 (by decide))
 ·rw[st _ 1 6 _ (by decide),st _ 1 5 _ (by decide),st _ 1 4 _ (by decide),st _ 1 3 _ (by decide),st _ 1 2 _ (by decide)];exact MO _ _ _ (u:=u) (by rw[st _ 1 0 _ (by decide)];exact h 1 (by decide))
 ·rw[st _ 2 6 _ (by decide),st _ 2 5 _ (by decide),st _ 2 4 _ (by decide),st _ 2 3 _ (by decide)];exact MO _ _ _ (u:=u) (by rw[st _ 2 1 _ (by decide),st _ 2 0 _ (by decide)];exact h 2 (by decide))
 ·rw[st _ 3 6 _ (by decide),st _ 3 5 _ (by decide),st _ 3 4 _ (by decide)];exact MO _ _ _ (u:=u) (by rw[st _ 3 2 _ (by decide),st _ 3 1 _ (by decide),st _ 3 0 _ (by decide)];exact h 3 (by decide))
 ·rw[st _ 4 6 _ (by decide),st _ 4 5 _ (by decide)];exact MO _ _ _ (u:=u) (by rw[st _ 4 3 _ (by decide),st _ 4 2 _ (by decide),st _ 4 1 _ (by decide),st _ 4 0 _ (by decide)];exact h 4 (by decide))
 ·rw[st _ 5 6 _ (by decide)];exact MO _ _ _ (u:=u) (by rw[st _ 5 4 _ (by decide),st _ 5 3 _ (by decide),st _ 5 2 _ (by decide),st _ 5 1 _ (by decide),st _ 5 0 _ (by decide)];exact h 5 (by decide))
 ·exact MO _ _ _ (u:=u) (by rw[st _ 6 5 _ (by decide),st _ 6 4 _ (by decide),st _ 6 3 _ (by decide),st _ 6 2 _ (by decide),st _ 6 1 _ (by decide),st _ 6 0 _ (by decide)];exact h 6 (by decide))
theorem DJ (w:PG)(S:Sv w lo hi sb W H V bl most) :
  PK prog 23 #[.pointer (OM ⟨sb,0,Pk⟩)] w fun e w'=>e=PM (.agg (stV W H V bl most))/\PI w.heap.size w w':=by
 obtain⟨rb,pb,mb,lb,tb,gb,N,x,V2,S⟩:=S;obtain⟨w1,w2,h1,h2⟩:=S.side;have b0:=aQ w (PN #[PE PF 0,PE PF 0,PE PF 0,PE PF 0,PE PF 0,PE PF 0,PE PF 0] 64);have k7:∀o,(w.alloc (PN #[PE PF 0,PE PF 0,PE PF 0,PE PF 0,PE PF 0,PE PF 0,PE PF 0] 64)).cell? ⟨w.heap.size,o,Pk⟩=#[NB .i64 0,PE PF 0,PE PF 0,PE PF 0,PE PF 0,PE PF 0,PE PF 0][o]? := fun o=>MP ..;have f7:=bE w #[PE PF 0,PE PF 0,PE PF 0,PE PF 0,PE PF 0,PE PF 0,PE PF 0] 64 w.heap.size aj;have S0:=S.below b0;have q1:=S0.c1;have Tb:=k9 _ S0.gr;unfold stV;have H53:PJ (∀(w':PG) (M:Nat),aw w' M W H V bl->PK prog 52 #[.pointer (OM ⟨M,0,Pk⟩)] w' fun e Q2=>e=PM (PE PF (W*H))/\PI w'.heap.size w' Q2):=fun w' M g=>(gS w' g).mono fun e Q2 ⟨h1,m,h2⟩=>⟨h1,by rw[h2];exact below_drewN al _⟩;have H54:PJ (∀(w':PG) (M:Nat),aw w' M W H V bl->_):=fun w' M g=>sB w' g;have H55:PJ (∀w',fD w' lo hi sb rb pb mb lb tb gb N x W H V V2 bl most->_):=fun w' S=>fD.nodes w' S;have H56:PJ (∀w',fD w' lo hi sb rb pb mb lb tb gb N x W H V V2 bl most->_):=fun w' S=>qV w' S.gr w1 w2 h1 h2;have H57:PJ (∀w',fD w' lo hi sb rb pb mb lb tb gb N x W H V V2 bl most->_):=fun w' S=>fD.added w' S;have H58:PJ (∀w',fD w' lo hi sb rb pb mb lb tb gb N x W H V V2 bl most->_):=fun w' S=>fD.topl w' S;have H59:PJ (∀(w':PG) (M:Nat),aw w' M W H V bl->PK prog 58 #[.pointer (OM ⟨M,0,Pk⟩)] w' fun e Q2=>e=PM (PE PF V)/\PI w'.heap.size w' Q2):=fun w' M g=>(yh w' g).mono fun e Q2 ⟨h1,h2⟩=>⟨h1,by rw[h2];exact al⟩;generalize ((frN bl (W*H).toNat:Nat):Int)=fr at *;generalize ((edN W H bl (crs W H bl (W*H).toNat)/2:Nat):Int)=ed at *;generalize (crs W H bl (W*H).toNat).length=nd at *;generalize ((uH W H bl most:Nat)/2:Int)=ad at *;generalize (((lvK W H bl most).1+1:Nat):Int)=tp at *;generalize W*H=wh at *;go_enter func23,ntmps23;go_wp2_with fail;have P0:w.heap.size<(w.alloc (PN #[PE PF 0,PE PF 0,PE PF 0,PE PF 0,PE PF 0,PE PF 0,PE PF 0] 64)).heap.size:=by simp
 generalize w.alloc (PN #[PE PF 0,PE PF 0,PE PF 0,PE PF 0,PE PF 0,PE PF 0,PE PF 0] 64)=wa at *;refine Tb.mono ?_;rintro e wb ⟨rfl,hb1,P3,g1,_⟩;have S1:=S0.below hb1;have B1:=ak b0 hb1;have hzb:w.heap.size<wb.heap.size:=MN P0 hb1.size;have c7:∀o,wb.cell? ⟨w.heap.size,o,Pk⟩=#[NB .i64 0,PE PF 0,PE PF 0,PE PF 0,PE PF 0,PE PF 0,PE PF 0][o]? := fun o=>(hb1.cell (p:=⟨w.heap.size,o,Pk⟩) P0).trans (k7 o);have z7:∀o,wb.frozen? ⟨w.heap.size,o,Pk⟩=false:=fun o=>(hb1.frozen (p:=⟨w.heap.size,o,Pk⟩) P0).trans (f7 o);generalize wa.heap.size=M at *;have We:PJ (∀(w':PG),PI wb.heap.size wb w'->∀o,o<7->w'.cell? ⟨w.heap.size,o,Pk⟩=OM (PE PF 0)/\w'.frozen? ⟨w.heap.size,o,Pk⟩=PB):=fun w' hb o ho=>by
  have h1:=(hb.cell (p:=⟨w.heap.size,o,Pk⟩) hzb).trans (c7 o);have h2:=(hb.frozen (p:=⟨w.heap.size,o,Pk⟩) hzb).trans (z7 o);refine⟨?_,h2⟩;rw[h1];have ho':o=0\/o=1\/o=2\/o=3\/o=4\/o=5\/o=6:=by omega
  rcases ho' with rfl|rfl|rfl|rfl|rfl|rfl|rfl<;>rfl
 have afE:sb<w.heap.size:=S.lt;have CC:PJ (∀w',PI wb.heap.size wb w'->w'.cell? ⟨sb,1,Pk⟩=OM (.pointer (OM ⟨rb,0,Pk⟩))/\w'.cell? ⟨sb,2,Pk⟩=OM (.pointer (OM ⟨lb,0,Pk⟩))):=fun w' h=>⟨(h.cell (MK wb _ S1.c1)).trans S1.c1,(h.cell (MK wb _ S1.c2)).trans S1.c2⟩;have HG1:PJ (∀w',PI wb.heap.size wb w'->aw w' M W H V bl):=fun w' hb=>g1.below hb P3;have HS1:PJ (∀w',PI wb.heap.size wb w'->fD w' lo hi sb rb pb mb lb tb gb N x W H V V2 bl most):=fun w' hb=>S1.below hb;clear Tb S0 S1 k7 f7 g1 q1 hb1 S c7 z7 P3;have QV:PJ (∀w9,PI wb.heap.size wb w9->(((((((w9.setCell ⟨w.heap.size,0,Pk⟩ (PE PF wh)).setCell ⟨w.heap.size,1,Pk⟩ (PE PF fr)).setCell ⟨w.heap.size,2,Pk⟩ (PE PF (nd:Int))).setCell ⟨w.heap.size,3,Pk⟩ (PE PF ed)).setCell ⟨w.heap.size,4,Pk⟩ (PE PF ad)).setCell ⟨w.heap.size,5,Pk⟩ (PE PF tp)).setCell ⟨w.heap.size,6,Pk⟩ (PE PF V)).cell? ⟨sb,1,Pk⟩=OM (.pointer (OM ⟨rb,0,Pk⟩))/\(((((((w9.setCell ⟨w.heap.size,0,Pk⟩ (PE PF wh)).setCell ⟨w.heap.size,1,Pk⟩ (PE PF fr)).setCell ⟨w.heap.size,2,Pk⟩ (PE PF (nd:Int))).setCell ⟨w.heap.size,3,Pk⟩ (PE PF ed)).setCell ⟨w.heap.size,4,Pk⟩ (PE PF ad)).setCell ⟨w.heap.size,5,Pk⟩ (PE PF tp)).setCell ⟨w.heap.size,6,Pk⟩ (PE PF V)).cell? ⟨sb,2,Pk⟩=OM (.pointer (OM ⟨lb,0,Pk⟩))):=fun w9 hb=>⟨(xk w9 w.heap.size (PE PF wh) (PE PF fr) (PE PF (nd:Int)) (PE PF ed) (PE PF ad) (PE PF tp) (PE PF V)).cellOf (CC.out _ hb).1 (NO afE),(xk w9 w.heap.size (PE PF wh) (PE PF fr) (PE PF (nd:Int)) (PE PF ed) (PE PF ad) (PE PF tp) (PE PF V)).cellOf (CC.out _ hb).2 (NO afE)⟩;go_wp2_with fail;have eC:=cI wb;go_region_held3 (fun w'=>w'.cell? ⟨sb,1,Pk⟩=OM (.pointer (OM ⟨rb,0,Pk⟩))/\w'.cell? ⟨sb,2,Pk⟩=OM (.pointer (OM ⟨lb,0,Pk⟩))) (first|with_reducible exact CC.out _ eC|with_reducible exact QV.out _ eC)
  (first
   |(go_at_call 52;refine(H53.out _ _ (HG1.out _ eC)).mono ?_;rintro r w3 ⟨rfl,hb3⟩;have eC:=ak eC hb3)
   |(go_at_call 53;refine(H54.out _ _ (HG1.out _ eC)).mono ?_;rintro r w4 ⟨rfl,QB⟩;have eC:=ak eC QB)
   |(go_at_call 54;refine(H55.out _ (HS1.out _ eC)).mono ?_;rintro r w5 ⟨A5,Q6,rfl,PV⟩;have eC:=ak eC PV)
   |(go_at_call 55;refine(H56.out _ (HS1.out _ eC)).mono ?_;rintro r w6 ⟨rfl,Qr⟩;have eC:=ak eC Qr)
   |(go_at_call 56;refine(H57.out _ (HS1.out _ eC)).mono ?_;rintro r w7 ⟨rfl,Rm⟩;have eC:=ak eC Rm)
   |(go_at_call 57;refine(H58.out _ (HS1.out _ eC)).mono ?_;rintro r w8 ⟨rfl,Rn⟩;have eC:=ak eC Rn)
   |(go_at_call 58;refine(H59.out _ _ (HG1.out _ eC)).mono ?_;rintro r w9 ⟨rfl,Yk⟩;have eC:=ak eC Yk;have x0:=(We.out _ eC 0 (by decide)).1;have y0:=(We.out _ eC 0 (by decide)).2;have x1:=(We.out _ eC 1 (by decide)).1;have y1:=(We.out _ eC 1 (by decide)).2;have x2:=(We.out _ eC 2 (by decide)).1;have y2:=(We.out _ eC 2 (by decide)).2;have x3:=(We.out _ eC 3 (by decide)).1;have y3:=(We.out _ eC 3 (by decide)).2;have x4:=(We.out _ eC 4 (by decide)).1;have y4:=(We.out _ eC 4 (by decide)).2;have x5:=(We.out _ eC 5 (by decide)).1;have y5:=(We.out _ eC 5 (by decide)).2;have x6:=(We.out _ eC 6 (by decide)).1;have y6:=(We.out _ eC 6 (by decide)).2))
 go_wp2;have r:=Gn (fun o ho=>(We.out _ eC o ho).1) (PE PF wh) (PE PF fr) (PE PF (nd:Int)) (PE PF ed) (PE PF ad) (PE PF tp) (PE PF V);obtain⟨r0,r1,r2,r3,r4,r5,r6⟩:=r;unfold st7 at r0 r1 r2 r3 r4 r5 r6;refine bodyPost_ret (v:=.agg #[PE PF wh,PE PF fr,PE PF (nd:Int),PE PF ed,PE PF ad,PE PF tp,PE PF V]) (by simp[results,results23,go_sem,r0,r1,r2,r3,r4,r5,r6]) rfl ⟨rfl,?_⟩;have BF:=ak B1 eC;exact((((((BF.setCell (p:=⟨w.heap.size,0,Pk⟩) aj _).setCell (p:=⟨w.heap.size,1,Pk⟩) aj _).setCell (p:=⟨w.heap.size,2,Pk⟩) aj _).setCell (p:=⟨w.heap.size,3,Pk⟩) aj _).setCell (p:=⟨w.heap.size,4,Pk⟩) aj _).setCell (p:=⟨w.heap.size,5,Pk⟩) aj _).setCell (p:=⟨w.heap.size,6,Pk⟩) aj _
end
section
open Go.RowKit Go.Lib
def edF (bl:Nat->Bool) (cs:Nat->Int) (bs:Nat->Bool):Nat->Nat->Bool
 |0=>bl
 |k+1=>upd (edF bl cs bs k) (cs k).toNat (bs k)
def edC (bl:Nat->Bool) (cs:Nat->Int) (bs:Nat->Bool):Nat->Nat
 |0=>0
 |k+1=>edC bl cs bs k+if edF bl cs bs k (cs k).toNat=bs k then 0 else 1
theorem Gp (bl:Nat->Bool)(cs:Nat->Int)(bs:Nat->Bool):∀k,edC bl cs bs k<=k
 |0=>aj
 |k+1=>by
  have:=Gp bl cs bs k;unfold edC;split<;>omega
theorem xl {cs:Nat->Int}{bs:Nat->Bool}:∀{k},edC bl cs bs k=0->edF bl cs bs k=bl
 |0,_=>rfl
 |k+1,h=>by
  unfold edC at h;split at h
  ·next e =>
   have:=xl (k:=k) (by omega);unfold edF;rw[qU e,this]
  ·omega
def edE (W H:Int) (cs:Nat->Int) (n:Nat):Int:=if 60<n then 2 else if (NX n).all (fun i=>inB W H (cs i)) then 0 else 1
theorem jd (W H:Int)(cs:Nat->Int)(n:Nat):(60<n/\edE W H cs n=2)\/(n<=60/\edE W H cs n=0/\∀i,i<n->inB W H (cs i)=Pm)\/(n<=60/\edE W H cs n=1/\∃i,i<n/\inB W H (cs i)=PB/\∀j,j<i->inB W H (cs j)=Pm):=by
 unfold edE;by_cases h:60<n
 ·exact MG ⟨h,if_pos h⟩
 ·rw[if_neg h];cases ha:(NX n).all (fun i=>inB W H (cs i)) with
  |true=>exact MF (MG ⟨by omega,rfl,fun i hi=>List.all_eq_true.1 ha i (NR.2 hi)⟩)
  |false =>
   refine MF (MF ⟨by omega,rfl,?_⟩);have hx:∃i,i<n/\inB W H (cs i)=false:=by
    obtain⟨i,h1,h2⟩:=List.all_eq_false.1 ha;exact⟨i,NR.1 h1,by simpa using h2⟩
   have key:∀m,(∃i,i<m/\i<n/\inB W H (cs i)=PB)->∃i,i<n/\inB W H (cs i)=PB/\∀j,j<i->inB W H (cs j)=true:=by
    intro m
    induction m with
    |zero=>rintro⟨i,h,_⟩;omega
    |succ m ih =>
     rintro⟨i,h1,h2,h3⟩;by_cases hm:∃i,i<m/\i<n/\inB W H (cs i)=PB
     ·exact ih hm
     ·have e:i=m:=by
       by_cases e:i=m
       ·exact e
       ·exact absurd ⟨i,by omega,h2,h3⟩ hm
      subst e;exact⟨i,h2,h3,fun j hj=>by
       cases hb:inB W H (cs j) with
       |true=>rfl
       |false=>exact absurd ⟨j,hj,by omega,hb⟩ hm⟩
   obtain⟨i,h1,h2⟩:=hx;exact key n ⟨i,h1,h1,h2⟩
def edV (e:Int):Value:=if e=0 then .nilIface else .iface 54 (PE PF e)
theorem zS {n:Nat}{cs:Nat->Int}{bs:Nat->Bool}(w:PG)(c1:w.cell? ⟨sb,1,Pk⟩=OM (.pointer (OM ⟨rb,0,Pk⟩)))(G:dI w rb pb mb W H V bl)(hq:gu w A n cs bs) :
  PK prog 35 #[.pointer (OM ⟨sb,0,Pk⟩),.slice A n cap] w fun e w'=>e=PM (edV (edE W H cs n))/\PI w.heap.size w w':=by
 rcases jd W H cs n with⟨h60,he⟩|hh
 ·rw[he];have ajR:(60:Int)<(n:Int):=by omega
  unfold edV;go_enter func35,ntmps35;go_wp2;go_ret;exact⟨rfl,al⟩
 ·have h60:¬(60:Int)<(n:Int):=by
   rcases hh with h|h
   ·have:=h.1;omega
   ·have:=h.1;omega
  have HH:PJ ((edE W H cs n=0/\∀i,i<n->inB W H (cs i)=Pm)\/(edE W H cs n=1/\∃i,i<n/\inB W H (cs i)=PB/\∀j,j<i->inB W H (cs j)=Pm)):=hh.elim (fun h=>MG h.2) (fun h=>MF h.2);have Tb:=k9 w G;have HQ:=ae hq;obtain⟨EV,hEV⟩:∃EV,edV (edE W H cs n)=EV:=⟨_,rfl⟩;rw[hEV];have Zm:=ae hEV;clear hh G hq hEV;go_enter func35,ntmps35;go_wp2_with fail;refine Tb.mono ?_;rintro e wb ⟨rfl,hb1,P3,g1,_⟩;have HQ1:PJ (gu wb A n cs bs):=HQ.out.below hb1;clear Tb c1;go_wp2;go_loopw [21] (fun iv wr=>∃i:Nat,i<=n/\iv=PE PF i/\(∀j,j<i->inB W H (cs j)=Pm)/\PI wb.heap.size wb wr)
   (fun i _=>n-(intOf i).toNat)
  case atStart=>exact⟨0,MQ _,rfl,fun j hj=>absurd hj (Nz j),al⟩
  case round =>
   obtain⟨i,hi,rfl,Qe,hB⟩:=hrel;have HAL:=ae Qe;have BW:=ak hb1 hB;clear Qe;by_cases PO:i<n
   ·obtain⟨bA,oA,rfl,Zu,f0,t0⟩:=(HQ1.out.below hB) i PO;have i1:(i:Int)<(n:Int):=(by omega);have HCI:PJ (∀b,inB W H (cs i)=b->b=Pm->∀j,j<i+1->inB W H (cs j)=Pm):=fun b h1 h2 j hj=>by
     by_cases e:j=i
     ·rw[e,h1,h2]
     ·exact HAL.out j (by omega)
    have SW:PJ (inB W H (cs i)=PB->edE W H cs n=1):=fun h=>by
     rcases HH.out with⟨_,h2⟩|⟨h2,_⟩
     ·rw[h2 i PO]at h;cases h
     ·exact h2
    generalize cs i=ci at *;generalize bs i=bi at *;have b3:=aQ wr (PN #[PE PF ci,.bool bi] 78);have D3:=ak hB b3;have g3:=g1.below D3 P3;have q0:(wr.alloc (PN #[PE PF ci,.bool bi] 78)).cell? ⟨wr.heap.size,0,Pk⟩=OM (PE PF ci):=ME #[PE PF ci,.bool bi] 78 wr.heap.size 0 rfl;cases PY:inB W H ci with
    |true =>
     obtain⟨c,rfl⟩:∃c:Nat,ci=(c:Int):=⟨ci.toNat,by have h:0<=ci/\ci<W*H:=of_decide_eq_true PY;omega⟩;have Sm:=jL c _ g3 PY;have HCJ:PJ (∀j,j<i+1->inB W H (cs j)=Pm):=HCI.out _ PY rfl;clear SW HCI;go_wp2_with fail;refine Sm.mono ?_;rintro e w5 ⟨rfl,m5,Ub⟩;have D5:PI wb.heap.size wb w5:=(by rw[Ub];exact below_drewN D3 _);clear Ub Sm g3 q0;go_wp2;go_roundw
     case rel=>exact⟨i+1,by omega,by go_num,HCJ.out,D5⟩
     case measure=>simp[intOf];omega
    |false =>
     have Sm:=qZ ci _ g3 PY;have he:=SW.out PY;clear SW HCI;go_wp2_with fail;refine Sm.mono ?_;rintro e w5 ⟨rfl,m5,Ub⟩;have D5:PI wb.heap.size wb w5:=(by rw[Ub];exact below_drewN D3 _);clear Ub Sm g3 q0;have HE:PJ (.iface 54 (PE PF 1)=EV):=(by rw[<- Zm.out,he];rfl);clear he;go_wp2;go_ret;exact⟨by rw[<- HE.out];rfl,ak hb1 D5⟩
   ·have e:i=n:=(by omega);subst e;have he:edE W H cs i=0:=by
     rcases HH.out with⟨h,_⟩|⟨_,j,h1,h2,_⟩
     ·exact h
     ·rw[HAL.out j h1]at h2;cases h2
    have HE:PJ (.nilIface=EV):=(by rw[<- Zm.out,he];rfl);clear he;go_wp2;go_ret;exact⟨by rw[<- HE.out];rfl,BW⟩
theorem Lvd.keep {es:Nat->List LE}(h:Lvd w N lb most W H bl es)(K:ai F w w')(hF:∀g,N<=g->¬F g):Lvd w' N lb most W H bl es:=by
 obtain⟨vb,eb,k,st,f,hR,hO,V⟩:=h;refine⟨vb,eb,k,st,f,hR,hO,V.keep K (fun g hg=>hF g ?_)⟩;rcases hg with h|h|h|⟨i,v,h1,h2⟩
 ·rw[h];exact V.nb.1
 ·rw[h];exact V.nb.2.1
 ·rw[h];exact V.nb.2.2
 ·obtain⟨i0,hi⟩:=V.no i v h1;obtain⟨v',e,ho⟩:=V.row _ hi;rw[Nl i0,h1]at e;cases e;exact(ho.lt g h2).1
def EdP (w w':PG) (e:Ending) (lo hi sb:Nat) (W H V:Int) (bl:Nat->Bool) (most n:Nat) (cs:Nat->Int) (bs:Nat->Bool):Prop :=
 (edE W H cs n≠0/\e=PM (.tuple #[PE PF 0,.iface 54 (PE PF (edE W H cs n))])/\PI w.heap.size w w') \/
 (edE W H cs n=0/\n<=60/\(∀i,i<n->inB W H (cs i)=Pm)/\e=PM (.tuple #[PE PF (edC bl cs bs n:Nat),.nilIface])/\Sv w' lo hi sb W H (V+(edC bl cs bs n:Nat)) (edF bl cs bs n) most/\ai (fun k=>lo<=k/\k<hi) w w')
end
section
open Go.RowKit Go.Lib
theorem oU {n:Int}(h:0<=n)(w:PG) :
  PK prog 10 #[edV n,PE PF n] w fun e w'=>e=PM (.bool Pm)/\w'=w:=by
 unfold edV;by_cases h0:n=0
 ·subst h0;rw[if_pos rfl];go_enter func10,ntmps10;go_wp2;go_ret;exact⟨rfl,rfl⟩
 ·rw[if_neg h0];have hp:0<n:=by omega
  clear h h0;have g:=MA;go_enter func10,ntmps10;go_wp2;go_ret;exact⟨rfl,rfl⟩
structure RSv (w:PG) (xb mb:Nat) (W H V:Int) (bl:Nat->Bool) (most:Nat):Prop where
 c0:w.cell? ⟨xb,0,Pk⟩=OM (.pointer (OM ⟨mb,0,Pk⟩))
 c1:w.cell? ⟨xb,1,Pk⟩=OM (PE PF (most:Int))
 ra:bg w mb W H V bl
 fr:Fz w mb
theorem RSv.ne (R:RSv w xb mb W H V bl most):xb≠mb:=fun h=>by
 have h1:=R.c0;rw[h,R.ra.c0]at h1;cases h1
theorem RSv.lts (R:RSv w xb mb W H V bl most):xb<w.heap.size/\mb<w.heap.size:=⟨aJ R.c0,aJ R.ra.c0⟩
theorem RSv.keep (R:RSv w xb mb W H V bl most)(K:ai F w w')(h1:¬F xb)(h2:¬F mb):RSv w' xb mb W H V bl most :=
 ⟨K.cellOf R.c0 h1,K.cellOf R.c1 h1,⟨R.ra.w1,R.ra.w2,R.ra.h1,R.ra.h2,K.cellOf R.ra.c0 h2,K.cellOf R.ra.c1 h2,K.cellOf R.ra.c2 h2,fun i hi=>K.cellOf (R.ra.cs i hi) h2⟩,R.fr.keep K R.lts.2 h2⟩
theorem RSv.below (R:RSv w xb mb W H V bl most)(hb:PI w.heap.size w w'):RSv w' xb mb W H V bl most:=R.keep (F:=fun _=>False) (ai.of_below hb) id id
def nwE (W H most:Int):Int:=if aU W=Pm/\aU H=Pm/\1<=most/\most<=6 then 0 else 1
theorem JX (w:PG)(m:Nat)(most:Int):(w.alloc (PN #[.pointer (OM ⟨m,0,Pk⟩),PE PF most] 41)).cell? ⟨w.heap.size,0,Pk⟩=OM (.pointer (OM ⟨m,0,Pk⟩))/\(w.alloc (PN #[.pointer (OM ⟨m,0,Pk⟩),PE PF most] 41)).cell? ⟨w.heap.size,1,Pk⟩=OM (PE PF most) :=
 ⟨ME #[.pointer (OM ⟨m,0,Pk⟩),PE PF most] 41 w.heap.size 0 rfl,ME #[.pointer (OM ⟨m,0,Pk⟩),PE PF most] 41 w.heap.size 1 rfl⟩
theorem Gq (W H most:Int)(w:PG) :
  PK prog 9 #[PE PF W,PE PF H,PE PF most] w fun e w'=>PI w.heap.size w w'/\((nwE W H most=1/\e=PM (.tuple #[.pointer Pk,PE PF 1]))\/(nwE W H most=0/\∃xb mb k:Nat,most=(k:Int)/\1<=k/\k<=6/\w.heap.size<=xb/\w.heap.size<=mb/\e=PM (.tuple #[.pointer (OM ⟨xb,0,Pk⟩),PE PF 0])/\RSv w' xb mb W H 0 (fun _=>PB) k)):=by
 by_cases hs:aU W=Pm/\aU H=Pm
 ·obtain⟨hW,hH⟩:=hs;have a:1<=W/\W<=16:=of_decide_eq_true hW;have b:1<=H/\H<=16:=of_decide_eq_true hH;have hr:=Cb W H w a.1 a.2 b.1 b.2;have hg:=tD W H w hW hH;have hz:=LJ W H w;have hb1:=aQ w (.cells (mz W H) 38);have QC:(w.alloc (.cells (mz W H) 38)).heap.size=w.heap.size+1:=by simp
  by_cases Vt:most<1
  ·have HE:PJ (nwE W H most=1):=if_neg (fun h=>by omega);clear a b hg hz;go_enter func9,ntmps9;go_wp2_with (go_at_call 28;refine hr.mono ?_;rintro e w' ⟨rfl,rfl⟩);go_ret2;exact⟨hb1,MG ⟨HE.out,rfl⟩⟩
  by_cases YJ:6<most
  ·have HE:PJ (nwE W H most=1):=if_neg (fun h=>by omega);clear a b hg hz;go_enter func9,ntmps9;go_wp2_with (go_at_call 28;refine hr.mono ?_;rintro e w' ⟨rfl,rfl⟩);go_ret2;exact⟨hb1,MG ⟨HE.out,rfl⟩⟩
  ·have HE:PJ (nwE W H most=0):=if_pos ⟨hW,hH,by omega,by omega⟩;obtain⟨k,hk⟩:∃k:Nat,most=(k:Int):=⟨most.toNat,by omega⟩;have HK:PJ (1<=k/\k<=6):=⟨by omega,by omega⟩;subst hk;have HG:PJ (bg (w.alloc (.cells (mz W H) 38)) w.heap.size W H 0 (fun _=>PB)):=hg;have HZ:=ae hz;clear a b hg hz hW hH;go_enter func9,ntmps9;go_wp2_with (go_at_call 28;refine hr.mono ?_;rintro e w' ⟨rfl,rfl⟩);generalize w.alloc (.cells (mz W H) 38)=w1 at *;have hb2:=aQ w1 (PN #[.pointer (OM ⟨w.heap.size,0,Pk⟩),PE PF (k:Int)] 41);have B2:=ak hb1 hb2;obtain⟨x0,x1⟩:=JX w1 w.heap.size (k:Int);rw[QC]at x0 x1;go_ret2;exact⟨B2,MF ⟨HE.out,w.heap.size+1,w.heap.size,k,rfl,HK.out.1,HK.out.2,by omega,aj,rfl,⟨x0,x1,HG.out.below hb2 (by omega),HZ.out.below hb2 (by omega)⟩⟩⟩
 ·have HE:PJ (nwE W H most=1):=if_neg (fun h=>hs ⟨h.1,h.2.1⟩);have hr:=xE W H w (by
   cases h1:aU W with
   |false=>exact MG rfl
   |true=>cases h2:aU H with
    |false=>exact MF ⟨rfl,rfl⟩
    |true=>exact absurd ⟨h1,h2⟩ hs)
  clear hs;go_enter func9,ntmps9;go_wp2_with (go_at_call 28;refine hr.mono ?_;rintro e w' ⟨rfl,rfl⟩);go_ret2;exact⟨al,MG ⟨HE.out,rfl⟩⟩
end
section
open Go.RowKit
theorem LY {b:Nat}(w:PG)(g:bg w b W H V bl):∃Fl:Int->Int->Option (Int×Int),∀c,inB W H c=Pm->ct (aF W H bl) c (Fl c):=by
 have h:∀c,∃F,inB W H c=Pm->ct (aF W H bl) c F:=fun c=>by
  by_cases hc:inB W H c=Pm
  ·obtain⟨F,hF⟩:=IV w g hc;exact⟨F,fun _=>hF⟩
  ·exact⟨fun _=>Pk,fun h=>absurd h hc⟩
 exact⟨fun c=>Classical.choose (h c),fun c hc=>Classical.choose_spec (h c) hc⟩
theorem zT (w:PG)(g:bg w M W H V bl)(UJ:M<w.heap.size) :
  PK prog 59 #[.pointer (OM ⟨M,0,Pk⟩)] w fun e w'=>∃rb mb A AR cap R f,e=PM (.pointer (OM ⟨rb,0,Pk⟩))/\RGt w' M rb mb W H V bl A AR cap R (crs W H bl (W*H).toNat) f/\Eds w' W H bl (crs W H bl (W*H).toNat) f (crs W H bl (W*H).toNat).length/\PI w.heap.size w w'/\∀b o,A=OM ⟨b,o,Pk⟩->w.heap.size<=b:=by
 have Qa:=g.w1;obtain⟨Fl,ajU⟩:=LY w g;have ZZ:∀c,dC W H bl c->ct (aF W H bl) c (Fl c):=fun c hc=>ajU c (aT Qa hc);refine(IX (R:=fun n=>kX n (Fl n)) w g UJ (fun n=>yG _ _) (fun n=>yH _ _) (fun n=>IP n (Fl n)) ZZ rfl (fun n w' hn g' h'=>Kt n w' g' h' (aT Qa hn) (ZZ _ hn))).mono ?_;rintro e w' ⟨rb,mb,A,AR,cap,f,h⟩;exact⟨rb,mb,A,AR,cap,_,f,h⟩
end
section
open Go.RowKit Go.Lib
structure S7 (w:PG) (B:Nat) (a0 a1 a2 a3 a4 a5 a6:Int):Prop where
 c0:w.cell? ⟨B,0,Pk⟩=OM (PE PF a0)
 c1:w.cell? ⟨B,1,Pk⟩=OM (PE PF a1)
 c2:w.cell? ⟨B,2,Pk⟩=OM (PE PF a2)
 c3:w.cell? ⟨B,3,Pk⟩=OM (PE PF a3)
 c4:w.cell? ⟨B,4,Pk⟩=OM (PE PF a4)
 c5:w.cell? ⟨B,5,Pk⟩=OM (PE PF a5)
 c6:w.cell? ⟨B,6,Pk⟩=OM (PE PF a6)
 fz:∀o,w.frozen? ⟨B,o,Pk⟩=PB
 zz:w.cell? ⟨B,7,Pk⟩=Pk
section
variable {w w' : PG} {B : Nat} {a0 a1 a2 a3 a4 a5 a6 : Int}
theorem S7.lt (h:S7 w B a0 a1 a2 a3 a4 a5 a6):B<w.heap.size:=aJ h.c0
theorem S7.keep (h:S7 w B a0 a1 a2 a3 a4 a5 a6)(K:ai F w w')(hn:¬F B):S7 w' B a0 a1 a2 a3 a4 a5 a6 :=
 ⟨K.cellOf h.c0 hn,K.cellOf h.c1 hn,K.cellOf h.c2 hn,K.cellOf h.c3 hn,K.cellOf h.c4 hn,K.cellOf h.c5 hn,K.cellOf h.c6 hn,fun o=>(K.frozen (p:=⟨B,o,Pk⟩) h.lt hn).trans (h.fz o),(K.cell (p:=⟨B,7,Pk⟩) h.lt hn).trans h.zz⟩
theorem S7.below (h:S7 w B a0 a1 a2 a3 a4 a5 a6)(hb:PI w.heap.size w w'):S7 w' B a0 a1 a2 a3 a4 a5 a6:=h.keep (F:=fun _=>False) (ai.of_below hb) id
theorem zU (w:PG)(a0 a1 a2 a3 a4 a5 a6:Int):S7 (w.alloc (PN #[PE PF a0,PE PF a1,PE PF a2,PE PF a3,PE PF a4,PE PF a5,PE PF a6] 64)) w.heap.size a0 a1 a2 a3 a4 a5 a6:=by
 have k:=fun o=>MP (w:=w) #[PE PF a0,PE PF a1,PE PF a2,PE PF a3,PE PF a4,PE PF a5,PE PF a6] 64 o;exact⟨k 0,k 1,k 2,k 3,k 4,k 5,k 6,bE w _ _ _ aj,k 7⟩
theorem eE (w:PG){B i j:Nat}(v:PH)(h:j≠i):(w.setCell ⟨B,j,Pk⟩ v).cell? ⟨B,i,Pk⟩=w.cell? ⟨B,i,Pk⟩:=MH _ _ _ _ (fun q=>h (Addr.mk.inj q).2.1)
theorem Gs (w:PG)(B k:Nat)(v:PH):ai (fun b=>b=B) w (w.setCell ⟨B,k,Pk⟩ v):=(ai.refl (fun b=>b=B) w).setCell (p:=⟨B,k,Pk⟩) (fun _=>rfl) _
theorem S7.s1 (h:S7 w B a0 a1 a2 a3 a4 a5 a6)(v:Int):S7 (w.setCell ⟨B,1,Pk⟩ (PE PF v)) B a0 v a2 a3 a4 a5 a6:=⟨(eE w _ (by decide)).trans h.c0,MO _ _ _ h.c1,(eE w _ (by decide)).trans h.c2,(eE w _ (by decide)).trans h.c3,(eE w _ (by decide)).trans h.c4,(eE w _ (by decide)).trans h.c5,(eE w _ (by decide)).trans h.c6,fun o=>(NY ..).trans (h.fz o),(eE w _ (by decide)).trans h.zz⟩
theorem S7.s2 (h:S7 w B a0 a1 a2 a3 a4 a5 a6)(v:Int):S7 (w.setCell ⟨B,2,Pk⟩ (PE PF v)) B a0 a1 v a3 a4 a5 a6:=⟨(eE w _ (by decide)).trans h.c0,(eE w _ (by decide)).trans h.c1,MO _ _ _ h.c2,(eE w _ (by decide)).trans h.c3,(eE w _ (by decide)).trans h.c4,(eE w _ (by decide)).trans h.c5,(eE w _ (by decide)).trans h.c6,fun o=>(NY ..).trans (h.fz o),(eE w _ (by decide)).trans h.zz⟩
theorem S7.s3 (h:S7 w B a0 a1 a2 a3 a4 a5 a6)(v:Int):S7 (w.setCell ⟨B,3,Pk⟩ (PE PF v)) B a0 a1 a2 v a4 a5 a6:=⟨(eE w _ (by decide)).trans h.c0,(eE w _ (by decide)).trans h.c1,(eE w _ (by decide)).trans h.c2,MO _ _ _ h.c3,(eE w _ (by decide)).trans h.c4,(eE w _ (by decide)).trans h.c5,(eE w _ (by decide)).trans h.c6,fun o=>(NY ..).trans (h.fz o),(eE w _ (by decide)).trans h.zz⟩
theorem S7.s4 (h:S7 w B a0 a1 a2 a3 a4 a5 a6)(v:Int):S7 (w.setCell ⟨B,4,Pk⟩ (PE PF v)) B a0 a1 a2 a3 v a5 a6:=⟨(eE w _ (by decide)).trans h.c0,(eE w _ (by decide)).trans h.c1,(eE w _ (by decide)).trans h.c2,(eE w _ (by decide)).trans h.c3,MO _ _ _ h.c4,(eE w _ (by decide)).trans h.c5,(eE w _ (by decide)).trans h.c6,fun o=>(NY ..).trans (h.fz o),(eE w _ (by decide)).trans h.zz⟩
theorem S7.s5 (h:S7 w B a0 a1 a2 a3 a4 a5 a6)(v:Int):S7 (w.setCell ⟨B,5,Pk⟩ (PE PF v)) B a0 a1 a2 a3 a4 v a6:=⟨(eE w _ (by decide)).trans h.c0,(eE w _ (by decide)).trans h.c1,(eE w _ (by decide)).trans h.c2,(eE w _ (by decide)).trans h.c3,(eE w _ (by decide)).trans h.c4,MO _ _ _ h.c5,(eE w _ (by decide)).trans h.c6,fun o=>(NY ..).trans (h.fz o),(eE w _ (by decide)).trans h.zz⟩
theorem S7.off {e n g:Nat}{xs:List PH}(s:S7 w B a0 a1 a2 a3 a4 a5 a6)(h:w.ownsRow base e 4 v n xs)(hg:v.ownBlock=OM g):g≠B:=by
 rintro rfl;rcases h.2 with⟨rfl,_⟩|⟨b,cap,cur,rfl,_,h1,_,_,h4,_⟩
 ·simp[NA]at hg
 ·simp[NA]at hg;subst hg;have c':cur[6]? = OM (PE PF a6):=by simpa [Pn,h1]using s.c6
  have z':cur[7]? = none:=by simpa [Pn,h1]using s.zz
  have l1:=(Array.getElem?_eq_some_iff.1 c').1;have l2:=Array.getElem?_eq_none_iff.1 z';omega
end
section
variable {w w' : PG} {rb mb cap nk : Nat} {A : Option Addr} {L : List Nat} {es : Nat → List LE} {f : Int → Option PH}
theorem RGm.keep (G:RGm w rb mb cap nk A L es f)(K:ai F w w')(h1:¬F rb)(h2:¬F mb)(h3:∀b o,A=OM ⟨b,o,Pk⟩->¬F b)(h4:∀(n:Int) A' k c,f n=OM (.slice A' k c)->∀b o,A'=OM ⟨b,o,Pk⟩->¬F b):RGm w' rb mb cap nk A L es f :=
 ⟨K.cellOf G.p0 h1,K.cellOf G.p1 h1,fun i hi=>by
  obtain⟨b,o,e,hl,hc⟩:=G.row i hi;exact⟨b,o,e,MN hl K.size,K.cellOf hc (h3 b o e)⟩,G.mp.keep K h2,fun n hn=>by
  obtain⟨A',c',e1,e2⟩:=G.yes n hn;exact⟨A',c',e1,e2.keep K (h4 _ _ _ _ e1)⟩,G.no⟩
end
structure KI (rb mb:Nat) (A:Option Addr) (f:Int->Option PH) (B:Nat):Prop where
 r:¬rb=B
 m:¬mb=B
 a:∀b o,A=OM ⟨b,o,Pk⟩->¬b=B
 e:∀(n:Int) A' k c,f n=OM (.slice A' k c)->∀b o,A'=OM ⟨b,o,Pk⟩->¬b=B
theorem RGt.apt7 {a0 a1 a2 a3 a4 a5 a6:Int}{AR:Option Addr}{R:Nat->List PH}{f:Int->Option PH}{L:List Nat}(G:RGt w M rb mb W H V bl A AR cap R L f)(E:Eds w W H bl L f L.length)(hA:∀b o,A=OM ⟨b,o,Pk⟩->N<=b)(hB:B<N)(s:S7 w B a0 a1 a2 a3 a4 a5 a6):KI rb mb A f B:=by
 refine⟨?_,?_,fun b o e=>by have:=hA b o e;omega,fun n A' k c hf b o e=>?_⟩
 ·rintro rfl;have h:=G.p0;rw[s.c0]at h;cases h
 ·rintro rfl;have h:=G.mp.cell 0;rw[s.c0]at h;cases h
 ·by_cases hn:∃j,j<L.length/\n=((L.getD j 0:Nat):Int)
  ·obtain⟨v,l,h1,h2,_⟩:=E.1 n hn;rw[hf]at h1;cases h1;subst e;rcases h2.2 with⟨h,_⟩|⟨g,cap2,cur,h,_⟩
   ·cases h
   ·cases h;exact s.off h2 rfl
  ·rw[E.2 n hn]at hf;cases hf
end
section
open Go.RowKit
theorem zV {vb eb top:Nat}{L:List Nat}{st:LSt}{f:Int->Option PH}(w:PG)(V:RLv w lb vb eb top L st f)(Wb:∀n,(st.es n).length<=256) :
  PK prog 61 #[.pointer (OM ⟨lb,0,Pk⟩)] w fun e w'=>e=PM (PE PF ((dX (jK st.es) (dj L) 256:Nat):Int))/\PI w.heap.size w w':=by
 have c1:=V.c1;have ajE:=V.lts.2.2;have em:=V.em.mp;have HV:=ae V;have Q8:PJ (∀n∈L,n<256):=V.bd;have HEL:=ae Wb;have HFS:PJ (∀(x:Int) (v:PH),f x=OM v->∃n:Nat,x=(n:Int)/\n∈L):=fun x v h=>by
  by_cases q:0<=x/\x.toNat∈L
  ·exact⟨x.toNat,by omega,q.2⟩
  ·rw[V.no x q]at h;cases h
 have QV:PJ (dX (jK st.es) (fun z=>dj L z&&!(fun i=>(f i).isSome) z) 256=0):=by
  have e:(fun z=>dj L z&&!(fun i=>(f i).isSome) z)=fun _=>false:=by
   funext z
   cases hm:dj L z with
   |false=>rfl
   |true =>
    have h3:0<=z/\z.toNat∈L:=of_decide_eq_true hm;obtain⟨A,cap,e1,_⟩:=V.yes z.toNat h3.2;rw[Nl h3.1]at e1;show (Pm&&!(f z).isSome)=PB;rw[e1];rfl
  unfold PJ;rw[e];exact s8 _ _
 clear V Wb;generalize cu (eB f) 256=nk at *;go_enter func61,ntmps61;go_wp2_with (first|(at_range;refine cw rfl _ 123 rfl 3 126 aY Tryz.underM eb _ _ rfl em ?_;intro w3 QP Sf hs3)|go_in);have B3:PI w.heap.size w w3:=al.grown Sf aj (by simp);clear Sf em c1;go_loopg [3] nk (fun gj sv wq=>∃(left:Int->Bool) (cnt:Nat),gj=cnt/\fQ prog 3 wq eb w.heap.size f nk left cnt/\sv=PE PF ((dX (jK st.es) (fun z=>dj L z&&!left z) 256:Nat):Int)/\PI w.heap.size w wq/\w.heap.size<wq.heap.size)
 case atStart=>exact⟨_,_,rfl,QP,by rw[QV.out];rfl,B3,by omega⟩
 case round =>
  clear QP B3 QV;obtain⟨left,cnt,hgj,QN,rfl,QA,hrq⟩:=hrel;have VF:=BH (jK st.es) (fun z=>dj L z&&!left z) 256 (fun n=>M5 (Nk _ _) (HEL.out n)) 256;go_wp2_with (first|(at_next;refine cM rfl _ rfl 3 aY eb w.heap.size _ _ _ _ rfl QN ?_ ?_)|go_in)
  ·intro Ue Rf;have HE:PJ ((fun z=>dj L z&&!left z)=dj L):=by
    unfold PJ
    funext z
    rw[Rf z];simp
   clear QN Rf;go_wp2;go_ret;exact⟨by rw[HE.out];rfl,QA⟩
  ·intro x v w4 Qf Tf Se SD QE PO QI Rx TM;obtain⟨n,Zr,Qw⟩:=HFS.out x v SD;subst Zr;have B4:PI w.heap.size w w4:=QA.grown QI QA.size (fun k e=>by cases e;omega);have hr4:w.heap.size<w4.heap.size:=(by omega);have V4:=HV.out.below B4;obtain⟨A4,QY,Z3,Sq,_⟩:=V4.edges Qw;have c14:=V4.c1;have WJ:PJ (dX (jK st.es) (fun z=>dj L z&&!(left z&&!decide (z=(n:Int)))) 256=dX (jK st.es) (fun z=>dj L z&&!left z) 256+jK st.es n):=wQ (Q8.out n Qw) Qw Se;have art:=HEL.out n;clear QN QA QI Rx V4 SD Se;generalize dX (jK st.es) (fun z=>dj L z&&!left z) 256=S0 at *;go_wp2;go_loopw [3,5] (fun kv iv wr=>∃i:Nat,i<=(st.es n).length/\iv=PE PF i/\kv=PE PF ((S0:Int)+((((st.es n).take i).filter (fun e=>decide (0<=e.mid)&&decide (n<e.to))).length:Nat))/\wr=w4)
    (fun _ i _=>(st.es n).length-(intOf i).toNat)
   case atStart=>exact⟨0,MQ _,rfl,by simp,rfl⟩
   case round =>
    obtain⟨i,hi,rfl,rfl,rfl⟩:=hrel;have RY:(((st.es n).take i).filter (fun e=>decide (0<=e.mid)&&decide (n<e.to))).length<=256:=M5 (Nk _ _) (by rw[MY];omega);by_cases SJ:i<(st.es n).length
    ·obtain⟨e,he⟩:∃e,(st.es n)[i]? = OM e:=⟨(st.es n)[i],MJ SJ⟩;obtain⟨bb,oo,rfl,q0,q1,q2,q3⟩:=Sq i e he;have i1:(0:Int)<=(i:Int):=(by omega);have i2:(i:Int)<((st.es n).length:Int):=(by omega);by_cases hc:0<=e.mid/\n<e.to
     ·have HY:PJ _:=FY he hc;have d1:decide (0<=e.mid)=true:=decide_eq_true hc.1;have d2:decide ((n:Int)<(e.to:Int))=true:=decide_eq_true (by omega);clear hc he;generalize (((st.es n).take i).filter (fun e=>decide (0<=e.mid)&&decide (n<e.to))).length=c0 at *;generalize (e.to:Int)=et at *;generalize e.mid=em at *;go_wp2;go_roundw
      case rel=>exact⟨i+1,by omega,by go_num,by rw[HY.out];push_cast;rw[Int.add_assoc],trivial⟩
      case measure=>simp[intOf];omega
     ·have HY:PJ _:=I3 he hc;clear he;by_cases hm:0<=e.mid
      ·have d1:decide (0<=e.mid)=true:=decide_eq_true hm;have d2:decide ((n:Int)<(e.to:Int))=false:=decide_eq_false (fun q=>hc ⟨hm,by omega⟩);clear hc hm;generalize (((st.es n).take i).filter (fun e=>decide (0<=e.mid)&&decide (n<e.to))).length=c0 at *;generalize (e.to:Int)=et at *;generalize e.mid=em at *;go_wp2;go_roundw
       case rel=>exact⟨i+1,by omega,by go_num,by rw[HY.out],trivial⟩
       case measure=>simp[intOf];omega
      ·have d1:decide (0<=e.mid)=false:=decide_eq_false hm;clear hc hm;generalize (((st.es n).take i).filter (fun e=>decide (0<=e.mid)&&decide (n<e.to))).length=c0 at *;generalize (e.to:Int)=et at *;generalize e.mid=em at *;go_wp2;go_roundw
       case rel=>exact⟨i+1,by omega,by go_num,by rw[HY.out],trivial⟩
       case measure=>simp[intOf];omega
    ·have ei:i=(st.es n).length:=(by omega);subst ei;have HAN:PJ (((((st.es n).take (st.es n).length).filter (fun e=>decide (0<=e.mid)&&decide (n<e.to))).length:Nat)=jK st.es n):=by
      unfold PJ;rw[M9];rfl
     go_wp2;go_roundg Qf
     case measure=>omega
     case rel=>exact⟨_,Qf,rfl,QE,by rw[WJ.out,HAN.out];push_cast;rfl,B4,hr4⟩
end
section
open Go.RowKit Go.Lib
structure RS (w0 w:PG) (B xb mb rb gm cap nk:Nat) (A:Option Addr) (L:List Nat) (es:Nat->List LE) (f:Int->Option PH) (W H V:Int) (bl:Nat->Bool) (most:Nat) (a1 a3:Int):Prop where
 s:S7 w B (W*H) a1 (L.length:Nat) a3 0 0 V
 u:S7 w w0.heap.size 0 0 0 0 0 0 0
 r:RSv w xb mb W H V bl most
 g:RGm w rb gm cap nk A L es f
 b:PI w0.heap.size w0 w
 n:¬xb=B/\¬mb=B/\¬w0.heap.size=B/\w0.heap.size<=B
 a:KI rb gm A f B
 e:es=esF W H bl
 l:L=crs W H bl (W*H).toNat
section
variable {w0 w w' : PG} {B xb mb rb gm cap nk : Nat} {A : Option Addr} {L : List Nat} {es : Nat → List LE} {f : Int → Option PH} {W H V : Int} {bl : Nat → Bool} {most : Nat} {a1 a3 : Int}
theorem RS.below (h:RS w0 w B xb mb rb gm cap nk A L es f W H V bl most a1 a3)(hb:PI w.heap.size w w'):RS w0 w' B xb mb rb gm cap nk A L es f W H V bl most a1 a3 :=
 ⟨h.s.below hb,h.u.below hb,h.r.below hb,h.g.below hb,h.b.trans (hb.mono h.b.size),h.n,h.a,h.e,h.l⟩
theorem RS.s3 (h:RS w0 w B xb mb rb gm cap nk A L es f W H V bl most a1 a3)(v:Int):RS w0 (w.setCell ⟨B,3,Pk⟩ (PE PF v)) B xb mb rb gm cap nk A L es f W H V bl most a1 v:=by
 have K:=Gs w B 3 (PE PF v);exact⟨h.s.s3 v,h.u.keep K h.n.2.2.1,h.r.keep K h.n.1 h.n.2.1,h.g.keep K h.a.r h.a.m h.a.a h.a.e,h.b.trans (K.to_below h.b.size (fun k e=>by have:=h.n.2.2.2;omega)),h.n,h.a,h.e,h.l⟩
theorem RS.cb (h:RS w0 w B xb mb rb gm cap nk A L es f W H V bl most a1 a3):(∀x∈L,x<256)/\L.length<=256/\L.Pairwise (·<·)/\Btw L 0 16 ⟨fun _=>0,es⟩/\∀l,edN W H bl l<=256*l.length:=by
 obtain⟨Qa,Xs,Yy,Xt⟩:1<=W/\W<=16/\1<=H/\H<=16:=⟨h.r.ra.w1,h.r.ra.w2,h.r.ra.h1,h.r.ra.h2⟩;have Rq:=bP Qa Xs Yy Xt;rw[h.l,h.e];exact⟨fun x hx=>by have:=(cR.1 hx).1;omega,by have:=fF W H bl (W*H).toNat;omega,gA W H bl _,(iS (W:=W) (H:=H) (bl:=bl) Qa).btw Qa Xs Yy Xt,zP Qa Xs Yy Xt⟩
theorem RS.at {j:Nat}(h:RS w0 w B xb mb rb gm cap nk A L es f W H V bl most a1 (edN W H bl (L.take j):Nat))(PO:j<L.length) :
  ∃bA oA nn A' cap' en ej,A=OM ⟨bA,oA,Pk⟩/\ej=edN W H bl (L.take j)/\ej+en<=65536/\w.cell? ⟨bA,oA+j,Pk⟩=OM (PE PF (nn:Nat))/\(Instr.lookup 123 (.map (OM gm)) (PE PF (nn:Nat)) PB).run prog w.drew=.ok (.slice A' en cap') w.drew/\w.cell? ⟨rb,0,Pk⟩=OM (.slice A L.length cap)/\w.cell? ⟨rb,1,Pk⟩=OM (.map (OM gm))/\w.cell? ⟨B,3,Pk⟩=OM (PE PF (ej:Nat))/\w.frozen? ⟨B,3,Pk⟩=PB /\
   RS w0 (w.drew.setCell ⟨B,3,Pk⟩ (PE PF ((ej:Int)+(en:Int)))) B xb mb rb gm cap nk A L es f W H V bl most a1 (edN W H bl (L.take (j+1)):Nat):=by
 obtain⟨bA,oA,hA,_,q0⟩:=h.g.row j PO;obtain⟨nn,Si⟩:∃nn,L[j]? = OM nn:=⟨L[j],MJ PO⟩;have q1:w.cell? ⟨bA,oA+j,Pk⟩=OM (PE PF (nn:Int)):=by
  have e:L.getD j 0=nn:=by rw[MS,Si];rfl
  rw[<- e];exact q0
 have Rc:=MZ Si;obtain⟨c1,c2,_,_,c5⟩:=h.cb;have U0:=c1 nn Rc;have D:=cI w;obtain⟨A',cap',hf,_⟩:=h.g.yes nn Rc;have RM:(Instr.lookup 123 (.map (OM gm)) (PE PF (nn:Int)) PB).run prog w.drew=.ok (.slice A' (es nn).length cap') w.drew:=(h.g.below D).mp.look_some aY Tryz.underM (j6 _) (aC (by omega) (by omega)) hf PB;have HN:edN W H bl (L.take (j+1))=edN W H bl (L.take j)+(es nn).length:=by rw[h.e];exact xj Si
 have YI:=c5 (L.take (j+1));rw[MY]at YI;refine⟨bA,oA,nn,A',cap',(es nn).length,edN W H bl (L.take j),hA,rfl,by omega,q1,RM,h.g.p0,h.g.p1,h.s.c3,h.s.fz 3,?_⟩;have:=(h.below D).s3 ((edN W H bl (L.take j):Nat)+((es nn).length:Nat));rw[HN];exact this
theorem RS.end (h:RS w0 w B xb mb rb gm cap nk A L es f W H V bl most a1 (edN W H bl (L.take L.length):Nat))(m1:1<=most)(m6:most<=6) :
  ∃(ej:Nat) (hv:Int),ej=edN W H bl L/\hv=((ej/2:Nat):Int)/\Int.tdiv (ej:Int) 2=hv/\IntKind.i64.wrap hv=hv/\w.cell? ⟨rb,0,Pk⟩=OM (.slice A L.length cap)/\w.cell? ⟨B,3,Pk⟩=OM (PE PF (ej:Nat))/\w.frozen? ⟨B,3,Pk⟩=PB/\(w.setCell ⟨B,3,Pk⟩ (PE PF hv)).cell? ⟨xb,1,Pk⟩=OM (PE PF (most:Int)) /\
   RS w0 (w.setCell ⟨B,3,Pk⟩ (PE PF hv)) B xb mb rb gm cap nk A L es f W H V bl most a1 hv /\
   PK prog 60 #[.pointer (OM ⟨rb,0,Pk⟩),PE PF (most:Int)] (w.setCell ⟨B,3,Pk⟩ (PE PF hv)) (fun e w'=>∃lb vb eb k st f',e=PM (.pointer (OM ⟨lb,0,Pk⟩))/\Rds most L ⟨fun _=>0,es⟩ k st/\lY most L k st/\RLv w' lb vb eb (k+1) L ⟨dr (k+1) st,st.es⟩ f'/\PI (w.setCell ⟨B,3,Pk⟩ (PE PF hv)).heap.size (w.setCell ⟨B,3,Pk⟩ (PE PF hv)) w'):=by
 rw[M9]at h;obtain⟨c1,c2,c3,c4,c5⟩:=h.cb;have hle:=c5 L;have G:=h.s3 ((edN W H bl L/2:Nat):Int);exact⟨edN W H bl L,_,rfl,rfl,by rw[Od (by omega)];omega,iP (by omega) (by omega),h.g.p0,h.s.c3,h.s.fz 3,G.r.c1,G,wN _ G.g c3 c1 c2 c4 m1 m6⟩
theorem RS.lev {e3:Int}{vb eb k:Nat}{st:LSt}{f':Int->Option PH}(h:RS w0 w B xb mb rb gm cap nk A L es f W H V bl most a1 e3)(hb:PI w.heap.size w w')(hR:Rds most L ⟨fun _=>0,es⟩ k st)(hO:lY most L k st)(R:RLv w' lb vb eb (k+1) L ⟨dr (k+1) st,st.es⟩ f') :
  ∃au:Nat,((uH W H bl most:Nat):Int)/2=au/\(lvK W H bl most).1=k/\RS w0 w' B xb mb rb gm cap nk A L es f W H V bl most a1 e3/\w'.cell? ⟨lb,2,Pk⟩=OM (PE PF ((k:Int)+1))/\¬lb=B/\PK prog 61 #[.pointer (OM ⟨lb,0,Pk⟩)] w' (fun e Q2=>e=PM (PE PF (au:Int))/\PI w'.heap.size w' Q2):=by
 obtain⟨c1,c2,c3,c4,c5⟩:=h.cb;have h':=h.below hb;have BT:=Btw.rds (show (0:Int)<=16 by omega) c4 hR;have ZH:∀n,(st.es n).length<=256:=fun n=>iR.len (L:=L) (fun a=>⟨BT.lrd.esy.ord a,fun e he=>(BT.cor.ends he).2⟩) c1 n;have had:=zV w' R ZH;have hle:=zQ (W:=W) (H:=H) (bl:=bl) (most:=most) (k:=k) (st:=st) (by rw[<- h.l,<- h.e];exact hR) (by rw[<- h.l];exact hO);have ha:uH W H bl most=2*dX (jK st.es) (dj L) 256:=by
  unfold uH;rw[hle,<- h.l];exact Dq BT.lrd.esy (fun he=>BT.cor.ends he) c1 (fun he=>BT.lrd.esy.off he)
 refine⟨dX (jK st.es) (dj L) 256,by rw[ha];push_cast;omega,by rw[hle],h',R.c2,fun q=>?_,had⟩;have l0:=R.c0;rw[q,h'.s.c0]at l0;cases l0
theorem RS.two {e3:Int}{au:Nat}(h:RS w0 w B xb mb rb gm cap nk A L es f W H V bl most a1 e3)(c:w.cell? ⟨lb,2,Pk⟩=OM (PE PF ((k:Int)+1)))(hn:¬lb=B) :
  w.cell? ⟨B,4,Pk⟩=OM (PE PF 0)/\w.frozen? ⟨B,4,Pk⟩=PB/\(w.setCell ⟨B,4,Pk⟩ (PE PF (au:Int))).cell? ⟨lb,2,Pk⟩=OM (PE PF ((k:Int)+1))/\(w.setCell ⟨B,4,Pk⟩ (PE PF (au:Int))).cell? ⟨B,5,Pk⟩=OM (PE PF 0)/\(w.setCell ⟨B,4,Pk⟩ (PE PF (au:Int))).frozen? ⟨B,5,Pk⟩=PB /\
   S7 ((w.setCell ⟨B,4,Pk⟩ (PE PF (au:Int))).setCell ⟨B,5,Pk⟩ (PE PF ((k:Int)+1))) B (W*H) a1 (L.length:Nat) e3 (au:Int) ((k:Int)+1) V/\S7 ((w.setCell ⟨B,4,Pk⟩ (PE PF (au:Int))).setCell ⟨B,5,Pk⟩ (PE PF ((k:Int)+1))) w0.heap.size 0 0 0 0 0 0 0/\PI w0.heap.size w0 ((w.setCell ⟨B,4,Pk⟩ (PE PF (au:Int))).setCell ⟨B,5,Pk⟩ (PE PF ((k:Int)+1))):=by
 have K:=Gs w B 4 (PE PF (au:Int));have T:=h.s.s4 (au:Int);have K2:=Gs (w.setCell ⟨B,4,Pk⟩ (PE PF (au:Int))) B 5 (PE PF ((k:Int)+1));have b1:=h.b.trans (K.to_below h.b.size (fun k e=>by have:=h.n.2.2.2;omega));exact⟨h.s.c4,h.s.fz 4,K.cellOf c hn,T.c5,T.fz 5,T.s5 _,(h.u.keep K h.n.2.2.1).keep K2 h.n.2.2.1,b1.trans (K2.to_below b1.size (fun k e=>by have:=h.n.2.2.2;omega))⟩
end
structure R1 (w0 w:PG) (B xb mb:Nat) (W H V:Int) (bl:Nat->Bool) (most:Nat) (a1:Int):Prop where
 s:S7 w B (W*H) a1 0 0 0 0 V
 u:S7 w w0.heap.size 0 0 0 0 0 0 0
 r:RSv w xb mb W H V bl most
 b:PI w0.heap.size w0 w
 n:¬xb=B/\¬mb=B/\¬w0.heap.size=B/\w0.heap.size<=B
section
variable {w0 w w' : PG} {B xb mb : Nat} {W H V : Int} {bl : Nat → Bool} {most : Nat} {a1 : Int}
theorem R1.s1 (h:R1 w0 w B xb mb W H V bl most a1)(v:Int):R1 w0 (w.setCell ⟨B,1,Pk⟩ (PE PF v)) B xb mb W H V bl most v:=by
 have K:=Gs w B 1 (PE PF v);exact⟨h.s.s1 v,h.u.keep K h.n.2.2.1,h.r.keep K h.n.1 h.n.2.1,h.b.trans (K.to_below h.b.size (fun k e=>by have:=h.n.2.2.2;omega)),h.n⟩
theorem R1.new (u:S7 w w0.heap.size 0 0 0 0 0 0 0)(r:RSv w xb mb W H V bl most)(b:PI w0.heap.size w0 w)(hz:w.heap.size=w0.heap.size+1):R1 w0 ((w.alloc (PN #[PE PF (W*H),PE PF 0,PE PF 0,PE PF 0,PE PF 0,PE PF 0,PE PF V] 64)).drew) (w0.heap.size+1) xb mb W H V bl most (frN bl 0:Nat):=by
 have S:=(zU w (W*H) 0 0 0 0 0 V).below (al.drew);have b1:PI w.heap.size w ((w.alloc (PN #[PE PF (W*H),PE PF 0,PE PF 0,PE PF 0,PE PF 0,PE PF 0,PE PF V] 64)).drew):=(al.alloc aj _).drew;have r':=r.below b1;rw[hz]at S;refine⟨S,u.below b1,r',ak b b1,⟨fun h=>?_,fun h=>?_,by omega,by omega⟩⟩
 ·have h1:=r'.c0;rw[h,S.c0]at h1;cases h1
 ·have h1:=r'.ra.cs 0 (by decide);rw[h]at h1;have h2:=S.c2;rw[h2]at h1;cases h1
theorem R1.graph (h:R1 w0 w B xb mb W H V bl most a1):PK prog 59 #[.pointer (OM ⟨mb,0,Pk⟩)] w fun e w'=>∃rb gm cap nk A L es f,e=PM (.pointer (OM ⟨rb,0,Pk⟩))/\L.length<=256/\w'.cell? ⟨rb,0,Pk⟩=OM (.slice A L.length cap)/\w'.cell? ⟨B,2,Pk⟩=OM (PE PF 0)/\w'.frozen? ⟨B,2,Pk⟩=PB/\RS w0 (w'.setCell ⟨B,2,Pk⟩ (PE PF (L.length:Nat))) B xb mb rb gm cap nk A L es f W H V bl most a1 (edN W H bl (L.take 0):Nat):=by
 refine(zT w h.r.ra h.r.lts.2).mono ?_;rintro e w3 ⟨rb,gm,A,AR,cap,RR,f,rfl,RG,ED,hb3,hA⟩;have S3:=h.s.below hb3;have AP:KI rb gm A f B:=RG.apt7 ED hA h.s.lt S3;have GM:=RG.gm ED (iS (W:=W) (H:=H) (bl:=bl) h.r.ra.w1);have Rq:=bP h.r.ra.w1 h.r.ra.w2 h.r.ra.h1 h.r.ra.h2;have K4:=Gs w3 B 2 (PE PF ((crs W H bl (W*H).toNat).length:Nat));have B3:=h.b.trans (hb3.mono h.b.size);refine⟨rb,gm,cap,_,A,_,_,f,rfl,by have:=fF W H bl (W*H).toNat;omega,GM.p0,S3.c2,S3.fz 2,?_,(h.u.below hb3).keep K4 h.n.2.2.1,(h.r.below hb3).keep K4 h.n.1 h.n.2.1,GM.keep K4 AP.r AP.m AP.a AP.e,B3.trans (K4.to_below B3.size (fun k e=>by have:=h.n.2.2.2;omega)),h.n,AP,rfl,rfl⟩;have e0:((edN W H bl ((crs W H bl (W*H).toNat).take 0):Nat):Int)=0:=by unfold edN;rw[List.take_zero];rfl
 rw[e0];exact S3.s2 _
end
end
section
open Go.RowKit Go.Lib
theorem zW (w:PG)(R:RSv w xb mb W H V bl most)(m1:1<=most)(m6:most<=6) :
  PK prog 24 #[.pointer (OM ⟨xb,0,Pk⟩)] w fun e w'=>e=PM (.agg (stV W H V bl most))/\PI w.heap.size w w':=by
 have Rq:=bP R.ra.w1 R.ra.w2 R.ra.h1 R.ra.h2;have X4:IntKind.i64.wrap (W*H)=W*H:=fk (by omega) (by omega);obtain⟨K,hK⟩:∃K:Nat,W*H=(K:Int):=⟨(W*H).toNat,by omega⟩;have HK:PJ (W*H=(K:Int)/\K<=256/\1<=most/\most<=6):=⟨hK,by omega,m1,m6⟩;have b0:=aQ w (PN #[PE PF 0,PE PF 0,PE PF 0,PE PF 0,PE PF 0,PE PF 0,PE PF 0] 64);have R0:=R.below b0;have P0:(w.alloc (PN #[PE PF 0,PE PF 0,PE PF 0,PE PF 0,PE PF 0,PE PF 0,PE PF 0] 64)).heap.size=w.heap.size+1:=by simp
 have Tz:PJ (R1 w (((w.alloc (PN #[PE PF 0,PE PF 0,PE PF 0,PE PF 0,PE PF 0,PE PF 0,PE PF 0] 64)).alloc (PN #[PE PF (W*H),PE PF 0,PE PF 0,PE PF 0,PE PF 0,PE PF 0,PE PF V] 64)).drew) (w.heap.size+1) xb mb W H V bl most (frN bl 0:Nat)):=R1.new (zU w 0 0 0 0 0 0 0) R0 b0 P0;obtain⟨q0,_,⟨_,_,_,_,q1,q2,q3,_⟩,_⟩:=R0;have ba:PI (w.alloc (PN #[PE PF 0,PE PF 0,PE PF 0,PE PF 0,PE PF 0,PE PF 0,PE PF 0] 64)).heap.size (w.alloc (PN #[PE PF 0,PE PF 0,PE PF 0,PE PF 0,PE PF 0,PE PF 0,PE PF 0] 64)) ((w.alloc (PN #[PE PF 0,PE PF 0,PE PF 0,PE PF 0,PE PF 0,PE PF 0,PE PF 0] 64)).alloc (PN #[PE PF 0,PE PF 0,PE PF 0,PE PF 0,PE PF 0,PE PF 0,PE PF 0] 64)):=al.alloc aj _;obtain⟨a0,_,⟨_,_,_,_,a1,a2,a3,_⟩,_⟩:=(R.below b0).below ba;obtain⟨s0,s1,s2,s3,s4,s5,s6,sz,_⟩:=zU (w.alloc (PN #[PE PF 0,PE PF 0,PE PF 0,PE PF 0,PE PF 0,PE PF 0,PE PF 0] 64)) 0 0 0 0 0 0 0;clear hK R m1 m6 Rq b0 ba;go_enter func24,ntmps24;go_upto_region 1 with fail
 generalize w.alloc (PN #[PE PF 0,PE PF 0,PE PF 0,PE PF 0,PE PF 0,PE PF 0,PE PF 0] 64)=wa at *;go_region;clear X4 q0 q1 q2 q3 a0 a1 a2 a3 s0 s1 s2 s3 s4 s5 s6 sz P0;generalize (wa.alloc (PN #[PE PF (W*H),PE PF 0,PE PF 0,PE PF 0,PE PF 0,PE PF 0,PE PF V] 64)).drew=wb at *;generalize w.heap.size+1=B at *;go_wp2_with fail;go_loopw [4] (fun iv wr=>∃c:Nat,c<=K/\iv=PE PF c/\R1 w wr B xb mb W H V bl most (frN bl c:Nat))
  (fun i _=>K-(intOf i).toNat)
 case atStart=>exact⟨0,MQ _,rfl,Tz.out⟩
 case round =>
  obtain⟨c,hc,rfl,hS⟩:=hrel;by_cases PO:c<K
  ·as_aux_lemma =>
    obtain⟨x0,x1,y1,r0,rc,cl,c2,RY⟩:wr.cell? ⟨B,0,Pk⟩=OM (PE PF (W*H))/\wr.cell? ⟨B,1,Pk⟩=OM (PE PF (frN bl c:Nat))/\wr.frozen? ⟨B,1,Pk⟩=PB/\wr.cell? ⟨xb,0,Pk⟩=OM (.pointer (OM ⟨mb,0,Pk⟩))/\wr.cell? ⟨mb,2+c,Pk⟩=OM (.bool (bl c))/\(c:Int)<W*H/\(c:Int)<256/\frN bl c<=c:=by
     have h2:=HK.out.2.1;exact⟨hS.s.c0,hS.s.c1,hS.s.fz 1,hS.r.c0,hS.r.ra.cs c (by omega),by rw[HK.out.1];omega,by omega,zO bl c⟩
    have HS:=ae hS;have HF:PJ (((frN bl (c+1):Nat):Int)=(frN bl c:Nat)+if bl c then 0 else 1):=(by unfold PJ;show ((frN bl c+(if bl c then 0 else 1):Nat):Int)=_;split<;>simp);clear hS;cases XG:bl c with
    |true =>
     rw[XG]at rc HF;clear XG;go_wp2;go_roundw
     case rel=>exact⟨c+1,by omega,by go_num,by rw[HF.out];exact(by simpa using HS.out)⟩
     case measure=>simp[intOf];omega
    |false =>
     rw[XG]at rc HF;clear XG;have HZ:PJ (R1 w (wr.setCell ⟨B,1,Pk⟩ (PE PF ((frN bl c:Nat)+1))) B xb mb W H V bl most ((frN bl c:Nat)+1)):=HS.out.s1 _;generalize frN bl c=fc at *;go_wp2;go_roundw
     case rel=>exact⟨c+1,by omega,by go_num,by rw[HF.out];exact HZ.out⟩
     case measure=>simp[intOf];omega
  ·have e:c=K:=(by omega);subst e;obtain⟨cl,x0,r0⟩:¬(c:Int)<W*H/\wr.cell? ⟨B,0,Pk⟩=OM (PE PF (W*H))/\wr.cell? ⟨xb,0,Pk⟩=OM (.pointer (OM ⟨mb,0,Pk⟩)):=⟨by rw[HK.out.1];omega,hS.s.c0,hS.r.c0⟩;have QN:=hS.graph;have HFR:PJ (frN bl c=frN bl (W*H).toNat):=(by unfold PJ;rw[HK.out.1,ML]);clear hS Tz;generalize frN bl c=fc at *;obtain⟨WB,hWB⟩:∃WB,WB=wr:=⟨_,rfl⟩;subst hWB;go_wp2_with fail;refine QN.mono ?_;rintro e w3 ⟨rb,gm,cap,nk,A,L,es,f,rfl,T8,p0,x2,y2,h4⟩;clear QN x0 r0 cl;go_wp2_with fail;clear p0 x2 y2;generalize w3.setCell ⟨B,2,Pk⟩ (PE PF (L.length:Nat))=w4 at *;go_loopw [6] (fun iv wr=>∃j:Nat,j<=L.length/\iv=PE PF j/\RS w wr B xb mb rb gm cap nk A L es f W H V bl most (fc:Nat) (edN W H bl (L.take j):Nat))
    (fun i _=>L.length-(intOf i).toNat)
   case atStart=>exact⟨0,MQ _,rfl,h4⟩
   case round =>
    obtain⟨j,hj,rfl,hS⟩:=hrel;by_cases PO:j<L.length
    ·as_aux_lemma =>
      obtain⟨bA,oA,nn,A',cap',en,ej,rfl,hej,Wb,q1,RM,p0,p1,x3,y3,h5⟩:=hS.at PO;have j1:(j:Int)<(L.length:Int):=(by omega);have H5:=ae h5;clear h4 hS h5 hej;go_upto_region 12 with fail
      go_region;go_wp2;go_roundw
      case rel=>exact⟨j+1,by omega,by go_num,H5.out⟩
      case measure=>simp[intOf];omega
    ·have e:j=L.length:=(by omega);subst e;obtain⟨ej,hv,hej,hhv,hq,hwq,p0,x3,y3,r6,h6,hrl⟩:=hS.end HK.out.2.2.1 HK.out.2.2.2;have HEJ:PJ (ej=edN W H bl L/\hv=((ej/2:Nat):Int)):=⟨hej,hhv⟩;have H6:=ae h6;clear h4 hS h6 hej hhv;go_wp2_with fail;generalize wr.setCell ⟨B,3,Pk⟩ (PE PF hv)=w6 at *;refine hrl.mono ?_;rintro e w7 ⟨lb,vb,eb,k2,st,f',rfl,hRd,hOv,RL,Rm⟩;obtain⟨au,hau,Xz,h7,l2,Xk,had⟩:=H6.out.lev Rm hRd hOv RL;have HQ:PJ (((uH W H bl most:Nat):Int)/2=au/\(lvK W H bl most).1=k2):=⟨hau,Xz⟩;have H7:=ae h7;clear hrl hRd hOv RL Rm hau Xz h7 H6 hq hwq p0 x3 y3 r6;go_wp2_with fail;refine had.mono ?_;rintro e w8 ⟨rfl,Rn⟩;have h8:=H7.out.below Rn;have l2:=ar Rn l2;obtain⟨x4,y4,l9,x5,y5,⟨t0,t1,t2,t3,t4,t5,t6,_,_⟩,hu,Ts⟩:=h8.two (au:=au) l2 Xk;have HU:=ae hu;have QV:PJ (stV W H V bl most=#[PE PF (W*H),PE PF (fc:Nat),PE PF (L.length:Nat),PE PF hv,PE PF (au:Int),PE PF ((k2:Int)+1),PE PF V]):=by
      unfold PJ stV;rw[<- h8.l,<- HEJ.out.1,HQ.out.1,HQ.out.2,HFR.out,HEJ.out.2];rfl
     obtain⟨v0,v1,v2,v3,v4,v5,v6,vz,_⟩:=hu;clear had H7 Rn h8 Xk;go_wp2;have r:=Gn (u:=PE PF 0) (fun o ho=>(by
      have ho':o=0\/o=1\/o=2\/o=3\/o=4\/o=5\/o=6:=(by omega);have q:=HU.out;rcases ho' with rfl|rfl|rfl|rfl|rfl|rfl|rfl
      ·exact q.c0
      ·exact q.c1
      ·exact q.c2
      ·exact q.c3
      ·exact q.c4
      ·exact q.c5
      ·exact q.c6)) (PE PF (W*H)) (PE PF (fc:Nat)) (PE PF (L.length:Nat)) (PE PF hv) (PE PF (au:Int)) (PE PF ((k2:Int)+1)) (PE PF V)
     obtain⟨r0,r1,r2,r3,r4,r5,r6⟩:=r;unfold st7 at r0 r1 r2 r3 r4 r5 r6;refine bodyPost_ret (v:=.agg #[PE PF (W*H),PE PF (fc:Nat),PE PF (L.length:Nat),PE PF hv,PE PF (au:Int),PE PF ((k2:Int)+1),PE PF V]) (by simp[results,results24,go_sem,r0,r1,r2,r3,r4,r5,r6]) rfl ⟨by rw[QV.out],?_⟩;exact((((((Ts.setCell (p:=⟨w.heap.size,0,Pk⟩) aj _).setCell (p:=⟨w.heap.size,1,Pk⟩) aj _).setCell (p:=⟨w.heap.size,2,Pk⟩) aj _).setCell (p:=⟨w.heap.size,3,Pk⟩) aj _).setCell (p:=⟨w.heap.size,4,Pk⟩) aj _).setCell (p:=⟨w.heap.size,5,Pk⟩) aj _).setCell (p:=⟨w.heap.size,6,Pk⟩) aj _
end
end Go.Proofs.YtmaefimaeelkbaaGreatDoor
