/- Texts laid together. -/
import Derived.Test.YtmaefimaeelkbaaGreatDoorP1
import Derived.Maps.OwnSet
import Derived.Maps.OwnOps
import Derived.Maps.Ext
import Derived.Maps.RangeWalk
import Derived.Laws.IdiomRangeMap
namespace Go.Proofs.YtmaefimaeelkbaaGreatDoor
open _root_.Or renaming inl→MG,inr→MF
open _root_.Int renaming le_refl→Nc,zero_add→Oq,add_zero→NN,add_assoc→Nx
open _root_.Nat renaming le_trans→M5,lt_of_lt_of_le→MN
open _root_.List renaming pairwise_cons→Ot,mem_cons→Nh,mem_cons_of_mem→MV,mem_filter→Ns,mem_cons_self→M4
open Go.Value renaming int→PE
open Go.IntKind renaming i64→PF
open _root_.Option renaming some→OM,none→Pk
open _root_.Bool renaming true→Pm,false→PB
open Go renaming World→PG,Value→PH
variable {n i k top most:Nat}{H:Int->Option (Int×Int)}{a b c w w':PG}{F:Nat->Prop}{ok:Int->Nat->Prop}{L:List Nat}
structure br where
 id:Int
 s:Int
 d:Int
def br.v (x:br):Int:=val x.s x.d
def bef (x y:br):Prop:=x.v<y.v\/(x.v=y.v/\x.id<y.id)
def upN (i:Nat):Nat:=(i-1)/2
theorem fP {x y z:br}(h:¬bef y x)(k:¬bef z y):¬bef z x:=by
 unfold bef at *;omega
theorem oW {x y:br}(h:bef x y):¬bef y x:=by
 unfold bef at *;omega
theorem mB (x:br):¬bef x x:=by
 unfold bef;omega
def swI (it:Nat->br) (i j:Nat):Nat->br:=fun k=>if k=i then it j else if k=j then it i else it k
def dB (it:Nat->br) (i:Nat) (x:br):Nat->br:=fun k=>if k=i then x else it k
theorem jZ (it:Nat->br)(i j:Nat):swI it i j i=it j:=if_pos rfl
theorem pG (it:Nat->br)(i j:Nat):swI it i j j=it i:=by
 unfold swI;by_cases h:j=i
 ·subst h;rw[if_pos rfl]
 ·rw[if_neg h,if_pos rfl]
theorem jf (it:Nat->br){i j k:Nat}(h:k≠i)(h2:k≠j):swI it i j k=it k:=by
 unfold swI;rw[if_neg h,if_neg h2]
theorem cZ (it:Nat->br)(i:Nat)(x:br):dB it i x i=x:=if_pos rfl
theorem bY (it:Nat->br){i k:Nat}(x:br)(h:k≠i):dB it i x k=it k:=if_neg h
theorem Ju (it:Nat->br)(i j:Nat):swI it i j=dB (dB it i (it j)) j (it i):=by
 funext k
 unfold swI dB;by_cases h:k=j
 ·by_cases g:k=i
  ·rw[if_pos g,if_pos h];rw[<- h,<- g]
  ·rw[if_neg g,if_pos h,if_pos h]
 ·by_cases g:k=i
  ·rw[if_pos g,if_neg h,if_pos g]
  ·rw[if_neg g,if_neg h,if_neg h,if_neg g]
def Ord (it:Nat->br) (n:Nat):Prop:=∀j,0<j->j<n->¬bef (it j) (it (upN j))
theorem Ord.root {it:Nat->br}(h:Ord it n):∀j,j<n->¬bef (it j) (it 0):=by
 intro j
 induction j using Nat.strongRecOn with
 |ind j ih =>
  intro hj;by_cases h0:j=0
  ·subst h0;exact mB _
  ·have PO:upN j<j:=(by unfold upN;omega);exact fP (ih (upN j) PO (by omega)) (h j (by omega) hj)
structure fh (it:Nat->br) (n i:Nat):Prop where
 lt:i<n
 ord:∀j,0<j->j<n->j≠i->¬bef (it j) (it (upN j))
 over:∀j,0<j->j<n->upN j=i->0<i->¬bef (it j) (it (upN i))
theorem fh.done {it:Nat->br}(h:fh it n i)(hd:i=0\/¬bef (it i) (it (upN i))):Ord it n:=by
 intro j h0 hj;by_cases e:j=i
 ·subst e;rcases hd with hd|hd
  ·omega
  ·exact hd
 ·exact h.ord j h0 hj e
theorem fh.step {it:Nat->br}(h:fh it n i)(h0:0<i)(hb:bef (it i) (it (upN i))):fh (swI it i (upN i)) n (upN i):=by
 have PO:upN i<i:=by unfold upN;omega
 have hn:=h.lt;refine⟨by omega,fun j j0 jn jne=>?_,fun j j0 jn ju u0=>?_⟩
 ·by_cases e:j=i
  ·subst e;rw[jZ,pG];exact oW hb
  ·rw[jf it e jne];by_cases e1:upN j=i
   ·rw[e1,jZ];exact h.over j j0 jn e1 h0
   ·by_cases e2:upN j=upN i
    ·rw[e2,pG];have:=h.ord j j0 jn e;rw[e2]at this;exact fP (oW hb) this
    ·rw[jf it e1 e2];exact h.ord j j0 jn e
 ·have QZ:upN (upN i)<upN i:=by unfold upN at *;omega
  rw[jf it (k:=upN (upN i)) (by omega) (by omega)];have ha:=h.ord (upN i) u0 (by omega) (by omega);by_cases e:j=i
  ·subst e;rw[jZ];exact ha
  ·have hj:j≠upN i:=(by unfold upN at *;omega);rw[jf it e hj];have:=h.ord j j0 jn e;rw[ju]at this;exact fP ha this
theorem fh.last {it:Nat->br}(h:Ord it n)(x:br):fh (dB it n x) (n+1) n:=by
 refine⟨by omega,fun j j0 jn jne=>?_,fun j j0 jn ju _=>?_⟩
 ·rw[bY it x jne,bY it x (by unfold upN;omega)];exact h j j0 (by omega)
 ·unfold upN at ju;omega
theorem fh.less {it:Nat->br}(h:Ord it n)(hi:i<n)(x:br)(hx:¬bef (it i) x):fh (dB it i x) n i:=by
 refine⟨hi,fun j j0 jn jne=>?_,fun j j0 jn ju u0=>?_⟩
 ·rw[bY it x jne];by_cases e:upN j=i
  ·rw[e,cZ];have:=h j j0 jn;rw[e]at this;exact fP hx this
  ·rw[bY it x e];exact h j j0 jn
 ·have PO:upN i<i:=by unfold upN;omega
  have hj:j≠i:=by unfold upN at ju;omega
  rw[bY it x hj,bY it x (k:=upN i) (by omega)];have a:=h j j0 jn;rw[ju]at a;exact fP (h i u0 hi) a
structure fG (it:Nat->br) (n i:Nat):Prop where
 ord:∀j,0<j->j<n->upN j≠i->¬bef (it j) (it (upN j))
 over:∀j,0<j->j<n->upN j=i->0<i->¬bef (it j) (it (upN i))
structure nN (it:Nat->br) (n i m:Nat):Prop where
 lt:m<n
 who:m=i\/m=2*i+1\/m=2*i+2
 self:¬bef (it i) (it m)
 below:∀j,0<j->j<n->upN j=i->¬bef (it j) (it m)
theorem fG.done {it:Nat->br}(h:fG it n i)(hd:nN it n i i):Ord it n:=by
 intro j h0 hj;by_cases e:upN j=i
 ·rw[e];exact hd.below j h0 hj e
 ·exact h.ord j h0 hj e
theorem fG.step {it:Nat->br}{m:Nat}(h:fG it n i)(f:nN it n i m)(PW:m≠i):fG (swI it i m) n m:=by
 have hm:upN m=i/\i<m/\0<m:=by have:=f.who;unfold upN;omega
 obtain⟨hu,him,hm0⟩:=hm;refine⟨fun j j0 jn ju=>?_,fun j j0 jn ju _=>?_⟩
 ·by_cases e:j=m
  ·subst e;rw[pG,hu,jZ];exact f.self
  ·by_cases e1:j=i
   ·subst e1;have PO:upN j<j:=(by unfold upN;omega);rw[jZ,jf it (k:=upN j) (by omega) (by omega)];exact h.over m hm0 f.lt hu j0
   ·rw[jf it e1 e];by_cases e2:upN j=i
    ·rw[e2,jZ];exact f.below j j0 jn e2
    ·rw[jf it e2 ju];exact h.ord j j0 jn e2
 ·have hj:j≠m:=by unfold upN at ju;omega
  have hj2:j≠i:=by unfold upN at ju;omega
  rw[jf it hj2 hj,hu,jZ];have:=h.ord j j0 jn (by omega);rw[ju]at this;exact this
theorem fG.first {it:Nat->br}(h:Ord it (n+1))(x:br):fG (dB it 0 x) n 0:=by
 refine⟨fun j j0 jn ju=>?_,fun j j0 jn ju h0=>by omega⟩;rw[bY it x (by omega),bY it x ju];exact h j j0 (by omega)
def Holds (it:Nat->br) (n:Nat) (H:Int->Option (Int×Int)):Prop:=∀a s d,H a=OM (s,d)↔∃i,i<n/\it i=⟨a,s,d⟩
theorem Holds.sw {it:Nat->br}(h:Holds it n H){i j:Nat}(hi:i<n)(hj:j<n):Holds (swI it i j) n H:=by
 intro a s d;rw[h a s d];constructor
 ·rintro⟨k,hk,e⟩;by_cases e1:k=i
  ·subst e1;exact⟨j,hj,by rw[pG];exact e⟩
  ·by_cases e2:k=j
   ·subst e2;exact⟨i,hi,by rw[jZ];exact e⟩
   ·exact⟨k,hk,by rw[jf it e1 e2];exact e⟩
 ·rintro⟨k,hk,e⟩;by_cases e1:k=i
  ·subst e1;rw[jZ]at e;exact⟨j,hj,e⟩
  ·by_cases e2:k=j
   ·subst e2;rw[pG]at e;exact⟨i,hi,e⟩
   ·rw[jf it e1 e2]at e;exact⟨k,hk,e⟩
def GK (it:Nat->br) (n:Nat):Prop:=∀i j,i<n->j<n->(it i).id=(it j).id->i=j
def aB (H:Int->Option (Int×Int)) (a s d:Int):Int->Option (Int×Int):=fun i=>if i=a then OM (s,d) else H i
def jO (H:Int->Option (Int×Int)) (a:Int):Int->Option (Int×Int):=fun i=>if i=a then Pk else H i
theorem Holds.gone {it:Nat->br}(h:Holds it n H){a:Int}(ha:H a=Pk):∀i,i<n->(it i).id≠a:=by
 intro i hi e;have:=(h (it i).id (it i).s (it i).d).mpr ⟨i,hi,rfl⟩;rw[e,ha]at this;cases this
theorem Holds.last {it:Nat->br}(h:Holds it n H){a s d:Int}(ha:H a=Pk):Holds (dB it n ⟨a,s,d⟩) (n+1) (aB H a s d):=by
 intro a' s' d';unfold aB;by_cases e:a'=a
 ·subst e;rw[if_pos rfl];constructor
  ·intro q;cases q;exact⟨n,by omega,cZ it n _⟩
  ·rintro⟨i,hi,q⟩;by_cases e1:i=n
   ·subst e1;rw[cZ]at q;cases q;rfl
   ·rw[bY it _ e1]at q;exact absurd (by rw[q]) (h.gone ha i (by omega))
 ·rw[if_neg e,h a' s' d'];constructor
  ·rintro⟨i,hi,q⟩;exact⟨i,by omega,by rw[bY it _ (by omega)];exact q⟩
  ·rintro⟨i,hi,q⟩;by_cases e1:i=n
   ·subst e1;rw[cZ]at q;cases q;exact absurd rfl e
   ·rw[bY it _ e1]at q;exact⟨i,by omega,q⟩
theorem Holds.at {it:Nat->br}(h:Holds it n H){i:Nat}(hi:i<n):H (it i).id=OM ((it i).s,(it i).d):=(h _ _ _).mpr ⟨i,hi,rfl⟩
theorem Holds.same {it:Nat->br}(h:Holds it n H)(hp:GK it n){a s d:Int}(hi:i<n)(ha:(it i).id=a):Holds (dB it i ⟨a,s,d⟩) n (aB H a s d):=by
 intro a' s' d';unfold aB;by_cases e:a'=a
 ·subst e;rw[if_pos rfl];constructor
  ·intro q;cases q;exact⟨i,hi,cZ it i _⟩
  ·rintro⟨k,hk,q⟩;by_cases e1:k=i
   ·subst e1;rw[cZ]at q;cases q;rfl
   ·rw[bY it _ e1]at q;exact absurd (hp k i hk hi (by rw[q,ha])) e1
 ·rw[if_neg e,h a' s' d'];constructor
  ·rintro⟨k,hk,q⟩;have e1:k≠i:=fun e1=>e (by rw[<- ha,<- e1,q]);exact⟨k,hk,by rw[bY it _ e1];exact q⟩
  ·rintro⟨k,hk,q⟩;by_cases e1:k=i
   ·subst e1;rw[cZ]at q;cases q;exact absurd rfl e
   ·rw[bY it _ e1]at q;exact⟨k,hk,q⟩
theorem Holds.pop {it:Nat->br}(h:Holds it (n+1) H)(hp:GK it (n+1)):Holds (dB it 0 (it n)) n (jO H (it 0).id):=by
 intro a s d;unfold jO;by_cases e:a=(it 0).id
 ·rw[if_pos e];constructor
  ·intro q;cases q
  ·rintro⟨k,hk,q⟩;by_cases e1:k=0
   ·subst e1;rw[cZ]at q;have:=hp n 0 (by omega) (by omega) (by rw[q,<- e]);omega
   ·rw[bY it _ e1]at q;have:=hp k 0 (by omega) (by omega) (by rw[q,<- e]);omega
 ·rw[if_neg e,h a s d];constructor
  ·rintro⟨k,hk,q⟩;have k0:k≠0:=fun k0=>e (by rw[<- k0,q]);by_cases e1:k=n
   ·exact⟨0,by omega,by rw[cZ,<- e1];exact q⟩
   ·exact⟨k,by omega,by rw[bY it _ k0];exact q⟩
  ·rintro⟨k,hk,q⟩;by_cases e1:k=0
   ·subst e1;rw[cZ]at q;exact⟨n,by omega,q⟩
   ·rw[bY it _ e1]at q;exact⟨k,by omega,q⟩
theorem Holds.least {it:Nat->br}(h:Holds it n H)(ho:Ord it n){a s d:Int}(ha:H a=OM (s,d)):¬bef ⟨a,s,d⟩ (it 0):=by
 obtain⟨i,hi,e⟩:=(h a s d).mp ha;rw[<- e];exact ho.root i hi
section
def stS (k:Nat):Int:=1-(k%2:Nat)
def stD (k:Nat):Int:=(k%2:Nat)
theorem iz (k:Nat):(stS k=1/\stD k=0)\/(stS k=0/\stD k=1):=by
 unfold stS stD;omega
theorem cC (s d t u:Int):val (s+t) (d+u)=val s d+val t u:=by unfold val;omega
theorem kC (k:Nat):1<=val (stS k) (stD k)/\val (stS k) (stD k)<=54608393:=by
 have:=iz k;unfold val;omega
theorem cE {s d:Int}(h1:0<=s)(h2:0<=d)(h:val s d<=13979748608):s<=400/\d<=256:=by
 unfold val at h;omega
variable {E : Int → Nat → Int → Prop} {o : Int}
def Wk (E:Int->Nat->Int->Prop) (o a s d:Int):Prop :=
 ∀R:Int->Int->Int->Prop,R o 0 0->(∀(a s d:Int) (k:Nat) (b:Int),R a s d->E a k b->R b (s+stS k) (d+stD k))->R a s d
theorem Wk.nil:Wk E o o 0 0:=fun _ h0 _=>h0
theorem Wk.step {a b s d:Int}(h:Wk E o a s d)(e:E a k b):Wk E o b (s+stS k) (d+stD k):=fun R h0 hs=>hs _ _ _ _ _ (h R h0 hs) e
theorem Wk.ind {R:Int->Int->Int->Prop}{a s d:Int}(h:Wk E o a s d)(h0:R o 0 0)(hs:∀(a s d:Int) (k:Nat) (b:Int),Wk E o a s d->R a s d->E a k b->R b (s+stS k) (d+stD k)):R a s d :=
 (h (fun a s d=>Wk E o a s d/\R a s d) ⟨Wk.nil,h0⟩ (fun a s d k b hr e=>⟨hr.1.step e,hs a s d k b hr.1 hr.2 e⟩)).2
theorem Wk.inv {a s d:Int}(h:Wk E o a s d):(a=o/\s=0/\d=0)\/∃a' s' d' k,Wk E o a' s' d'/\E a' k a/\s=s'+stS k/\d=d'+stD k :=
 h.ind (R:=fun a s d=>(a=o/\s=0/\d=0)\/∃a' s' d' k,Wk E o a' s' d'/\E a' k a/\s=s'+stS k/\d=d'+stD k) (MG ⟨rfl,rfl,rfl⟩) (fun a s d k _ hw _ e=>MF ⟨a,s,d,k,hw,e,rfl,rfl⟩)
theorem Wk.nonneg {a s d:Int}(h:Wk E o a s d):0<=s/\0<=d :=
 h.ind (R:=fun _ s d=>0<=s/\0<=d) ⟨Nc _,Nc _⟩ (fun a s d k b _ ih _=>by have:=iz k;omega)
theorem Wk.cons {p a s d:Int}(e:E p k o)(h:Wk E o a s d):Wk E p a (s+stS k) (d+stD k) :=
 h.ind (R:=fun a s d=>Wk E p a (s+stS k) (d+stD k)) (Wk.nil.step e) (fun a' s' d' k' b' _ ih e'=>by
  have:=ih.step e';have e1:s'+stS k'+stS k=s'+stS k+stS k':=by omega
  have e2:d'+stD k'+stD k=d'+stD k+stD k':=by omega
  rw[e1,e2];exact this)
theorem Wk.back (hE:∀a k b,E a k b->∃k',E b k' a/\stS k'=stS k/\stD k'=stD k){a s d:Int}(h:Wk E o a s d):Wk E a o s d :=
 h.ind (R:=fun a s d=>Wk E a o s d) Wk.nil (fun a' s' d' k' b' _ ih e'=>by
  obtain⟨k2,e2,h1,h2⟩:=hE _ _ _ e';have:=ih.cons e2;rw[h1,h2]at this;exact this)
structure ct (E:Int->Nat->Int->Prop) (o:Int) (F:Int->Option (Int×Int)):Prop where
 sound:∀{a s d},F a=OM (s,d)->Wk E o a s d
 least:∀{a s d},Wk E o a s d->∃s' d',F a=OM (s',d')/\val s' d'<=val s d
 small:∀{a s d},F a=OM (s,d)->0<=s/\0<=d/\val s d<=13979748608
theorem ct.le {F G:Int->Option (Int×Int)}(hF:ct E o F)(hG:ct E o G){a s d:Int}(h:F a=OM (s,d)):G a=OM (s,d):=by
 obtain⟨s',d',h1,h2⟩:=hG.least (hF.sound h);obtain⟨s2,d2,h3,h4⟩:=hF.least (hG.sound h1);rw[h]at h3;cases h3;obtain⟨a1,a2,a3⟩:=hF.small h;obtain⟨b1,b2,b3⟩:=hG.small h1;have c1:=cE a1 a2 a3;have c2:=cE b1 b2 b3;obtain⟨e1,e2⟩:=gL s' d' s d (by omega) (by omega) (by omega);rw[h1,e1,e2]
theorem ct.unique {F G:Int->Option (Int×Int)}(hF:ct E o F)(hG:ct E o G):F=G:=by
 funext a
 cases h:F a with
 |none =>
  cases k:G a with
  |none=>rfl
  |some c=>obtain⟨s,d⟩:=c;rw[hG.le hF k]at h;cases h
 |some c=>obtain⟨s,d⟩:=c;exact(hF.le hG h).symm
theorem ct.home {F:Int->Option (Int×Int)}(h:ct E o F):F o=OM (0,0):=by
 obtain⟨s,d,h1,h2⟩:=h.least Wk.nil;obtain⟨a1,a2,_⟩:=h.small h1;have:s=0/\d=0:=by unfold val at h2;omega
 rw[h1,this.1,this.2]
theorem ct.edge {F:Int->Option (Int×Int)}(h:ct E o F){a b s d:Int}{k:Nat}(ha:F a=OM (s,d))(e:E a k b):∃s' d',F b=OM (s',d')/\val s' d'<=val s d+val (stS k) (stD k):=by
 obtain⟨s',d',h1,h2⟩:=h.least (Wk.step (h.sound ha) e);rw[cC]at h2;exact⟨s',d',h1,h2⟩
def cnt (F:Int->Option (Int×Int)):Nat->Nat
 |0=>0
 |N+1=>cnt F N+if (F N).isSome then 1 else 0
theorem iA (F:Int->Option (Int×Int))(N:Nat):cnt F N<=N:=by
 induction N with
 |zero=>exact aj
 |succ N ih=>unfold cnt;split<;>omega
theorem GL (F:Int->Option (Int×Int))(a s d:Int)(N:Nat)(h:(N:Int)<=a):cnt (aB F a s d) N=cnt F N:=by
 induction N with
 |zero=>rfl
 |succ N ih =>
  unfold cnt;rw[ih (by omega)];have:aB F a s d N=F N:=if_neg (by omega);rw[this]
theorem fY (F:Int->Option (Int×Int))(a s d:Int)(N:Nat)(h0:0<=a)(h:a<N)(hn:F a=Pk):cnt (aB F a s d) N=cnt F N+1:=by
 induction N with
 |zero=>omega
 |succ N ih =>
  unfold cnt;by_cases e:a=N
  ·rw[GL F a s d N (by omega)];have:aB F a s d N=OM (s,d):=if_pos e.symm;rw[this,<- e,hn];simp
  ·rw[ih (by omega)];have:aB F a s d N=F N:=if_neg (fun q=>e q.symm);rw[this];omega
theorem jg (N:Nat):cnt (fun _=>Pk) N=0:=by
 induction N with
 |zero=>rfl
 |succ N ih=>unfold cnt;rw[ih];rfl
def oX (H:Int->Option (Int×Int)) (b s d:Int) (H':Int->Option (Int×Int)):Prop :=
 (H'=aB H b s d/\∀{t u},H b=OM (t,u)->val s d<val t u)\/(H'=H/\∃t u,H b=OM (t,u)/\val t u<=val s d)
end
section
open Go.RowKit Go.Maps
structure ai (F:Nat->Prop) (w w':PG):Prop where
 os:w'.os=w.os
 tape:w'.tape=w.tape
 output:w'.output=w.output
 size:w.heap.size<=w'.heap.size
 block:∀k,k<w.heap.size->¬F k->w'.heap[k]? = w.heap[k]?
theorem ai.refl (F:Nat->Prop)(w:PG):ai F w w:=⟨rfl,rfl,rfl,aj,fun _ _ _=>rfl⟩
theorem ai.trans {G:Nat->Prop}(h:ai F a b)(k:ai G b c)(hs:∀i,i<a.heap.size->G i->F i):ai F a c :=
 ⟨k.os.trans h.os,k.tape.trans h.tape,k.output.trans h.output,M5 h.size k.size,fun i hi hn=>(k.block i (MN hi h.size) (fun g=>hn (hs i hi g))).trans (h.block i hi hn)⟩
theorem ai.mono {G:Nat->Prop}(h:ai F a b)(hs:∀i,i<a.heap.size->F i->G i):ai G a b :=
 ⟨h.os,h.tape,h.output,h.size,fun i hi hn=>h.block i hi (fun g=>hn (hs i hi g))⟩
theorem ai.grown {row:Option Nat}(h:ai F a b)(hg:b.grownBy c row)(hr:∀k,row=OM k->k<a.heap.size->F k):ai F a c :=
 ⟨hg.os.trans h.os,hg.tape.trans h.tape,hg.output.trans h.output,M5 h.size hg.size,fun i hi hn=>(hg.block i (MN hi h.size) (fun e=>hn (hr i e.symm hi))).trans (h.block i hi hn)⟩
theorem ai.alloc (h:ai F a b)(o:Obj):ai F a (b.alloc o):=h.grown (World.grownBy_alloc b o Pk) (by simp)
theorem ai.setCell (h:ai F a b){p:Addr}(hp:p.block<a.heap.size->F p.block)(u:PH):ai F a (b.setCell p u) :=
 ⟨h.os,h.tape,h.output,by simpa using h.size,fun i hi hn=>(Below.heap_setCell b p u i (fun e=>hn (by rw[e]at hi ⊢;exact hp hi))).trans (h.block i hi hn)⟩
theorem ai.drewN (h:ai F a b)(m:Nat):ai F a (b.drewN m):=⟨h.os,h.tape,h.output,h.size,h.block⟩
theorem ai.drew (h:ai F a b):ai F a b.drew:=⟨h.os,h.tape,h.output,h.size,h.block⟩
theorem ai.below (h:ai F a b)(hb:Below b.heap.size b c):ai F a c :=
 ⟨hb.os.trans h.os,hb.tape.trans h.tape,hb.output.trans h.output,M5 h.size hb.size,fun i hi hn=>(hb.block i (MN hi h.size)).trans (h.block i hi hn)⟩
theorem ai.of_below (hb:Below b.heap.size b c):ai F b c:=(ai.refl F b).below hb
theorem ai.to_below {B:Nat}(h:ai F a b)(hB:B<=a.heap.size)(hF:∀k,F k->B<=k):Below B a b :=
 ⟨h.os,h.tape,h.output,h.size,fun i hi=>h.block i (by omega) (fun g=>by have:=hF i g;omega)⟩
theorem ai.cell {w:PG}(h:ai F w w'){p:Addr}(hp:p.block<w.heap.size)(hn:¬F p.block):w'.cell? p=w.cell? p:=World.cell?_of_block (w:=w) (h.block p.block hp hn)
theorem ai.frozen {w:PG}(h:ai F w w'){p:Addr}(hp:p.block<w.heap.size)(hn:¬F p.block):w'.frozen? p=w.frozen? p:=World.frozen?_of_block (w:=w) (h.block p.block hp hn)
theorem ai.cellOf (h:ai F w w'){p:Addr}{v:PH}(hc:w.cell? p=OM v)(hn:¬F p.block):w'.cell? p=OM v:=(h.cell (World.block_lt_of_cell? w p hc) hn).trans hc
def ri (v:PH):Option (DataW PH×List MemPlace):=OM (.held v,[])
def aZ (P:Program) (k:TypeId) (w:PG) (b:Nat) (f:Int->Option PH) (n:Nat):Prop :=
 ∃D:DataW PH,w.ownsMap P k ri b n D/\Maps.size D=n/\∀a:Int,Maps.has D (.int .i64 a)=(f a).isSome/\∀v,f a=OM v->∀z,D.atKey (.int .i64 a) z=.held v
def bL (f:Int->Option PH) (a:Int) (v:PH):Int->Option Value:=fun i=>if i=a then OM v else f i
def lX (f:Int->Option PH) (a:Int):Int->Option Value:=fun i=>if i=a then Pk else f i
theorem ck (f:Int->Option PH)(a:Int)(v:PH):bL f a v a=OM v:=if_pos rfl
theorem cT (f:Int->Option PH){a i:Int}(v:PH)(h:i≠a):bL f a v i=f i:=if_neg h
theorem oY (f:Int->Option PH)(a:Int):lX f a a=none:=if_pos rfl
theorem jP (f:Int->Option PH){a i:Int}(h:i≠a):lX f a i=f i:=if_neg h
variable {P : Program} {k e t : TypeId} {w : PG} {b n : Nat} {f : Int → Option PH}
theorem JY {D:DataW PH}{R:PH->Option (DataW PH×List MemPlace)}{m:Nat}(h:w.ownsMap P k R b m D):w.ownsMap P k R b (Maps.size D) D:=by
 obtain⟨es,clock,hb,F,_,rfl⟩:=h;exact⟨es,clock,hb,F,by simp[Maps.size,length_sorted],rfl⟩
theorem aZ.made (w:PG)(P:Program)(k:TypeId):aZ P k (w.alloc (.map #[] 0)) w.heap.size (fun _=>Pk) 0 :=
 ⟨_,World.ownsMap_made w P k ri,rfl,fun a=>⟨rfl,fun v h=>by cases h⟩⟩
theorem aZ.lt (h:aZ P k w b f n):b<w.heap.size:=by obtain⟨D,h,_⟩:=h;exact h.lt
theorem aZ.kept (h:aZ P k w b f n)(hb:w'.heap[b]? = w.heap[b]?):aZ P k w' b f n:=by
 obtain⟨D,⟨es,clock,h1,h2⟩,h3⟩:=h;exact⟨D,⟨es,clock,hb.trans h1,h2⟩,h3⟩
theorem aZ.keep (h:aZ P k w b f n)(hk:ai F w w')(hn:¬F b):aZ P k w' b f n:=h.kept (hk.block b h.lt hn)
theorem aZ.cell (h:aZ P k w b f n)(o:Nat):w.cell? ⟨b,o,Pk⟩=none:=by
 obtain⟨D,⟨es,clock,h1,_⟩,_⟩:=h;simp[World.cell?,h1]
theorem mC (hk:P.underlying k=OM (.int .i64)){a:Int}(ha:(Lit.int .i64 a).wf=Pm):keyOf P k (.int .i64 a)=OM (.int .i64 a):=keyOf_int_mk hk ha
theorem aZ.look_some (h:aZ P k w b f n)(hk:P.underlying k=OM (.int .i64))(ht:P.underlying t=OM (.map k e)){z:PH}(hz:(zeroValue e).run P w=.ok z w){a:Int}(ha:(Lit.int .i64 a).wf=Pm){v:PH}(hv:f a=OM v)(c:Bool) :
  (Instr.lookup t (.map (OM b)) (PE PF a) c).run P w=.ok (if c then .tuple #[v,.bool Pm] else v) w:=by
 obtain⟨D,h1,_,h3⟩:=h;obtain⟨h4,h5⟩:=h3 a;rw[hv]at h4;cases c with
 |true =>
  obtain⟨v',ps,Qs,hR⟩:=h1.look_ok (int_keyed hk) ht hz (zd:=.held z) (zp:=[]) rfl (mC hk ha);rw[h5 v hv]at hR;simp only[ri,Option.some.injEq,Prod.mk.injEq,DataW.held.injEq]at hR;rw[h4,hR.1]at Qs;exact Qs
 |false =>
  obtain⟨v',ps,Qs,hR⟩:=h1.lookup (int_keyed hk) ht hz (zd:=.held z) (zp:=[]) rfl (mC hk ha);rw[h5 v hv]at hR;simp only[ri,Option.some.injEq,Prod.mk.injEq,DataW.held.injEq]at hR;rw[hR.1]at Qs;exact Qs
theorem aZ.look_none (h:aZ P k w b f n)(hk:P.underlying k=OM (.int .i64))(ht:P.underlying t=OM (.map k e)){z:PH}(hz:(zeroValue e).run P w=.ok z w){a:Int}(ha:(Lit.int .i64 a).wf=Pm)(hv:f a=Pk)(c:Bool) :
  (Instr.lookup t (.map (OM b)) (PE PF a) c).run P w=.ok (if c then .tuple #[z,.bool PB] else z) w:=by
 obtain⟨D,h1,_,h3⟩:=h;obtain⟨h4,_⟩:=h3 a;rw[hv]at h4;have h5:D.atKey (.int .i64 a) (.held z)=.held z:=atKey_of_not_has h4 _;cases c with
 |true =>
  obtain⟨v',ps,Qs,hR⟩:=h1.look_ok (int_keyed hk) ht hz (zd:=.held z) (zp:=[]) rfl (mC hk ha);rw[h5]at hR;simp only[ri,Option.some.injEq,Prod.mk.injEq,DataW.held.injEq]at hR;rw[h4,hR.1]at Qs;exact Qs
 |false =>
  obtain⟨v',ps,Qs,hR⟩:=h1.lookup (int_keyed hk) ht hz (zd:=.held z) (zp:=[]) rfl (mC hk ha);rw[h5]at hR;simp only[ri,Option.some.injEq,Prod.mk.injEq,DataW.held.injEq]at hR;rw[hR.1]at Qs;exact Qs
theorem aZ.len (h:aZ P k w b f n)(ht:P.underlying t=OM (.map k e))(ty:TypeId):(Builtin.len_ #[t] ty #[.map (OM b)]).run P w=.ok (PE PF n) w:=by
 obtain⟨D,h1,h2,_⟩:=h;rw[<- h2];exact h1.len ht ty
theorem rj {a i:Int}(h:i≠a):(Lit.int .i64 i)≠.int .i64 a:=fun e=>h (by cases e;rfl)
theorem Ag (a:Int):WideAt.IsKeyLit (.int .i64 a):=trivial
theorem aZ.store (h:aZ P k w b f n)(hk:P.underlying k=OM (.int .i64))(ht:P.underlying t=OM (.map k e))(hn:n<maxLen){a:Int}(ha:(Lit.int .i64 a).wf=Pm)(v:PH) :
  ∃w',(Instr.mapUpdate t (.map (OM b)) (PE PF a) v).run P w=.ok () w'/\aZ P k w' b (bL f a v) (if (f a).isSome then n else n+1)/\w.mapTurned w' b:=by
 obtain⟨D,h1,h2,h3⟩:=h;obtain⟨w',Qs,ho,hg⟩:=h1.store (int_keyed hk) ht hn (mC hk ha) (val:=v) (d:=.held v) (ps:=[]) rfl;refine⟨w',Qs,⟨D.put (.int .i64 a) (.held v),?_,?_,fun i=>?_⟩,hg⟩
 ·have:=JY ho;rw[size_put (h1.tidy (int_keyed hk)),(h3 a).1,h2]at this;exact this
 ·rw[size_put (h1.tidy (int_keyed hk)),(h3 a).1,h2]
 ·by_cases hi:i=a
  ·subst hi;rw[ck];exact⟨has_put_same h1.isMap (Ag i) _,fun u hu z=>by cases hu;exact atKey_put_same h1.isMap (Ag i) _ _⟩
  ·rw[cT _ _ hi,has_put_other (rj hi)];exact⟨(h3 i).1,fun u hu z=>by rw[atKey_put_other (rj hi)];exact(h3 i).2 u hu z⟩
theorem aZ.drop (h:aZ P k w b f n)(hk:P.underlying k=OM (.int .i64))(ht:P.underlying t=OM (.map k e)){a:Int}(ha:(Lit.int .i64 a).wf=Pm)(ty:TypeId) :
  ∃w',(Builtin.delete_ #[t,k] ty #[.map (OM b),PE PF a]).run P w=.ok (.tuple #[]) w'/\aZ P k w' b (lX f a) (if (f a).isSome then n-1 else n)/\w.mapTurned w' b:=by
 obtain⟨D,h1,h2,h3⟩:=h;obtain⟨w',Qs,ho,hg⟩:=h1.drop (int_keyed hk) ht (mC hk ha) ty;have hs:=size_del (k:=.int .i64 a) (h1.tidy (int_keyed hk));rw[(h3 a).1,h2]at hs;have Rz:Maps.size (D.del (.int .i64 a))=if (f a).isSome then n-1 else n:=by
  cases hx:(f a).isSome<;>simp[hx]at hs ⊢ <;> omega
 refine⟨w',Qs,⟨D.del (.int .i64 a),?_,Rz,fun i=>?_⟩,hg⟩
 ·rw[<- Rz];exact JY ho
 ·by_cases hi:i=a
  ·subst hi;rw[oY];exact⟨has_del_same,fun u hu=>by cases hu⟩
  ·rw[jP _ hi,has_del_other (rj hi)];exact⟨(h3 i).1,fun u hu z=>by rw[atKey_del_other (rj hi)];exact(h3 i).2 u hu z⟩
section
variable {ops : Array Oper} {rest : List Oper} {o : Oper} {a : Act} {Q : Exit → Act → PG → Prop}
theorem dE (hg:o.guard=Pk)(m x v:Operand)(t:TypeId)(U2:o.op=Op.mapUpdate t m x v)(k e:TypeId)(hk:P.underlying k=OM (.int .i64))(ht:P.underlying t=OM (.map k e))(b n:Nat)(f:Int->Option PH)
  (hm:a.eval m=.map (OM b)) (h:aZ P k w b f n) (hn:n<maxLen) (i:Int) (val:PH) (hx:a.eval x=.int .i64 i) (hv:a.eval v=val) (hi:(Lit.int .i64 i).wf=Pm)
  (hK:∀w',aZ P k w' b (bL f i val) (if (f i).isSome then n else n+1)->w.mapTurned w' b->wpList P ops Q rest (a.put o.dst undef) w') :
  wpList P ops Q (o::rest) a w:=by
 refine wpList_plain hg fun K' hK'=>?_;obtain⟨w',Qs,r1,r2⟩:=h.store hk ht hn hi val;unfold Oper.wp;simp[execOp,U2,hm,hx,hv,Qs,Result.andThen];exact hK' _ _ (hK w' r1 r2)
end
end
section
open Go.Maps Go.RowKit
def fQ (P:Program) (k:TypeId) (w:PG) (b r:Nat) (f:Int->Option PH) (n:Nat) (left:Int->Bool) (cnt:Nat):Prop :=
 ∃(D:DataW PH) (lf:Lit->Bool),w.ranges P k ri b r n D lf cnt/\Maps.size D=n/\(∀a:Int,Maps.has D (.int .i64 a)=(f a).isSome/\∀v,f a=OM v->∀z,D.atKey (.int .i64 a) z=.held v)/\∀a:Int,lf (.int .i64 a)=left a
variable {P : Program} {k e t : TypeId} {w : PG} {b r n cnt : Nat} {f : Int → Option PH} {left : Int → Bool}
theorem fQ.map (h:fQ P k w b r f n left cnt):aZ P k w b f n:=by
 obtain⟨D,lf,h1,h2,h3,_⟩:=h;exact⟨D,h1.owns,h2,h3⟩
theorem fQ.lt (h:fQ P k w b r f n left cnt):r<w.heap.size:=by obtain⟨D,lf,h1,_⟩:=h;exact h1.lt
theorem fQ.ne (h:fQ P k w b r f n left cnt):r≠b:=by obtain⟨D,lf,h1,_⟩:=h;exact h1.ne
theorem fQ.kept (h:fQ P k w b r f n left cnt)(hb:w'.heap[b]? = w.heap[b]?)(hr:w'.heap[r]? = w.heap[r]?):fQ P k w' b r f n left cnt:=by
 obtain⟨D,lf,⟨es,clock,since,seen,c0,h1,h2,h3,h4,h5,h6⟩,h7⟩:=h;exact⟨D,lf,⟨es,clock,since,seen,c0,hb.trans h1,h2,h3,h4,hr.trans h5,h6⟩,h7⟩
theorem fQ.keep (h:fQ P k w b r f n left cnt)(hk:ai F w w')(hb:¬F b)(hr:¬F r):fQ P k w' b r f n left cnt :=
 h.kept (hk.block b h.map.lt hb) (hk.block r h.lt hr)
section
variable {ops : Array Oper} {rest : List Oper} {o : Oper} {a : Act} {Q : Exit → Act → PG → Prop}
theorem cw (hg:o.guard=Pk)(m:Operand)(t:TypeId)(U2:o.op=Op.range t m)(k e:TypeId)(hk:P.underlying k=OM (.int .i64))(ht:P.underlying t=OM (.map k e))(b n:Nat)(f:Int->Option PH)
  (hm:a.eval m=.map (OM b)) (h:aZ P k w b f n)
  (hK:∀w',fQ P k w' b w.heap.size f n (fun x=>(f x).isSome) n->w.grownBy w' Pk->w'.heap.size=w.heap.size+1->wpList P ops Q rest (a.put o.dst (.pointer (OM ⟨w.heap.size,0,Pk⟩))) w') :
  wpList P ops Q (o::rest) a w:=by
 obtain⟨D,h1,h2,h3⟩:=h;refine wpList_range_own w hg m t U2 k e (int_keyed hk) ht ri b n D hm h1 fun w' r1 r2 r3=>hK w' ⟨D,_,h2▸r1,h2,h3,fun a=>(h3 a).1⟩ r2 r3
theorem cM (hg:o.guard=Pk)(it:Operand)(U2:o.op=Op.next it PB)(k:TypeId)(hk:P.underlying k=OM (.int .i64))(b r n:Nat)(f:Int->Option PH)(left:Int->Bool)(cnt:Nat)
  (hit:a.eval it=.pointer (OM ⟨r,0,Pk⟩)) (h:fQ P k w b r f n left cnt)
  (afL:cnt=0->(∀x,left x=PB)->wpList P ops Q rest (a.put o.dst (.tuple #[.bool PB])) w)
  (afM:∀(x:Int) (v:PH) (w':PG) (aaj:Nat),(Lit.int .i64 x).wf=Pm->left x=Pm->f x=OM v->fQ P k w' b r f n (fun z=>left z&&!decide (z=x)) aaj->aaj<cnt ->
   w.grownBy w' (OM r)->w'.heap.size=w.heap.size->(Instr.entry (.pointer (OM ⟨r,0,Pk⟩))).run P w'=.ok (.tuple #[PE PF x,v]) w'->wpList P ops Q rest (a.put o.dst (.tuple #[.bool Pm,PE PF x,v])) w') :
  wpList P ops Q (o::rest) a w:=by
 obtain⟨D,lf,h1,h2,h3,h4⟩:=h;refine wpList_next_ranges w hg it U2 k (int_keyed hk) ri (Value.int .i64) id (fun key kl Uc=>by obtain⟨x,rfl,_⟩:=Maps.keyOf_int_inv hk Uc;exact⟨x,rfl⟩) (fun v y _=>⟨v,rfl⟩) b r n D lf cnt hit h1 (fun h0 hl=>afL h0 fun x=>(h4 x).symm.trans (hl _)) ?_;intro x v kl y w' aaj Uc hl hv Sh QN PO hgr QC TM;obtain⟨x',ex,rfl,Tf⟩:=Maps.keyOf_int_inv hk Uc;cases ex;have hy:y.1=.held v:=by
  simp only[ri,Option.some.injEq,id]at hv;rw[<- hv]
 rw[hy]at Sh;have hh:Maps.has D (.int .i64 x)=true:=has_true_of_atKey Sh;obtain⟨g1,g2⟩:=h3 x;rw[hh]at g1;have hf:f x=OM v:=by
  cases SD:f x with
  |none=>rw[SD]at g1;cases g1
  |some u =>
   have:=(g2 u SD (.held v)).symm.trans (Sh (.held v));cases this;rfl
 refine afM x v w' aaj Tf ((h4 x).symm.trans hl) hf ⟨D,_,QN,h2,h3,fun a=>?_⟩ PO hgr QC TM;show (lf (.int .i64 a)&&!(Lit.int .i64 a).sameKey (.int .i64 x))=(left a&&!decide (a=x));rw[h4 a];by_cases e:a=x
 ·subst e;rw[WideAt.sameKey_self (Ag a),decide_eq_true rfl]
 ·rw[sameKey_ne (rj e),decide_eq_false e]
end
end
section
variable {E : Int → Nat → Int → Prop} {o : Int} {N : Nat}
def pot (F:Int->Option (Int×Int)):Nat->Int
 |0=>0
 |N+1=>pot F N+(match F N with|some c=>val c.1 c.2|none=>13979748609)
def KZ (c:Option (Int×Int)):Int:=match c with|some c=>val c.1 c.2|none=>13979748609
theorem jh (F:Int->Option (Int×Int))(N:Nat):pot F (N+1)=pot F N+KZ (F N):=rfl
theorem GN (F:Int->Option (Int×Int))(a s d:Int)(N:Nat)(h:(N:Int)<=a):pot (aB F a s d) N=pot F N:=by
 induction N with
 |zero=>rfl
 |succ N ih =>
  rw[jh,jh,ih (by omega)];have:aB F a s d N=F N:=if_neg (by omega);rw[this]
theorem Ce (F:Int->Option (Int×Int))(a s d:Int)(N:Nat)(h0:0<=a)(h:a<N):pot (aB F a s d) N=pot F N-KZ (F a)+val s d:=by
 induction N with
 |zero=>omega
 |succ N ih =>
  rw[jh,jh];by_cases e:a=N
  ·rw[GN F a s d N (by omega)];have:aB F a s d N=OM (s,d):=if_pos e.symm;rw[this,<- e];show _+val s d=_;omega
  ·rw[ih (by omega)];have:aB F a s d N=F N:=if_neg (fun q=>e q.symm);rw[this];omega
structure Lab (E:Int->Nat->Int->Prop) (o:Int) (N:Nat) (F:Int->Option (Int×Int)) (ok:Int->Nat->Prop):Prop where
 sound:∀{a s d},F a=OM (s,d)->Wk E o a s d/\val s d<=cnt F N*54608393
 edge:∀{a b s d k},F a=OM (s,d)->E a k b->ok a k->∃s' d',F b=OM (s',d')/\val s' d'<=val s d+val (stS k) (stD k)
 org:∃s d,F o=OM (s,d)/\val s d<=0
 dom:∀{a c},F a=OM c->0<=a/\a<N
theorem Lab.widen {F:Int->Option (Int×Int)}{ok':Int->Nat->Prop}(h:Lab E o N F ok)(hk:∀{a k b s d},F a=OM (s,d)->E a k b->ok' a k->ok a k):Lab E o N F ok' :=
 ⟨fun hx=>h.sound hx,fun hx e hd=>h.edge hx e (hk hx e hd),h.org,fun hx=>h.dom hx⟩
theorem Lab.val_bd {F:Int->Option (Int×Int)}(h:Lab E o N F ok)(hN:N<=256){a s d:Int}(ha:F a=OM (s,d)):0<=s/\0<=d/\val s d<=13979748608:=by
 obtain⟨h1,h2⟩:=h.sound ha;obtain⟨n1,n2⟩:=h1.nonneg;have:=iA F N;exact⟨n1,n2,by omega⟩
theorem Ah {F:Int->Option (Int×Int)}(h:∀{a s d},F a=OM (s,d)->0<=val s d)(N:Nat):0<=pot F N:=by
 induction N with
 |zero=>exact Nc _
 |succ N ih =>
  rw[jh];cases hc:F N with
  |none=>show 0<=pot F N+13979748609;omega
  |some c=>obtain⟨s,d⟩:=c;have:=h hc;show 0<=pot F N+val s d;omega
theorem Lab.pot0 {F:Int->Option (Int×Int)}(h:Lab E o N F ok):0<=pot F N :=
 Ah (fun hx=>by obtain⟨n1,n2⟩:=(h.sound hx).1.nonneg;unfold val;omega) N
theorem Lab.start (E:Int->Nat->Int->Prop)(o:Int)(N:Nat)(h0:0<=o)(h1:o<N)(ok:Int->Nat->Prop)(hk:∀k,¬ok o k):Lab E o N (aB (fun _=>Pk) o 0 0) ok:=by
 refine⟨fun {a s d} h=>?_,fun {a b s d k} h _ hd=>?_,⟨0,0,if_pos rfl,by decide⟩,fun {a c} h=>?_⟩
 ·unfold aB at h;split at h
  ·cases h;rename_i e;subst e;have e0:val 0 0=0:=(by decide);exact⟨Wk.nil,by rw[e0];omega⟩
  ·cases h
 ·unfold aB at h;split at h
  ·rename_i e;subst e;exact absurd hd (hk k)
  ·cases h
 ·unfold aB at h;split at h
  ·rename_i e;subst e;exact⟨h0,h1⟩
  ·cases h
theorem DY (o:Int)(N:Nat)(hN:N<=256)(h0:0<=o)(h1:o<N):pot (aB (fun _=>Pk) o 0 0) N<=3578815643904:=by
 rw[Ce _ _ _ _ _ h0 h1];have:∀n:Nat,pot (fun _=>Pk) n=n*13979748609:=by
  intro n
  induction n with
  |zero=>rfl
  |succ n ih=>rw[jh,ih];show _+13979748609=_;omega
 rw[this];show _-13979748609+val 0 0<=_;have:val 0 0=0:=by decide
 omega
theorem Lab.nearer {F:Int->Option (Int×Int)}{iH:Int->Prop}{dn:Nat->Prop}{at' b s d:Int}(hN:N<=256)(h:Lab E o N F (fun a j=>(¬iH a/\a≠at')\/(a=at'/\dn j)))(ha:F at'=OM (s,d))(e:E at' k b)
  (TQ:0<=b) (hb1:b<N) (hb:∀{t u},F b=OM (t,u)->val (s+stS k) (d+stD k)<val t u) (hu:∀{y},E at' k y->y=b) :
  Lab E o N (aB F b (s+stS k) (d+stD k)) (fun a j=>(¬(iH a\/a=b)/\a≠at')\/(a=at'/\(dn j\/j=k)))/\pot (aB F b (s+stS k) (d+stD k)) N+1<=pot F N/\aB F b (s+stS k) (d+stD k) at'=OM (s,d):=by
 have hk:=kC k;have hva:=cC s d (stS k) (stD k);have PW:b≠at':=by
  intro q;subst q;have:=hb ha;omega
 have Sh:aB F b (s+stS k) (d+stD k) at'=OM (s,d):=by unfold aB;rw[if_neg (fun q=>PW q.symm)];exact ha
 have YN:cnt F N<=cnt (aB F b (s+stS k) (d+stD k)) N/\(F b=Pk->cnt (aB F b (s+stS k) (d+stD k)) N=cnt F N+1):=by
  refine⟨?_,fun q=>fY F b _ _ N TQ hb1 q⟩;cases hc:F b with
  |none=>rw[fY F b _ _ N TQ hb1 hc];omega
  |some c =>
   have:∀n:Nat,cnt F n<=cnt (aB F b (s+stS k) (d+stD k)) n:=by
    intro n
    induction n with
    |zero=>exact aj
    |succ n ih =>
     unfold cnt;by_cases q:(n:Int)=b
     ·have:aB F b (s+stS k) (d+stD k) n=OM (s+stS k,d+stD k):=if_pos q;rw[this];simp;split<;>omega
     ·have:aB F b (s+stS k) (d+stD k) n=F n:=if_neg q;rw[this];omega
   exact this N
 have h1:=h.sound ha;refine⟨⟨fun {x t u} hx=>?_,fun {x y t u j} hx ex hd=>?_,?_,fun {x c} hx=>?_⟩,?_,Sh⟩
 ·unfold aB at hx;split at hx
  ·cases hx;rename_i q;subst q;refine⟨Wk.step h1.1 e,?_⟩;cases hc:F x with
   |none=>rw[YN.2 hc,hva];have:=h1.2;omega
   |some c =>
    obtain⟨t,u⟩:=c;have:=hb hc;have:=(h.sound hc).2;have:=YN.1;omega
  ·have:=h.sound hx;exact⟨this.1,by have:=this.2;have:=YN.1;omega⟩
 ·have key:∀{s2 d2:Int},F y=OM (s2,d2)->val s2 d2<=val t u+val (stS j) (stD j)->∃s' d',aB F b (s+stS k) (d+stD k) y=OM (s',d')/\val s' d'<=val t u+val (stS j) (stD j):=by
   intro s2 d2 h2 h3;by_cases q:y=b
   ·subst q;have:=hb h2;exact⟨_,_,if_pos rfl,by omega⟩
   ·exact⟨s2,d2,by unfold aB;rw[if_neg q];exact h2,h3⟩
  rcases hd with⟨hd1,hd2⟩|⟨rfl,hd⟩
  ·have q:x≠b:=fun q=>hd1 (MF q);have hx':F x=OM (t,u):=(by unfold aB at hx;rw[if_neg q]at hx;exact hx);obtain⟨s2,d2,h2,h3⟩:=h.edge hx' ex (MG ⟨fun q2=>hd1 (MG q2),hd2⟩);exact key h2 h3
  ·rw[Sh]at hx;cases hx;rcases hd with hd|rfl
   ·obtain⟨s2,d2,h2,h3⟩:=h.edge ha ex (MF ⟨rfl,hd⟩);exact key h2 h3
   ·have:=hu ex;subst this;exact⟨_,_,if_pos rfl,by rw[hva];exact Nc _⟩
 ·obtain⟨s2,d2,h2,h3⟩:=h.org;by_cases q:o=b
  ·subst q;have:=hb h2;exact⟨_,_,if_pos rfl,by omega⟩
  ·exact⟨s2,d2,by unfold aB;rw[if_neg q];exact h2,h3⟩
 ·unfold aB at hx;split at hx
  ·rename_i q;subst q;exact⟨TQ,hb1⟩
  ·exact h.dom hx
 ·rw[Ce F b _ _ N TQ hb1];have:val (s+stS k) (d+stD k)+1<=KZ (F b):=by
   cases hc:F b with
   |none =>
    show _<=13979748609;have h2:=h1.2;have h3:=YN.2 hc;have h4:=iA (aB F b (s+stS k) (d+stD k)) N;rw[hva];omega
   |some c=>obtain⟨t,u⟩:=c;have:=hb hc;show _<=val t u;omega
  omega
theorem Lab.asfar {F:Int->Option (Int×Int)}{iH:Int->Prop}{dn:Nat->Prop}{at' b s d t u:Int}(h:Lab E o N F (fun a j=>(¬iH a/\a≠at')\/(a=at'/\dn j)))(ha:F at'=OM (s,d))
  (hb:F b=OM (t,u)) (hle:val t u<=val (s+stS k) (d+stD k)) (hu:∀{y},E at' k y->y=b) :
  Lab E o N F (fun a j=>(¬iH a/\a≠at')\/(a=at'/\(dn j\/j=k))):=by
 refine⟨fun hx=>h.sound hx,fun {x y t' u' j} hx ex hd=>?_,h.org,fun hx=>h.dom hx⟩;rcases hd with hd|⟨rfl,hd|rfl⟩
 ·exact h.edge hx ex (MG hd)
 ·exact h.edge hx ex (MF ⟨rfl,hd⟩)
 ·rw[ha]at hx;cases hx;have:=hu ex;subst this;exact⟨t,u,hb,by rw[cC]at hle;exact hle⟩
theorem Lab.done {F:Int->Option (Int×Int)}(hN:N<=256)(h:Lab E o N F (fun _ _=>True)):ct E o F:=by
 refine⟨fun hx=>(h.sound hx).1,fun {a s d} hw=>?_,fun {a s d} hx=>h.val_bd hN hx⟩;refine hw.ind (R:=fun a s d=>∃s' d',F a=OM (s',d')/\val s' d'<=val s d) h.org (fun a s d k b _ ih e=>?_);obtain⟨s',d',h1,h2⟩:=ih;obtain⟨s2,d2,h3,h4⟩:=h.edge h1 e trivial;exact⟨s2,d2,h3,by rw[cC];omega⟩
end
section
def Wg (Ed:Int->Int->Int->Int->Prop) (o a s d:Int):Prop:=∀R:Int->Int->Int->Prop,R o 0 0->(∀a s d b t u,R a s d->Ed a b t u->R b (s+t) (d+u))->R a s d
section
variable {Ed : Int → Int → Int → Int → Prop} {o a b s d t u : Int}
theorem Wg.nil:Wg Ed o o 0 0:=fun _ h _=>h
theorem Wg.step (h:Wg Ed o a s d)(e:Ed a b t u):Wg Ed o b (s+t) (d+u):=fun R h0 hs=>hs _ _ _ _ _ _ (h R h0 hs) e
theorem Wg.one (e:Ed o b t u):Wg Ed o b t u:=by
 have h:=Wg.nil.step e
 rwa [Oq,Oq]at h
theorem Wg.trans {c s' d':Int}(h:Wg Ed o a s d)(k:Wg Ed a c s' d'):Wg Ed o c (s+s') (d+d') :=
 k (fun x p q=>Wg Ed o x (s+p) (d+q)) (by rw[NN,NN];exact h) (fun x p q y p' q' hx e=>by
  have:=hx.step e
  rwa [Nx,Nx]at this)
theorem Wg.inv (h:Wg Ed o a s d):(a=o/\s=0/\d=0)\/∃x p q t u,Wg Ed o x p q/\Ed x a t u/\s=p+t/\d=q+u:=by
 have h':Wg Ed o a s d/\((a=o/\s=0/\d=0)\/∃x p q t u,Wg Ed o x p q/\Ed x a t u/\s=p+t/\d=q+u) :=
  h (fun a s d=>Wg Ed o a s d/\((a=o/\s=0/\d=0)\/∃x p q t u,Wg Ed o x p q/\Ed x a t u/\s=p+t/\d=q+u)) ⟨Wg.nil,MG ⟨rfl,rfl,rfl⟩⟩
   (fun a s d b t u hx e=>⟨hx.1.step e,MF ⟨a,s,d,t,u,hx.1,e,rfl,rfl⟩⟩)
 exact h'.2
theorem Wg.mono {Ed':Int->Int->Int->Int->Prop}(h:Wg Ed o a s d)(hi:∀a b t u,Ed a b t u->Ed' a b t u):Wg Ed' o a s d :=
 h (fun x p q=>Wg Ed' o x p q) Wg.nil (fun _ _ _ _ _ _ hx e=>hx.step (hi _ _ _ _ e))
end
end
structure LE where
 to:Nat
 s:Int
 d:Int
 mid:Int
def Rsg (l:List LE):Prop:=l.Pairwise (fun a b=>a.to<b.to)
def cV (x:LE):List LE->List LE
 |[]=>[x]
 |y::l=>if x.to<y.to then x::y::l else if x.to=y.to then x::l else y::cV x l
theorem Rsg.tail {y:LE}{l:List LE}(h:Rsg (y::l)):Rsg l:=(Ot.1 h).2
theorem Rsg.head {y:LE}{l:List LE}(h:Rsg (y::l)):∀e∈l,y.to<e.to:=(Ot.1 h).1
theorem kE {x:LE}:∀{l:List LE},Rsg l->∀e,e∈cV x l↔e=x\/(e∈l/\e.to≠x.to)
 |[],_,e=>by simp[cV]
 |y::l,h,e=>by
  have ih:=kE (x:=x) h.tail e;unfold cV;by_cases h1:x.to<y.to
  ·rw[if_pos h1,Nh];refine or_congr_right ⟨fun he=>⟨he,?_⟩,fun he=>he.1⟩;rcases Nh.1 he with rfl|he
   ·omega
   ·have:=h.head e he;omega
  ·rw[if_neg h1];by_cases h2:x.to=y.to
   ·rw[if_pos h2,Nh];refine or_congr_right ⟨fun he=>⟨MV _ he,?_⟩,fun ⟨he,hn⟩=>?_⟩
    ·have:=h.head e he;omega
    ·rcases Nh.1 he with rfl|he
     ·exact absurd h2.symm hn
     ·exact he
   ·rw[if_neg h2,Nh,ih,Nh];constructor
    ·rintro (rfl|h3|⟨h3,h4⟩)
     ·exact MF ⟨MG rfl,fun e=>h2 e.symm⟩
     ·exact MG h3
     ·exact MF ⟨MF h3,h4⟩
    ·rintro (h3|⟨h3|h3,h4⟩)
     ·exact MF (MG h3)
     ·exact MG h3
     ·exact MF (MF ⟨h3,h4⟩)
theorem nO {x:LE}:∀{l:List LE},Rsg l->Rsg (cV x l)
 |[],_=>List.pairwise_singleton _ _
 |y::l,h=>by
  have ih:=nO (x:=x) h.tail;unfold cV;by_cases h1:x.to<y.to
  ·rw[if_pos h1];refine Ot.2 ⟨fun e he=>?_,h⟩;rcases Nh.1 he with rfl|he
   ·exact h1
   ·have:=h.head e he;omega
  ·rw[if_neg h1];by_cases h2:x.to=y.to
   ·rw[if_pos h2];exact Ot.2 ⟨fun e he=>by have:=h.head e he;omega,h.tail⟩
   ·rw[if_neg h2];refine Ot.2 ⟨fun e he=>?_,ih⟩;rcases (kE h.tail e).1 he with rfl|⟨he,_⟩
    ·omega
    ·exact h.head e he
theorem Rsg.one {l:List LE}(h:Rsg l){e e':LE}(h1:e∈l)(h2:e'∈l)(ht:e.to=e'.to):e=e':=by
 induction l with
 |nil=>cases h1
 |cons y l ih =>
  rcases Nh.1 h1 with rfl|a
  ·rcases Nh.1 h2 with b|b
   ·exact b.symm
   ·have:=h.head e' b;omega
  ·rcases Nh.1 h2 with rfl|b
   ·have:=h.head e a;omega
   ·exact ih h.tail a b
structure LSt where
 lev:Nat->Nat
 es:Nat->List LE
def EdR (st:LSt) (n:Nat) (a b t u:Int):Prop:=∃e∈st.es a.toNat,b=(e.to:Int)/\t=e.s/\u=e.d/\st.lev e.to=0/\e.to≠n
def uQ (st:LSt) (n:Nat) (a b:LE):Prop:=¬ ∃p q,Wg (EdR st n) (a.to:Int) (b.to:Int) p q/\val p q<=val (a.s+b.s) (a.d+b.d)
def feF (st:LSt) (n:Nat):List LE:=(st.es n).filter (fun e=>st.lev e.to==0)
def cq (p:LE->LE->Bool) (n:Nat):List LE->List (Nat×LE)
 |[]=>[]
 |a::l=>(l.filter (p a)).map (fun b=>(a.to,⟨b.to,a.s+b.s,a.d+b.d,(n:Int)⟩))++cq p n l
def fJ (es:Nat->List LE) (n:Nat) (l:List LE):Nat->List LE:=fun k=>if k=n then l else es k
def lay2 (es:Nat->List LE) (x:Nat×LE):Nat->List LE :=
 fJ (fJ es x.1 (cV x.2 (es x.1))) x.2.to (cV ⟨x.1,x.2.s,x.2.d,x.2.mid⟩ (fJ es x.1 (cV x.2 (es x.1)) x.2.to))
def cf (es:Nat->List LE) (l:List (Nat×LE)):Nat->List LE:=l.foldl lay2 es
def ef (top n:Nat) (st:LSt) (nr:Nat->Bool) (PQ:LSt) (Qx:Nat->Bool) (got:Bool):Prop :=
 ((0<st.lev n\/nr n=Pm)/\PQ=st/\Qx=nr/\got=PB) \/
 (¬(0<st.lev n\/nr n=Pm)/\∃p:LE->LE->Bool,(∀a b,p a b=Pm↔uQ st n a b) /\
  (((feF st n).length<(cq p n (feF st n)).length/\PQ=st/\Qx=nr/\got=PB) \/
   (¬(feF st n).length<(cq p n (feF st n)).length/\PQ=⟨fun k=>if k=n then top else st.lev k,cf st.es (cq p n (feF st n))⟩/\Qx=(fun k=>nr k || (feF st n).any (fun e=>e.to==k))/\got=Pm)))
theorem ef.one {st TH st2:LSt}{nr Wf nr2:Nat->Bool}{g1 g2:Bool}(h1:ef top n st nr TH Wf g1)(h2:ef top n st nr st2 nr2 g2):TH=st2/\Wf=nr2/\g1=g2:=by
 rcases h1 with⟨a1,a2,a3,a4⟩|⟨a1,p,hp,h1⟩
 ·rcases h2 with⟨_,b2,b3,b4⟩|⟨b1,_⟩
  ·exact⟨a2.trans b2.symm,a3.trans b3.symm,a4.trans b4.symm⟩
  ·exact absurd a1 b1
 ·rcases h2 with⟨b1,_⟩|⟨_,q,hq,h2⟩
  ·exact absurd b1 a1
  ·have e:p=q:=funext fun a=>funext fun b=>by
    have h:=(hp a b).trans (hq a b).symm;cases hx:p a b with
    |true=>exact(h.1 hx).symm
    |false =>
     cases hy:q a b with
     |true=>rw[h.2 hy]at hx;cases hx
     |false=>rfl
   subst e;rcases h1 with⟨c1,c2,c3,c4⟩|⟨c1,c2,c3,c4⟩
   ·rcases h2 with⟨_,d2,d3,d4⟩|⟨d1,_⟩
    ·exact⟨c2.trans d2.symm,c3.trans d3.symm,c4.trans d4.symm⟩
    ·exact absurd c1 d1
   ·rcases h2 with⟨d1,_⟩|⟨_,d2,d3,d4⟩
    ·exact absurd d1 c1
    ·exact⟨c2.trans d2.symm,c3.trans d3.symm,c4.trans d4.symm⟩
def Rnd (top:Nat):List Nat->LSt->(Nat->Bool)->LSt->(Nat->Bool)->Bool->Prop
 |[],st,nr,PQ,Qx,got=>PQ=st/\Qx=nr/\got=PB
 |n::L,st,nr,PQ,Qx,got=>∃TH Wf g1 g2,ef top n st nr TH Wf g1/\Rnd top L TH Wf PQ Qx g2/\got=(g1 || g2)
theorem Rnd.one :∀{L:List Nat}{st TH st2:LSt}{nr Wf nr2:Nat->Bool}{g1 g2:Bool},Rnd top L st nr TH Wf g1->Rnd top L st nr st2 nr2 g2->TH=st2/\Wf=nr2/\g1=g2
 |[],_,_,_,_,_,_,_,_,⟨a1,a2,a3⟩,⟨b1,b2,b3⟩=>⟨a1.trans b1.symm,a2.trans b2.symm,a3.trans b3.symm⟩
 |_::_,_,_,_,_,_,_,_,_,⟨sa,na,ga,ha,a1,a2,a3⟩,⟨sb,nb,gb,hb,b1,b2,b3⟩=>by
  obtain⟨rfl,rfl,rfl⟩:=a1.one b1;obtain⟨rfl,rfl,rfl⟩:=a2.one b2;exact⟨rfl,rfl,a3.trans b3.symm⟩
theorem Rnd.snoc {st2:LSt}{nr2:Nat->Bool}{g2:Bool}:∀{L:List Nat}{st TH:LSt}{nr Wf:Nat->Bool}{g1:Bool},Rnd top L st nr TH Wf g1->ef top n TH Wf st2 nr2 g2->Rnd top (L++[n]) st nr st2 nr2 (g1 || g2)
 |[],st,TH,nr,Wf,g1,⟨a1,a2,a3⟩,h=>by
  subst a1 a2 a3;exact⟨st2,nr2,g2,PB,h,⟨rfl,rfl,rfl⟩,by cases g2<;>rfl⟩
 |_::_,st,TH,nr,Wf,g1,⟨sa,na,ga,ha,a1,a2,a3⟩,h=>⟨sa,na,ga,ha || g2,a1,a2.snoc h,by rw[a3,Bool.or_assoc]⟩
def Rds (most:Nat) (L:List Nat) (QO:LSt):Nat->LSt->Prop
 |0,st=>st=QO
 |k+1,st=>∃TH Qx,Rds most L QO k TH/\k+1<most/\Rnd (k+1) L TH (fun _=>PB) st Qx Pm
theorem Rds.one {QO:LSt}:∀{k:Nat}{TH st2:LSt},Rds most L QO k TH->Rds most L QO k st2->TH=st2
 |0,_,_,h1,h2=>Eq.trans h1 (Eq.symm h2)
 |_+1,_,_,⟨a,_,a1,_,a3⟩,⟨b,_,b1,_,b3⟩=>by
  have e:=Rds.one a1 b1;subst e;exact(a3.one b3).1
theorem Rds.less {QO:LSt}:∀{j:Nat}{st:LSt},Rds most L QO (k+j) st->∃PQ,Rds most L QO k PQ
 |0,st,h=>⟨st,h⟩
 |_+1,_,⟨_,_,h,_,_⟩=>h.less
def lY (most:Nat) (L:List Nat) (k:Nat) (st:LSt):Prop:=most<=k+1\/∃PQ Qx,Rnd (k+1) L st (fun _=>PB) PQ Qx PB
theorem Ai {QO:LSt}{k':Nat}{st PQ:LSt}(h:Rds most L QO k st)(ho:lY most L k st)(h':Rds most L QO k' PQ)(ho':lY most L k' PQ):k=k'/\st=PQ:=by
 have key:∀{k j:Nat}{st PQ:LSt},Rds most L QO k st->lY most L k st->¬Rds most L QO (k+1+j) PQ:=fun {k j st PQ} h ho h'=>by
  obtain⟨st2,a,nr2,a1,a2,a3⟩:=h'.less;have e:=Rds.one a1 h;subst e;rcases ho with ho|⟨s3,n3,b⟩
  ·omega
  ·exact absurd (a3.one b).2.2 (by decide)
 have e:k=k':=by
  rcases Nat.lt_trichotomy k k' with PO|e|PO
  ·obtain⟨j,rfl⟩:∃j,k'=k+1+j:=⟨k'-(k+1),by omega⟩;exact absurd h' (key h ho)
  ·exact e
  ·obtain⟨j,rfl⟩:∃j,k=k'+1+j:=⟨k-(k'+1),by omega⟩;exact absurd h (key h' ho')
 subst e;exact⟨rfl,Rds.one h h'⟩
section
structure Esy (es:Nat->List LE):Prop where
 ord:∀n,Rsg (es n)
 back:∀{a e},e∈es a->(⟨a,e.s,e.d,e.mid⟩:LE)∈es e.to
 off:∀{a e},e∈es a->e.to≠a
section
variable {es : Nat → List LE} {a b n : Nat} {s d m : Int}
theorem pX (l:List LE):fJ es n l n=l:=if_pos rfl
theorem ji (l:List LE)(h:k≠n):fJ es n l k=es k:=if_neg h
theorem GO (h:a≠b):lay2 es (a,⟨b,s,d,m⟩) a=cV ⟨b,s,d,m⟩ (es a):=by
 unfold lay2;rw[ji _ h,pX]
theorem GP (h:a≠b):lay2 es (a,⟨b,s,d,m⟩) b=cV ⟨a,s,d,m⟩ (es b):=by
 unfold lay2;rw[pX,ji _ (Ne.symm h)]
theorem xK (h1:k≠a)(h2:k≠b):lay2 es (a,⟨b,s,d,m⟩) k=es k:=by
 unfold lay2;rw[ji _ h2,ji _ h1]
theorem jj (h:Esy es)(UR:a≠b)(k:Nat)(e:LE):e∈lay2 es (a,⟨b,s,d,m⟩) k↔(k=a/\e=⟨b,s,d,m⟩)\/(k=b/\e=⟨a,s,d,m⟩)\/(e∈es k/\¬(k=a/\e.to=b)/\¬(k=b/\e.to=a)):=by
 by_cases h1:k=a
 ·subst h1;rw[GO UR,kE (h.ord k)];constructor
  ·rintro (h2|⟨h2,h3⟩)
   ·exact MG ⟨rfl,h2⟩
   ·exact MF (MF ⟨h2,fun h=>h3 h.2,fun h=>UR h.1⟩)
  ·rintro (⟨_,h2⟩|⟨h2,_⟩|⟨h2,h3,_⟩)
   ·exact MG h2
   ·exact absurd h2 UR
   ·exact MF ⟨h2,fun h=>h3 ⟨rfl,h⟩⟩
 ·by_cases h2:k=b
  ·subst h2;rw[GP UR,kE (h.ord k)];constructor
   ·rintro (h2|⟨h2,h3⟩)
    ·exact MF (MG ⟨rfl,h2⟩)
    ·exact MF (MF ⟨h2,fun h=>h1 h.1,fun h=>h3 h.2⟩)
   ·rintro (⟨h2,_⟩|⟨_,h2⟩|⟨h2,_,h3⟩)
    ·exact absurd h2 h1
    ·exact MG h2
    ·exact MF ⟨h2,fun h=>h3 ⟨rfl,h⟩⟩
  ·rw[xK h1 h2];constructor
   ·exact fun he=>MF (MF ⟨he,fun h=>h1 h.1,fun h=>h2 h.1⟩)
   ·rintro (⟨h3,_⟩|⟨h3,_⟩|⟨h3,_⟩)
    ·exact absurd h3 h1
    ·exact absurd h3 h2
    ·exact h3
theorem Esy.lay2 (h:Esy es)(UR:a≠b):Esy (lay2 es (a,⟨b,s,d,m⟩)):=by
 refine⟨fun k=>?_,fun {k e} he=>?_,fun {k e} he=>?_⟩
 ·by_cases h1:k=a
  ·subst h1;rw[GO UR];exact nO (h.ord k)
  ·by_cases h2:k=b
   ·subst h2;rw[GP UR];exact nO (h.ord k)
   ·rw[xK h1 h2];exact h.ord k
 ·rw[jj h UR]at he ⊢;rcases he with⟨rfl,rfl⟩|⟨rfl,rfl⟩|⟨h1,h2,h3⟩
  ·exact MF (MG ⟨rfl,rfl⟩)
  ·exact MG ⟨rfl,rfl⟩
  ·exact MF (MF ⟨h.back h1,fun h=>h3 ⟨h.2,h.1⟩,fun h=>h2 ⟨h.2,h.1⟩⟩)
 ·rw[jj h UR]at he;rcases he with⟨rfl,rfl⟩|⟨rfl,rfl⟩|⟨h1,_⟩
  ·exact Ne.symm UR
  ·exact UR
  ·exact h.off h1
end
theorem eI {p:LE->LE->Bool}:∀{l:List LE},Rsg l->∀{x:Nat×LE},x∈cq p n l->∃a∈l,∃b∈l,a.to<b.to/\p a b=Pm/\x=(a.to,⟨b.to,a.s+b.s,a.d+b.d,(n:Int)⟩)
 |[],_,x,h=>by cases h
 |a::l,hl,x,h=>by
  unfold cq at h;rcases List.mem_append.1 h with h|h
  ·obtain⟨b,hb,rfl⟩:=List.mem_map.1 h;obtain⟨hb1,hb2⟩:=Ns.1 hb;exact⟨a,M4 ..,b,MV _ hb1,hl.head b hb1,hb2,rfl⟩
  ·obtain⟨a',h1,b',h2,h3⟩:=eI hl.tail h;exact⟨a',MV _ h1,b',MV _ h2,h3⟩
theorem ff {st:LSt}{e:LE}:e∈feF st n↔e∈st.es n/\st.lev e.to=0:=by
 unfold feF;rw[Ns,beq_iff_eq]
theorem fH {st:LSt}(h:Rsg (st.es n)):Rsg (feF st n):=h.filter _
theorem iM {P:(Nat->List LE)->Prop}:∀{l:List (Nat×LE)}{es:Nat->List LE},P es->(∀x∈l,∀es,P es->P (lay2 es x))->P (cf es l)
 |[],_,h,_=>h
 |x::l,es,h,hs=>iM (l:=l) (es:=lay2 es x) (hs x (M4 ..) es h) (fun y hy=>hs y (MV _ hy))
theorem ef.esy {st PQ:LSt}{nr Qx:Nat->Bool}{g:Bool}(h:ef top n st nr PQ Qx g)(hE:Esy st.es):Esy PQ.es:=by
 rcases h with⟨_,rfl,_⟩|⟨_,p,_,h⟩
 ·exact hE
 ·rcases h with⟨_,rfl,_⟩|⟨_,rfl,_⟩
  ·exact hE
  ·refine iM hE (fun x hx es he=>?_);obtain⟨a,_,b,_,h3,_,rfl⟩:=eI (fH (hE.ord n)) hx;exact he.lay2 (Nat.ne_of_lt h3)
end
section
structure Dg (Ed:Int->Int->Int->Int->Prop) (o:Int) (F H:Int->Option (Int×Int)) (D:Int->Int->Prop):Prop where
 sF:∀{a s d},F a=OM (s,d)->Wg Ed o a s d
 sH:∀{a s d},H a=OM (s,d)->Wg Ed o a s d
 off:∀{a s d},H a=OM (s,d)->F a=Pk
 home:(∃s d,F o=OM (s,d)/\val s d<=0)\/∃s d,H o=OM (s,d)/\val s d<=0
 mono:∀{a s d b t u},F a=OM (s,d)->H b=OM (t,u)->val s d<=val t u
 edge:∀{a b s d t u},F a=OM (s,d)->Ed a b t u->D a b->(∃s' d',F b=OM (s',d')/\val s' d'<=val (s+t) (d+u))\/∃s' d',H b=OM (s',d')/\val s' d'<=val (s+t) (d+u)
section
variable {Ed : Int → Int → Int → Int → Prop} {o a b s d t u : Int} {F H H' : Int → Option (Int × Int)} {D D' : Int → Int → Prop}
theorem bt (F:Int->Option (Int×Int))(a s d:Int):aB F a s d a=OM (s,d):=if_pos rfl
theorem aS (F:Int->Option (Int×Int)){a i:Int}(s d:Int)(h:i≠a):aB F a s d i=F i:=if_neg h
theorem fZ (F:Int->Option (Int×Int))(a:Int):jO F a a=none:=if_pos rfl
theorem eR (F:Int->Option (Int×Int)){a i:Int}(h:i≠a):jO F a i=F i:=if_neg h
theorem Dg.start (Ed:Int->Int->Int->Int->Prop)(o:Int):Dg Ed o (fun _=>Pk) (aB (fun _=>Pk) o 0 0) (fun _ _=>True):=by
 refine⟨fun h=>(by cases h),fun {a s d} h=>?_,fun _=>rfl,MF ⟨0,0,bt _ _ _ _,by decide⟩,fun h=>(by cases h),fun h=>(by cases h)⟩;by_cases e:a=o
 ·subst e;rw[bt]at h;cases h;exact Wg.nil
 ·rw[aS _ _ _ e]at h;cases h
theorem Dg.pop (h:Dg Ed o F H (fun _ _=>True))(ha:H a=OM (s,d))(hm:∀{b t u},H b=OM (t,u)->val s d<=val t u):Dg Ed o (aB F a s d) (jO H a) (fun x _=>x≠a)/\F a=Pk/\∀{x t u},aB F a s d x=OM (t,u)->val t u<=val s d:=by
 have hFa:=h.off ha;refine⟨⟨fun {x p q} hx=>?_,fun {x p q} hx=>?_,fun {x p q} hx=>?_,?_,fun {x p q y t u} hx hy=>?_,fun {x y p q t u} hx e hD=>?_⟩,hFa,fun {x t u} hx=>?_⟩
 ·by_cases e:x=a
  ·subst e;rw[bt]at hx;cases hx;exact h.sH ha
  ·rw[aS _ _ _ e]at hx;exact h.sF hx
 ·by_cases e:x=a
  ·subst e;rw[fZ]at hx;cases hx
  ·rw[eR _ e]at hx;exact h.sH hx
 ·by_cases e:x=a
  ·subst e;rw[fZ]at hx;cases hx
  ·rw[eR _ e]at hx;rw[aS _ _ _ e];exact h.off hx
 ·rcases h.home with⟨p,q,h1,h2⟩|⟨p,q,h1,h2⟩
  ·left;exact⟨p,q,by rw[aS _ _ _ (fun e=>by rw[e,hFa]at h1;cases h1)];exact h1,h2⟩
  ·by_cases e:o=a
   ·left;subst e;rw[ha]at h1;cases h1;exact⟨s,d,bt _ _ _ _,h2⟩
   ·right;exact⟨p,q,by rw[eR _ e];exact h1,h2⟩
 ·have e2:y≠a:=fun e=>by rw[e,fZ]at hy;cases hy
  rw[eR _ e2]at hy;by_cases e:x=a
  ·subst e;rw[bt]at hx;cases hx;exact hm hy
  ·rw[aS _ _ _ e]at hx;exact h.mono hx hy
 ·have Zs:x≠a:=hD;rw[aS _ _ _ Zs]at hx;rcases h.edge hx e trivial with⟨p',q',h1,h2⟩|⟨p',q',h1,h2⟩
  ·left;exact⟨p',q',by rw[aS _ _ _ (fun e=>by rw[e,hFa]at h1;cases h1)];exact h1,h2⟩
  ·by_cases e:y=a
   ·left;subst e;rw[ha]at h1;cases h1;exact⟨s,d,bt _ _ _ _,h2⟩
   ·right;exact⟨p',q',by rw[eR _ e];exact h1,h2⟩
 ·by_cases e:x=a
  ·subst e;rw[bt]at hx;cases hx;exact Nc _
  ·rw[aS _ _ _ e]at hx;exact h.mono hx ha
theorem oX.three (hp:oX H b s d H'):(∃p q,H' b=OM (p,q)/\val p q<=val s d)/\(∀x p q,H x=OM (p,q)->∃p' q',H' x=OM (p',q')/\val p' q'<=val p q)/\∀x p q,H' x=OM (p,q)->H x=OM (p,q)\/(x=b/\p=s/\q=d):=by
 rcases hp with⟨rfl,h1⟩|⟨rfl,t,u,h1,h2⟩
 ·refine⟨⟨s,d,bt _ _ _ _,Nc _⟩,fun x p q hx=>?_,fun x p q hx=>?_⟩
  ·by_cases e:x=b
   ·subst e;have:=h1 hx;exact⟨s,d,bt _ _ _ _,by omega⟩
   ·exact⟨p,q,by rw[aS _ _ _ e];exact hx,Nc _⟩
  ·by_cases e:x=b
   ·subst e;rw[bt]at hx;cases hx;exact MF ⟨rfl,rfl,rfl⟩
   ·rw[aS _ _ _ e]at hx;exact MG hx
 ·exact⟨⟨t,u,h1,h2⟩,fun x p q hx=>⟨p,q,hx,Nc _⟩,fun x p q hx=>MG hx⟩
theorem Dg.push (h:Dg Ed o F H D)(ha:F a=OM (s,d))(hmx:∀{x p q},F x=OM (p,q)->val p q<=val s d)(e:Ed a b t u)(hv:0<=val t u)(hb:F b=Pk)(hp:oX H b (s+t) (d+u) H')(hu:∀{t' u'},Ed a b t' u'->t'=t/\u'=u) :
  Dg Ed o F H' (fun x y=>D x y\/(x=a/\y=b)):=by
 have QF:=cC s d t u;have hw:=(h.sF ha).step e;have hp:=hp.three;refine⟨h.sF,fun {x p q} hx=>?_,fun {x p q} hx=>?_,?_,fun {x p q y p' q'} hx hy=>?_,fun {x y p q t' u'} hx e' hD=>?_⟩
 ·rcases hp.2.2 x p q hx with h1|⟨rfl,rfl,rfl⟩
  ·exact h.sH h1
  ·exact hw
 ·rcases hp.2.2 x p q hx with h1|⟨rfl,_,_⟩
  ·exact h.off h1
  ·exact hb
 ·rcases h.home with h1|⟨p,q,h1,h2⟩
  ·exact MG h1
  ·right;obtain⟨p',q',h3,h4⟩:=hp.2.1 o p q h1;exact⟨p',q',h3,by omega⟩
 ·rcases hp.2.2 y p' q' hy with h1|⟨rfl,rfl,rfl⟩
  ·exact h.mono hx h1
  ·have:=hmx hx;omega
 ·have old:∀{y t' u'},Ed x y t' u'->D x y->(∃s' d',F y=OM (s',d')/\val s' d'<=val (p+t') (q+u'))\/∃s' d',H' y=OM (s',d')/\val s' d'<=val (p+t') (q+u'):=fun {y t' u'} e' hD=>by
   rcases h.edge hx e' hD with h1|⟨p',q',h1,h2⟩
   ·exact MG h1
   ·right;obtain⟨p2,q2,h3,h4⟩:=hp.2.1 y p' q' h1;exact⟨p2,q2,h3,by omega⟩
  rcases hD with hD|⟨rfl,rfl⟩
  ·exact old e' hD
  ·right;obtain⟨rfl,rfl⟩:=hu e';rw[ha]at hx;cases hx;obtain⟨p2,q2,h3,h4⟩:=hp.1;exact⟨p2,q2,h3,h4⟩
theorem Dg.pass (h:Dg Ed o F H D)(hmx:∀{x p q},F x=OM (p,q)->val p q<=val s d)(ha:F a=OM (s,d))(hD:∀{y t u},Ed a y t u->D' a y->D a y\/(F y≠Pk/\0<=val t u))(hD2:∀{x y},x≠a->D' x y->D x y):Dg Ed o F H D':=by
 refine⟨h.sF,h.sH,h.off,h.home,h.mono,fun {x y p q t' u'} hx e' hd=>?_⟩;by_cases e:x=a
 ·subst e;rcases hD e' hd with h1|⟨h1,h2⟩
  ·exact h.edge hx e' h1
  ·left;rw[ha]at hx;cases hx;cases hy:F y with
   |none=>exact absurd hy h1
   |some c =>
    have:=hmx (x:=y) (p:=c.1) (q:=c.2) hy;exact⟨c.1,c.2,rfl,by rw[cC];omega⟩
 ·exact h.edge hx e' (hD2 e hd)
theorem Dg.within (h:Dg Ed o F H (fun _ _=>True)){M:Int}(hM:∀{b t u},H b=OM (t,u)->M<val t u)(h0:0<=M)(hn:∀{a b t u},Ed a b t u->0<=val t u){x y:Int}(hxy:val x y<=M) :
  (∃p q,Wg Ed o b p q/\val p q<=val x y)↔∃p q,F b=OM (p,q)/\val p q<=val x y:=by
 constructor
 ·rintro⟨p,q,hw,hv⟩;have key:val p q<=M->∃p' q',F b=OM (p',q')/\val p' q'<=val p q :=
   (hw (fun b p q=>Wg Ed o b p q/\(val p q<=M->∃p' q',F b=OM (p',q')/\val p' q'<=val p q)) ⟨Wg.nil,fun _=>by
    rcases h.home with h1|⟨p,q,h1,h2⟩
    ·exact h1
    ·have:=hM h1;omega⟩ (fun a s d b t u ⟨VO,ih⟩ e=>⟨VO.step e,fun hle=>by
    have QF:=cC s d t u;have hv0:=hn e;obtain⟨p',q',h1,h2⟩:=ih (by omega);have anL:=cC p' q' t u;rcases h.edge h1 e trivial with⟨p2,q2,h3,h4⟩|⟨p2,q2,h3,h4⟩
    ·exact⟨p2,q2,h3,by omega⟩
    ·have:=hM h3;omega⟩)).2
  obtain⟨p',q',h1,h2⟩:=key (by omega);exact⟨p',q',h1,by omega⟩
 ·rintro⟨p,q,h1,h2⟩;exact⟨p,q,h.sF h1,h2⟩
def fR (K:Nat) (B:Int->Option (Int×Int)):Nat->Nat
 |0=>0
 |N+1=>fR K B N+match B N with|some c=>(val c.1 c.2).toNat|none=>K
variable {B : Int → Option (Int × Int)} {K : Nat}
theorem DZ (a s d:Int)(N:Nat)(h:(N:Int)<=a):fR K (aB B a s d) N=fR K B N:=by
 induction N with
 |zero=>rfl
 |succ N ih =>
  unfold fR;rw[ih (by omega)];have:aB B a s d N=B N:=if_neg (by omega);rw[this]
theorem xL (a s d:Int)(N:Nat)(h0:0<=a)(h:a<N)(hv:0<=val s d)(hn:B a=Pk->(val s d).toNat<K)(hs:∀s' d',B a=OM (s',d')->val s d<val s' d'):fR K (aB B a s d) N<fR K B N:=by
 induction N with
 |zero=>omega
 |succ N ih =>
  unfold fR;by_cases e:a=N
  ·rw[DZ a s d N (by omega)];have h1:aB B a s d N=OM (s,d):=if_pos e.symm;rw[h1,<- e];cases hB:B a with
   |none =>
    have:=hn hB;show fR K B N+(val s d).toNat<fR K B N+K;omega
   |some c =>
    have:=hs c.1 c.2 hB;show fR K B N+(val s d).toNat<fR K B N+(val c.1 c.2).toNat;omega
  ·have h1:aB B a s d N=B N:=if_neg (fun q=>e q.symm);rw[h1];have:=ih (by omega);omega
theorem iB (F:Int->Option (Int×Int))(a s d:Int)(N:Nat)(h:(F a).isSome=Pm):cnt (aB F a s d) N=cnt F N:=by
 induction N with
 |zero=>rfl
 |succ N ih =>
  unfold cnt;rw[ih];by_cases e:(N:Int)=a
  ·have h1:aB F a s d N=OM (s,d):=if_pos e;rw[h1,e,h];rfl
  ·have h1:aB F a s d N=F N:=if_neg e;rw[h1]
end
end
end Go.Proofs.YtmaefimaeelkbaaGreatDoor
