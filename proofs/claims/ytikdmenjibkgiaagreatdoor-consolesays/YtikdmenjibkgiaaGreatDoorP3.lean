/- Texts laid together. -/
import Derived.Test.YtikdmenjibkgiaaGreatDoorP2
namespace Go.Proofs.YtikdmenjibkgiaaGreatDoor
open _root_.Int renaming add_assoc->TT,add_comm->T9,toNat_natCast->Ta,le_refl->TN
open _root_.Or renaming inl->SQ,inr->SP
open _root_.List renaming pairwise_cons->UH,mem_cons->TD,mem_cons_of_mem->Tj,mem_append->Tn,mem_map->TX,mem_cons_self->Tp,any_eq_true->Uv,append_nil->TU,length->K
open _root_.Option renaming some->Z,none->UP
open _root_.Bool renaming true->Q,false->Vl
variable {N' k t:Nat}{g:Bool}{a b K9:Int}
set_option maxHeartbeats 8000000
set_option maxRecDepth 1000000
open Go.RowKit
def Wg (Ed:Int->Int->Int->Int->Prop) (o a s d:Int):Prop:=∀R:Int->Int->Int->Prop,R o 0 0->(∀a s d b t u,R a s d->Ed a b t u->R b (s+t) (d+u))->R a s d
section
variable {Ed : Int → Int → Int → Int → Prop} {o a b s d t u : Int}
theorem Wg.nil:Wg Ed o o 0 0:=λ _ h _=>h
theorem Wg.step (h:Wg Ed o a s d)(e:Ed a b t u):Wg Ed o b (s+t) (d+u):=λ R f c=>c _ _ _ _ _ _ (h R f c) e
theorem Wg.one (e:Ed o b t u):Wg Ed o b t u:=by grind [Wg]
theorem Wg.trans {c b f:Int}(h:Wg Ed o a s d)(k:Wg Ed a c b f):Wg Ed o c (s+b) (d+f) :=
 k (λ x p q=>Wg Ed o x (s+p) (d+q)) (by grind) (λ x p q y j i g e=>by
  have:=g.step e
  rwa [TT,TT]at this)
theorem Wg.inv (h:Wg Ed o a s d):(a=o/\s=0/\d=0)\/∃x p q t u,Wg Ed o x p q/\Ed x a t u/\s=p+t/\d=q+u:=by
 have f:Wg Ed o a s d/\((a=o/\s=0/\d=0)\/∃x p q t u,Wg Ed o x p q/\Ed x a t u/\s=p+t/\d=q+u) :=
  h (λ a s d=>Wg Ed o a s d/\((a=o/\s=0/\d=0)\/∃x p q t u,Wg Ed o x p q/\Ed x a t u/\s=p+t/\d=q+u)) ⟨Wg.nil,SQ ⟨rfl,rfl,rfl⟩⟩
   (λ a s d b t u c e=>⟨c.1.step e,SP ⟨a,s,d,t,u,c.1,e,rfl,rfl⟩⟩)
 exact f.2
theorem Wg.mono {Ed':Int->Int->Int->Int->Prop}(h:Wg Ed o a s d)(f:∀a b t u,Ed a b t u->Ed' a b t u):Wg Ed' o a s d :=
 h (λ x p q=>Wg Ed' o x p q) Wg.nil (λ _ _ _ _ _ _ c e=>c.step (f _ _ _ _ e))
end
structure Dg (Ed:Int->Int->Int->Int->Prop) (o:Int) (F H:Int->Oi) (D9:Int->Int->Prop):Prop where
 sF:∀{a s d},F a=Z (s,d)->Wg Ed o a s d
 sH:∀{a s d},H a=Z (s,d)->Wg Ed o a s d
 off:∀{a s d},H a=Z (s,d)->F a=UP
 home:(∃s d,F o=Z (s,d)/\val s d<=0)\/∃s d,H o=Z (s,d)/\val s d<=0
 mono:∀{a s d b t u},F a=Z (s,d)->H b=Z (t,u)->val s d<=val t u
 Vxh:∀{a b s d t u},F a=Z (s,d)->Ed a b t u->D9 a b->(∃s' d',F b=Z (s',d')/\val s' d'<=val (s+t) (d+u))\/∃s' d',H b=Z (s',d')/\val s' d'<=val (s+t) (d+u)
section
variable {Ed : Int → Int → Int → Int → Prop} {o a b s d t u : Int} {F H H' : Int → Option (Int × Int)} {D9 D' : Int → Int → Prop}
theorem bJ (F:Int->Oi)(a s d:Int):aC F a s d a=Z (s,d):=Q5 rfl
theorem aS (F:Int->Oi){a i:Int}(s d:Int)(h:i≠a):aC F a s d i=F i:=Q6 h
theorem hJ (F:Int->Oi)(a:Int):lu F a a=none:=Q5 rfl
theorem fM (F:Int->Oi){a i:Int}(h:i≠a):lu F a i=F i:=Q6 h
theorem Dg.start (Ed:Int->Int->Int->Int->Prop)(o:Int):Dg Ed o (λ _=>UP) (aC (λ _=>UP) o 0 0) (λ _ _=>True):=by
 refine⟨λ h=>(by cases h),λ {a s d} h=>?_,λ _=>rfl,SP ⟨0,0,bJ _ _ _ _,dQ⟩,λ h=>(by cases h),λ h=>(by cases h)⟩;by_cases e:a=o
 grind [bJ,Wg.nil]
 grind [aS]
theorem Dg.pop (h:Dg Ed o F H (λ _ _=>True))(j:H a=Z (s,d))(w:∀{b t u},H b=Z (t,u)->val s d<=val t u):Dg Ed o (aC F a s d) (lu H a) (λ x _=>x≠a)/\F a=UP/\∀{x t u},aC F a s d x=Z (t,u)->val t u<=val s d:=by
 have g:=h.off j;refine⟨⟨λ {x p q} c=>?_,λ {x p q} c=>?_,λ {x p q} c=>?_,?_,λ {x p q y t u} c k=>?_,λ {x y p q t u} c e r=>?_⟩,g,λ {x t u} c=>?_⟩;by_cases e:x=a;subst e;rw[bJ]at c;cases c;exact h.sH j;rw[aS _ _ _ e]at c;exact h.sF c;by_cases e:x=a
 grind [hJ]
 rw[fM _ e]at c;exact h.sH c;by_cases e:x=a
 grind [hJ]
 rw[fM _ e]at c;rw[aS _ _ _ e];exact h.off c;rcases h.home with⟨p,q,f,i⟩|⟨p,q,f,i⟩
 left;exact⟨p,q,by rw[aS _ _ _ (λ e=>by rw[e,g]at f;cases f)];exact f,i⟩;by_cases e:o=a;left;subst e;rw[j]at f;cases f;exact⟨s,d,bJ _ _ _ _,i⟩
 grind [fM]
 have v:y≠a:=λ e=>by rw[e,hJ]at k;cases k
 rw[fM _ v]at k;by_cases e:x=a
 grind [bJ]
 rw[aS _ _ _ e]at c;exact h.mono c k;have l:x≠a:=r;rw[aS _ _ _ l]at c;rcases h.Vxh c e trivial with⟨n,m,f,i⟩|⟨n,m,f,i⟩
 left;exact⟨n,m,by rw[aS _ _ _ (λ e=>by rw[e,g]at f;cases f)];exact f,i⟩;by_cases e:y=a;left;subst e;rw[j]at f;cases f;exact⟨s,d,bJ _ _ _ _,i⟩
 grind [fM]
 by_cases e:x=a
 grind [bJ]
 rw[aS _ _ _ e]at c;exact h.mono c j
theorem ru.three (e:ru H b s d H'):(∃p q,H' b=Z (p,q)/\val p q<=val s d)/\(∀x p q,H x=Z (p,q)->∃c a,H' x=Z (c,a)/\val c a<=val p q)/\∀x p q,H' x=Z (p,q)->H x=Z (p,q)\/(x=b/\p=s/\q=d):=by
 rcases e with⟨rfl,f⟩|⟨rfl,t,u,f,g⟩
 grind [bJ,aS]
 grind
theorem Dg.push (h:Dg Ed o F H D9)(I:F a=Z (s,d))(r:∀{x p q},F x=Z (p,q)->val p q<=val s d)(e:Ed a b t u)(N:0<=val t u)(C:F b=UP)(k:ru H b (s+t) (d+u) H')(P:∀{g f},Ed a b g f->g=t/\f=u) :
  Dg Ed o F H' (λ x y=>D9 x y\/(x=a/\y=b)):=by
 have R:=cP s d t u;have B:=(h.sF I).step e;have k:=k.three;refine⟨h.sF,λ {x p q} i=>?_,λ {x p q} i=>?_,?_,λ {x p q y z w} i A=>?_,λ {x y p q g f} i v l=>?_⟩;rcases k.2.2 x p q i with c|⟨rfl,rfl,rfl⟩
 exact h.sH c;exact B;rcases k.2.2 x p q i with c|⟨rfl,_,_⟩
 exact h.off c;exact C;rcases h.home with c|⟨p,q,c,L⟩
 exact SQ c
 grind
 rcases k.2.2 y z w A with c|⟨rfl,rfl,rfl⟩
 exact h.mono i c;have:=r i;omega;have n:∀{y g f},Ed x y g f->D9 x y->(∃j m,F y=Z (j,m)/\val j m<=val (p+g) (q+f))\/∃j m,H' y=Z (j,m)/\val j m<=val (p+g) (q+f):=λ {y g f} v l=>by
  rcases h.Vxh i v l with c|⟨z,w,c,L⟩
  exact SQ c
  grind
 rcases l with l|⟨rfl,rfl⟩
 exact n v l
 grind
theorem Dg.pass (h:Dg Ed o F H D9)(f:∀{x p q},F x=Z (p,q)->val p q<=val s d)(m:F a=Z (s,d))(n:∀{y t u},Ed a y t u->D' a y->D9 a y\/(F y≠UP/\0<=val t u))(g:∀{x y},x≠a->D' x y->D9 x y):Dg Ed o F H D':=by
 refine⟨h.sF,h.sH,h.off,h.home,h.mono,λ {x y p q v r} b j l=>?_⟩;by_cases e:x=a;subst e;rcases n j l with i|⟨i,w⟩
 exact h.Vxh b j i;left;rw[m]at b;cases b;cases k:F y with
 |none=>exact Q8 k i
 |some c =>
  have:=f (x:=y) (p:=c.1) (q:=c.2) k;exact⟨c.1,c.2,rfl,by rw[cP];omega⟩
 exact h.Vxh b j (g e l)
theorem Dg.within (h:Dg Ed o F H (λ _ _=>True)){i:Int}(m:∀{b t u},H b=Z (t,u)->i<val t u)(R:0<=i)(C:∀{a b t u},Ed a b t u->0<=val t u){x y:Int}(z:val x y<=i) :
  (∃p q,Wg Ed o b p q/\val p q<=val x y)↔∃p q,F b=Z (p,q)/\val p q<=val x y:=by
 constructor;rintro⟨p,q,A,P⟩;have k:val p q<=i->∃f c,F b=Z (f,c)/\val f c<=val p q :=
  (A (λ b p q=>Wg Ed o b p q/\(val p q<=i->∃f c,F b=Z (f,c)/\val f c<=val p q)) ⟨Wg.nil,λ _=>by
   rcases h.home with g|⟨p,q,g,j⟩
   exact g;have:=m g;omega⟩ (λ a s d b t u ⟨l,w⟩ e=>⟨l.step e,λ I=>by
   have S:=cP s d t u;have B:=C e;obtain⟨f,c,g,j⟩:=w U;have N:=cP f c t u;rcases h.Vxh g e trivial with⟨v,r,n,L⟩|⟨v,r,n,L⟩
   grind
   have:=m n;omega⟩)).2
 obtain⟨f,c,g,j⟩:=k U;exact⟨f,c,g,U⟩;rintro⟨p,q,g,j⟩;exact⟨p,q,h.sF g,j⟩
def iV (K9:Nat) (B:Int->Oi):Nat->Nat
 |0=>0
 |N+1=>iV K9 B N+match B N with|some c=>(val c.1 c.2).toNat|none=>K9
variable {B : Int → Option (Int × Int)} {K9 : Nat}
theorem Iu (a s d:Int)(N:Nat)(h:(N:Int)<=a):iV K9 (aC B a s d) N=iV K9 B N:=by
 induction N with
 |zero=>rfl
 |succ N b =>
  unfold iV;rw[b U];have:aC B a s d N=B N:=Q6 U;rw[this]
theorem Bp (a s d:Int)(N:Nat)(k:0<=a)(h:a<N)(g:0<=val s d)(j:B a=UP->(val s d).toNat<K9)(i:∀b c,B a=Z (b,c)->val s d<val b c):iV K9 (aC B a s d) N<iV K9 B N:=by
 induction N with
 |zero=>omega
 |succ N f =>
  unfold iV;by_cases e:a=N
  grind [Iu,aC,iV,val]
  grind [aC]
theorem jF (F:Int->Oi)(a s d:Int)(N:Nat)(h:(F a).isSome=Q):cnt (aC F a s d) N=cnt F N:=by
 induction N with
 |zero=>rfl
 |succ N b =>
  unfold cnt;rw[b];by_cases e:(N:Int)=a
  grind [aC]
  grind [aC]
end
structure LE where
 to:Nat
 s:Int
 d:Int
 U6:Int
def Rsg (l:List LE):Prop:=l.Pairwise (λ a b=>a.to<b.to)
def cX (x:LE):List LE->List LE
 |[]=>[x]
 |y::l=>if x.to<y.to then x::y::l else if x.to=y.to then x::l else y::cX x l
theorem Rsg.tail {y:LE}{l:List LE}(h:Rsg (y::l)):Rsg l:=(UH.1 h).2
theorem Rsg.head {y:LE}{l:List LE}(h:Rsg (y::l)):∀e∈l,y.to<e.to:=(UH.1 h).1
theorem mY {x:LE}:∀{l:List LE},Rsg l->∀e,e∈cX x l↔e=x\/(e∈l/\e.to≠x.to)
 |[],_,e=>by simp[cX]
 |y::l,h,e=>by
  have d:=mY (x:=x) h.tail e;unfold cX;by_cases b:x.to<y.to;rw[Q5 b,TD];refine or_congr_right ⟨λ a=>⟨a,?_⟩,λ a=>a.1⟩;rcases TD.1 a with rfl|a
  omega;have:=h.head e a;omega;rw[Q6 b];by_cases c:x.to=y.to;rw[Q5 c,TD];refine or_congr_right ⟨λ a=>⟨Tj _ a,?_⟩,λ ⟨a,f⟩=>?_⟩;have:=h.head e a;omega
  grind
  grind
theorem qP {x:LE}:∀{l:List LE},Rsg l->Rsg (cX x l)
 |[],_=>List.pairwise_singleton _ _
 |y::l,h=>by
  have d:=qP (x:=x) h.tail;unfold cX;by_cases b:x.to<y.to;rw[Q5 b];refine UH.2 ⟨λ e a=>?_,h⟩;rcases TD.1 a with rfl|a
  exact b;have:=h.head e a;omega;rw[Q6 b];by_cases c:x.to=y.to;rw[Q5 c];exact UH.2 ⟨λ e a=>by have:=h.head e a;omega,h.tail⟩;rw[Q6 c];refine UH.2 ⟨λ e a=>?_,d⟩;rcases (mY h.tail e).1 a with rfl|⟨a,_⟩
  omega;exact h.head e a
theorem Rsg.one {l:List LE}(h:Rsg l){e c:LE}(f:e∈l)(d:c∈l)(i:e.to=c.to):e=c:=by
 induction l with
 |nil=>cases f
 |cons y l g =>
  rcases TD.1 f with rfl|a
  rcases TD.1 d with b|b
  exact b.symm;have:=h.head c b;omega;rcases TD.1 d with rfl|b
  have:=h.head e a;omega;exact g h.tail a b
structure LSt where
 VE:Nat->Nat
 es:Nat->List LE
def EdR (st:LSt) (n:Nat) (a b t u:Int):Prop:=∃e∈st.es a.toNat,b=(e.to:Int)/\t=e.s/\u=e.d/\st.VE e.to=0/\e.to≠n
def zg (st:LSt) (n:Nat) (a b:LE):Prop:=¬ ∃p q,Wg (EdR st n) (a.to:Int) (b.to:Int) p q/\val p q<=val (a.s+b.s) (a.d+b.d)
def feF (st:LSt) (n:Nat):List LE:=(st.es n).filter (λ e=>st.VE e.to==0)
def cG (p:LE->LE->Bool) (n:Nat):List LE->List (Nat×LE)
 |[]=>[]
 |a::l=>(l.filter (p a)).map (λ b=>(a.to,⟨b.to,a.s+b.s,a.d+b.d,(n:Int)⟩))++cG p n l
def fU (es:Nat->List LE) (n:Nat) (l:List LE):Nat->List LE:=λ k=>if k=n then l else es k
def lay2 (es:Nat->List LE) (x:Nat×LE):Nat->List LE :=
 fU (fU es x.1 (cX x.2 (es x.1))) x.2.to (cX ⟨x.1,x.2.s,x.2.d,x.2.U6⟩ (fU es x.1 (cX x.2 (es x.1)) x.2.to))
def bW (es:Nat->List LE) (l:List (Nat×LE)):Nat->List LE:=l.foldl lay2 es
def eg (top n:Nat) (st:LSt) (nr:Bn) (VT:LSt) (WD:Bn) (got:Bool):Prop :=
 ((0<st.VE n\/nr n=Q)/\VT=st/\WD=nr/\got=Vl) \/
 (¬(0<st.VE n\/nr n=Q)/\∃p:LE->LE->Bool,(∀a b,p a b=Q↔zg st n a b) /\
  ((K (feF st n)<K (cG p n (feF st n))/\VT=st/\WD=nr/\got=Vl) \/
   (¬K (feF st n)<K (cG p n (feF st n))/\VT=⟨λ k=>if k=n then top else st.VE k,bW st.es (cG p n (feF st n))⟩/\WD=(λ k=>nr k || (feF st n).any (λ e=>e.to==k))/\got=Q)))
theorem eg.one {top n:Nat}{st j st2:LSt}{nr c nr2:Bn}{i g2:Bool}(f:eg top n st nr j c i)(d:eg top n st nr st2 nr2 g2):j=st2/\c=nr2/\i=g2:=by
 rcases f with⟨h,y,x,w⟩|⟨h,p,s,f⟩
 rcases d with⟨_,v,u,t⟩|⟨g,_⟩
 grind
 exact Q8 h g;rcases d with⟨g,_⟩|⟨_,q,r,d⟩
 exact Q8 g h;have e:p=q:=funext λ a=>funext λ b=>by grind
 subst e;rcases f with⟨o,m,l,k⟩|⟨o,m,l,k⟩
 grind
 grind
def Rnd (top:Nat):Ln->LSt->(Bn)->LSt->(Bn)->Bool->Prop
 |[],st,nr,VT,WD,got=>VT=st/\WD=nr/\got=Vl
 |n::L,st,nr,VT,WD,got=>∃Zf nr1 g1 g2,eg top n st nr Zf nr1 g1/\Rnd top L Zf nr1 VT WD g2/\got=(g1 || g2)
theorem Rnd.one {top:Nat}:∀{L:Ln}{st i st2:LSt}{nr a nr2:Bn}{h g2:Bool},Rnd top L st nr i a h->Rnd top L st nr st2 nr2 g2->i=st2/\a=nr2/\h=g2
 |[],_,_,_,_,_,_,_,_,⟨g,f,e⟩,⟨d,c,b⟩=>⟨g.trans d.symm,f.trans c.symm,e.trans b.symm⟩
 |_::_,_,_,_,_,_,_,_,_,⟨k,m,q,o,g,f,e⟩,⟨j,l,p,n,d,c,b⟩=>by
  obtain⟨rfl,rfl,rfl⟩:=g.one d;obtain⟨rfl,rfl,rfl⟩:=f.one c;exact⟨rfl,rfl,e.trans b.symm⟩
theorem Rnd.snoc {top n:Nat}{st2:LSt}{nr2:Bn}{g2:Bool}:∀{L:Ln}{st c:LSt}{nr a:Bn}{b:Bool},Rnd top L st nr c a b->eg top n c a st2 nr2 g2->Rnd top (L++[n]) st nr st2 nr2 (b || g2)
 |[],st,c,nr,a,b,⟨f,e,d⟩,h=>by
  subst f e d;exact⟨st2,nr2,g2,Vl,h,⟨rfl,rfl,rfl⟩,by cases g2<;>rfl⟩
 |_::_,st,c,nr,a,b,⟨g,i,k,j,f,e,d⟩,h=>⟨g,i,k,j || g2,f,e.snoc h,by rw[d,Bool.or_assoc]⟩
def Rds (N':Nat) (L:Ln) (Xe:LSt):Nat->LSt->Prop
 |0,st=>st=Xe
 |k+1,st=>∃Zf WD,Rds N' L Xe k Zf/\k+1<N'/\Rnd (k+1) L Zf (λ _=>Vl) st WD Q
theorem Rds.one {L:Ln}{d:LSt}:∀{k:Nat}{c st2:LSt},Rds N' L d k c->Rds N' L d k st2->c=st2
 |0,_,_,g,f=>Eq.trans g (Eq.symm f)
 |_+1,_,_,⟨a,_,l,_,j⟩,⟨b,_,i,_,h⟩=>by
  have e:=Rds.one l i;subst e;exact(j.one h).1
theorem Rds.less {L:Ln}{a:LSt}:∀{j:Nat}{st:LSt},Rds N' L a (k+j) st->∃VT,Rds N' L a k VT
 |0,st,h=>⟨st,h⟩
 |_+1,_,⟨_,_,h,_,_⟩=>h.less
def mz (N':Nat) (L:Ln) (k:Nat) (st:LSt):Prop:=N'<=k+1\/∃VT WD,Rnd (k+1) L st (λ _=>Vl) VT WD Vl
theorem DV {L:Ln}{i:LSt}{c:Nat}{st VT:LSt}(h:Rds N' L i k st)(g:mz N' L k st)(f:Rds N' L i c VT)(l:mz N' L c VT):k=c/\st=VT:=by
 have d:∀{k j:Nat}{st VT:LSt},Rds N' L i k st->mz N' L k st->¬Rds N' L i (k+1+j) VT:=λ {k j st VT} h g f=>by
  obtain⟨m,a,n,p,t,o⟩:=f.less;have e:=Rds.one p h;subst e;rcases g with g|⟨r,s,b⟩
  omega;exact Q8 (o.one b).2.2 dQ
 have e:k=c:=by
  rcases Nat.lt_trichotomy k c with q|e|q
  obtain⟨j,rfl⟩:∃j,c=k+1+j:=⟨c-(k+1),U⟩;exact Q8 f (d h g);exact e;obtain⟨j,rfl⟩:∃j,k=c+1+j:=⟨k-(c+1),U⟩;exact Q8 h (d f l)
 subst e;exact⟨rfl,Rds.one h f⟩
structure Esy (es:Nat->List LE):Prop where
 ord:∀n,Rsg (es n)
 back:∀{a e},e∈es a->(⟨a,e.s,e.d,e.U6⟩:LE)∈es e.to
 off:∀{a e},e∈es a->e.to≠a
section
variable {es : Nat → List LE} {a b n : Nat} {s d m : Int}
theorem tJ (l:List LE):fU es n l n=l:=Q5 rfl
theorem kK (l:List LE)(h:k≠n):fU es n l k=es k:=Q6 h
theorem Mb (h:a≠b):lay2 es (a,⟨b,s,d,m⟩) a=cX ⟨b,s,d,m⟩ (es a):=by
 unfold lay2;rw[kK _ h,tJ]
theorem Mc (h:a≠b):lay2 es (a,⟨b,s,d,m⟩) b=cX ⟨a,s,d,m⟩ (es b):=by
 unfold lay2;rw[tJ,kK _ (Ne.symm h)]
theorem Bs (e:k≠a)(c:k≠b):lay2 es (a,⟨b,s,d,m⟩) k=es k:=by
 unfold lay2;rw[kK _ c,kK _ e]
theorem kL (h:Esy es)(i:a≠b)(k:Nat)(e:LE):e∈lay2 es (a,⟨b,s,d,m⟩) k↔(k=a/\e=⟨b,s,d,m⟩)\/(k=b/\e=⟨a,s,d,m⟩)\/(e∈es k/\¬(k=a/\e.to=b)/\¬(k=b/\e.to=a)):=by
 by_cases g:k=a;subst g;rw[Mb i,mY (h.ord k)];constructor;rintro (c|⟨c,f⟩);exact SQ ⟨rfl,c⟩;exact SP (SP ⟨c,λ h=>f h.2,λ h=>i h.1⟩);rintro (⟨_,c⟩|⟨c,_⟩|⟨c,f,_⟩);exact SQ c;exact Q8 c i;exact SP ⟨c,λ h=>f ⟨rfl,h⟩⟩;by_cases c:k=b;subst c;rw[Mc i,mY (h.ord k)];constructor;rintro (c|⟨c,f⟩);exact SP (SQ ⟨rfl,c⟩);exact SP (SP ⟨c,λ h=>g h.1,λ h=>f h.2⟩);rintro (⟨c,_⟩|⟨_,c⟩|⟨c,_,f⟩);exact Q8 c g;exact SQ c;exact SP ⟨c,λ h=>f ⟨rfl,h⟩⟩;rw[Bs g c];constructor;exact λ j=>SP (SP ⟨j,λ h=>g h.1,λ h=>c h.1⟩);rintro (⟨f,_⟩|⟨f,_⟩|⟨f,_⟩);exact Q8 f g;exact Q8 f c;exact f
theorem Esy.lay2 (h:Esy es)(f:a≠b):Esy (lay2 es (a,⟨b,s,d,m⟩)):=by
 refine⟨λ k=>?_,λ {k e} g=>?_,λ {k e} g=>?_⟩;by_cases c:k=a;subst c;rw[Mb f];exact qP (h.ord k);by_cases i:k=b;subst i;rw[Mc f];exact qP (h.ord k);rw[Bs c i];exact h.ord k;rw[kL h f]at g ⊢;rcases g with⟨rfl,rfl⟩|⟨rfl,rfl⟩|⟨c,i,j⟩
 grind
 exact SQ ⟨rfl,rfl⟩;exact SP (SP ⟨h.back c,λ h=>j ⟨h.2,h.1⟩,λ h=>i ⟨h.2,h.1⟩⟩);rw[kL h f]at g;rcases g with⟨rfl,rfl⟩|⟨rfl,rfl⟩|⟨c,_⟩
 exact Ne.symm f;exact f;exact h.off c
end
theorem fw {p:LE->LE->Bool}{n:Nat}:∀{l:List LE},Rsg l->∀{x:Nat×LE},x∈cG p n l->∃a∈l,∃b∈l,a.to<b.to/\p a b=Q/\x=(a.to,⟨b.to,a.s+b.s,a.d+b.d,(n:Int)⟩)
 |[],_,x,h=>by cases h
 |a::l,f,x,h=>by
  unfold cG at h;rcases Tn.1 h with h|h
  obtain⟨b,g,rfl⟩:=TX.1 h;obtain⟨c,e⟩:=List.mem_filter.1 g;exact⟨a,Tp ..,b,Tj _ c,f.head b c,e,rfl⟩;obtain⟨o,k,m,j,i⟩:=fw f.tail h;exact⟨o,Tj _ k,m,Tj _ j,i⟩
theorem ig {st:LSt}{n:Nat}{e:LE}:e∈feF st n↔e∈st.es n/\st.VE e.to=0:=by grind [feF]
theorem gI {st:LSt}{n:Nat}(h:Rsg (st.es n)):Rsg (feF st n):=h.filter _
theorem jV {P:(Nat->List LE)->Prop}:∀{l:List (Nat×LE)}{es:Nat->List LE},P es->(∀x∈l,∀es,P es->P (lay2 es x))->P (bW es l)
 |[],_,h,_=>h
 |x::l,es,h,a=>jV (l:=l) (es:=lay2 es x) (a x (Tp ..) es h) (λ y b=>a y (Tj _ b))
theorem eg.esy {top n:Nat}{st VT:LSt}{nr WD:Bn}(h:eg top n st nr VT WD g)(c:Esy st.es):Esy VT.es:=by
 rcases h with⟨_,rfl,_⟩|⟨_,p,_,h⟩
 exact c;rcases h with⟨_,rfl,_⟩|⟨_,rfl,_⟩
 exact c;refine jV c (λ x d es e=>?_);obtain⟨a,_,b,_,f,_,rfl⟩:=fw (gI (c.ord n)) d;exact e.lay2 (Nat.ne_of_lt f)
theorem pM {es:Nat->List LE}{l:List (Nat×LE)}(m:Esy es)(j:∀x∈l,x.1≠x.2.to) :
  Esy (bW es l)/\∀k e,e∈bW es l k->e∈es k\/∃x∈l,(k=x.1/\e=x.2)\/(k=x.2.to/\e=⟨x.1,x.2.s,x.2.d,x.2.U6⟩):=by
 refine jV (P:=λ a=>Esy a/\∀k e,e∈a k->e∈es k\/∃x∈l,(k=x.1/\e=x.2)\/(k=x.2.to/\e=⟨x.1,x.2.s,x.2.d,x.2.U6⟩)) ⟨m,λ k e c=>SQ c⟩ (λ x f a ⟨i,n⟩=>?_);have g:=j x f;refine⟨i.lay2 g,λ k e c=>?_⟩;rcases (kL i g k e).1 c with⟨b,h⟩|⟨b,h⟩|⟨b,_⟩
 exact SP ⟨x,f,SQ ⟨b,h⟩⟩
 grind
 exact n k e b
theorem iC {es:Nat->List LE}{l:List (Nat×LE)}(h:Esy es)(d:∀x∈l,x.1≠x.2.to){k:Nat}{e:LE}(g:e∈es k)(c:∀x∈l,¬(k=x.1/\e.to=x.2.to)/\¬(k=x.2.to/\e.to=x.1)):e∈bW es l k :=
 (jV (P:=λ a=>Esy a/\e∈a k) ⟨h,g⟩ (λ x b _ ⟨f,i⟩=>⟨f.lay2 (d x b),(kL f (d x b) k e).2 (SP (SP ⟨i,(c x b).1,(c x b).2⟩))⟩)).2
structure Lin (t:Nat) (st:LSt) (nr:Bn):Prop where
 esy:Esy st.es
 pos:0<t
 le:∀n,st.VE n<=t
 no:∀n,nr n=Q->st.VE n=0
 cut:∀{a e},e∈st.es a->st.VE a=t->st.VE e.to=0->nr e.to=Q
 apart:∀{a e},e∈st.es a->0<st.VE a->st.VE e.to≠st.VE a
 U6:∀{a e},e∈st.es a->0<=e.U6->0<st.VE e.U6.toNat/\(st.VE a=0\/st.VE e.U6.toNat<st.VE a)
 new:∀{a e},e∈st.es a->0<=e.U6->st.VE e.U6.toNat=t->nr a=Q
 sum:∀{a e},e∈st.es a->0<=e.U6->∃e1∈st.es a,e1.to=e.U6.toNat/\∃e2∈st.es e.U6.toNat,e2.to=e.to/\e.s=e1.s+e2.s/\e.d=e1.d+e2.d
theorem Lin.turn {n:Nat}{st VT:LSt}{nr WD:Bn}(L:Lin t st nr)(h:eg t n st nr VT WD g):Lin t VT WD:=by
 rcases h with⟨_,rfl,rfl,_⟩|⟨hn,p,_,h⟩
 exact L;rcases h with⟨_,rfl,rfl,_⟩|⟨_,rfl,rfl,_⟩
 exact L;have q:st.VE n=0:=by grind
 have V:nr n≠true:=λ h=>hn (SP h);have X:=λ {x:Nat×LE}(y:x∈cG p n (feF st n))=>fw (gI (L.esy.ord n)) y;have VY:∀x∈cG p n (feF st n),x.1≠x.2.to:=λ x y=>by grind
 -- m of what is laid: of no level, near now, not n
 have m:∀x∈cG p n (feF st n),(st.VE x.1=0/\x.1≠n/\(feF st n).any (λ e=>e.to==x.1)=Q)/\(st.VE x.2.to=0/\x.2.to≠n/\(feF st n).any (λ e=>e.to==x.2.to)=Q):=λ x y=>by
  obtain⟨a,ha,b,I,_,_,rfl⟩:=X y;have N:=ig.1 ha;have H:=ig.1 I;exact⟨⟨N.2,show a.to≠n from L.esy.off N.1,Uv.2 ⟨a,ha,beq_self_eq_true _⟩⟩,⟨H.2,show b.to≠n from L.esy.off H.1,Uv.2 ⟨b,I,beq_self_eq_true _⟩⟩⟩
 obtain⟨Y,XK⟩:=pM (l:=cG p n (feF st n)) L.esy VY;have u:=λ {k:Nat}{e:LE}(f:e∈st.es k) (o:k=n\/e.to=n\/0<st.VE k\/0<st.VE e.to)=>iC L.esy VY f (λ x y=>by
  obtain⟨⟨a1,a2,_⟩,⟨b1,b2,_⟩⟩:=m x y;constructor
  grind
  rintro⟨c,v⟩;rcases o with h|h|h|h
  grind
  grind
  grind
  rw[v,a1]at h;exact Nat.lt_irrefl _ h)
 -- an Vxh is an elder one, or its m are of no level, near, and it leads over n
 have split:∀k e,e∈bW st.es (cG p n (feF st n)) k->e∈st.es k\/(k≠n/\st.VE k=0/\e.to≠n/\st.VE e.to=0/\(feF st n).any (λ e=>e.to==k)=Q/\e.U6=n/\∃C∈st.es n,C.to=k/\∃A∈st.es n,A.to=e.to/\e.s=C.s+A.s/\e.d=C.d+A.d):=λ k e f=>by
  rcases XK k e f with h|⟨x,y,h⟩
  exact SQ h
  grind [ig,T9]
 have lv:∀k,k≠n->(if k=n then t else st.VE k)=st.VE k:=λ k o=>Q6 o;have F:(if n=n then t else st.VE n)=t:=Q5 rfl;have YW:=L.pos;refine⟨Y,L.pos,λ k=>?_,λ k o=>?_,λ {a e} f c v=>?_,λ {a e} f c=>?_,λ {a e} f c=>?_,λ {a e} f c v=>?_,λ {a e} f c=>?_⟩;show (if k=n then t else st.VE k)<=t;split;exact aa;exact L.le k;show (if k=n then t else st.VE k)=0;rcases Bool.or_eq_true .. ▸ o with o|o
 rw[lv k (λ e=>V (e▸o))];exact L.no k o;obtain⟨e,f,r⟩:=Uv.1 o;have r:e.to=k:=beq_iff_eq.1 r;obtain⟨R,P⟩:=ig.1 f;rw[lv k (λ B=>L.esy.off R (r.trans B)),<- r];exact P;show (nr e.to || (feF st n).any (λ x=>x.to==e.to))=Q;have q1:(if a=n then t else st.VE a)=t:=c;have W:(if e.to=n then t else st.VE e.to)=0:=v;have ZG:e.to≠n:=λ B=>by rw[Q5 B]at W;omega
 rw[lv _ ZG]at W;rcases split a e f with i|⟨R,P,_⟩
 by_cases z:a=n
 grind [Uv,ig]
 rw[lv a z]at q1;rw[L.cut i q1 W];rfl
 grind
 show (if e.to=n then t else st.VE e.to)≠(if a=n then t else st.VE a);have c:0<(if a=n then t else st.VE a):=c;rcases split a e f with i|⟨R,P,_⟩
 by_cases z:a=n;subst z;rw[F,lv _ (L.esy.off i)];intro S;exact V (L.cut (L.esy.back i) S q);rw[lv a z]at c ⊢;by_cases T:e.to=n;rw[Q5 T];intro S;have:=L.cut i S.symm (by rw[T];exact q);rw[T]at this;exact V this;rw[lv _ T];exact L.apart i c
 grind
 show 0<(if e.U6.toNat=n then t else st.VE e.U6.toNat)/\((if a=n then t else st.VE a)=0\/(if e.U6.toNat=n then t else st.VE e.U6.toNat)<(if a=n then t else st.VE a));rcases split a e f with i|⟨R,P,_,_,_,g3,_⟩
 obtain⟨w,m2⟩:=L.U6 i c;have j:e.U6.toNat≠n:=λ B=>by rw[B,q]at w;omega
 rw[lv _ j];refine⟨w,?_⟩;by_cases z:a=n;subst z;rw[F];right;have S:=L.le e.U6.toNat;have h4:st.VE e.U6.toNat≠t:=λ h=>V (L.new i c h);omega;rw[lv a z];exact m2
 grind
 show (nr a || (feF st n).any (λ x=>x.to==a))=Q;have v:(if e.U6.toNat=n then t else st.VE e.U6.toNat)=t:=v;rcases split a e f with i|⟨_,_,_,_,g3,_⟩
 obtain⟨w,_⟩:=L.U6 i c;have j:e.U6.toNat≠n:=λ B=>by rw[B,q]at w;omega
 rw[lv _ j]at v;rw[L.new i c v];rfl
 grind
 rcases split a e f with i|⟨R,P,_,_,_,g3,C,f1,f2,A,f3,f4,f5,f6⟩
 obtain⟨w,_⟩:=L.U6 i c;obtain⟨C,f1,f2,A,f3,f4,f5,f6⟩:=L.sum i c;exact⟨C,u f1 (SP (SP (SP (by rw[f2];exact w)))),f2,A,u f3 (SP (SP (SQ w))),f4,f5,f6⟩;have j:e.U6.toNat=n:=by rw[g3];rfl
 rw[j];have I:=L.esy.back f1;rw[f2]at I;exact⟨_,u I (SP (SQ rfl)),rfl,A,u f3 (SQ rfl),f4,f5,f6⟩
structure Lrd (k:Nat) (st:LSt):Prop where
 esy:Esy st.es
 le:∀n,st.VE n<=k
 apart:∀{a e},e∈st.es a->0<st.VE a->st.VE e.to≠st.VE a
 U6:∀{a e},e∈st.es a->0<=e.U6->0<st.VE e.U6.toNat/\(st.VE a=0\/st.VE e.U6.toNat<st.VE a)
 sum:∀{a e},e∈st.es a->0<=e.U6->∃e1∈st.es a,e1.to=e.U6.toNat/\∃e2∈st.es e.U6.toNat,e2.to=e.to/\e.s=e1.s+e2.s/\e.d=e1.d+e2.d
theorem Lrd.lin {st:LSt}(h:Lrd k st):Lin (k+1) st (λ _=>Vl) :=
 ⟨h.esy,Nat.succ_pos k,λ n=>Nat.le_succ_of_le (h.le n),λ _ h=>(by cases h),λ {a e} _ b _=>Q8 b (Oq (h.le a)),h.apart,h.U6,λ {a e} _ _ b=>Q8 b (Oq (h.le e.U6.toNat)),h.sum⟩
theorem Lin.lrd {st:LSt}{nr:Bn}(h:Lin t st nr):Lrd t st:=⟨h.esy,h.le,h.apart,h.U6,h.sum⟩
theorem Lin.rnd :∀{L:Ln}{st VT:LSt}{nr WD:Bn}{g:Bool},Lin t st nr->Rnd t L st nr VT WD g->Lin t VT WD
 |[],_,_,_,_,_,h,⟨b,a,_⟩=>by rw[b,a];exact h
 |_::_,_,_,_,_,_,h,⟨_,_,_,_,b,a,_⟩=>(h.turn b).rnd a
theorem eg.none {n:Nat}{st VT:LSt}{nr WD:Bn}(h:eg t n st nr VT WD Vl):VT=st:=by grind [eg]
theorem Rnd.none :∀{L:Ln}{st VT:LSt}{nr WD:Bn},Rnd t L st nr VT WD Vl->VT=st
 |[],_,_,_,_,⟨h,_⟩=>h
 |_::_,_,_,_,_,⟨_,_,e,d,c,b,a⟩=>by
  cases e with
  |true=>cases a
  |false =>
   cases d with
   |true=>cases a
   |false=>exact b.none.trans c.none
theorem Lrd.rds {L:Ln}{a:LSt}(b:Lrd 0 a):∀{k:Nat}{st:LSt},Rds N' L a k st->Lrd k st
 |0,st,h=>by
  have e:st=a:=h;rw[e];exact b
 |_+1,_,⟨_,_,d,_,c⟩=>((Lrd.rds b d).lin.rnd c).lrd
theorem Lrd.start {st:LSt}(f:Esy st.es)(d:∀n,st.VE n=0)(c:∀{a e},e∈st.es a->e.U6<0):Lrd 0 st :=
 ⟨f,λ n=>Nat.le_of_eq (d n),λ {a e} _ h=>Q8 h (by rw[d];omega),λ b h=>Q8 h (Oq (c b)),λ b h=>Q8 h (Oq (c b))⟩
def dP (T:Nat) (st:LSt) (n:Nat):Nat:=if st.VE n=0 then T else st.VE n
section
variable {k : Nat} {st : LSt}
theorem Lrd.end_le (h:Lrd k st)(n:Nat):1<=dP (k+1) st n/\dP (k+1) st n<=k+1:=by
 unfold dP;have:=h.le n;split<;>omega
theorem Lrd.end_mid (h:Lrd k st){a:Nat}{e:LE}(c:e∈st.es a)(f:0<=e.U6):dP (k+1) st e.U6.toNat<dP (k+1) st a/\dP (k+1) st e.U6.toNat<dP (k+1) st e.to:=by
 have b:∀{a:Nat}{e:LE},e∈st.es a->0<=e.U6->dP (k+1) st e.U6.toNat<dP (k+1) st a:=λ {a e} c f=>by
  obtain⟨j,i⟩:=h.U6 c f;have l:=h.le e.U6.toNat;unfold dP;rw[Q6 (show ¬st.VE e.U6.toNat=0 by omega)];by_cases g:st.VE a=0;rw[Q5 g];omega;rw[Q6 g];omega
 exact⟨b c f,b (e:=⟨a,e.s,e.d,e.U6⟩) (h.esy.back c) f⟩
end
theorem eg.own {top n:Nat}{st VT:LSt}{nr WD:Bn}(h:eg top n st nr VT WD g)(d:Esy st.es){a:Nat}{e:LE}(c:e∈VT.es a)(j:e.U6<0):e∈st.es a:=by
 rcases h with⟨_,rfl,_⟩|⟨_,p,_,⟨_,rfl,_⟩|⟨_,rfl,_⟩⟩
 exact c;exact c;have f:=λ {x:Nat×LE}(b:x∈cG p n (feF st n))=>fw (gI (d.ord n)) b;have i:∀x∈cG p n (feF st n),x.1≠x.2.to:=λ x b=>by grind
 rcases (pM d i).2 a e c with h|⟨x,b,h⟩
 exact h
 grind
theorem Rnd.own :∀{L:Ln}{st VT:LSt}{nr WD:Bn}{g:Bool},Rnd t L st nr VT WD g->Esy st.es->∀{a:Nat}{e:LE},e∈VT.es a->e.U6<0->e∈st.es a
 |[],_,_,_,_,_,⟨h,_⟩,_,_,_,b,_=>by rw[<- h];exact b
 |_::_,_,_,_,_,_,⟨_,_,_,_,f,i,_⟩,d,_,_,b,c=>f.own d (i.own (f.esy d) b c) c
theorem Rds.own {L:Ln}{b:LSt}(g:Lrd 0 b):∀{k:Nat}{st:LSt},Rds N' L b k st->∀{a:Nat}{e:LE},e∈st.es a->e.U6<0->e∈b.es a
 |0,st,h,_,_,c,_=>by
  have e:st=b:=h;rw[<- e];exact c
 |_+1,_,⟨_,_,f,_,i⟩,_,_,c,d=>Rds.own g f (i.own (Lrd.rds g f).esy c d) d
def Unp (es:Nat->List LE):Nat->Nat->Nat->Ln->Prop
 |0,_,_,_=>False
 |f+1,a,b,Vq=>∃e∈es a,e.to=b/\((e.U6<0/\Vq=[a,b])\/(0<=e.U6/\∃w1 w2,Unp es f a e.U6.toNat w1/\Unp es f e.U6.toNat b w2/\Vq=w1++w2.tail))
theorem Unp.one {es:Nat->List LE}(h:Esy es):∀{f g a b:Nat}{w I:Ln},Unp es f a b w->Unp es g a b I->w=I
 |0,_,_,_,_,_,c,_=>c.elim
 |_+1,0,_,_,_,_,_,j=>j.elim
 |f+1,g+1,a,b,w,I,⟨e,r,q,c⟩,⟨t,i,d,j⟩=>by
  have s:e=t:=(h.ord a).one r i (q.trans d.symm);subst s;rcases c with⟨_,c⟩|⟨y,u1,u2,p,o,n⟩
  grind
  rcases j with⟨x,_⟩|⟨_,v,u,m,l,k⟩
  omega;rw[n,k,Unp.one h p m,Unp.one h o l]
def Prc (es:Nat->List LE):Ln->Int->Int->Prop
 |[],_,_=>False
 |[_],s,d=>s=0/\d=0
 |x::y::l,s,d=>∃e∈es x,e.to=y/\Prc es (y::l) (s-e.s) (d-e.d)
theorem Prc.join {es:Nat->List LE}{m:Nat}{l2:Ln}{a d2:Int}(i:Prc es (m::l2) a d2):∀{x:Nat}{l1:Ln}{s1 d1:Int},Prc es (x::l1) s1 d1->(x::l1).getLast? = Z m->Prc es ((x::l1)++l2) (s1+a) (d1+d2)
 |x,[],s1,d1,⟨c,j⟩,b=>by grind
 |x,y::l1,s1,d1,⟨e,h,g,c⟩,b=>by
  have f:=Prc.join i c (by simpa using b);refine⟨e,h,g,?_⟩;rw[show s1+a-e.s=s1-e.s+a by omega,show d1+d2-e.d=d1-e.d+d2 by omega];exact f
theorem DW {st:LSt}{i:Nat->List LE}(h:Lrd k st)(b:∀{a e},e∈st.es a->e.U6<0->e∈i a):∀(f a:Nat) (e:LE),e∈st.es a->min (dP (k+1) st a) (dP (k+1) st e.to)<=f ->
  ∃j l,Unp st.es f a e.to j/\j=a::l/\l≠[]/\j.getLast? = Z e.to/\Prc i j e.s e.d
 |0,a,e,_,r=>by
  have H:=(h.end_le a).1;have F:=(h.end_le e.to).1;omega
 |f+1,a,e,g,r=>by
  by_cases c:e.U6<0;exact⟨[a,e.to],[e.to],⟨e,g,rfl,SQ ⟨c,rfl⟩⟩,rfl,by simp,rfl,⟨e,b g c,rfl,U,U⟩⟩;have c:0<=e.U6:=U;obtain⟨L,I⟩:=h.end_mid g c;obtain⟨u,f1,f2,t,f3,f4,f5,f6⟩:=h.sum g c;obtain⟨C,n,q,A,z,p,y⟩:=DW h b f a u f1 (by rw[f2];omega);obtain⟨B,m,o,x,N,w,v⟩:=DW h b f e.U6.toNat t f3 (by rw[f4];omega);rw[f2]at q p;rw[f4]at o w;subst A x;refine⟨(a::n)++m,n++m,⟨e,g,rfl,SP ⟨c,_,_,q,o,rfl⟩⟩,rfl,λ h=>z (List.append_eq_nil_iff.1 h).1,?_,?_⟩
  grind
  rw[f5,f6];exact Prc.join v y p
def Dif (x y:Nat×LE):Prop:=¬(x.1=y.1/\x.2.to=y.2.to)/\¬(x.1=y.2.to/\x.2.to=y.1)
theorem rW {p:LE->LE->Bool}{n:Nat}:∀{l:List LE},Rsg l->(cG p n l).Pairwise Dif
 |[],_=>List.Pairwise.nil
 |a::l,d=>by
  unfold cG;rw[List.pairwise_append];refine⟨?_,rW d.tail,λ x f y e=>?_⟩;rw[List.pairwise_map];refine(d.tail.filter _).imp (λ {b c} k=>⟨λ h=>?_,λ h=>?_⟩)
  grind
  grind
  obtain⟨b,r,rfl⟩:=TX.1 f;obtain⟨u,j,v,g,i,_,rfl⟩:=fw d.tail e;have q:=d.head u j;have o:=d.head v g;exact⟨λ h=>by have m:a.to=u.to:=h.1;omega,λ h=>by have m:a.to=v.to:=h.1;omega⟩
theorem pN:∀{l:List (Nat×LE)}{es:Nat->List LE},Esy es->(∀x∈l,x.1≠x.2.to)->l.Pairwise Dif->∀x∈l,x.2∈bW es l x.1/\(⟨x.1,x.2.s,x.2.d,x.2.U6⟩:LE)∈bW es l x.2.to
 |[],_,_,_,_,x,b=>by cases b
 |y::l,es,j,k,m,x,b=>by
  have g:=k y (Tp ..);have e:Esy (lay2 es y):=j.lay2 g;have c:∀x∈l,x.1≠x.2.to:=λ x b=>k x (Tj _ b);obtain⟨a,i⟩:=UH.1 m;rcases TD.1 b with rfl|b
  refine⟨iC e c ((kL j g _ _).2 (SQ ⟨rfl,rfl⟩)) (λ z f=>?_),iC e c ((kL j g _ _).2 (SP (SQ ⟨rfl,rfl⟩))) (λ z f=>?_)⟩;exact⟨(a z f).1,(a z f).2⟩;exact⟨λ h=>(a z f).2 ⟨h.2,h.1⟩,λ h=>(a z f).1 ⟨h.2,h.1⟩⟩;exact pN e c i x b
theorem rX {p:LE->LE->Bool}{n:Nat}:∀{l:List LE}{a b:LE},a∈l->b∈l->a.to<b.to->Rsg l->p a b=Q->(a.to,(⟨b.to,a.s+b.s,a.d+b.d,(n:Int)⟩:LE))∈cG p n l
 |[],_,_,h,_,_,_,_=>by cases h
 |x::l,a,b,j,i,k,f,g=>by
  unfold cG;rw[Tn];rcases TD.1 j with rfl|c
  grind
  rcases TD.1 i with rfl|e
  have:=f.head a c;omega;exact SP (rX c e k f.tail g)
theorem EdR.turn {st:LSt}{n:Nat}{a b:Nat}{s d:Int}(q:Esy st.es)(h:Wg (EdR st n) (a:Int) (b:Int) s d)(r:st.VE a=0)(l:a≠n):Wg (EdR st n) (b:Int) (a:Int) s d:=by
 have c:=h (λ x s d=>∃m:Nat,x=(m:Int)/\st.VE m=0/\m≠n/\Wg (EdR st n) x (a:Int) s d) ⟨a,rfl,r,l,Wg.nil⟩ (λ x s d y t u ⟨m,o,j,i,k⟩ ⟨e,f,g,B,A,z,w⟩=>by
  subst o;rw[Ta]at f;refine⟨e.to,g,z,w,?_⟩;have p:=q.back f;have v:EdR st n y (m:Int) t u:=⟨⟨m,e.s,e.d,e.U6⟩,by rw[g,Ta];exact p,rfl,B,A,j,i⟩;have:=(Wg.one v).trans k
  rwa [T9 t,T9 u]at this)
 obtain⟨_,_,_,_,h⟩:=c;exact h
def Fre (st:LSt) (a b t u:Int):Prop:=∃e∈st.es a.toNat,b=(e.to:Int)/\t=e.s/\u=e.d/\st.VE e.to=0
def Cst (es:Nat->List LE):Prop:=∀{a e},e∈es a->0<=e.s/\0<=e.d
theorem eg.Vxh {top n:Nat}{st VT:LSt}{nr WD:Bn}(h:eg top n st nr VT WD Q)(g:Esy st.es){a:Nat}{e:LE}(C:e∈st.es a)(I:st.VE a=0)(W:st.VE e.to=0)(H:a≠n)(V:e.to≠n):∃r∈VT.es a,r.to=e.to/\val r.s r.d<=val e.s e.d:=by
 rcases h with⟨_,_,_,h⟩|⟨_,p,B,⟨_,_,_,h⟩|⟨_,rfl,_⟩⟩
 cases h;cases h;have o:=λ {x:Nat×LE}(b:x∈cG p n (feF st n))=>fw (gI (g.ord n)) b;have P:∀x∈cG p n (feF st n),x.1≠x.2.to:=λ x b=>by grind
 have N:=pN g P (rW (gI (g.ord n)))
 -- a needed one between them is cheaper than what was there
 have f:∀{u v:LE},p u v=Q->∀{x:Nat}{q:LE},q∈st.es x->x=u.to->q.to=v.to->st.VE q.to=0->q.to≠n->val (u.s+v.s) (u.d+v.d)<=val q.s q.d:=λ {u v} c {x q} A b k j i=>by
  have l:=(B u v).1 c;by_cases m:val q.s q.d<=val (u.s+v.s) (u.d+v.d);exfalso;refine l ⟨q.s,q.d,?_,m⟩;have L:EdR st n (u.to:Int) (v.to:Int) q.s q.d:=⟨q,by rw[Ta,<- b];exact A,by rw[k],rfl,rfl,j,i⟩;exact Wg.one L;omega
 by_cases b:∃x∈cG p n (feF st n),(a=x.1/\e.to=x.2.to)\/(a=x.2.to/\e.to=x.1);obtain⟨x,b,F⟩:=b;obtain⟨R,y⟩:=N x b;obtain⟨u,T,v,S,z,c,rfl⟩:=o b;rcases F with⟨rfl,t⟩|⟨rfl,t⟩
 grind
 have w:=g.back C;rw[t]at w;exact⟨_,y,t.symm,f (q:=⟨v.to,e.s,e.d,e.U6⟩) c w rfl rfl I H⟩
 grind [iC]
theorem eg.over {top n:Nat}{st VT:LSt}{nr WD:Bn}(h:eg top n st nr VT WD Q)(f:Esy st.es)(v:Cst st.es){a b:LE}(u:a∈st.es n)(k:b∈st.es n)(l:st.VE a.to=0)(z:st.VE b.to=0) :
  (∃p q,Wg (EdR st n) (a.to:Int) (b.to:Int) p q/\val p q<=val (a.s+b.s) (a.d+b.d))\/∃e∈VT.es a.to,e.to=b.to/\val e.s e.d<=val (a.s+b.s) (a.d+b.d):=by
 have y:=ig.2 ⟨u,l⟩;have g:=ig.2 ⟨k,z⟩;rcases h with⟨_,_,_,h⟩|⟨_,p,t,⟨_,_,_,h⟩|⟨_,rfl,_⟩⟩
 cases h;cases h;have A:=λ {x:Nat×LE}(r:x∈cG p n (feF st n))=>fw (gI (f.ord n)) r;have F:∀x∈cG p n (feF st n),x.1≠x.2.to:=λ x r=>by grind
 have w:=pN f F (rW (gI (f.ord n)));rcases Nat.lt_trichotomy a.to b.to with o|j|o
 cases c:p a b with
 |true=>exact SP ⟨_,(w _ (rX y g o (gI (f.ord n)) c)).1,rfl,TN _⟩
 |false =>
  refine SQ (Classical.byContradiction λ m=>?_);have:=(t a b).2 m;rw[c]at this;cases this
 left;obtain⟨N,L⟩:=v u;obtain⟨I,H⟩:=v k;exact⟨0,0,by rw[j];exact Wg.nil,by unfold val;omega⟩;cases c:p b a with
 |true=>exact SP ⟨_,(w _ (rX g y o (gI (f.ord n)) c)).2,rfl,by rw[T9 a.s,T9 a.d];exact TN _⟩
 |false =>
  have i:∃p q,Wg (EdR st n) (b.to:Int) (a.to:Int) p q/\val p q<=val (b.s+a.s) (b.d+a.d):=Classical.byContradiction λ m=>by
   have:=(t b a).2 m;rw[c]at this;cases this
  obtain⟨s,d,C,B⟩:=i;refine SQ ⟨s,d,?_,by rw[T9 a.s,T9 a.d];exact B⟩;exact EdR.turn f C z (f.off k)
theorem aK (s d t u:Int):val (s+t) (d+u)=val s d+val t u:=by unfold val;omega
theorem eg.levQ {top n:Nat}{st VT:LSt}{nr WD:Bn}(h:eg top n st nr VT WD Q){k:Nat}(a:k≠n):VT.VE k=st.VE k:=by grind [eg]
section
variable {top n : Nat} {st VT : LSt} {nr WD : Nat → Bool}
theorem EdR.next (h:eg top n st nr VT WD Q)(B:Esy st.es){a b:Nat}{s d:Int}(C:st.VE a=0)(z:a≠n)(w:Wg (EdR st n) (a:Int) (b:Int) s d):∃c f,Wg (Fre VT) (a:Int) (b:Int) c f/\val c f<=val s d:=by
 have g:=w (λ x s d=>∃m:Nat,x=(m:Int)/\st.VE m=0/\m≠n/\∃c f,Wg (Fre VT) (a:Int) x c f/\val c f<=val s d) ⟨a,rfl,C,z,0,0,Wg.nil,TN _⟩ (λ x s d y t u ⟨m,A,r,q,c,f,v,I⟩ ⟨e,o,p,H,F,j,i⟩=>by
  subst A;rw[Ta]at o;obtain⟨l,f1,f2,f3⟩:=h.Vxh B o r j q i;refine⟨e.to,p,j,i,c+l.s,f+l.d,v.step ⟨l,by rw[Ta];exact f1,by rw[p,f2],rfl,rfl,by rw[f2,h.levQ i];exact j⟩,?_⟩;rw[aK,aK,H,F];omega)
 obtain⟨_,_,_,_,k⟩:=g;exact k
theorem eg.Vq (h:eg top n st nr VT WD Q)(j:Esy st.es)(X:Cst st.es){o b:Nat}{s d:Int}(W:st.VE o=0)(Xc:o≠n)(F:b≠n)(T:Wg (Fre st) (o:Int) (b:Int) s d):∃a c,Wg (Fre VT) (o:Int) (b:Int) a c/\val a c<=val s d:=by
 have C:=T (λ x s d=>∃m:Nat,x=(m:Int)/\st.VE m=0/\((m≠n/\∃a c,Wg (Fre VT) (o:Int) (m:Int) a c/\val a c<=val s d)\/(m=n/\∃y∈st.es n,st.VE y.to=0/\∃a c,Wg (Fre VT) (o:Int) (y.to:Int) a c/\val a c+val y.s y.d<=val s d)))
  ⟨o,rfl,W,SQ ⟨Xc,0,0,Wg.nil,TN _⟩⟩ (λ x s d z t u ⟨m,L,H,f⟩ ⟨e,r,e1,A,w,v⟩=>by
   subst L;rw[Ta]at r;refine⟨e.to,e1,v,?_⟩;rcases f with⟨B,a,c,f,V⟩|⟨B,y,I,l,a,c,f,V⟩
   by_cases g:e.to=n;right;have N:=j.back r;rw[g]at N;refine⟨g,⟨m,e.s,e.d,e.U6⟩,N,H,a,c,f,?_⟩;rw[aK,A,w];show val a c+val e.s e.d<=_;omega;left;obtain⟨i,f1,f2,f3⟩:=h.Vxh j r H v B g;refine⟨g,a+i.s,c+i.d,f.step ⟨i,by rw[Ta];exact f1,by rw[f2],rfl,rfl,by rw[f2,h.levQ g];exact v⟩,?_⟩;rw[aK,aK,A,w];omega;left;subst B;have g:=j.off r;have P:=j.off I;refine⟨g,?_⟩;rcases h.over j X I r l v with⟨p,q,h1,h2⟩|⟨i,f1,f2,f3⟩
   obtain⟨S,R,Y,h4⟩:=EdR.next h j l P h1
   refine⟨a+S,c+R,f.trans Y,?_⟩;rw[aK]at h2;rw[aK,aK,A,w];omega;refine⟨a+i.s,c+i.d,f.step ⟨i,by rw[Ta];exact f1,by rw[f2],rfl,rfl,by rw[f2,h.levQ g];exact v⟩,?_⟩;rw[aK]at f3;rw[aK,aK,A,w];omega)
 obtain⟨m,L,_,f⟩:=C;have e:b=m:=U;subst e;rcases f with⟨_,k⟩|⟨k,_⟩
 exact k;exact Q8 k F
end
structure Cor (L:Ln) (st:LSt):Prop where
 ends:∀{a e},e∈st.es a->a∈L/\e.to∈L
 VE:∀{n},0<st.VE n->n∈L
structure Bdd (t:Nat) (K9:Int) (st:LSt):Prop where
 pos:∀{a e},e∈st.es a->0<=e.s/\0<=e.d
 old:∀{a e},e∈st.es a->(e.U6<0\/st.VE e.U6.toNat≠t)->e.s<=K9/\e.d<=K9
 new:∀{a e},e∈st.es a->e.s<=2*K9/\e.d<=2*K9
section
variable {t n : Nat} {K9 : Int} {L : List Nat} {st VT : LSt} {nr WD : Nat → Bool} {g : Bool}
theorem eg.split (i:Esy st.es)(h:eg t n st nr VT WD g){k:Nat}{e:LE}(b:e∈VT.es k) :
  e∈st.es k\/(st.VE n=0/\nr n=Vl/\VT.VE n=t/\e.U6=n/\∃f∈st.es n,f.to=k/\∃c∈st.es n,c.to=e.to/\e.s=f.s+c.s/\e.d=f.d+c.d):=by
 rcases h with⟨_,rfl,_⟩|⟨o,p,_,⟨_,rfl,_⟩|⟨_,rfl,_⟩⟩
 exact SQ b;exact SQ b;have l:=λ {x:Nat×LE}(a:x∈cG p n (feF st n))=>fw (gI (i.ord n)) a;have m:∀x∈cG p n (feF st n),x.1≠x.2.to:=λ x a=>by grind
 have j:st.VE n=0:=by grind
 have q:nr n=false:=by grind
 rcases (pM i m).2 k e b with h|⟨x,a,h⟩
 exact SQ h
 grind [ig,T9]
theorem eg.VE (h:eg t n st nr VT WD g)(k:Nat):VT.VE k=st.VE k\/(k=n/\VT.VE k=t):=by grind [eg]
theorem Cor.turn (i:Esy st.es)(C:Cor L st)(d:n∈L)(h:eg t n st nr VT WD g):Cor L VT:=by
 refine⟨λ {a e} f=>?_,λ {k} c=>?_⟩;rcases h.split i f with b|⟨_,_,_,_,l,f1,f2,j,f3,f4,_⟩
 exact C.ends b;exact⟨by rw[<- f2];exact(C.ends f1).2,by rw[<- f4];exact(C.ends f3).2⟩;rcases h.VE k with b|⟨rfl,_⟩
 rw[b]at c;exact C.VE c;exact d
theorem Bdd.turn (I9:Lin t st nr)(_h0:0<=K9)(B:Bdd t K9 st)(h:eg t n st nr VT WD g):Bdd t K9 VT:=by
 have i:∀{k e},e∈VT.es k->e∈st.es k\/(VT.VE n=t/\e.U6=n/\0<=e.s/\0<=e.d/\e.s<=2*K9/\e.d<=2*K9):=λ {k e} c=>by
  rcases h.split I9.esy c with f|⟨o,j,p,r,I,f1,_,H,f3,_,f5,f6⟩
  exact SQ f;have l:∀{x:LE},x∈st.es n->0<=x.s/\0<=x.d/\x.s<=K9/\x.d<=K9:=λ {x} q=>by
   obtain⟨y,w⟩:=B.pos q;have m:x.U6<0\/st.VE x.U6.toNat≠t:=by
    by_cases b:x.U6<0;exact SQ b;right;intro z;have:=I9.new q U z;rw[j]at this;cases this
   obtain⟨v,u⟩:=B.old q m;exact⟨y,w,v,u⟩
  have F:=l f1;have C:=l f3;exact SP ⟨p,r,U,U,U,U⟩
 refine⟨λ {a e} c=>?_,λ {a e} c b=>?_,λ {a e} c=>?_⟩;rcases i c with f|⟨_,_,o,j,_⟩
 exact B.pos f;exact⟨o,j⟩;rcases i c with f|⟨o,j,_⟩
 refine B.old f ?_;rcases b with b|b
 exact SQ b;by_cases A:e.U6<0;exact SQ A;right;rcases h.VE e.U6.toNat with p|⟨p,r⟩
 rw[<- p];exact b;exact Q8 r b
 grind
 rcases i c with f|⟨_,_,_,_,o,j⟩
 exact B.new f;exact⟨o,j⟩
end
structure All (L:Ln) (t:Nat) (K9:Int) (st:LSt) (nr:Bn):Prop where
 lin:Lin t st nr
 cor:Cor L st
 bdd:Bdd t K9 st
theorem All.turn {L:Ln}{n:Nat}{st VT:LSt}{nr WD:Bn}(A:All L t K9 st nr)(b:0<=K9)(a:n∈L)(h:eg t n st nr VT WD g):All L t K9 VT WD :=
 ⟨A.lin.turn h,A.cor.turn A.lin.esy a h,A.bdd.turn A.lin b h⟩
theorem All.rnd {L:Ln}(d:0<=K9):∀{e:Ln}{st VT:LSt}{nr WD:Bn}{g:Bool},(∀n∈e,n∈L)->All L t K9 st nr->Rnd t e st nr VT WD g->All L t K9 VT WD
 |[],_,_,_,_,_,_,A,⟨b,a,_⟩=>by rw[b,a];exact A
 |n::_,_,_,_,_,_,c,A,⟨_,_,_,_,b,a,_⟩=>(A.turn d (c n (Tp ..)) b).rnd d (λ m f=>c m (Tj _ f)) a
structure Btw (L:Ln) (k:Nat) (K9:Int) (st:LSt):Prop where
 lrd:Lrd k st
 cor:Cor L st
 bd:∀{a e},e∈st.es a->0<=e.s/\0<=e.d/\e.s<=K9/\e.d<=K9
theorem Btw.all {L:Ln}{st:LSt}(_h0:0<=K9)(B:Btw L k K9 st):All L (k+1) K9 st (λ _=>Vl) :=
 ⟨B.lrd.lin,B.cor,λ a=>⟨(B.bd a).1,(B.bd a).2.1⟩,λ a _=>⟨(B.bd a).2.2.1,(B.bd a).2.2.2⟩,λ a=>by have:=B.bd a;omega⟩
theorem All.btw {L:Ln}{st:LSt}{nr:Bn}(A:All L t K9 st nr):Btw L t (2*K9) st :=
 ⟨A.lin.lrd,A.cor,λ a=>⟨(A.bdd.pos a).1,(A.bdd.pos a).2,A.bdd.new a⟩⟩
def dbl (K9:Int):Nat->Int
 |0=>K9
 |k+1=>2*dbl K9 k
theorem fV (h:0<=K9):∀k,0<=dbl K9 k
 |0=>h
 |k+1=>by have:=fV h k;show 0<=2*dbl K9 k;omega
theorem Btw.rds {L:Ln}{b:LSt}(a:0<=K9)(c:Btw L 0 K9 b):∀{k:Nat}{st:LSt},Rds N' L b k st->Btw L k (dbl K9 k) st
 |0,st,h=>by
  have e:st=b:=h;rw[e];exact c
 |k+1,_,⟨_,_,f,_,d⟩=>(((Btw.rds a c f).all (fV a k)).rnd (fV a k) (λ _ h=>h) d).btw
section
variable {Ed Ed' : Int → Int → Int → Int → Prop} {o a b s d t u : Int}
theorem Wg.hd (h:Wg Ed o a s d):(a=o/\s=0/\d=0)\/∃x t u p q,Ed o x t u/\Wg Ed x a p q/\s=t+p/\d=u+q :=
 h (λ a s d=>(a=o/\s=0/\d=0)\/∃x t u p q,Ed o x t u/\Wg Ed x a p q/\s=t+p/\d=u+q) (SQ ⟨rfl,rfl,rfl⟩) (λ a s d b t u g e=>by
  rcases g with⟨rfl,rfl,rfl⟩|⟨x,f,c,p,q,j,i,l,k⟩
  exact SP ⟨b,t,u,0,0,e,Wg.nil,U,U⟩;exact SP ⟨x,f,c,p+t,q+u,j,i.step e,U,U⟩)
end
def UpE (st:LSt) (a b t u:Int):Prop:=∃e∈st.es a.toNat,b=(e.to:Int)/\t=e.s/\u=e.d/\0<st.VE a.toNat/\(st.VE e.to=0\/st.VE a.toNat<st.VE e.to)
def Cov (st:LSt) (x y:Nat) (v:Int):Prop :=
 (∃(m:Nat) (s d s' d':Int),Wg (UpE st) (x:Int) (m:Int) s d/\Wg (UpE st) (y:Int) (m:Int) s' d'/\val s d+val s' d'<=v) \/
 (∃(a b:Nat) (s d s' d' p q:Int),st.VE a=0/\st.VE b=0/\Wg (UpE st) (x:Int) (a:Int) s d/\Wg (UpE st) (y:Int) (b:Int) s' d'/\Wg (Fre st) (a:Int) (b:Int) p q/\val s d+val p q+val s' d'<=v)
section
variable {t n : Nat} {st VT : LSt} {nr WD : Nat → Bool}
theorem eg.stay (h:eg t n st nr VT WD Q)(i:Esy st.es){k:Nat}{e:LE}(l:e∈st.es k)(r:k=n\/e.to=n\/0<st.VE k\/0<st.VE e.to):e∈VT.es k:=by
 rcases h with⟨_,_,_,h⟩|⟨_,p,_,⟨_,_,_,h⟩|⟨_,rfl,_⟩⟩
 cases h;cases h;have j:=λ {x:Nat×LE}(c:x∈cG p n (feF st n))=>fw (gI (i.ord n)) c;have q:∀x∈cG p n (feF st n),x.1≠x.2.to:=λ x c=>by grind
 have g:∀x∈cG p n (feF st n),(st.VE x.1=0/\x.1≠n)/\(st.VE x.2.to=0/\x.2.to≠n):=λ x c=>by
  obtain⟨a,o,b,m,_,_,rfl⟩:=j c;have f:=ig.1 o;have d:=ig.1 m;exact⟨⟨f.2,show a.to≠n from i.off f.1⟩,⟨d.2,show b.to≠n from i.off d.1⟩⟩
 refine iC i q l (λ x c=>?_);obtain⟨⟨w,v⟩,⟨u,s⟩⟩:=g x c;constructor
 grind
 grind
theorem eg.got (h:eg t n st nr VT WD Q):st.VE n=0/\nr n=Vl/\VT.VE n=t:=by grind [eg]
theorem eg.levO (h:eg t n st nr VT WD Q){k:Nat}(a:k≠n):VT.VE k=st.VE k:=by grind [eg]
theorem UpE.turn (I9:Lin t st nr)(h:eg t n st nr VT WD Q){a b p q:Int}(e:UpE st a b p q):UpE VT a b p q:=by
 obtain⟨e,g,m,l,k,f,j⟩:=e;obtain⟨i,r,o⟩:=h.got;have c:a.toNat≠n:=λ q=>by rw[q,i]at f;omega
 refine⟨e,h.stay I9.esy g (SP (SP (SQ f))),m,l,k,by rw[h.levO c];exact f,?_⟩;rw[h.levO c];by_cases d:e.to=n;right;rw[d,o];have u:=I9.le a.toNat;have s:st.VE a.toNat≠t:=λ q=>by
  have:=I9.cut g q (by rw[d];exact i);rw[d,r]at this;cases this
 omega;rw[h.levO d];exact j
theorem Fre.val_pos (f:Cst st.es){a b s d:Int}(h:Wg (Fre st) a b s d):0<=s/\0<=d :=
 h (λ _ s d=>0<=s/\0<=d) ⟨TN _,TN _⟩ (λ a s d b t u g ⟨e,c,_,j,i,_⟩=>by
  have:=f c;omega)
theorem Fre.end0 {a:Nat}{s d:Int}(g:st.VE a=0)(h:Wg (Fre st) (a:Int) b s d):∃m:Nat,b=(m:Int)/\st.VE m=0 :=
 h (λ b _ _=>∃m:Nat,b=(m:Int)/\st.VE m=0) ⟨a,rfl,g⟩ (λ _ _ _ _ _ _ _ ⟨e,_,f,_,_,c⟩=>⟨e.to,f,c⟩)
theorem Cov.turn (I9:Lin t st nr)(N:Cst st.es)(h:eg t n st nr VT WD Q){x y:Nat}{v:Int}(c:Cov st x y v):Cov VT x y v:=by
 have g:∀{a b s d:Int},Wg (UpE st) a b s d->Wg (UpE VT) a b s d:=λ hw=>hw.mono (λ _ _ _ _ e=>UpE.turn I9 h e);obtain⟨g1,g2,g3⟩:=h.got
 -- from the one that gets its level an Vxh to one that has UP leads g
 have w:∀{e:LE},e∈st.es n->st.VE e.to=0->UpE VT (n:Int) (e.to:Int) e.s e.d:=λ {e} j h0 =>
  ⟨e,by rw[Ta];exact h.stay I9.esy j (SQ rfl),rfl,rfl,rfl,by rw[Ta,g3];exact I9.pos,SQ (by rw[h.levO (I9.esy.off j)];exact h0)⟩
 rcases c with⟨m,s,d,k,u,r,o,l⟩|⟨a,b,s,d,k,u,p,q,F,Y,r,o,l,h4⟩
 exact SQ ⟨m,s,d,k,u,g r,g o,l⟩;by_cases i:a=n;subst i;by_cases f:b=a;subst f;obtain⟨p0,q0⟩:=Fre.val_pos N l;exact SQ ⟨b,s,d,k,u,g r,g o,by unfold val at *;omega⟩;rcases l.hd with⟨e1,_⟩|⟨z,t1,u1,p1,q1,⟨e,j,L,S,R,I⟩,P,V,T⟩
 grind
 rw[Ta]at j;subst L S R;obtain⟨B,A,H,h9⟩:=h.Vq I9.esy N I (I9.esy.off j) f P;refine SP ⟨e.to,b,s+e.s,d+e.d,k,u,B,A,by rw[h.levO (I9.esy.off j)];exact I,by rw[h.levO f];exact Y,(g r).step (w j I),g o,H,?_⟩;rw[V,T,aK]at h4;rw[aK];omega;by_cases f:b=n;subst f;rcases l.inv with⟨e1,_⟩|⟨z,p1,q1,t1,u1,P,⟨e,j,L,S,R,I⟩,V,T⟩
 grind
 obtain⟨m,rfl,X⟩:=Fre.end0 F P;rw[Ta]at j;have L:b=e.to:=U;subst S R;have W:=I9.esy.back j;rw[<- L]at W;have C:m≠b:=I9.esy.off W;obtain⟨B,A,H,h9⟩:=h.Vq I9.esy N F i C P;refine SP ⟨a,m,s,d,k+e.s,u+e.d,B,A,by rw[h.levO i];exact F,by rw[h.levO C];exact X,g r,(g o).step (w W X),H,?_⟩;rw[V,T,aK]at h4;rw[aK];omega;obtain⟨B,A,H,h9⟩:=h.Vq I9.esy N F i f l;exact SP ⟨a,b,s,d,k,u,B,A,by rw[h.levO i];exact F,by rw[h.levO f];exact Y,g r,g o,H,U⟩
end
theorem Cov.rnd {L:Ln}(d:0<=K9){x y:Nat}{v:Int}:∀{e:Ln}{st VT:LSt}{nr WD:Bn}{g:Bool},(∀n∈e,n∈L)->All L t K9 st nr->Rnd t e st nr VT WD g->Cov st x y v->Cov VT x y v
 |[],_,_,_,_,_,_,_,⟨a,_,_⟩,c=>by rw[a];exact c
 |n::_,st,_,_,_,_,b,A,⟨l,_,j,_,a,i,_⟩,c=>by
  have k:Cov l x y v:=by
   cases j with
   |false=>rw[a.none];exact c
   |true=>exact c.turn A.lin (λ h=>A.bdd.pos h) a
  exact Cov.rnd d (λ m f=>b m (Tj _ f)) (A.turn d (b n (Tp ..)) a) i k
theorem Cov.rds {L:Ln}{b:LSt}(a:0<=K9)(f:Btw L 0 K9 b){x y:Nat}{v:Int}(c:Cov b x y v):∀{k:Nat}{st:LSt},Rds N' L b k st->Cov st x y v
 |0,st,h=>by
  have e:st=b:=h;rw[e];exact c
 |k+1,_,⟨_,_,d,_,g⟩=>(Cov.rds a f c d).rnd (fV a k) (λ _ h=>h) ((Btw.rds a f d).all (fV a k)) g
def LvE (lv:LSt) (r:Nat) (a b t u:Int):Prop:=∃e∈lv.es a.toNat,b=(e.to:Int)/\t=e.s/\u=e.d/\lv.VE a.toNat+r<=lv.VE e.to
def GrE (es:Nat->List LE) (a b t u:Int):Prop:=∃e∈es a.toNat,b=(e.to:Int)/\t=e.s/\u=e.d
theorem LvE.gr {lv:LSt}{r:Nat}{t u:Int}(h:LvE lv r a b t u):GrE lv.es a b t u:=by grind [LvE,GrE]
theorem Ov {L:Ln}{l st:LSt}(F:0<=K9)(H:Btw L 0 K9 l)(B:∀n,l.VE n=0)(h:Rds N' L l k st){x y:Nat}{s d:Int}(V:Wg (GrE l.es) (x:Int) (y:Int) s d) :
  ∃(m:Nat) (s1 d1 C d2:Int),Wg (LvE ⟨dP (k+1) st,st.es⟩ 0) (x:Int) (m:Int) s1 d1/\Wg (LvE ⟨dP (k+1) st,st.es⟩ 1) (y:Int) (m:Int) C d2/\val s1 d1+val C d2<=val s d:=by
 have hF:Wg (Fre l) (x:Int) (y:Int) s d:=V.mono (λ a b t u ⟨e,i,g,f,j⟩=>⟨e,i,g,f,j,B _⟩);have c0:Cov l x y (val s d):=SP ⟨x,y,0,0,0,0,s,d,B _,B _,Wg.nil,Wg.nil,hF,by unfold val;omega⟩;have c:=Cov.rds F H c0 h;have I9:=(Btw.rds F H h).lrd;have r:∀{a b t u:Int},UpE st a b t u->LvE ⟨dP (k+1) st,st.es⟩ 1 a b t u:=λ {a b t u} ⟨e,i,g,f,j,h5,h6⟩=>by
  refine⟨e,i,g,f,j,?_⟩;show dP (k+1) st a.toNat+1<=dP (k+1) st e.to;have:=I9.le a.toNat;unfold dP;rw[Q6 (show ¬st.VE a.toNat=0 by omega)];split<;>omega
 have o:∀{a b t u:Int},LvE ⟨dP (k+1) st,st.es⟩ 1 a b t u->LvE ⟨dP (k+1) st,st.es⟩ 0 a b t u:=λ ⟨e,i,g,f,j,h5⟩=>⟨e,i,g,f,j,U⟩;rcases c with⟨m,p,q,w,v,i,g,f⟩|⟨a,b,p,q,w,v,R,P,ha,hb,i,g,f,j⟩
 exact⟨m,p,q,w,v,i.mono (λ _ _ _ _ e=>o (r e)),g.mono (λ _ _ _ _ e=>r e),f⟩;have A:=f (λ z s d=>∃m:Nat,z=(m:Int)/\st.VE m=0/\Wg (LvE ⟨dP (k+1) st,st.es⟩ 0) (a:Int) z s d) ⟨a,rfl,ha,Wg.nil⟩ (λ z s d z' t u ⟨m,W,S,T⟩ ⟨e,Y,N,e2,e3,I⟩=>by
  subst W;refine⟨e.to,N,I,T.step ⟨e,Y,N,e2,e3,?_⟩⟩;show dP (k+1) st (m:Int).toNat+0<=dP (k+1) st e.to;rw[Ta];unfold dP;rw[Q5 S,Q5 I];omega)
 obtain⟨_,_,_,X⟩:=A;refine⟨b,p+R,q+P,w,v,(i.mono (λ _ _ _ _ e=>o (r e))).trans X,g.mono (λ _ _ _ _ e=>r e),?_⟩;rw[aK];omega
theorem Prc.Vq {es:Nat->List LE}:∀{x:Nat}{l:Ln}{s d:Int}{y:Nat},Prc es (x::l) s d->(x::l).getLast? = Z y->Wg (GrE es) (x:Int) (y:Int) s d
 |x,[],s,d,y,⟨j,i⟩,a=>by grind [Wg.nil]
 |x,z::l,s,d,y,⟨e,f,c,h⟩,a=>by
  have b:=Prc.Vq h (by simpa using a);have g:GrE es (x:Int) (z:Int) e.s e.d:=⟨e,by rw[Ta];exact f,by rw[c],rfl,rfl⟩;have:=(Wg.one g).trans b
  rwa [show e.s+(s-e.s)=s by omega,show e.d+(d-e.d)=d by omega]at this
structure SS where
 F:Int->Oi
 A:Int->Option Int
 H:Int->Oi
def Md:SS:=⟨λ _=>UP,λ _=>UP,λ _=>UP⟩
def fD (g:Int->Int×Int) (x:SS) (n s d:Int):SS:=if bE x.F n s d=Q then ⟨aC x.F n s d,x.A,pushH x.H n (s+(g n).1) (d+(g n).2)⟩ else x
def qQ (A:Int->Option Int) (a n:Int):Int->Option Int:=λ i=>if i=a then Z n else A i
def fW (x:SS) (a n:Int):SS:=⟨x.F,qQ x.A a n,x.H⟩
def jG (x:SS) (n:Int):SS:=⟨x.F,x.A,lu x.H n⟩
def dB (lv:LSt) (r:Nat) (g:Int->Int×Int) (n:Nat) (x:SS) (e:LE):SS :=
 if lv.VE n+r<=lv.VE e.to/\bE x.F (e.to:Int) (((x.F (n:Int)).getD (0,0)).1+e.s) (((x.F (n:Int)).getD (0,0)).2+e.d)=Q then
  fW (fD g x (e.to:Int) (((x.F (n:Int)).getD (0,0)).1+e.s) (((x.F (n:Int)).getD (0,0)).2+e.d)) (e.to:Int) (n:Int) else x
def goS (lv:LSt) (r:Nat) (g:Int->Int×Int) (n:Nat) (x:SS):SS:=(lv.es n).foldl (dB lv r g n) x
structure fN (L:Ln) (lv:LSt):Prop where
 esy:Esy lv.es
 ends:∀{a e},e∈lv.es a->a∈L/\e.to∈L
 bd:∀{a e},e∈lv.es a->0<=e.s/\0<=e.d/\e.s<=512/\e.d<=512/\0<e.s+e.d
 small:∀n∈L,n<256
structure SI (L:Ln) (lv:LSt) (r:Nat) (g:Int->Int×Int) (src:Int->Int->Int->Prop) (P:Int->Int->Prop) (x:SS):Prop where
 lab:∀{a s d},x.F a=Z (s,d)->0<=a/\a.toNat∈L/\0<=s/\0<=d/\val s d<=97750727262208+(cnt x.F 256:Int)*47729847296
 snd:∀{a s d},x.F a=Z (s,d)->∃o s0 d0 p q,src o s0 d0/\Wg (LvE lv r) o a p q/\s=s0+p/\d=d0+q
 ptr:∀{a n},x.A a=Z n->∃s d s' d' t u,x.F n=Z (s,d)/\x.F a=Z (s',d')/\LvE lv r n a t u/\val s d+val t u<=val s' d'
 top:∀{a s d},x.F a=Z (s,d)->x.A a=UP->src a s d
 hom:∀{o s d},src o s d->∃s' d',x.F o=Z (s',d')/\val s' d'<=val s d
 key:∀{a s d},x.H a=Z (s,d)->∃s' d',x.F a=Z (s',d')/\s=s'+(g a).1/\d=d'+(g a).2
 don:∀{a b s d t u},x.F a=Z (s,d)->x.H a=UP->P a b->LvE lv r a b t u->∃s' d',x.F b=Z (s',d')/\val s' d'<=val s d+val t u
theorem SI.big {L:Ln}{lv:LSt}{r:Nat}{g:Int->Int×Int}{src:Int->Int->Int->Prop}{P:Int->Int->Prop}{x:SS}(h:SI L lv r g src P x){a s d:Int}(b:x.F a=Z (s,d)):0<=s/\0<=d/\s<=2847923/\d<=2847923/\val s d<=109969568169984:=by
 obtain⟨_,_,j,i,f⟩:=h.lab b;have e:=jj x.F 256;have c:val s d<=109969568169984:=U;unfold val at c ⊢;omega
theorem gy {F:Int->Oi}{s d:Int}:bE F a s d=Q↔∀b c,F a=Z (b,c)->val s d<val b c:=by grind [bE,Q2]
theorem mZ {F:Int->Oi}{s d:Int}(h:bE F a s d=Vl):∃b c,F a=Z (b,c)/\val b c<=val s d:=by grind [bE,of_decide_eq_false]
section
variable {L : List Nat} {lv : LSt} {r : Nat} {g : Int → Int × Int} {src ayV : Int → Int → Int → Prop} {P : Int → Int → Prop} {D9 : Int → Prop} {x : SS}
theorem SI.pushH (h:SI L lv r g src P x){b s d:Int}(a:bE x.F b s d=Q):pushH x.H b (s+(g b).1) (d+(g b).2)=aC x.H b (s+(g b).1) (d+(g b).2):=by grind [bE,pushH,aC,val,gy,SI.key]
theorem qR (F:Int->Oi){b s d:Int}(f:0<=b)(a:b<256):cnt F 256<=cnt (aC F b s d) 256/\(F b=UP->cnt (aC F b s d) 256=cnt F 256+1):=by
 constructor;cases e:F b with
 |none=>rw[gZ F b s d 256 f a e];omega
 |some c=>rw[jF F b s d 256 (by rw[e];rfl)];exact aa
 grind [gZ]
theorem SI.low (R:fN L lv){n:Nat}(h:SI L lv r g src (λ a b=>a≠(n:Int)\/D9 b) x){s d:Int}(T:x.F (n:Int)=Z (s,d))(_hH:x.H (n:Int)=UP){e:LE}(N:e∈lv.es n)(hl:lv.VE n+r<=lv.VE e.to)(V:bE x.F (e.to:Int) (s+e.s) (d+e.d)=Q) :
  SI L lv r g src (λ a b=>a≠(n:Int)\/D9 b\/b=(e.to:Int)) (fW (fD g x (e.to:Int) (s+e.s) (d+e.d)) (e.to:Int) (n:Int)) /\
  (fW (fD g x (e.to:Int) (s+e.s) (d+e.d)) (e.to:Int) (n:Int))=⟨aC x.F (e.to:Int) (s+e.s) (d+e.d),qQ x.A (e.to:Int) (n:Int),aC x.H (e.to:Int) (s+e.s+(g e.to).1) (d+e.d+(g e.to).2)⟩ /\
  iV 109969568169985 (aC x.F (e.to:Int) (s+e.s) (d+e.d)) 256<iV 109969568169985 x.F 256:=by
 have hx:(fW (fD g x (e.to:Int) (s+e.s) (d+e.d)) (e.to:Int) (n:Int))=⟨aC x.F (e.to:Int) (s+e.s) (d+e.d),qQ x.A (e.to:Int) (n:Int),aC x.H (e.to:Int) (s+e.s+(g e.to).1) (d+e.d+(g e.to).2)⟩:=by
  unfold fD;rw[Q5 V,h.pushH V];rfl
 rw[hx];have VS:=gy.1 V;have ad:¬(e.to:Int)=(n:Int):=λ q=>R.esy.off N U;obtain⟨_,WK,n1,n2,n3⟩:=h.lab T;obtain⟨b1,b2,b3,b4,b5⟩:=R.bd N;have XV:=(R.ends N).2;have ac:=R.small _ XV;obtain⟨c1,c2⟩:=qR x.F (b:=(e.to:Int)) (s:=s+e.s) (d:=d+e.d) U U;have ed:LvE lv r (n:Int) (e.to:Int) e.s e.d:=⟨e,by rw[Ta];exact N,rfl,rfl,rfl,by rw[Ta];exact hl⟩;have ag:val (s+e.s) (d+e.d)=val s d+val e.s e.d:=aK ..;have ab:0<=val e.s e.d/\val e.s e.d<=47729847296:=by unfold val;omega
 have Xg:val (s+e.s) (d+e.d)<=97750727262208+(cnt (aC x.F (e.to:Int) (s+e.s) (d+e.d)) 256:Int)*47729847296:=by
  cases S:x.F (e.to:Int) with
  |none =>
   rw[c2 S];omega
  |some c =>
   have l:=VS c.1 c.2 S;obtain⟨_,_,_,_,w⟩:=h.lab (s:=c.1) (d:=c.2) S;omega
 have ZC:∀{a p q},x.F a=Z (p,q)->∃k j,aC x.F (e.to:Int) (s+e.s) (d+e.d) a=Z (k,j)/\val k j<=val p q:=λ {a p q} f=>by grind [bJ,aS]
 refine⟨⟨λ {a p q} f=>?_,λ {a p q} f=>?_,λ {a m} f=>?_,λ {a p q} f hA=>?_,λ {o p q} ho=>?_,λ {a p q} f=>?_,λ {a b p q t u} f y hP hE=>?_⟩,rfl,?_⟩;show 0<=a/\a.toNat∈L/\0<=p/\0<=q/\_;by_cases i:a=(e.to:Int);subst i
 replace f:aC x.F (e.to:Int) (s+e.s) (d+e.d) (e.to:Int)=Z (p,q):=f
 rw[bJ]at f;cases f;exact⟨U,by rw[Ta];exact XV,U,U,Xg⟩
 replace f:aC x.F (e.to:Int) (s+e.s) (d+e.d) a=Z (p,q):=f
 rw[aS _ _ _ i]at f;obtain⟨l,w,v,I,k5⟩:=h.lab f;exact⟨l,w,v,I,by show _<=97750727262208+(cnt (aC x.F (e.to:Int) (s+e.s) (d+e.d)) 256:Int)*47729847296;omega⟩;by_cases i:a=(e.to:Int);subst i
 replace f:aC x.F (e.to:Int) (s+e.s) (d+e.d) (e.to:Int)=Z (p,q):=f
 rw[bJ]at f;cases f;obtain⟨o,s0,d0,p,q,l,w,v,I⟩:=h.snd T;exact⟨o,s0,d0,p+e.s,q+e.d,l,w.step ed,U,U⟩
 replace f:aC x.F (e.to:Int) (s+e.s) (d+e.d) a=Z (p,q):=f
 rw[aS _ _ _ i]at f;exact h.snd f;show ∃p q k j t u,aC x.F (e.to:Int) (s+e.s) (d+e.d) m=Z (p,q)/\aC x.F (e.to:Int) (s+e.s) (d+e.d) a=Z (k,j)/\_;by_cases i:a=(e.to:Int)
 grind [qQ,Option.some.inj,aS,bJ]
 have W:x.A a=Z m:=by grind [qQ]
 obtain⟨p,q,k,j,t,u,l,w,v,I⟩:=h.ptr W;obtain⟨C,B,k5,k6⟩:=ZC l;exact⟨C,B,k,j,t,u,k5,by rw[aS _ _ _ i];exact w,v,U⟩;have z:qQ x.A (e.to:Int) (n:Int) a=none:=hA;unfold qQ at z;by_cases i:a=(e.to:Int)
 grind
 rw[Q6 i]at z
 replace f:aC x.F (e.to:Int) (s+e.s) (d+e.d) a=Z (p,q):=f
 rw[aS _ _ _ i]at f;exact h.top f z;obtain⟨p1,q1,l,w⟩:=h.hom ho;obtain⟨C,B,v,I⟩:=ZC l;exact⟨C,B,v,U⟩;show ∃k j,aC x.F (e.to:Int) (s+e.s) (d+e.d) a=Z (k,j)/\_;by_cases i:a=(e.to:Int);subst i
 replace f:aC x.H (e.to:Int) (s+e.s+(g e.to).1) (d+e.d+(g e.to).2) (e.to:Int)=Z (p,q):=f
 rw[bJ]at f;cases f;exact⟨_,_,bJ _ _ _ _,rfl,rfl⟩
 replace f:aC x.H (e.to:Int) (s+e.s+(g e.to).1) (d+e.d+(g e.to).2) a=Z (p,q):=f
 rw[aS _ _ _ i]at f;obtain⟨k,j,l,w,v⟩:=h.key f;exact⟨k,j,by rw[aS _ _ _ i];exact l,w,v⟩;show ∃k j,aC x.F (e.to:Int) (s+e.s) (d+e.d) b=Z (k,j)/\_;have i:a≠(e.to:Int):=λ q=>by grind [aC,bJ]
 replace f:aC x.F (e.to:Int) (s+e.s) (d+e.d) a=Z (p,q):=f
 replace y:aC x.H (e.to:Int) (s+e.s+(g e.to).1) (d+e.d+(g e.to).2) a=none:=y
 rw[aS _ _ _ i]at f y;by_cases P:a≠(n:Int)\/D9 b;obtain⟨k,j,l,w⟩:=h.don f y P hE;obtain⟨C,B,v,I⟩:=ZC l;exact⟨C,B,v,U⟩;have Y:a=(n:Int):=Classical.byContradiction λ q=>P (SQ q);have X:b=(e.to:Int):=by grind
 subst Y X;rw[T]at f;cases f;obtain⟨e',g1,g2,g3,g4,_⟩:=hE;rw[Ta]at g1;have:=(R.esy.ord n).one g1 N U;subst this g3 g4;exact⟨_,_,bJ _ _ _ _,U⟩;refine Bp (e.to:Int) _ _ 256 U U (by grind [val]) (λ _=>?_) VS;have:=jj (aC x.F (e.to:Int) (s+e.s) (d+e.d)) 256;have h0:0<=val (s+e.s) (d+e.d):=by unfold val at *;omega
 omega
theorem SI.step (A:fN L lv){n:Nat}(h:SI L lv r g src (λ a b=>a≠(n:Int)\/D9 b) x){s d:Int}(c:x.F (n:Int)=Z (s,d))(o:x.H (n:Int)=UP){e:LE}(k:e∈lv.es n) :
  SI L lv r g src (λ a b=>a≠(n:Int)\/D9 b\/b=(e.to:Int)) (dB lv r g n x e)/\(dB lv r g n x e).F (n:Int)=Z (s,d)/\(dB lv r g n x e).H (n:Int)=none:=by
 have j:¬(n:Int)=(e.to:Int):=λ q=>A.esy.off k U;unfold dB;rw[c];show SI L lv r g src _ (if lv.VE n+r<=lv.VE e.to/\bE x.F (e.to:Int) (s+e.s) (d+e.d)=Q then _ else x)/\_;by_cases f:lv.VE n+r<=lv.VE e.to/\bE x.F (e.to:Int) (s+e.s) (d+e.d)=Q;obtain⟨V,N,h3⟩:=h.low A c o k f.1 f.2;have y:(if lv.VE n+r<=lv.VE e.to/\bE x.F (e.to:Int) (s+e.s) (d+e.d)=Q then fW (fD g x (e.to:Int) (s+e.s) (d+e.d)) (e.to:Int) (n:Int) else x)=fW (fD g x (e.to:Int) (s+e.s) (d+e.d)) (e.to:Int) (n:Int):=Q5 f;show SI L lv r g src _ (if lv.VE n+r<=lv.VE e.to/\bE x.F (e.to:Int) (s+e.s) (d+e.d)=Q then fW (fD g x (e.to:Int) (s+e.s) (d+e.d)) (e.to:Int) (n:Int) else x)/\(if lv.VE n+r<=lv.VE e.to/\bE x.F (e.to:Int) (s+e.s) (d+e.d)=Q then fW (fD g x (e.to:Int) (s+e.s) (d+e.d)) (e.to:Int) (n:Int) else x).F _=_/\(if lv.VE n+r<=lv.VE e.to/\bE x.F (e.to:Int) (s+e.s) (d+e.d)=Q then fW (fD g x (e.to:Int) (s+e.s) (d+e.d)) (e.to:Int) (n:Int) else x).H _=_;rw[y];refine⟨V,?_,?_⟩;rw[N];show aC x.F (e.to:Int) (s+e.s) (d+e.d) (n:Int)=_;rw[aS _ _ _ j];exact c;rw[N];show aC x.H (e.to:Int) _ _ (n:Int)=_;rw[aS _ _ _ j];exact o;have y:(if lv.VE n+r<=lv.VE e.to/\bE x.F (e.to:Int) (s+e.s) (d+e.d)=Q then fW (fD g x (e.to:Int) (s+e.s) (d+e.d)) (e.to:Int) (n:Int) else x)=x:=Q6 f;show SI L lv r g src _ (if lv.VE n+r<=lv.VE e.to/\bE x.F (e.to:Int) (s+e.s) (d+e.d)=Q then fW (fD g x (e.to:Int) (s+e.s) (d+e.d)) (e.to:Int) (n:Int) else x)/\(if lv.VE n+r<=lv.VE e.to/\bE x.F (e.to:Int) (s+e.s) (d+e.d)=Q then fW (fD g x (e.to:Int) (s+e.s) (d+e.d)) (e.to:Int) (n:Int) else x).F _=_/\(if lv.VE n+r<=lv.VE e.to/\bE x.F (e.to:Int) (s+e.s) (d+e.d)=Q then fW (fD g x (e.to:Int) (s+e.s) (d+e.d)) (e.to:Int) (n:Int) else x).H _=_;rw[y];refine⟨⟨h.lab,h.snd,h.ptr,h.top,h.hom,h.key,λ {a b p q t u} l m hP I=>?_⟩,c,o⟩;by_cases i:a≠(n:Int)\/D9 b;exact h.don l m i I;have w:a=(n:Int):=Classical.byContradiction λ q=>i (SQ q);have v:b=(e.to:Int):=by grind
 subst w v;rw[c]at l;cases l;obtain⟨z,R,g2,X,W,P⟩:=I;rw[Ta]at R P;have:=(A.esy.ord n).one R k U;subst this X W;cases C:bE x.F (z.to:Int) (s+z.s) (d+z.d) with
 |true=>exact Q8 ⟨P,C⟩ f
 |false =>
  obtain⟨S,Y,T,B⟩:=mZ C;exact⟨S,Y,T,by rw[aK]at B;exact B⟩
theorem SI.mono (h:SI L lv r g src P x){P':Int->Int->Prop}(i:∀{a b s d t u},x.F a=Z (s,d)->x.H a=UP->P' a b->LvE lv r a b t u->P a b):SI L lv r g src P' x :=
 ⟨h.lab,h.snd,h.ptr,h.top,h.hom,h.key,λ c e j f=>h.don c e (i c e j f) f⟩
theorem SI.fold (o:fN L lv){n:Nat}{s d:Int}:∀{l:List LE}{D9:Int->Prop}{x:SS},(∀e∈l,e∈lv.es n)->SI L lv r g src (λ a b=>a≠(n:Int)\/D9 b) x->x.F (n:Int)=Z (s,d)->x.H (n:Int)=UP ->
  SI L lv r g src (λ a b=>a≠(n:Int)\/D9 b\/∃e∈l,b=(e.to:Int)) (l.foldl (dB lv r g n) x)/\(l.foldl (dB lv r g n) x).F (n:Int)=Z (s,d)/\(l.foldl (dB lv r g n) x).H (n:Int)=UP
 |[],D9,x,_,h,f,j=>⟨h.mono (λ _ _ i _=>by
   rcases i with q|q|⟨e,v,_⟩
   exact SQ q;exact SP q;cases v),f,j⟩
 |e::l,D9,x,k,h,f,j=>by
  obtain⟨z,y,w⟩:=h.step o f j (k e (Tp ..));obtain⟨u,t,p⟩:=SI.fold o (λ m c=>k m (Tj _ c)) z y w;refine⟨u.mono (λ _ _ i _=>?_),t,p⟩;rcases i with q|q|⟨m,c,q⟩
  exact SQ q
  grind
  grind
theorem SI.pop {P:Int->Int->Prop}(h:SI L lv r g src P x)(n:Int):SI L lv r g src (λ a b=>a≠n/\P a b) (jG x n):=by
 refine⟨h.lab,h.snd,h.ptr,h.top,h.hom,λ {a s d} i=>?_,λ {a b s d t u} i k j l=>?_⟩;have c:lu x.H n a=Z (s,d):=i;by_cases e:a=n
 grind [hJ]
 rw[fM _ e]at c;exact h.key c;have f:lu x.H n a=none:=k;rw[fM _ j.1]at f;exact h.don i f j.2 l
theorem SI.go (y:fN L lv)(h:SI L lv r g src (λ _ _=>True) x){n:Nat}{s d:Int}(k:x.F (n:Int)=Z (s,d)):SI L lv r g src (λ _ _=>True) (goS lv r g n (jG x (n:Int)))/\(goS lv r g n (jG x (n:Int))).F (n:Int)=Z (s,d)/\(goS lv r g n (jG x (n:Int))).H (n:Int)=none:=by
 have p:=(h.pop (n:Int)).mono (P':=λ a b=>a≠(n:Int)\/False) (λ _ _ m _=>⟨by rcases m with q|q;exact q;exact q.elim,trivial⟩);obtain⟨j,i,f⟩:=SI.fold y (l:=lv.es n) (λ _ h=>h) p k (hJ _ _);refine⟨j.mono (λ {a b s d t u} z A _ o=>?_),i,f⟩;by_cases e:a=(n:Int);subst e;obtain⟨w,c,v,_⟩:=o;rw[Ta]at c;exact SP (SP ⟨w,c,v⟩);exact SQ e
end
def Bt (H:Int->Oi) (n s d:Int):Prop:=H n=Z (s,d)/\∀b t u,H b=Z (t,u)->¬bef ⟨b,t,u⟩ ⟨n,s,d⟩
theorem Bt.least {H:Int->Oi}{n s d t u:Int}(h:Bt H n s d)(c:H b=Z (t,u)):val s d<=val t u:=by
 have a:=h.2 b t u c;unfold bef bt.v at a;simp only at a;omega
def Bu (lv:LSt) (r:Nat) (g:Int->Int×Int):Nat->SS->SS->Prop
 |0,x,x'=>(∀a,x.H a=UP)/\x'=x
 |k+1,x,x'=>∃(n:Nat) (s d:Int),Bt x.H (n:Int) s d/\Bu lv r g k (goS lv r g n (jG x (n:Int))) x'
structure Mt where
 n:Int
 s:Int
 d:Int
 f:Bool
def mtS (E9:Int->Oi) (x:SS) (n:Nat) (m:Mt):Mt :=
 match E9 (n:Int) with
 |none=>m
 |some e=>if m.f=Vl\/val (((x.F (n:Int)).getD (0,0)).1+e.1) (((x.F (n:Int)).getD (0,0)).2+e.2)<val m.s m.d then ⟨n,((x.F (n:Int)).getD (0,0)).1+e.1,((x.F (n:Int)).getD (0,0)).2+e.2,Q⟩ else m
def ng (lv:LSt) (g:Int->Int×Int) (E9:Int->Oi):Nat->SS->Mt->SS->Mt->Prop
 |0,x,m,x',m'=>m'=m/\(((∀a,x.H a=UP)/\x'=x)\/∃(n:Nat) (s d:Int),Bt x.H (n:Int) s d/\m.f=Q/\¬val s d<val m.s m.d/\x'=jG x (n:Int))
 |k+1,x,m,x',m'=>∃(n:Nat) (s d:Int),Bt x.H (n:Int) s d/\(m.f=Vl\/val s d<val m.s m.d)/\ng lv g E9 k (goS lv 0 g n (jG x (n:Int))) (mtS E9 x n m) x' m'
section
variable {L : List Nat} {lv : LSt} {r : Nat} {g : Int → Int × Int} {src Zl : Int → Int → Int → Prop} {x x' : SS}
theorem SI.ends (e:fN L lv):∀{k:Nat}{x:SS},SI L lv r g src (λ _ _=>True) x->Bu lv r g k x x'->SI L lv r g src (λ _ _=>True) x'/\∀a,x'.H a=UP
 |0,x,h,⟨c,b⟩=>by subst b;exact⟨h,c⟩
 |_+1,x,h,⟨n,s,d,c,b⟩=>by
  obtain⟨i,j,f,_⟩:=h.key c.1;exact SI.ends e (h.go e f).1 b
theorem DX (H:Int->Oi)(a s d:Int):pushH H a s d a≠none:=by
 unfold pushH;cases h:bE H a s d with
 |true=>rw[Q5 rfl,bJ];exact λ e=>(by cases e)
 |false =>
  obtain⟨c,f,b,_⟩:=mZ h;rw[Q6 dQ,b];exact λ e=>(by cases e)
theorem Iv (H:Int->Oi){a b:Int}(s d:Int)(h:b≠a):pushH H a s d b=H b:=by
 unfold pushH;split;exact aS _ _ _ h;rfl
theorem DY {n:Nat}{e:LE}(h:(dB lv r g n x e).H a=UP):x.H a=UP/\(dB lv r g n x e).F a=x.F a:=by
 unfold dB at h ⊢;split
 rename_i b
 rw[Q5 b]at h;unfold fD at h ⊢;rw[Q5 b.2]at h ⊢
 replace h:pushH x.H (e.to:Int) _ _ a=none:=h
 by_cases c:a=(e.to:Int);subst c;exact Q8 h (DX _ _ _ _);rw[Iv _ _ _ c]at h;refine⟨h,?_⟩;show aC x.F (e.to:Int) _ _ a=_;exact aS _ _ _ c
 rename_i b
 rw[Q6 b]at h;exact⟨h,rfl⟩
theorem vk {n:Nat}:∀{l:List LE}{x:SS},(l.foldl (dB lv r g n) x).H a=UP->x.H a=UP/\(l.foldl (dB lv r g n) x).F a=x.F a
 |[],_,h=>⟨h,rfl⟩
 |e::l,x,h=>by
  obtain⟨f,d⟩:=vk (l:=l) (x:=dB lv r g n x e) h;obtain⟨c,b⟩:=DY f;exact⟨c,d.trans b⟩
structure MI (L:Ln) (lv:LSt) (g:Int->Int×Int) (src:Int->Int->Int->Prop) (E9:Int->Oi) (x:SS) (m:Mt):Prop where
 si:SI L lv 0 g src (λ _ _=>True) x
 fnd:m.f=Q->∃fs fd es ed fs' fd',E9 m.n=Z (es,ed)/\x.F m.n=Z (fs',fd')/\val fs' fd'<=val fs fd/\m.s=fs+es/\m.d=fd+ed/\0<=fs/\0<=fd/\fs<=2847923/\fd<=2847923
 see:∀{a s d t u},x.F a=Z (s,d)->x.H a=UP->E9 a=Z (t,u)->m.f=Q/\val m.s m.d<=val s d+val t u
theorem SI.fgo (S:fN L lv)(h:SI L lv r g src (λ _ _=>True) x){n:Nat}{s d:Int}(k:x.F (n:Int)=Z (s,d)):∀{a s d},x.F a=Z (s,d)->∃c f,(goS lv r g n (jG x (n:Int))).F a=Z (c,f)/\val c f<=val s d:=by
 have j:∀{l:List LE}{D9:Int->Prop}{x:SS},(∀e∈l,e∈lv.es n)->SI L lv r g src (λ a b=>a≠(n:Int)\/D9 b) x->x.F (n:Int)=Z (s,d)->x.H (n:Int)=UP->∀{a s d},x.F a=Z (s,d)->∃c f,(l.foldl (dB lv r g n) x).F a=Z (c,f)/\val c f<=val s d:=by
  intro l
  induction l with
  |nil=>exact λ {_ _} _ _ _ _ {_ s d} i=>⟨s,d,i,TN _⟩
  |cons e l y =>
   intro D9 x p h k C a u d1 i;have z:=p e (Tp ..);obtain⟨o,N,I⟩:=h.step S k C z;have R:∃c f,(dB lv r g n x e).F a=Z (c,f)/\val c f<=val u d1:=by
    unfold dB;split
    rename_i A
    unfold fD;rw[Q5 A.2];show ∃c f,aC x.F (e.to:Int) _ _ a=Z (c,f)/\_;by_cases X:a=(e.to:Int)
    grind [bJ,gy]
    grind [aS]
    grind
   obtain⟨T,d2,w,W⟩:=R;obtain⟨t,d3,v,V⟩:=y (λ P m=>p P (Tj _ m)) o N I w;exact⟨t,d3,v,U⟩
 have o:=(h.pop (n:Int)).mono (P':=λ a b=>a≠(n:Int)\/False) (λ _ _ B _=>⟨by rcases B with q|q;exact q;exact q.elim,trivial⟩);exact λ {_ _ _} i=>j (λ _ h=>h) o k (hJ _ _) i
variable {E9 : Int → Option (Int × Int)} {m m' : Mt}
theorem Qr (n:Nat)(h:m.f=Q):(mtS E9 x n m).f=Q/\val (mtS E9 x n m).s (mtS E9 x n m).d<=val m.s m.d:=by grind [mtS,val]
theorem MI.go (V:fN L lv)(h:MI L lv g src E9 x m){n:Nat}{s d:Int}(A:x.F (n:Int)=Z (s,d)):MI L lv g src E9 (goS lv 0 g n (jG x (n:Int))) (mtS E9 x n m):=by
 obtain⟨k1,R,k3⟩:=h.si.go V A;have P:=λ {a s d}(z:x.F a=Z (s,d))=>h.si.fgo V A z;have T:(x.F (n:Int)).getD (0,0)=(s,d):=by rw[A];rfl
 have B:=h.si.big A;refine⟨k1,λ j=>?_,λ {a p q t u} z hH w=>?_⟩;have i:m.f=Q->(∃k o es r b c,E9 m.n=Z (es,r)/\(goS lv 0 g n (jG x (n:Int))).F m.n=Z (b,c)/\val b c<=val k o/\m.s=k+es/\m.d=o+r/\0<=k/\0<=o/\k<=2847923/\o<=2847923):=λ j=>by
  obtain⟨k,o,es,r,b,c,Y,X,q3,W⟩:=h.fnd j;obtain⟨a1,a2,a3,a4⟩:=P X;exact⟨k,o,es,r,a1,a2,Y,a3,U,W⟩
 unfold mtS at j ⊢;cases w:E9 (n:Int) with
 |none =>
  rw[w]at j;exact i j
 |some e =>
  rw[w]at j;show ∃k o es r b c,E9 (if m.f=Vl\/val (((x.F (n:Int)).getD (0,0)).1+e.1) (((x.F (n:Int)).getD (0,0)).2+e.2)<val m.s m.d then (⟨n,((x.F (n:Int)).getD (0,0)).1+e.1,((x.F (n:Int)).getD (0,0)).2+e.2,Q⟩:Mt) else m).n=Z (es,r)/\(goS lv 0 g n (jG x (n:Int))).F (if m.f=Vl\/val (((x.F (n:Int)).getD (0,0)).1+e.1) (((x.F (n:Int)).getD (0,0)).2+e.2)<val m.s m.d then (⟨n,((x.F (n:Int)).getD (0,0)).1+e.1,((x.F (n:Int)).getD (0,0)).2+e.2,Q⟩:Mt) else m).n=Z (b,c)/\val b c<=val k o/\(if m.f=Vl\/val (((x.F (n:Int)).getD (0,0)).1+e.1) (((x.F (n:Int)).getD (0,0)).2+e.2)<val m.s m.d then (⟨n,((x.F (n:Int)).getD (0,0)).1+e.1,((x.F (n:Int)).getD (0,0)).2+e.2,Q⟩:Mt) else m).s=k+es/\(if m.f=Vl\/val (((x.F (n:Int)).getD (0,0)).1+e.1) (((x.F (n:Int)).getD (0,0)).2+e.2)<val m.s m.d then (⟨n,((x.F (n:Int)).getD (0,0)).1+e.1,((x.F (n:Int)).getD (0,0)).2+e.2,Q⟩:Mt) else m).d=o+r/\_;split;rw[T];exact⟨s,d,e.1,e.2,s,d,w,R,TN _,rfl,rfl,B.1,B.2.1,B.2.2.1,B.2.2.2.1⟩
  rename_i v
  refine i ?_;have y:(if m.f=Vl\/val (((x.F (n:Int)).getD (0,0)).1+e.1) (((x.F (n:Int)).getD (0,0)).2+e.2)<val m.s m.d then (⟨n,((x.F (n:Int)).getD (0,0)).1+e.1,((x.F (n:Int)).getD (0,0)).2+e.2,Q⟩:Mt) else m).f=true:=j;rw[Q6 v]at y;exact y
 by_cases S:a=(n:Int);subst S;rw[R]at z;cases z;unfold mtS;rw[w];rw[T];by_cases v:m.f=Vl\/val (s+t) (d+u)<val m.s m.d;have N:(if m.f=Vl\/val (s+t) (d+u)<val m.s m.d then (⟨n,s+t,d+u,Q⟩:Mt) else m)=⟨n,s+t,d+u,Q⟩:=Q5 v;show (if m.f=Vl\/val (s+t) (d+u)<val m.s m.d then (⟨n,s+t,d+u,Q⟩:Mt) else m).f=Q/\val (if m.f=Vl\/val (s+t) (d+u)<val m.s m.d then (⟨n,s+t,d+u,Q⟩:Mt) else m).s (if m.f=Vl\/val (s+t) (d+u)<val m.s m.d then (⟨n,s+t,d+u,Q⟩:Mt) else m).d<=_;rw[N];exact⟨rfl,by show val (s+t) (d+u)<=_;rw[aK];omega⟩;have N:(if m.f=Vl\/val (s+t) (d+u)<val m.s m.d then (⟨n,s+t,d+u,Q⟩:Mt) else m)=m:=Q6 v;show (if m.f=Vl\/val (s+t) (d+u)<val m.s m.d then (⟨n,s+t,d+u,Q⟩:Mt) else m).f=Q/\val (if m.f=Vl\/val (s+t) (d+u)<val m.s m.d then (⟨n,s+t,d+u,Q⟩:Mt) else m).s (if m.f=Vl\/val (s+t) (d+u)<val m.s m.d then (⟨n,s+t,d+u,Q⟩:Mt) else m).d<=_;rw[N];refine⟨?_,?_⟩;cases j:m.f with
 |true=>rfl
 |false=>exact Q8 (SQ j) v
 have:¬val (s+t) (d+u)<val m.s m.d:=λ q=>v (SP q);rw[aK]at this;omega;obtain⟨f1,f2⟩:=vk (l:=lv.es n) (x:=jG x (n:Int)) hH;have I:x.H a=none:=by
  have:lu x.H (n:Int) a=none:=f1
  rwa [fM _ S]at this
 have C:x.F a=Z (p,q):=f2.symm.trans z;obtain⟨g1,g2⟩:=h.see C I w;obtain⟨g3,g4⟩:=Qr (E9:=E9) (x:=x) n g1;exact⟨g3,U⟩
structure Qs (L:Ln) (lv:LSt) (g:Int->Int×Int) (src:Int->Int->Int->Prop) (E9:Int->Oi) (x:SS) (m:Mt):Prop where
 mi:MI L lv g src E9 x m
 far:∀{a s d},x.H a=Z (s,d)->m.f=Q/\val m.s m.d<=val s d
theorem MI.ends (e:fN L lv):∀{k:Nat}{x:SS}{m:Mt},MI L lv g src E9 x m->ng lv g E9 k x m x' m'->∃y,Qs L lv g src E9 y m'/\x'.F=y.F/\x'.A=y.A
 |0,x,m,h,⟨c,a⟩=>by
  subst c;rcases a with⟨a,rfl⟩|⟨n,s,d,a,i,l,rfl⟩
  exact⟨x',⟨h,λ b=>by rw[a]at b;cases b⟩,rfl,rfl⟩;exact⟨x,⟨h,λ b=>⟨i,by have:=a.least b;omega⟩⟩,rfl,rfl⟩
 |_+1,x,m,h,⟨n,s,d,c,_,a⟩=>by
  obtain⟨j,o,f,_⟩:=h.si.key c.1;exact MI.ends e (h.go e f) a
def Adm (L:Ln) (es:Nat->List LE) (g:Int->Int×Int) (Zl:Int->Int->Int->Prop):Prop:=∀{b i s d p q:Int},0<=b->b.toNat∈L->Zl i s d->Wg (GrE es) b i p q->val (g b).1 (g b).2<=val p q+val s d
theorem GrE.back {es:Nat->List LE}(c:Esy es){a b t u:Int}(k:0<=a)(h:GrE es a b t u):GrE es b a t u:=by
 obtain⟨e,j,i,g,f⟩:=h;refine⟨⟨a.toNat,e.s,e.d,e.U6⟩,?_,by show a=((a.toNat:Nat):Int);omega,g,f⟩;rw[i,Ta];exact c.back j
theorem GrE.wback {es:Nat->List LE}(i:Esy es){a b s d:Int}(g:0<=a)(h:Wg (GrE es) a b s d):Wg (GrE es) b a s d:=by
 have c:=h (λ x p q=>0<=x/\Wg (GrE es) x a p q) ⟨g,Wg.nil⟩ (λ x p q y t u ⟨j,f⟩ e=>by
  obtain⟨l,_,k,_⟩:=id e;refine⟨U,?_⟩;have:=(Wg.one (GrE.back i j e)).trans f
  rwa [T9 t,T9 u]at this)
 exact c.2
theorem Qs.best (O9:fN L lv){y:SS}(h:Qs L lv g src E9 x m)(hy:SI L lv 1 (λ _=>(0,0)) Zl (λ _ _=>True) y)(ab:∀a,y.H a=UP)(ad:E9=y.F)(hA:Adm L lv.es g Zl)
  {o w d0 i s1 d1:Int}{k:Nat}{p q A z:Int}(ho:src o w d0) (hi:Zl i s1 d1) (h1:Wg (LvE lv 0) o (k:Int) p q) (h2:Wg (LvE lv 1) i (k:Int) A z):m.f=Q/\val m.s m.d<=val w d0+val p q+val A z+val s1 d1:=by
 -- what the end costs
 have am:∃s d,y.F (k:Int)=Z (s,d)/\val s d<=val s1 d1+val A z:=by
  obtain⟨s,d,W,e2⟩:=hy.hom hi;refine h2 (λ a A z=>∃s d,y.F a=Z (s,d)/\val s d<=val s1 d1+val A z) ⟨s,d,W,by unfold val at *;omega⟩ (λ a p1 q1 b t u ⟨s,d,W,e2⟩ V=>?_);obtain⟨I,Y,e3,e4⟩:=hy.don W (ab a) trivial V;exact⟨I,Y,e3,by rw[aK];omega⟩
 obtain⟨s,d,W,e2⟩:=am
 -- what is left from a corner on the Vq
 have gr:∀{r a b s d},Wg (LvE lv r) a b s d->Wg (GrE lv.es) a b s d:=λ hw=>hw.mono (λ _ _ _ _ e=>e.gr);have ac:0<=i:=by
  obtain⟨_,_,e,_⟩:=hy.hom hi;exact(hy.lab e).1
 have S:=GrE.wback O9.esy ac (gr h2);have ag:(∃s d,x.F (k:Int)=Z (s,d)/\val s d<=val w d0+val p q)\/(m.f=Q/\val m.s m.d<=val w d0+val p q+val A z+val s1 d1):=by
  obtain⟨sa,da,f1,f2⟩:=h.mi.si.hom ho;have n:=h1 (λ a p1 q1=>(∃s d,x.F a=Z (s,d)/\val s d<=val w d0+val p1 q1)\/(∃b P N,0<=b/\b.toNat∈L/\Wg (LvE lv 0) b a P N/\∃C X,x.H b=Z (C,X)/\val C X-val (g b).1 (g b).2+val P N<=val w d0+val p1 q1)) (SQ ⟨sa,da,f1,by unfold val at *;omega⟩) (λ a p1 q1 b t u hx V=>by
   rcases hx with⟨s,d,l,R⟩|⟨b',P,N,k0,l,R,C,X,j,B⟩
   cases v:x.H a with
   |none =>
    obtain⟨I,Y,j,B⟩:=h.mi.si.don l v trivial V;exact SQ ⟨I,Y,j,by rw[aK];omega⟩
   |some c =>
    obtain⟨I,Y,j,B,k5⟩:=h.mi.si.key (s:=c.1) (d:=c.2) v;rw[l]at j;cases j;obtain⟨l1,l2,_⟩:=h.mi.si.lab l;refine SP ⟨a,t,u,l1,l2,Wg.one V,c.1,c.2,v,?_⟩;rw[B,k5,aK,aK];omega
   exact SP ⟨b',P+t,N+u,k0,l,R.step V,C,X,j,by rw[aK,aK];omega⟩)
  rcases n with n|⟨b,P,N,k0,l,R,C,X,j,B⟩
  exact SQ n;right;obtain⟨T,g2⟩:=h.far j;have g3:=hA k0 l hi ((gr R).trans S);rw[aK]at g3;exact⟨T,U⟩
 rcases ag with⟨s2,d2,l,R⟩|k
 cases v:x.H (k:Int) with
 |none =>
  obtain⟨T,g2⟩:=h.mi.see l v (by rw[ad];exact W);exact⟨T,U⟩
 |some c =>
  obtain⟨T,g2⟩:=h.far (s:=c.1) (d:=c.2) v;obtain⟨I,Y,j,B,k5⟩:=h.mi.si.key (s:=c.1) (d:=c.2) v;rw[l]at j;cases j;obtain⟨l1,l2,_⟩:=h.mi.si.lab l;have g3:=hA l1 l2 hi S;rw[B,k5,aK]at g2;exact⟨T,U⟩
 exact k
end
def Bk (A:Int->Option Int):Ln->Prop
 |[]=>False
 |[n]=>A (n:Int)=UP
 |n::m::l=>A (n:Int)=Z (m:Int)/\Bk A (m::l)
section
variable {L : List Nat} {lv : LSt} {r : Nat} {g : Int → Int × Int} {src Zl : Int → Int → Int → Prop} {P : Int → Int → Prop} {x : SS}
theorem SI.back (k:fN L lv)(h:SI L lv r g src P x):∀{l:Ln}{n:Nat}{s d:Int},Bk x.A (n::l)->x.F (n:Int)=Z (s,d)->∃(o:Nat) (a d0 p q:Int),(n::l).getLast? = Z o/\src (o:Int) a d0/\Prc lv.es (n::l) p q/\val a d0+val p q<=val s d
 |[],n,s,d,b,c=>⟨n,s,d,0,0,rfl,h.top c b,⟨rfl,rfl⟩,by unfold val;omega⟩
 |m::l,n,s,d,b,c=>by
  obtain⟨C,V,B,d2,t,u,v,i,⟨e,f,R,N,I,_⟩,H⟩:=h.ptr b.1;rw[c]at i;cases i;obtain⟨o,a,d0,p,q,y,w,T,S⟩:=SI.back k h b.2 v;rw[Ta]at f;have j:=k.esy.back f;have z:e.to=n:=U;rw[z]at j;refine⟨o,a,d0,p+e.s,q+e.d,by simpa using y,w,⟨_,j,rfl,?_⟩,?_⟩
  grind
  grind [aK]
theorem Prc.rev (g:Esy lv.es):∀{l:Ln}{n:Nat}{s d:Int},Prc lv.es (n::l) s d->Prc lv.es (n::l).reverse s d
 |[],_,_,_,h=>h
 |m::l,n,s,d,⟨e,o,i,h⟩=>by
  have c:=Prc.rev g h;have f:=g.back o;rw[i]at f;have p:Prc lv.es (m::[n]) e.s e.d:=⟨_,f,rfl,by show e.s-e.s=0;omega,by show e.d-e.d=0;omega⟩;obtain⟨z,a,b⟩:∃z a,(m::l).reverse=z::a:=by
   cases j:(m::l).reverse with
   |nil=>simp at j
   |cons z a=>exact⟨z,a,rfl⟩
  have k:(z::a).getLast? = Z m:=by rw[<- b];simp
  rw[b]at c;have:=Prc.join p c k;rw[List.reverse_cons,b,show s=s-e.s+e.s by omega,show d=d-e.d+e.d by omega];exact this
end
def sZ (es:Nat->List LE):Ln->Ln->Prop
 |[],_=>False
 |[a],w=>w=[a]
 |a::b::l,w=>∃p t,Unp es 6 a b p/\sZ es (b::l) (b::t)/\w=p++t
theorem sZ.prc {es c:Nat->List LE}(m:Esy es)(k:∀{a e},e∈es a->∃f l,Unp es 6 a e.to f/\f=a::l/\l≠[]/\f.getLast? = Z e.to/\Prc c f e.s e.d):∀{l:Ln}{a:Nat}{w:Ln}{s d:Int},Prc es (a::l) s d->sZ es (a::l) w->Prc c w s d/\(∃t,w=a::t)/\w.getLast? = (a::l).getLast?
 |[],a,w,s,d,⟨i,g⟩,r=>by
  have e:w=[a]:=r;rw[e];exact⟨⟨i,g⟩,⟨[],rfl⟩,rfl⟩
 |b::l,a,w,s,d,⟨e,x,u,h⟩,⟨p,t,i,g,A⟩=>by
  obtain⟨f,n,u1,u2,u3,u4,u5⟩:=k x;rw[u]at u1 u4;have B:=Unp.one m i u1;subst B;obtain⟨q,H,o⟩:=sZ.prc m k h g;subst u2;have j:=Prc.join q u5 u4;rw[show e.s+(s-e.s)=s by omega,show e.d+(d-e.d)=d by omega]at j;rw[A];refine⟨j,⟨n++t,rfl⟩,?_⟩;have F:(a::b::l).getLast? = (b::l).getLast? := by simp
  rw[F,<- o];cases t with
  |nil=>rw[TU,u4];rfl
  |cons z t =>
   have C:(b::z::t).getLast? = (z::t).getLast? :=(by simp);rw[List.getLast?_append,C];cases v:(z::t).getLast? with
   |none=>simp at v
   |some y=>rfl
structure IE where
 to:Int
 s:Int
 d:Int
 U6:Int
def okE (L:Ln) (e:IE):Prop:=(0<=e.to/\e.to.toNat∈L)/\0<=e.s/\e.s<=1048576/\0<=e.d/\e.d<=1048576
def Ow (L:Ln) (e:IE):Bool:=decide ((0<=e.to/\e.to.toNat∈L)/\0<=e.s/\e.s<=1048576/\0<=e.d/\e.d<=1048576)
theorem qT {L:Ln}{e:IE}:Ow L e=Q↔okE L e:=decide_eq_true_iff
def e9 (L:Ln) (l:List IE) (o s d:Int):Prop:=∃e∈l,okE L e/\o=e.to/\s=e.s/\d=e.d
def ni (L:Ln) (g:Int->Int×Int) (x:SS) (e:IE):SS:=if Ow L e=Q then fD g x e.to e.s e.d else x
def eP (L:Ln) (g:Int->Int×Int) (l:List IE):SS:=l.foldl (ni L g) Md
structure FI (L:Ln) (lv:LSt) (r:Nat) (g:Int->Int×Int) (l:List IE) (x:SS):Prop where
 si:SI L lv r g (e9 L l) (λ _ _=>False) x
 no:∀a,x.A a=UP
 all:∀{a c},x.F a=Z c->x.H a≠UP
section
variable {L : List Nat} {lv : LSt} {r : Nat} {g : Int → Int × Int} {l : List IE} {x : SS}
theorem FI.start (L:Ln)(lv:LSt)(r:Nat)(g:Int->Int×Int):FI L lv r g [] Md :=
 ⟨⟨λ h=>(by cases h),λ h=>(by cases h),λ h=>(by cases h),λ h=>(by cases h),λ ⟨e,a,_⟩=>(by cases a),λ h=>(by cases h),λ h=>(by cases h)⟩,λ _=>rfl,λ h=>(by cases h)⟩
theorem FI.step (O9:fN L lv)(h:FI L lv r g l x)(e:IE):FI L lv r g (l++[e]) (ni L g x e):=by
 have i:∀{o s d},e9 L l o s d->e9 L (l++[e]) o s d:=λ ⟨T,z,S⟩=>⟨T,Tn.2 (SQ z),S⟩;have j:∀{o s d},e9 L (l++[e]) o s d->e9 L l o s d\/(okE L e/\o=e.to/\s=e.s/\d=e.d):=λ ⟨T,z,S⟩=>by
  rcases Tn.1 z with z|z
  exact SQ ⟨T,z,S⟩
  grind
 unfold ni;by_cases v:Ow L e=Q;rw[Q5 v];have V:=qT.1 v;obtain⟨⟨o1,o2⟩,o3,o4,o5,o6⟩:=id V;have ab:=O9.small _ o2;unfold fD;cases R:bE x.F e.to e.s e.d with
 |false =>
  rw[Q6 dQ];refine⟨⟨h.si.lab,λ f=>?_,λ f=>h.si.ptr f,λ f N=>i (h.si.top f N),λ {o s d} n=>?_,h.si.key,λ _ _ I _=>I.elim⟩,h.no,h.all⟩;obtain⟨o,B,d0,p,q,k,u⟩:=h.si.snd f;exact⟨o,B,d0,p,q,i k,u⟩;rcases j n with n|⟨_,rfl,rfl,rfl⟩
  exact h.si.hom n;exact mZ R
 |true =>
  rw[Q5 rfl,h.si.pushH R];have VS:=gy.1 R;obtain⟨c1,c2⟩:=qR x.F (b:=e.to) (s:=e.s) (d:=e.d) o1 U;have P:e9 L (l++[e]) e.to e.s e.d:=⟨e,Tn.2 (SP (List.mem_singleton.2 rfl)),V,rfl,rfl,rfl⟩;have ZC:∀{a p q},x.F a=Z (p,q)->∃y w,aC x.F e.to e.s e.d a=Z (y,w)/\val y w<=val p q:=λ {a p q} f=>by grind [bJ,aS]
  refine⟨⟨λ {a p q} f=>?_,λ {a p q} f=>?_,λ {a m} f=>?_,λ {a p q} f N=>?_,λ {o p q} n=>?_,λ {a p q} f=>?_,λ _ _ I _=>I.elim⟩,h.no,λ {a c} f=>?_⟩;show 0<=a/\a.toNat∈L/\0<=p/\0<=q/\val p q<=97750727262208+(cnt (aC x.F e.to e.s e.d) 256:Int)*47729847296
  replace f:aC x.F e.to e.s e.d a=Z (p,q):=f
  by_cases t:a=e.to
  grind [bJ,val]
  rw[aS _ _ _ t]at f;obtain⟨k,u,C,W,k5⟩:=h.si.lab f;exact⟨k,u,C,W,U⟩
  replace f:aC x.F e.to e.s e.d a=Z (p,q):=f
  by_cases t:a=e.to;subst t;rw[bJ]at f;cases f;exact⟨_,_,_,0,0,P,Wg.nil,U,U⟩;rw[aS _ _ _ t]at f;obtain⟨o,B,d0,p,q,k,u⟩:=h.si.snd f;exact⟨o,B,d0,p,q,i k,u⟩;have:x.A a=Z m:=f;rw[h.no]at this;cases this
  replace f:aC x.F e.to e.s e.d a=Z (p,q):=f
  by_cases t:a=e.to
  grind [bJ]
  rw[aS _ _ _ t]at f;exact i (h.si.top f N);show ∃y w,aC x.F e.to e.s e.d o=Z (y,w)/\_;rcases j n with n|⟨_,rfl,rfl,rfl⟩
  obtain⟨p1,q1,k,u⟩:=h.si.hom n;obtain⟨Y,X,C,W⟩:=ZC k;exact⟨Y,X,C,U⟩
  grind [bJ]
  show ∃y w,aC x.F e.to e.s e.d a=Z (y,w)/\_
  replace f:aC x.H e.to (e.s+(g e.to).1) (e.d+(g e.to).2) a=Z (p,q):=f
  by_cases t:a=e.to
  grind [bJ]
  rw[aS _ _ _ t]at f;obtain⟨y,w,k,u,C⟩:=h.si.key f;exact⟨y,w,by rw[aS _ _ _ t];exact k,u,C⟩;show aC x.H e.to (e.s+(g e.to).1) (e.d+(g e.to).2) a≠UP
  replace f:aC x.F e.to e.s e.d a=Z c:=f
  by_cases t:a=e.to
  grind [bJ]
  rw[aS _ _ _ t]at f ⊢;exact h.all f
 rw[Q6 v];have no:¬okE L e:=λ q=>v (qT.2 q);refine⟨⟨h.si.lab,λ f=>?_,λ f=>h.si.ptr f,λ f N=>i (h.si.top f N),λ {o s d} n=>?_,h.si.key,λ _ _ I _=>I.elim⟩,h.no,h.all⟩;obtain⟨o,B,d0,p,q,k,u⟩:=h.si.snd f;exact⟨o,B,d0,p,q,i k,u⟩;rcases j n with n|⟨q,_⟩
 exact h.si.hom n;exact Q8 q no
theorem FI.fold (a:fN L lv):∀{l' l:List IE}{x:SS},FI L lv r g l x->FI L lv r g (l++l') (l'.foldl (ni L g) x)
 |[],l,x,h=>by rw[TU];exact h
 |e::l',l,x,h=>by
  have:=FI.fold a (l':=l') (h.step a e)
  rwa [List.append_assoc]at this
theorem FI.all_in (h:FI L lv r g l x):SI L lv r g (e9 L l) (λ _ _=>True) x:=h.si.mono (λ a b _ _=>h.all a b)
theorem Ox (a:fN L lv)(l:List IE):SI L lv r g (e9 L l) (λ _ _=>True) (eP L g l):=(FI.fold a (FI.start L lv r g)).all_in
end
def nj (L:Ln) (lv:LSt) (g:Int->Int×Int) (out Ye:List IE) (Vq:Ln) (s d:Int) (f:Bool):Prop :=
 ∃k y j x m,Bu lv 1 (λ _=>(0,0)) k (eP L (λ _=>(0,0)) Ye) y/\ng lv g y.F j (eP L g out) ⟨0,0,0,Vl⟩ x m/\f=m.f/\(f=Vl->Vq=[]/\s=0/\d=0) /\
  (f=Q->s=m.s/\d=m.d/\∃(n:Nat) (lb le:Ln),m.n=(n:Int)/\Bk x.A (n::lb)/\Bk y.A (n::le)/\sZ lv.es ((n::lb).reverse++le) Vq)
theorem Prc.pos {L:Ln}{lv:LSt}(a:fN L lv):∀{l:Ln}{n:Nat}{s d:Int},Prc lv.es (n::l) s d->0<=s/\0<=d
 |[],_,_,_,⟨f,c⟩=>U
 |m::l,n,s,d,⟨e,b,_,h⟩=>by
  have f:=Prc.pos a h;have c:=a.bd b;omega
theorem six {c e f d g m t:Int}(n:a+b<=d)(l:d<=f)(k:c+e<=g)(j:m=f+g)(i:t=a+(b+e)+c)(h:m<=t):t=m:=U
theorem Qt {s d c a es b:Int}(e:val s d=val (c+es) (a+b))(p:0<=s)(o:0<=d)(n:0<=c)(m:0<=a)(l:c<=2847923)(k:a<=2847923)(j:0<=es)(i:0<=b)(g:es<=2847923)(f:b<=2847923):-38613965<a+b-d/\a+b-d<38613965:=by
 have h:=Int.le_of_eq e;clear e;unfold val at h;omega
theorem nj.best {L:Ln}{B st:LSt}(B0:Btw L 0 16 B)(hz:∀n,B.VE n=0)(hR:Rds N' L B k st)(u:fN L ⟨dP (k+1) st,st.es⟩)
  (hU:∀{a e},e∈st.es a->∃v l,Unp st.es 6 a e.to v/\v=a::l/\l≠[]/\v.getLast? = Z e.to/\Prc B.es v e.s e.d)
  {g:Int->Int×Int}{out I:List IE}(hA:Adm L st.es g (e9 L I)) {v:Ln}{s d:Int}{f:Bool}(h:nj L ⟨dP (k+1) st,st.es⟩ g out I v s d f) :
  (∀{o i r d0 s1 d1 p q:Int},e9 L out o r d0->e9 L I i s1 d1->Wg (GrE B.es) o i p q->f=Q/\val s d<=val (r+p+s1) (d0+q+d1)) /\
  (f=Q->∃(o i:Nat) (t:Ln) (r d0 s1 d1 p q:Int),e9 L out (o:Int) r d0/\e9 L I (i:Int) s1 d1/\v=o::t/\v.getLast? = Z i/\Prc B.es v p q/\s=r+p+s1/\d=d0+q+d1):=by
 obtain⟨ke,y,j,x,m,h1,h2,h3,h4,h5⟩:=h;obtain⟨Y9,Y0⟩:=(Ox u I).ends u h1;have M0:MI L ⟨dP (k+1) st,st.es⟩ g (e9 L out) y.F (eP L g out) ⟨0,0,0,Vl⟩:=by
  have F:=FI.fold u (l':=out) (FI.start L ⟨dP (k+1) st,st.es⟩ 0 g);exact⟨F.all_in,λ q=>(by cases q),λ ha hH _=>Q8 hH (F.all ha)⟩
 obtain⟨z,Z9,zF,zA⟩:=M0.ends u h2;have R:∀{o i r d0 s1 d1 p q:Int},e9 L out o r d0->e9 L I i s1 d1->Wg (GrE B.es) o i p q->m.f=Q/\val m.s m.d<=val (r+p+s1) (d0+q+d1):=λ {o i r d0 s1 d1 p q} X Y hw=>by
  obtain⟨e1,_,⟨⟨o1,o2⟩,_⟩,o3,_⟩:=id X;obtain⟨e2,_,⟨⟨i1,i2⟩,_⟩,i3,_⟩:=id Y;obtain⟨on,rfl⟩:∃on:Nat,o=(on:Int):=⟨o.toNat,U⟩;obtain⟨iN,rfl⟩:∃iN:Nat,i=(iN:Int):=⟨i.toNat,U⟩;obtain⟨c,p1,q1,p2,q2,u1,u2,u3⟩:=Ov U B0 hz hR hw;obtain⟨b1,b2⟩:=Z9.best u Y9 Y0 rfl hA X Y u1 u2;refine⟨b1,?_⟩;rw[aK,aK];omega
 refine⟨λ {o i r d0 s1 d1 p q} X Y hw=>?_,λ hf=>?_⟩
 grind
 obtain⟨c1,c2,n,lb,H,c3,c4,c5,c6⟩:=h5 hf;obtain⟨fs,fd,es,ed,ab,ac,f1,f2,f3,f4,f5,f6,f7,f8,f9⟩:=Z9.mi.fnd (h3.symm.trans hf);rw[c3]at f1 f2;rw[zA]at c4;obtain⟨o,r,d0,p,q,j1,T,j3,j4⟩:=Z9.mi.si.back u c4 f2;obtain⟨i,s1,d1,P,N,l1,S,l3,l4⟩:=Y9.back u c5 f1;have j5:=Prc.rev u.esy j3;obtain⟨C,A,VZ⟩:∃C A,(n::lb).reverse=C::A:=by
  cases W:(n::lb).reverse with
  |nil=>simp at W
  |cons z A=>exact⟨z,A,rfl⟩
 have Wa:(C::A).getLast? = Z n:=by rw[<- VZ];simp
 have Wc:C=o:=by grind [List.head?_reverse]
 rw[VZ]at j5 c6;have J9:=Prc.join l3 j5 Wa;obtain⟨u1,⟨t,u2⟩,u3⟩:=sZ.prc u.esy hU J9 c6;have u4:v.getLast? = Z i:=by
  rw[u3];cases H with
  |nil =>
   rw[<- l1];show ((C::A)++[]).getLast? = _;rw[TU,Wa];rfl
  |cons a H =>
   rw[<- l1];show ((C::A)++a::H).getLast? = _;rw[List.getLast?_append];have e2:(n::a::H).getLast? = (a::H).getLast? :=(by simp);rw[e2];cases W:(a::H).getLast? with
   |none=>simp at W
   |some b=>rfl
 rw[Wc]at u2;have wq:=Prc.Vq (x:=o) (l:=t) (y:=i) (by rw[<- u2];exact u1) (by rw[<- u2];exact u4);obtain⟨_,b2⟩:=R T S wq;have ag:=Prc.pos u j3;have ad:=Prc.pos u l3;obtain⟨e1,_,⟨_,o1,o2,o3,o4⟩,_,o5,o6⟩:=id T;obtain⟨e2,_,⟨_,i1,i2,i3,i4⟩,_,i5,i6⟩:=id S;have w:=Y9.big f1;have g1:val m.s m.d=val fs fd+val es ed:=by rw[f4,f5,aK]
 have g2:val (r+(p+P)+s1) (d0+(q+N)+d1)=val r d0+(val p q+val P N)+val s1 d1:=by rw[aK,aK,aK]
 have V:=six j4 f3 l4 g1 g2 b2;have hd:-38613965<m.d-(d0+(q+N)+d1)/\m.d-(d0+(q+N)+d1)<38613965:=by
  rw[f4,f5]at V;rw[f5];exact Qt V (by grind) (by grind) f6 f7 f8 f9 w.1 w.2.1 w.2.2.1 w.2.2.2.1
 obtain⟨v1,v2⟩:=iS _ _ _ _ hd.1 hd.2 V;exact⟨o,i,t,r,d0,s1,d1,p+P,q+N,T,S,u2,u4,u1,by rw[c1];exact v1.symm,by rw[c2];exact v2.symm⟩
end Go.Proofs.YtikdmenjibkgiaaGreatDoor
