/- Texts laid together. -/
import Derived.Test.YtikdmenjibkgiaaGreatDoorP12
import Derived.Shelf.Strings.Builder1
import Derived.Shelf.Strings.BuilderF
import Derived.Shelf.Strings.BuilderK
import Derived.Shelf.Strconv.Atoi
import Derived.Shelf.Strconv.Itoa0
import Derived.Shelf.Strconv.Itoa1
import Derived.Shelf.LaysM
import Derived.Shelf.Strconv.Itoa2
import Derived.Shelf.Strconv.Itoa3
import Derived.Shelf.Strconv.AtoiErrFast
import Derived.Shelf.Strconv.ParseIntEmpty
import Derived.Shelf.Strconv.AtoiFail
import Derived.Shelf.Strconv.Clone
import Derived.Shelf.Strconv.SyntaxError
import Derived.Shelf.LaysC
import Derived.Shelf.Strconv.ToError
import Derived.Shelf.Strconv.Lower
import Derived.Shelf.Strconv.ParseUint10
import Derived.Shelf.Strconv.ParseUint10Empty
import Derived.Shelf.Strconv.ParseUint10Any
import Derived.Shelf.Strconv.ParseInt10
import Derived.Shelf.Strconv.AtoiLong
import Derived.Shelf.Strconv.AtoiInnerAll
import Derived.Shelf.Strconv.RangeError
import Derived.Shelf.Strconv.ToErrorRange
import Derived.Shelf.Strconv.AtoiAll
import Derived.Shelf.Strconv.ErrVarAll
import Derived.Shelf.Strings.Search1
import Derived.Shelf.Strings.Search2
import Derived.Shelf.Strings.Cut
import Derived.Shelf.Strings.Shaped
import Derived.Shelf.Strings.Prefix
import Derived.Lib.ItoaNum
import Derived.Lib.AtoiAllCases
import Derived.Lib.Strings
import GoSem.Op.String
import Derived.Lib.IndexMore
import Derived.Lib.AppendIntMem
import Derived.WalkSmall
import Derived.ChangeKeysEq
namespace Go.Proofs.YtikdmenjibkgiaaGreatDoor
open Go.Proofs.Tryz renaming underlying9->Vyh,prog->Vyj
open Go.Value renaming ownBlock->M'
open _root_.Array renaming size->G
open _root_.Bool renaming and_eq_true->TB,or_eq_true->Vo
open _root_.List renaming mem_singleton->Tv,mem_cons_self->Tp,mem_cons_of_mem->Tj,length_map->TA,map_map->U7,mem_map->TX,range->Ud,getElem?_toArray->Vu,getElem?_cons_succ->U0,getElem?_append_left->TO,append_assoc->TC,append_nil->TU,cons_append->Uw,length_cons->Tk,mem_cons->TD,length_append->Td,length->K
open _root_.Int renaming le_refl->TN,toNat_natCast->Ta,add_assoc->TT,natCast_mul->VK
open Go.World renaming cell?_alloc_new->Tb,size_alloc->UI,cell?->D,alloc->E,setCell->C'
open _root_.Option renaming map_eq_some_iff->TK
open _root_.Nat renaming strongRecOn->Vn,zero_add->Tm,mul_comm->U8,mul_le_mul_right->UN,lt_trichotomy->Vs,pow_le_pow_right->UM,succ_mul->UX,mul_le_mul->Uo,le_of_lt->UQ,lt_succ_self->Ur
open Go.Proofs.Tryz
open _root_.Option renaming some->Z,none->UP
open _root_.Bool renaming true->Q,false->Vl
open Go renaming World->M,Value->Vr,below_drewN->Vxj,bodyPost_ret->Vxl
open Go.RowKit renaming Below->Vw
open Go.Ending renaming returned->VJ
open Go.Obj renaming cells->VP
variable {W H b k n:Nat}{a t i:Int}{w I:M}{cs:List Bool}{c:UInt8}
set_option maxHeartbeats 8000000
set_option maxRecDepth 1000000
open Go.RowKit
theorem CS {W H b:Int}{Y:Bn}(i:1<=W)(e:aF W H Y a k b):q9 W H Y a b=Z k:=by
 obtain⟨g,m,f,d⟩:=e;cases h:q9 W H Y a b with
 |none =>
  unfold q9 at h;rw[List.find?_range_eq_none]at h;have:=h k g;rw[f,d]at this;simp at this
 |some j =>
  unfold q9 at h;rw[List.find?_range_eq_some]at h;obtain⟨c,l,_⟩:=h;simp only[TB,beq_iff_eq]at c;have:=FW i (by simpa using l) g c.1 f (by rw[c.2,d]);rw[this]
section
variable {W H : Int} {Y : Nat → Bool} {Fl : Int → Int → Option (Int × Int)}
theorem yy (z:1<=W)(B:∀c,inB W H c=Q->cL (aF W H Y) c (Fl c)):∀(n:Nat) (a b s d:Int),inB W H a=Q->inB W H b=Q->Fl a b=Z (s,d)->val s d<=n ->
  ∃l,(∀c∈l,dG W H Y c\/c=b)/\Chn (Ix W H Y Fl) a l b/\pO W a l=s/\pP W a l=d:=by
 intro n
 induction n with
 |zero =>
  intro a b s d g y j C;obtain⟨P,N,_⟩:=(B a g).small j;have e:b=a:=qV ((B a g).sound j) (by simpa using C);have:s=0/\d=0:=by unfold val at C;omega
  exact⟨[],λ _ h=>Q8 h List.not_mem_nil,e.symm,this.1.symm,this.2.symm⟩
 |succ n R =>
  intro a b s d g y j C;have x:∀k f d1 t u,dG W H Y k->Fl a k=Z (f,d1)->Fl b k=Z (t,u)->f+t=s->d1+u=d->0<val f d1->0<val t u ->
    ∃l,(∀c∈l,dG W H Y c\/c=b)/\Chn (Ix W H Y Fl) a l b/\pO W a l=s/\pP W a l=d:=by
   intro k f d1 t u S h1 h2 X V p1 p2;have ab:val f d1+val t u=val s d:=(by rw[<- cP,X,V]);have i:=aR z S;have I:Fl k b=Z (t,u):=(B b y).sym z (B k i) h2;obtain⟨l1,a1,a2,a3,a4⟩:=R a k f d1 g i h1 U;obtain⟨l2,b1,b2,b3,b4⟩:=R k b t u i y I U;obtain⟨p,o,m⟩:=Chn.app (W:=W) a2 b2;refine⟨l1++l2,λ c F=>(List.mem_append.1 F).elim (λ h=>?_) (b1 c),p,by rw[o,a3,b3];exact X,by rw[m,a4,b4];exact V⟩;rcases a1 c h with h|h
   exact Or.inl h;rw[h];exact Or.inl S
  by_cases Y3:vq W Fl a b;have A:s=aP W a b/\d=aO W a b:=by grind [vq]
  by_cases T:Ix W H Y Fl a b;exact⟨[b],λ c F=>Or.inr (Tv.1 F),⟨T,rfl⟩,by rw[A.1];show aP W a b+0=_;omega,by rw[A.2];show aO W a b+0=_;omega⟩;have:∃k f d1 t u,dG W H Y k/\k≠a/\k≠b/\Fl a k=Z (f,d1)/\Fl b k=Z (t,u)/\f+t=aP W a b/\d1+u=aO W a b:=by
   apply Classical.byContradiction;intro Wl;exact T ⟨Y3,λ k f d1 t u p o m w v r=>Wl ⟨k,f,d1,t,u,p,o,m,w,v,r.1,r.2⟩⟩
  obtain⟨k,f,d1,t,u,p,o,m,w,v,r,L⟩:=this;refine x k f d1 t u p w v (by rw[r,A.1]) (by rw[L,A.2]) ?_ ?_;apply Classical.byContradiction;intro q;exact o (qV ((B a g).sound w) U);apply Classical.byContradiction;intro q;exact m (qV ((B b y).sound v) U);have VY:val s d≠val (aP W a b) (aO W a b):=by
   intro q;obtain⟨P,N,n3⟩:=(B a g).small j;have sm:=cT P N n3;have lo:=FN z ((B a g).sound j);have o1:0<=aO W a b:=aG _ _ _;have o2:0<=aP W a b:=aJ _ _ _;have o3:aO W a b<=256:=(by grind [val,aP,aO,cT]);obtain⟨q1,q2⟩:=iS s d (aP W a b) (aO W a b) U U q;apply Y3;unfold vq;rw[j,q1,q2]
  obtain⟨k,f,d1,t,u,p,o,m,w,v,r,L⟩:=Iw z (B a g) (B b y) j VY;exact x k f d1 t u L p o m w v r
theorem yz {b:Int}(c:1<=W)(d:aP W a b<=1000)(e:aO W a b<=1000)(g:cL (aF W H Y) a (Fl a))(f:cL (aF W H Y) b (Fl b)):Ix W H Y Fl a b↔Dir W H Y a b:=by grind [aP,aO,aF,Ix,Dir,vq,dG,On,vw,Mh]
theorem sg {es:Nat->List LE}(a:1<=W)(n:W<=16)(t:1<=H)(s:H<=16)(G9:GEs W H Y es)(B:∀c,inB W H c=Q->cL (aF W H Y) c (Fl c)){b:Int}(r:inB W H b=Q):∀{l:List Int}{c:Int},dG W H Y c->(∀x∈l,dG W H Y x\/x=b)->Chn (Ix W H Y Fl) c l b ->
  ∃(k:Int) (p q:Int),dG W H Y k/\Dir W H Y b k/\Wg (GrE es) c k p q/\val p q+dw W b k<=val (pO W c l) (pP W c l)
 |[],c,j,_,h=>by
  have e:c=b:=h;subst e;refine⟨c,0,0,j,Dir.self a,Wg.nil,?_⟩;unfold dw;rw[gz,gA];exact TN _
 |x::l,c,j,A,⟨C,h⟩=>by
  have m:=aR a j;have o:val (pO W c (x::l)) (pP W c (x::l))=dw W c x+val (pO W x l) (pP W x l):=by
   show val (aP W c x+pO W x l) (aO W c x+pP W x l)=_;rw[aK];rfl
  have S:∀(l:List Int) (x:Int),0<=val (pO W x l) (pP W x l):=by
   intro l
   induction l with
   |nil=>intro x;show 0<=val 0 0;decide
   |cons y l F =>
    intro x;have:=F y;have R:=aJ W x y;have P:=aG W x y;show 0<=val (aP W x y+pO W y l) (aO W x y+pP W y l);rw[aK];have:=jH R P;omega
  rcases A x (Tp ..) with i|i
  have u:=aR a i;have L:=cA a n t s m u;have g:=(yz a U U (B c m) (B x u)).1 C;obtain⟨k,p,q,z,w,v,k4⟩:=sg a n t s G9 B r i (λ y I=>A y (Tj _ I)) h;by_cases e:x=c;subst e;refine⟨k,p,q,z,w,v,?_⟩;rw[o];have:0<=dw W x x:=jH (aJ _ _ _) (aG _ _ _);omega;have X:0<=c/\c<W*H:=Q1 m;have V:0<=x/\x<W*H:=Q1 u;obtain⟨f,rfl⟩:∃f:Nat,c=(f:Int):=⟨c.toNat,U⟩;obtain⟨d,rfl⟩:∃d:Nat,x=(d:Int):=⟨x.toNat,U⟩;have T:=G9.in (aI.2 j) (aI.2 i) g (λ q=>e U)
  have N:GrE es (f:Int) (d:Int) (aP W f d) (aO W f d):=⟨_,by rw[Ta];exact T,rfl,rfl,rfl⟩;refine⟨k,aP W f d+p,aO W f d+q,z,w,(Wg.one N).trans v,?_⟩;rw[o,aK];unfold dw at *;omega;subst i;have L:=cA a n t s m r;have g:=(yz a U U (B c m) (B x r)).1 C;refine⟨c,0,0,j,g.sym,Wg.nil,?_⟩;rw[o,eR W x c];have:=S l x;show 0+dw W c x<=_;omega
theorem yA {es:Nat->List LE}(f:1<=W)(j:W<=16)(r:1<=H)(o:H<=16)(G9:GEs W H Y es)(B:∀c,inB W H c=Q->cL (aF W H Y) c (Fl c)){a b s d:Int}(i:inB W H a=Q)(n:inB W H b=Q)(x:Fl a b=Z (s,d))(V:¬ ∃z,On W H Y a b z) :
  ∃(c k p q:Int),dG W H Y c/\dG W H Y k/\Dir W H Y a c/\Dir W H Y b k/\Wg (GrE es) c k p q/\dw W a c+val p q+dw W b k<=val s d:=by
 have T:=cA f j r o i n;have A:¬vq W Fl a b:=λ h=>V ((vw f U U (B a i)).2 h);obtain⟨l,v,u,I,F⟩:=yy f B (val s d).toNat a b s d i n x U;cases l with
 |nil =>
  exfalso;have e:a=b:=u;subst e;apply A;unfold vq;have e1:s=0:=I.symm;have X:d=0:=F.symm;rw[x,gz,gA,e1,X]
 |cons c l =>
  obtain⟨w,m⟩:=u;rcases v c (Tp ..) with g|g
  have C:=aR f g;have hs:=cA f j r o i C;have t:=(yz f U U (B a i) (B c C)).1 w;obtain⟨k,p,q,P,N,L,k4⟩:=sg f j r o G9 B n g (λ y R=>v y (Tj _ R)) m;refine⟨c,k,p,q,g,P,t,N,L,?_⟩;have S:val (aP W a c+pO W c l) (aO W a c+pP W c l)=val s d:=by grind [aP,pO,aO,pP]
  rw[aK]at S;unfold dw at *;omega;subst g;exact Q8 w.1 A
theorem Dir.walk (c:1<=W){a b:Int}(e:aP W a b<=1000)(f:aO W a b<=1000)(h:Dir W H Y a b):Wk (aF W H Y) a b (aP W a b) (aO W a b):=by
 obtain⟨z,d⟩:=h.1;exact(d.ends c e f).2.2
theorem Wk.app {E9:Int->Nat->Int->Prop}{o b s d u:Int}(h:Wk E9 o a s d)(k:Wk E9 a b t u):Wk E9 o b (s+t) (d+u) :=
 k (λ x p q=>Wk E9 o x (s+p) (d+q)) (by grind) (λ x p q j y c e=>by
  have:=c.step e
  rwa [TT,TT]at this)
theorem GEs.walk {es:Nat->List LE}(a:1<=W)(f:W<=16)(C:1<=H)(B:H<=16)(G9:GEs W H Y es){c k p q:Int}(A:0<=c)(h:Wg (GrE es) c k p q):Wk (aF W H Y) c k p q:=by
 have b:=h (λ x p q=>0<=x/\Wk (aF W H Y) c x p q) ⟨A,Wk.nil⟩ (λ x p q y t u ⟨N,z⟩ ⟨e,s,r,o,n⟩=>by
  obtain⟨m,l,j,I,i,g,_⟩:=G9.mem s;have w:=aR a (aI.1 m);have v:=aR a (aI.1 l);have L:=cA a f C B w v;have d:=j.walk a U U;rw[<- i,<- g]at d;have F:((x.toNat:Nat):Int)=x:=U;rw[F]at d;subst r o n;exact⟨U,z.app d⟩)
 exact b.2
end
section
open Go.RowKit Go.Lib
def PC (W tz:Int) (n:Int):Int×Int:=if 0<=n/\n<256 then (aP W n tz,aO W n tz) else (0,0)
theorem EL {W a:Int}(h:n<256):PC W a (n:Int)=(aP W n a,aO W n a):=by grind [PC]
end
section
variable {W H : Int} {Y : Nat → Bool} {es : Nat → List LE}
theorem GEs.pos (G9:GEs W H Y es)(b:1<=W)(f:W<=16)(v:1<=H)(u:H<=16){a:Nat}{e:LE}(h:e∈es a):0<=e.s/\0<=e.d/\e.s<=16/\e.d<=16/\0<e.s+e.d:=by
 obtain⟨o,n,m,l,k,j,_⟩:=G9.mem h;have r:=aR b (aI.1 o);have p:=aR b (aI.1 n);have c:=cA b f v u r p;have t:=m.walk b U U;have i:=aJ W a e.to;have g:=aG W a e.to;rw[k,j];refine⟨i,g,c.1,c.2,?_⟩;apply Classical.byContradiction;intro q;have x:aP W a e.to=0:=U;have w:aO W a e.to=0:=U;have:=qV t (by rw[x,w];decide);exact l U
theorem CT (G9:GEs W H Y es)(b:1<=W)(a:W<=16)(f:1<=H)(c:H<=16):∀{l:Ln}{x:Nat}{s d:Int},Prc es (x::l) s d->0<=s/\0<=d/\s<=16*K l/\d<=16*K l/\(l≠[]->0<s+d)
 |[],x,s,d,⟨g,k⟩=>by
  subst g k;exact⟨TN _,TN _,by simp,by simp,λ h=>Q8 rfl h⟩
 |y::l,x,s,d,⟨e,j,g,h⟩=>by
  obtain⟨q,p,o,n,m⟩:=G9.pos b a f c j;obtain⟨v,u,t,r,_⟩:=CT G9 b a f c h;have i:((K (y::l):Nat):Int)=(K l:Int)+1:=rfl;rw[i];exact⟨U,U,U,U,λ _=>U⟩
theorem Ns (G9:GEs W H Y es)(i:1<=W)(g:W<=16)(j:1<=H)(f:H<=16){N' k:Nat}{st:LSt}(u:N'<=6)(v:1<=N')(h:Rds N' (crs W H Y (W*H).toNat) ⟨λ _=>0,es⟩ k st) :
  fN (crs W H Y (W*H).toNat) ⟨dP (k+1) st,st.es⟩/\(∀n,1<=dP (k+1) st n/\dP (k+1) st n<=7)/\∀{a e},e∈st.es a->∃b l,Unp st.es 6 a e.to b/\b=a::l/\l≠[]/\b.getLast? = Z e.to/\Prc es b e.s e.d:=by
 have o:=G9.btw i g j f;have B:=Btw.rds (show (0:Int)<=16 by omega) o h;have w:k+1<=N':=by
  cases k with
  |zero=>omega
  |succ k =>
   obtain⟨_,_,_,f,_⟩:=h;omega
 have A:=bG i g j f;have m:∀{a e},e∈st.es a->∃b l,Unp st.es 6 a e.to b/\b=a::l/\l≠[]/\b.getLast? = Z e.to/\Prc es b e.s e.d:=λ {a e} c =>
  DW B.lrd (λ c q=>Rds.own o.lrd h c q) 6 a e c (Oq (B.lrd.end_le a).2)
 have x:dbl 16 k<=512:=by
  have:k<=5:=U;rcases (by omega:k=0\/k=1\/k=2\/k=3\/k=4\/k=5) with rfl|rfl|rfl|rfl|rfl|rfl<;>decide
 refine⟨⟨B.lrd.esy,B.cor.ends,λ {a e} c=>?_,λ n p=>?_⟩,λ n=>?_,m⟩;obtain⟨t,r,z,y⟩:=B.bd c;obtain⟨b,l,u1,u2,u3,u4,u5⟩:=m c;subst u2;have:=(CT G9 i g j f u5).2.2.2.2 u3;exact⟨t,r,U,U,this⟩;have:=(cU.1 p).1;omega;have:=B.lrd.end_le n;omega
end
structure PD (W H:Int) (Y:Bn) (es:Nat->List LE) (out Ye:List IE) (s d:Int) (f:Bool):Prop where
 opt:∀{o i s0 d0 s1 d1 p q:Int},e9 (crs W H Y (W*H).toNat) out o s0 d0->e9 (crs W H Y (W*H).toNat) Ye i s1 d1->Wg (GrE es) o i p q->f=Q/\val s d<=val (s0+p+s1) (d0+q+d1)
 snd:f=Q->∃(o i:Nat) (s0 d0 s1 d1 p q:Int),e9 (crs W H Y (W*H).toNat) out (o:Int) s0 d0/\e9 (crs W H Y (W*H).toNat) Ye (i:Int) s1 d1/\Wg (GrE es) (o:Int) (i:Int) p q/\s=s0+p+s1/\d=d0+q+d1/\0<=q/\q<=640000
 no:f=Vl->s=0/\d=0
section
variable {W H : Int} {Y : Nat → Bool} {es : Nat → List LE} {out Ye : List IE}
theorem Sj (G9:GEs W H Y es)(b:1<=W)(a:W<=16)(e:1<=H)(c:H<=16){N' k:Nat}{st:LSt}(v:N'<=6)(w:1<=N')(h:Rds N' (crs W H Y (W*H).toNat) ⟨λ _=>0,es⟩ k st)
  {g:Int->Int×Int}(z:Adm (crs W H Y (W*H).toNat) st.es g (e9 (crs W H Y (W*H).toNat) Ye)) {m:Ln}{s d:Int}{f:Bool}(j:nj (crs W H Y (W*H).toNat) ⟨dP (k+1) st,st.es⟩ g out Ye m s d f) (Xs:K m<=40000):PD W H Y es out Ye s d f:=by
 obtain⟨T,_,y⟩:=Ns G9 b a e c v w h;have S:f=Vl->s=0/\d=0:=by
  obtain⟨_,_,_,_,_,_,_,_,A,_⟩:=j;exact λ q=>(A q).2
 obtain⟨R,P⟩:=nj.best (G9.btw b a e c) (λ _=>rfl) h T y z j;refine⟨R,λ q=>?_,S⟩;obtain⟨o,i,t,r,d0,n,d1,p,u,N,L,I,F,l,C,B⟩:=P q;subst I;obtain⟨_,x,_,V,_⟩:=CT G9 b a e c l;have X:K (o::t)=K t+1:=rfl;exact⟨o,i,r,d0,n,d1,p,u,N,L,l.Vq F,C,B,x,U⟩
def frC (W:Int) (c:Nat) (l:Ln):List LE:=l.map (λ m=>⟨m,aP W c m,aO W c m,-1⟩)
def frI (W:Int) (c:Nat) (l:Ln):List IE:=(frC W c l).map λ e=>⟨e.to,e.s,e.d,e.U6⟩
def Cns (W H:Int) (Y:Bn) (c:Nat) (l:Ln):Prop:=∀n:Nat,n∈l↔Dir W H Y c n/\aY W H Y n=Q
theorem EM (W:Int)(c:Nat)(l:Ln):K (frI W c l)=K l:=by unfold frI frC;rw[TA,TA]
theorem jo (h:1<=W)(k:W<=16)(b:1<=H)(g:H<=16){c:Nat}{l:Ln}(p:inB W H c=Q)(i:Cns W H Y c l){o s d:Int}:e9 (crs W H Y (W*H).toNat) (frI W c l) o s d↔0<=o/\dG W H Y o/\Dir W H Y c o/\s=aP W c o/\d=aO W c o:=by
 constructor;rintro⟨e,b,⟨⟨g,_⟩,_⟩,rfl,rfl,rfl⟩;unfold frI frC at b;rw[U7]at b;obtain⟨m,n,rfl⟩:=TX.1 b;obtain⟨a,f⟩:=(i m).1 n;exact⟨g,aI.1 f,a,rfl,rfl⟩;rintro⟨t,a,f,rfl,rfl⟩;obtain⟨m,rfl⟩:∃m:Nat,o=(m:Int):=⟨o.toNat,U⟩;have j:=aR h a;have q:=cA h k b g p j;have r:0<=(m:Int)/\(m:Int)<W*H:=Q1 j;refine⟨⟨m,aP W c m,aO W c m,-1⟩,?_,⟨⟨by show (0:Int)<=(m:Int);omega,?_⟩,aJ _ _ _,?_,aG _ _ _,?_⟩,rfl,rfl,rfl⟩;unfold frI frC;rw[U7];exact TX.2 ⟨m,(i m).2 ⟨f,aI.2 a⟩,rfl⟩;show (m:Int).toNat∈_;rw[Ta];exact cU.2 ⟨U,aI.2 a⟩;show aP W c m<=_;omega;show aO W c m<=_;omega
theorem Nt (G9:GEs W H Y es)(f:1<=W)(g:W<=16)(r:1<=H)(o:H<=16){N' k:Nat}{st:LSt}(A:N'<=6)(B:1<=N')(h:Rds N' (crs W H Y (W*H).toNat) ⟨λ _=>0,es⟩ k st)
  {c:Nat}{l:Ln}(S:inB W H c=Q) (R:Cns W H Y c l):Adm (crs W H Y (W*H).toNat) st.es (PC W c) (e9 (crs W H Y (W*H).toNat) (frI W c l)):=λ {b i s d p q} X z V N=>by
 obtain⟨O9,_,T⟩:=Ns G9 f g r o A B h;obtain⟨a,rfl⟩:∃m:Nat,b=(m:Int):=⟨b.toNat,U⟩;rw[Ta]at z;rw[EL (O9.small a z)];obtain⟨i0,ic,L,rfl,rfl⟩:=(jo f g r o S R).1 V;have j:=N (λ x p q=>0<=x/\dw W a x<=val p q) ⟨X,by unfold dw;rw[gz,gA];exact TN _⟩ (λ x p q y t u ⟨x0,hx⟩ ⟨e,I,w,F,C⟩=>by
  obtain⟨Vq,l',u1,u2,u3,u4,u5⟩:=T I;subst u2;have n:=GEs.walk f g r o G9 U (u5.Vq u4);have v:=fp f n;have ex:((x.toNat:Nat):Int)=x:=U;rw[ex]at v;subst w F C;have:=oL W a x e.to;rw[aK];exact⟨U,U⟩)
 have P:=oL W a i c;rw[eR W i c]at P;have w:=j.2;show dw W a c<=_;show _<=val p q+dw W c i;omega
theorem PD.flood {Fl:Int->Int->Oi}(G9:GEs W H Y es)(e:1<=W)(g:W<=16)(j:1<=H)(h:H<=16)(B:∀c,inB W H c=Q->cL (aF W H Y) c (Fl c)){a b:Nat}{R P:Ln}(m:inB W H a=Q)(v:inB W H b=Q)(u:Cns W H Y a R)(t:Cns W H Y b P)(hn:¬ ∃z,On W H Y a b z)
  {s d:Int}{f:Bool}(S:PD W H Y es (frI W a R) (frI W b P) s d f):(f=Q->Fl a b=Z (s,d))/\(f=Vl->Fl a b=UP):=by
 have r:∀{l n:Int},Fl a b=Z (l,n)->f=Q/\val s d<=val l n:=λ {l n} I=>by
  obtain⟨c,k,p,q,V,T,k3,k4,k5,k6⟩:=yA e g j h G9 B m v I hn;have i1:=aR e V;have i2:=aR e T;have j1:0<=c/\c<W*H:=Q1 i1;have j2:0<=k/\k<W*H:=Q1 i2;obtain⟨A,y⟩:=S.opt ((jo e g j h m u).2 ⟨j1.1,V,k3,rfl,rfl⟩) ((jo e g j h v t).2 ⟨j2.1,T,k4,rfl,rfl⟩) k5;rw[aK,aK]at y;unfold dw at k6;exact⟨A,U⟩
 constructor;intro F;obtain⟨o,i,s0,d0,s1,d1,p,q,c1,c2,c3,c4,c5,c6,c7⟩:=S.snd F;obtain⟨o0,oc,X,rfl,rfl⟩:=(jo e g j h m u).1 c1;obtain⟨i0,ic,C,rfl,rfl⟩:=(jo e g j h v t).1 c2;have ho:=cA e g j h m (aR e oc);have hi:=cA e g j h v (aR e ic);have wk1:=X.walk e U U;have x:=GEs.walk e g j h G9 o0 c3;have w:=(C.walk e U U).back (aF.back e);have N:=(wk1.app x).app w;rw[<- c4,<- c5]at N;obtain⟨l,n,L,e2⟩:=(B a m).least N;obtain⟨_,e3⟩:=r L;obtain⟨n1,n2,n3⟩:=(B a m).small L;have sm:=cT n1 n2 n3;have n4:=aG W a o;have n5:=aG W b i;obtain⟨A,y⟩:=iS s d l n U U (Int.le_antisymm e3 e2);rw[L,A,y];intro F;cases I:Fl a b with
 |none=>rfl
 |some c =>
  obtain⟨l,n⟩:=c;have:=(r I).1;rw[F]at this;cases this
end
def JK (W H:Int) (Y:Bn):Array Value:=(J W::J H::((Ud 256).map (λ i=>Value.bool (Y i))++[J 0])).toArray
theorem JL {W H:Int}(Y:Bn)(w:M)(c:1<=W)(b:W<=16)(e:1<=H)(d:H<=16):bo (E w (.cells (JK W H Y) 37)) (G w.heap) W H 0 Y:=by
 refine⟨c,b,e,d,?_,?_,?_,λ i a=>?_⟩;rw[Tb];rfl;rw[Tb];rfl;rw[Tb];unfold JK;rw[Vu,U0,U0,List.getElem?_append_right sQ];simp;rw[Tb];unfold JK;rw[Vu,show 2+i=i+1+1 by omega,U0,U0,TO (by simpa using a),List.getElem?_map,List.getElem?_range a];rfl
theorem QP {W H:Int}(Y:Bn)(w:M)(d:1<=W)(b:W<=16)(i:1<=H)(g:H<=16):∃Fl:Int->Int->Oi,∀c,inB W H c=Q->cL (aF W H Y) c (Fl c):=by
 have h:∀c,∃F,inB W H c=Q->cL (aF W H Y) c F:=λ c=>by
  by_cases a:inB W H c=Q;have j:0<=c/\c<W*H:=Q1 a;obtain⟨n,rfl⟩:∃n:Nat,c=n:=⟨c.toNat,U⟩;have h:=lZ n _ (JL Y w d b i g) sQ a [];obtain⟨e,I,k,h,_⟩:=h;obtain⟨F,_,f,_⟩:=h;exact⟨F,λ _=>f⟩;exact⟨λ _=>UP,λ h=>Q8 h a⟩
 exact⟨λ c=>Classical.choose (h c),λ c a=>Classical.choose_spec (h c) a⟩
section
variable {W H : Int} {Y : Nat → Bool}
def Cp (W H:Int) (Y:Bn):Int->Ln->Int->Int->Int->Prop
 |a,[],t,s,d=>a=t/\s=0/\d=0
 |a,r::l,t,s,d=>∃k,aF W H Y a k (r:Int)/\Cp W H Y (r:Int) l t (s-stS k) (d-stD k)
theorem Cp.cast {s d b c:Int}{l:Ln}(h:Cp W H Y a l t s d)(f:s=b)(e:d=c):Cp W H Y a l t b c:=by grind
theorem Cp.app:∀{l m:Ln}{a b t s d p q:Int},Cp W H Y a l b s d->Cp W H Y b m t p q->Cp W H Y a (l++m) t (s+p) (d+q)
 |[],m,a,b,t,s,d,p,q,⟨i,g,f⟩,h=>by grind
 |r::l,m,a,b,t,s,d,p,q,⟨k,e,c⟩,h=>⟨k,e,(Cp.app c h).cast U U⟩
theorem Cp.walk:∀{l:Ln}{a t s d:Int},Cp W H Y a l t s d->Wk (aF W H Y) a t s d
 |[],a,t,s,d,⟨f,c,b⟩=>by grind [Wk.nil]
 |r::l,a,t,s,d,⟨k,e,h⟩=>by
  have:=Wk.cons e (Cp.walk h)
  rwa [show s-stS k+stS k=s by omega,show d-stD k+stD k=d by omega]at this
theorem Cp.len:∀{l:Ln}{a t s d:Int},Cp W H Y a l t s d->s+d=(K l:Int)
 |[],a,t,s,d,⟨_,g,f⟩=>by grind
 |r::l,a,t,s,d,⟨k,_,h⟩=>by
  have e:=Cp.len h;have c:=ji k;have b:((K (r::l):Nat):Int)=(K l:Int)+1:=rfl;rw[b];omega
theorem kd (c:1<=W){a t:Int}:∀{l:Ln}{p:Int},Chn (WSt W H Y a t) p (wy l) t->Cp W H Y p l t (aP W p t) (aO W p t)
 |[],p,h=>by
  have e:p=t:=h;subst e;exact⟨rfl,gz W p,gA W p⟩
 |r::l,p,⟨⟨k,b⟩,h⟩=>by
  obtain⟨f,d⟩:=(dX c b.1.1).1 b.1.2.1;exact⟨k,b.1.1,(kd c h).cast U U⟩
theorem Gm {b:Int}(c:Y a.toNat=Vl)(e:aF W H Y a k b):Y b.toNat=false:=FO c (zj e)
theorem Cp.wkV (v:1<=W){a:Nat}{l:Ln}{t s d:Int}(q:inB W H a=Q)(p:Y a=Vl)(h:Cp W H Y a l t s d):wkV W H Y (λ i=>(((a::l).getD i 0:Nat):Int)) (K (a::l))=((s,d),0)/\(((a::l).getD (K l) 0:Nat):Int)=t:=by
 have j:∀i,i<=K l->∃c f,wkS W H Y (λ i=>(((a::l).getD i 0:Nat):Int)) (i+1)=.ok (c,f)/\Cp W H Y (((a::l).getD i 0:Nat):Int) (l.drop i) t (s-c) (d-f)/\inB W H (((a::l).getD i 0:Nat):Int)=Q/\Y ((a::l).getD i 0)=false:=by
  intro i
  induction i with
  |zero =>
   intro _;refine⟨0,0,?_,h.cast U U,q,p⟩;have e:wkS W H Y (λ i=>(((a::l).getD i 0:Nat):Int)) 0=.ok (0,0):=rfl;rw[kW e];unfold wk1;have m:ffv W H Y (((a::l).getD 0 0:Nat):Int)=0:=nw q p;rw[Q5 m,Q5 rfl]
  |succ i y =>
   intro F;obtain⟨c,f,n,g,L,I⟩:=y U;have z:l.drop i=l[i]::l.drop (i+1):=List.drop_eq_getElem_cons U;rw[z]at g;obtain⟨k,e,A⟩:=g;have o:(a::l).getD (i+1) 0=l[i]:=(by grind);have u:=e.in' v
   have r:Y l[i]=false:=Gm (a:=(((a::l).getD i 0:Nat):Int)) (b:=((l[i]:Nat):Int)) (by grind) e;rw[o];refine⟨c+stS k,f+stD k,?_,A.cast U U,u,r⟩;rw[kW n];unfold wk1;have m:ffv W H Y (((a::l).getD (i+1) 0:Nat):Int)=0:=(by rw[o];exact nw u r);rw[Q5 m,Q6 (Nat.succ_ne_zero i)];have C:q9 W H Y (((a::l).getD (i+1-1) 0:Nat):Int) (((a::l).getD (i+1) 0:Nat):Int)=Z k:=(by grind [Nat.add_sub_cancel,CS]);rw[C]
 obtain⟨c,f,n,g,_,_⟩:=j (K l) aa;rw[List.drop_length]at g;obtain⟨B,P,N⟩:=g;have x:c=s:=U;have w:f=d:=U;subst x w;exact⟨My n sQ,B⟩
theorem CU (e:inB W H a=Q)(d:Y a.toNat=Vl)(c:inB W H t=Q)(b:Y t.toNat=Vl):ff2 W H Y a t=0:=by grind [ff2,nw]
def NrC (W H:Int) (Y:Bn):Nat->Ln->Prop
 |_,[]=>True
 |a,t::st=>(∃z,On W H Y (a:Int) (t:Int) z)/\ff2 W H Y a t=0/\NrC W H Y t st
def JnR (W H:Int) (Y:Bn):Nat->Ln->Ln->Prop
 |_,[],l=>l=[]
 |a,t::st,l=>∃l1 r,Chn (WSt W H Y a t) a (wy l1) t/\JnR W H Y t st r/\l=l1++r
theorem JnR.snoc:∀{st:Ln}{a t:Nat}{l l2:Ln},JnR W H Y a st l->Chn (WSt W H Y ((st.getLast?).getD a:Nat) t) ((st.getLast?).getD a:Nat) (wy l2) t->JnR W H Y a (st++[t]) (l++l2)
 |[],a,t,l,l2,h,b=>by
  have e:l=[]:=h;subst e;exact⟨l2,[],b,rfl,by simp⟩
 |x::st,a,t,l,l2,⟨d,r,i,g,f⟩,b=>by
  refine⟨d,r++l2,i,JnR.snoc g ?_,by rw[f,TC]⟩;cases st with
  |nil=>exact b
  |cons y st =>
   have e:(x::y::st).getLast? = (y::st).getLast? :=(by simp);rw[e]at b;cases c:(y::st).getLast? with
   |none=>simp at c
   |some z=>rw[c]at b;exact b
noncomputable def esF (W H:Int) (Y:Bn):Nat->List LE:=@dite _ (∃es,GEs W H Y es) (Classical.propDecidable _) (λ h=>Classical.choose h) (λ _ _=>[])
theorem iF (a:1<=W):GEs W H Y (esF W H Y):=by grind [Pv,esF,Classical.choose_spec]
def Cnp (W H:Int) (Y:Bn) (c:Nat) (l:Ln):Prop:=l.Pairwise (·<·)/\Cns W H Y c l
def gsN (W H tz:Int) (n:Int):Int×Int:=if inB W H n=Q then (aP W n tz,aO W n tz) else (aP W 0 tz,aO W 0 tz)
theorem PE (d:1<=W)(c:W<=16)(f:1<=H)(e:H<=16){a:Int}(g:inB W H a=Q)(n:Nat):0<=(gsN W H a n).1/\(gsN W H a n).1<=1024/\0<=(gsN W H a n).2/\(gsN W H a n).2<=1024:=by
 have b:∀m:Int,inB W H m=Q->0<=aP W m a/\aP W m a<=1024/\0<=aO W m a/\aO W m a<=1024:=λ m h=>by
  have l:=cA d c f e h g;have k:=aJ W m a;have j:=aG W m a;omega
 have i:inB W H 0=true:=by
  have:=bG d c f e;exact Q2 U
 unfold gsN;split
 grind
 exact b _ i
theorem JM {es:Nat->List LE}(G9:GEs W H Y es)(e:1<=W)(a:W<=16)(n:1<=H)(j:H<=16){N' k:Nat}{st:LSt}(o:N'<=6)(r:1<=N')(h:Rds N' (crs W H Y (W*H).toNat) ⟨λ _=>0,es⟩ k st)
  {c:Nat}{l:Ln}(w:inB W H c=Q) (u:Cns W H Y c l):Adm (crs W H Y (W*H).toNat) st.es (gsN W H c) (e9 (crs W H Y (W*H).toNat) (frI W c l)):=λ {b i s d p q} y f x t=>by
 have g:=Nt G9 e a n j o r h w u y f x t;have B:=bG e a n j;obtain⟨z,rfl⟩:∃m:Nat,b=(m:Int):=⟨b.toNat,U⟩;have A:=(cU.1 f).1;rw[Ta]at A;have v:inB W H z=true:=Q2 U;rw[EL U]at g;unfold gsN;rw[Q5 v];exact g
def OvR (W H:Int) (Y:Bn) (N':Nat) (a t:Nat) (Vq:Ln) (s d:Int) (f:Bool):Prop :=
 ∃k st la lb stops,Rds N' (crs W H Y (W*H).toNat) ⟨λ _=>0,esF W H Y⟩ k st/\mz N' (crs W H Y (W*H).toNat) k st/\Cnp W H Y a la/\Cnp W H Y t lb /\
  nj (crs W H Y (W*H).toNat) ⟨dP (k+1) st,st.es⟩ (gsN W H t) (frI W a la) (frI W t lb) stops s d f/\K stops<=40000/\(f=Vl->Vq=[])/\(f=Q->∃l,Vq=a::l/\JnR W H Y a (stops++[t]) l)
def zU (W H:Int) (Y:Bn) (N':Nat) (a t:Int) (Vq:Ln) (s d err:Int):Prop :=
 (ff2 W H Y a t≠0/\err=ff2 W H Y a t/\Vq=[]/\s=0/\d=0) \/
 (ff2 W H Y a t=0/\(((∃z,On W H Y a t z)/\err=0/\(∃l,Vq=a.toNat::l/\Chn (WSt W H Y a t) a (wy l) t)/\s=aP W a t/\d=aO W a t) \/
  ((¬ ∃z,On W H Y a t z)/\∃f,OvR W H Y N' a.toNat t.toNat Vq s d f/\err=if f then 0 else 5)))
theorem OU (a:1<=W)(n:W<=16)(u:1<=H)(s:H<=16){es:Nat->List LE}(G9:GEs W H Y es){t i:Nat}(k:inB W H t=Q)(d:Y t=Vl)(m:Dir W H Y t i)(f:dG W H Y i):∀{l:Ln}{o:Nat}{p q:Int},Prc es (o::l) p q->(o::l).getLast? = Z i->NrC W H Y o (l++[t])
 |[],o,p,q,_,c=>by
  have e:o=i:=by simpa using c
  subst e;have w:=aR a f;have x:Y o=false:=by have:=gV (aI.2 f);rwa [Ta]at this
  exact⟨m.sym.1,CU w (by grind) k (by grind),trivial⟩
 |y::l,o,p,q,⟨e,r,v,h⟩,c=>by
  obtain⟨j,b,g,_⟩:=G9.mem r;rw[v]at b g;have f1:Y o=false:=by have:=gV j;rwa [Ta]at this
  have f2:Y y=false:=by have:=gV b;rwa [Ta]at this
  refine⟨g.1,CU (aR a (aI.1 j)) (by grind) (aR a (aI.1 b)) (by grind),OU a n u s G9 k d m f h ?_⟩;rw[<- c];simp
theorem OV (a:1<=W){es:Nat->List LE}(G9:GEs W H Y es){t i:Nat}:∀{l:Ln}{o:Nat}{p q:Int}{m:Ln},Prc es (o::l) p q->(o::l).getLast? = Z i->JnR W H Y o (l++[t]) m->Cp W H Y o m t (p+aP W i t) (q+aO W i t)
 |[],o,p,q,m,⟨d,A⟩,c,⟨f,r,x,w,v⟩=>by
  have e:o=i:=by simpa using c
  subst e;have z:r=[]:=w;subst d A z;rw[v,TU];exact(kd a x).cast U U
 |y::l,o,p,q,m,⟨e,u,d,h⟩,c,⟨f,r,s,n,k⟩=>by
  obtain⟨_,_,_,_,j,g,_⟩:=G9.mem u;rw[d]at j g;have b:(y::l).getLast? = Z i:=by rw[<- c];simp
  rw[k];exact((kd a s).app (OV a G9 h b n)).cast U U
structure Rt (W H:Int) (Y:Bn) (a t:Int) (Vq:Ln) (s d err:Int):Prop where
 bad:ff2 W H Y a t≠0->err=ff2 W H Y a t/\Vq=[]/\s=0/\d=0
 no:ff2 W H Y a t=0->(∀p q,¬Wk (aF W H Y) a t p q)->err=5/\Vq=[]/\s=0/\d=0
 yes:ff2 W H Y a t=0->∀{p q},Wk (aF W H Y) a t p q->err=0/\val s d<=val p q
 path:ff2 W H Y a t=0->err=0->∃l,Vq=a.toNat::l/\Cp W H Y a l t s d/\0<=s/\0<=d/\s<=400/\d<=256
theorem OvR.stops (c:1<=W)(e:W<=16)(g:1<=H)(f:H<=16){N' k:Nat}{st:LSt}(z:1<=N')(y:N'<=6){a t:Nat}(C:inB W H a=Q)(XP:Y a=Vl)(n:inB W H t=Q)(v:Y t=Vl){B A b:Ln}{s d:Int}(w:Rds N' (crs W H Y (W*H).toNat) ⟨λ _=>0,esF W H Y⟩ k st)(u:Cnp W H Y a B)(h:Cnp W H Y t A)
  (hB:nj (crs W H Y (W*H).toNat) ⟨dP (k+1) st,st.es⟩ (gsN W H t) (frI W a B) (frI W t A) b s d Q):NrC W H Y a (b++[t])/\∀l,JnR W H Y a (b++[t]) l->Cp W H Y a l t s d:=by
 have j:=iF (W:=W) (H:=H) (Y:=Y) c;obtain⟨O9,_,hU⟩:=Ns j c e g f y z w;obtain⟨_,b2⟩:=nj.best (j.btw c e g f) (λ _=>rfl) w O9 hU (JM j c e g f y z w n h.2) hB;obtain⟨o,i,r,s0,d0,s1,d1,p,q,c1,c2,c3,I,F,c6,c7⟩:=b2 rfl;subst c3;obtain⟨o0,x,L,rfl,rfl⟩:=(jo c e g f C u.2).1 c1;obtain⟨i0,V,m,rfl,rfl⟩:=(jo c e g f n h.2).1 c2;have f1:Y o=false:=by have:=gV (aI.2 x);rwa [Ta]at this
 refine⟨⟨L.1,CU C (by grind) (aR c x) (by grind),OU c e g f j n v m V F I⟩,λ l X=>?_⟩;obtain⟨l1,r1,T,S,R⟩:=X;have P:=kd c T;have N:=OV c j F I S;rw[R];have e1:=aW W i t;have e2:=aX W i t;exact(P.app N).cast U U
theorem zU.right (w:M)(b:1<=W)(m:W<=16)(o:1<=H)(n:H<=16){N':Nat}(F:1<=N')(C:N'<=6){a t:Int}{Vq:Ln}{s d v:Int}(h:zU W H Y N' a t Vq s d v):Rt W H Y a t Vq s d v:=by
 rcases h with⟨g,rfl,rfl,rfl,rfl⟩|⟨g,h⟩
 exact⟨λ _=>⟨rfl,rfl,rfl,rfl⟩,λ h=>Q8 h g,λ h=>Q8 h g,λ h=>Q8 h g⟩;obtain⟨⟨i,XP⟩,⟨hit,u⟩⟩:=pR g;have ja:0<=a/\a<W*H:=Q1 i;have jt:0<=t/\t<W*H:=Q1 hit;obtain⟨e,rfl⟩:∃e:Nat,a=(e:Int):=⟨a.toNat,U⟩;obtain⟨x,rfl⟩:∃x:Nat,t=(x:Int):=⟨t.toNat,U⟩;rw[Ta]at XP u;have ab:=cA b m o n i hit;have n1:=aJ W e x;have n2:=aG W e x;rcases h with⟨⟨z,N⟩,rfl,⟨l,rfl,c2⟩,rfl,rfl⟩|⟨N,f,⟨k,st,la,lb,y,B,r2,T,A,R,r8,r6,r7⟩,rfl⟩
 refine⟨λ h=>Q8 g h,λ _ h=>?_,λ _ {p q} I=>⟨rfl,fp b I⟩,λ _ _=>⟨l,rfl,kd b c2,n1,n2,U,U⟩⟩;exact Q8 (N.ends b U U).2.2 (h _ _);rw[Ta,Ta]at *;have P:=iF (W:=W) (H:=H) (Y:=Y) b;obtain⟨Fl,c⟩:=QP Y w b m o n;have S:=Sj P b m o n C F B (JM P b m o n C F B hit A.2) R r8;obtain⟨f1,f2⟩:=S.flood P b m o n c i hit T.2 A.2 N;refine⟨λ h=>Q8 g h,λ _ h=>?_,λ _ {p q} I=>?_,λ _ he=>?_⟩;cases f with
 |true=>exact Q8 ((c e i).sound (f1 rfl)) (h _ _)
 |false =>
  obtain⟨r,L⟩:=S.no rfl;exact⟨rfl,r6 rfl,r,L⟩
 obtain⟨s',d',r,L⟩:=(c e i).least I;cases f with
 |false=>rw[f2 rfl]at r;cases r
 |true =>
  rw[f1 rfl]at r;cases r;exact⟨rfl,L⟩
 cases f with
 |false=>exact Q8 he dQ
 |true =>
  obtain⟨l,rfl,j⟩:=r7 rfl;obtain⟨X,V,q3⟩:=(c e i).small (f1 rfl);obtain⟨q4,q5⟩:=cT X V q3;exact⟨l,rfl,(OvR.stops b m o n F C i XP hit u B T A R).2 l j,X,V,q4,q5⟩
end
section
open Go.Shelf
def Tryz.lays169_ren:Go.Shelf.Ren:=⟨λ|169=>87|n=>n,λ|70=>166|9=>9|0=>0|72=>168|37=>80|127=>223|3=>3|5=>5|n=>n,λ|n=>n⟩
theorem Tryz.lays169:Go.Proofs.Lays.n169 Vyj Tryz.lays169_ren:={
 mixed:=kQ
 f169:=func87.trans (Q7 Z kQ)
 t0:=underlying0
 a0:=isAgg0
 z0:=sizeOf0
 v0:=zeroValue0
 t3:=underlying3
 a3:=isAgg3
 z3:=sizeOf3
 v3:=zeroValue3
 t9:=Vyh
 a9:=isAgg9
 z9:=sizeOf9
 v9:=zeroValue9
 t37:=underlying80
 a37:=isAgg80
 z37:=sizeOf80
 v37:=zeroValue80
 t70:=underlying166
 a70:=isAgg166
 z70:=sizeOf166
 v70:=zeroValue166
 t72:=underlying168
 a72:=isAgg168
 z72:=sizeOf168
 v72:=zeroValue168
 t127:=underlying223
 a127:=isAgg223
 z127:=sizeOf223
 v127:=zeroValue223 }
theorem Tryz.Builder_Extra_169:Builder.Extra Vyj Tryz.lays169_ren:={
 sizeBuilder:=kQ
 liesBuilder:=kQ
 t5:=underlying5
 a5:=isAgg5
 z5:=sizeOf5
 v5:=zeroValue5
 infoByte:=kQ
 cellsByte:=kQ
 sizeByte:=kQ
 neB5:=by decide }
open Go.RowKit in
theorem Tryz.Builder_String_any (B b:Nat)(l:Lu)(w:M)(h:Lib.IsBuilder 168 5 B b (Lib.byteCells l) w)(a:B<=G w.heap) :
  Zq 87 #[Pq b] w λ e I=>e=VJ (.string ⟨l.toArray⟩)/\Vw B w I:=Any.Builder_String_any Tryz.lays169 Tryz.Builder_Extra_169 B b l w h a
def Tryz.laysM171_ren:Go.Shelf.Ren:=⟨λ|171=>52|243=>90|246=>140|283=>188|284=>189|285=>190|286=>191|129=>228|317=>227|318=>229|319=>230|320=>231|337=>259|338=>260|n=>n,λ|3=>3|9=>9|2=>2|4=>4|171=>272|0=>0|53=>273|37=>80|5=>5|173=>276|212=>314|51=>310|20=>20|213=>315|46=>266|232=>364|233=>365|n=>n,λ|17=>4|18=>8|19=>9|n=>n⟩
theorem Tryz.laysM171:Go.Proofs.LaysM.n171 Vyj Tryz.laysM171_ren:={
 mixed:=kQ
 f129:=func228.trans (Q7 Z kQ)
 f171:=func52.trans (Q7 Z kQ)
 f243:=func90.trans (Q7 Z kQ)
 f246:=func140.trans (Q7 Z kQ)
 f283:=func188.trans (Q7 Z kQ)
 f284:=func189.trans (Q7 Z kQ)
 f285:=func190.trans (Q7 Z kQ)
 f286:=func191.trans (Q7 Z kQ)
 f317:=func227.trans (Q7 Z kQ)
 f318:=func229.trans (Q7 Z kQ)
 f319:=func230.trans (Q7 Z kQ)
 f320:=func231.trans (Q7 Z kQ)
 f337:=func259.trans (Q7 Z kQ)
 f338:=func260.trans (Q7 Z kQ)
 t0:=underlying0
 a0:=isAgg0
 z0:=sizeOf0
 v0:=zeroValue0
 t2:=underlying2
 a2:=isAgg2
 z2:=sizeOf2
 v2:=zeroValue2
 t3:=underlying3
 a3:=isAgg3
 z3:=sizeOf3
 v3:=zeroValue3
 t4:=underlying4
 a4:=isAgg4
 z4:=Tryz.sizeOf4
 v4:=zeroValue4
 t5:=underlying5
 a5:=isAgg5
 z5:=sizeOf5
 v5:=zeroValue5
 t9:=Vyh
 a9:=isAgg9
 z9:=sizeOf9
 v9:=zeroValue9
 t20:=underlying20
 a20:=isAgg20
 z20:=sizeOf20
 v20:=zeroValue20
 t37:=underlying80
 a37:=isAgg80
 z37:=sizeOf80
 v37:=zeroValue80
 t46:=underlying266
 a46:=isAgg266
 z46:=sizeOf266
 v46:=zeroValue266
 t51:=underlying310
 a51:=isAgg310
 z51:=sizeOf310
 v51:=zeroValue310
 t53:=underlying273
 a53:=isAgg273
 z53:=sizeOf273
 v53:=zeroValue273
 t171:=underlying272
 a171:=isAgg272
 z171:=sizeOf272
 v171:=zeroValue272
 t173:=underlying276
 a173:=isAgg276
 z173:=sizeOf276
 v173:=zeroValue276
 t212:=underlying314
 a212:=isAgg314
 z212:=sizeOf314
 v212:=zeroValue314
 t213:=underlying315
 a213:=isAgg315
 z213:=sizeOf315
 t232:=underlying364
 a232:=isAgg364
 z232:=sizeOf364
 v232:=zeroValue364
 t233:=underlying365
 a233:=isAgg365
 z233:=sizeOf365
 v233:=zeroValue365
 g17:=kQ
 g18:=kQ
 g19:=kQ
 i0:=kQ
 i2:=kQ
 i3:=kQ
 i4:=kQ
 i5:=kQ
 i9:=kQ
 i20:=kQ
 i37:=kQ
 i46:=kQ
 i51:=kQ
 i53:=kQ
 i171:=kQ
 i173:=kQ
 i212:=kQ
 i232:=kQ
 i233:=kQ
 m17:=kQ
 m18:=kQ
 m19:=by kernel_rfl }
open Go.RowKit Go.Sort Go.Lib in
theorem Tryz.strconv_Itoa (n : Int) (d : -9223372036854775808 ≤ n) (c : n ≤ 9223372036854775807) (w : M) (a : Lib.TabIs Vyj w "internal/strconv.uint64pow10" .u64 Lib.pow10Tab) :
  Zq 52 #[J n] w λ e I=>e=VJ (.string ⟨(Lib.itoa n).toArray⟩)/\∃k b,I=grow (w.drewN k) b:=Any.strconv_Itoa Tryz.laysM171 n d c w a
def Tryz.laysC172_ren:Go.Shelf.Ren:=⟨λ|172=>126|244=>175|245=>176|247=>218|279=>219|280=>220|281=>221|282=>222|287=>256|316=>257|171=>52|205=>258|321=>284|322=>285|243=>90|246=>140|283=>188|284=>189|285=>190|286=>191|129=>228|317=>227|318=>229|319=>230|320=>231|337=>259|338=>260|n=>n,λ|9=>9|3=>3|75=>25|76=>107|4=>4|5=>5|167=>304|37=>80|0=>0|85=>305|2=>2|168=>307|53=>273|175=>340|46=>266|210=>343|127=>223|145=>363|143=>361|21=>21|171=>272|173=>276|212=>314|51=>310|20=>20|213=>315|232=>364|233=>365|80=>100|n=>n,λ|15=>6|16=>7|17=>4|18=>8|19=>9|n=>n⟩
theorem Tryz.laysC172:Go.Proofs.LaysC.n172 Vyj Tryz.laysC172_ren:={
 mixed:=kQ
 f129:=func228.trans (Q7 Z kQ)
 f171:=func52.trans (Q7 Z kQ)
 f172:=func126.trans (Q7 Z kQ)
 f205:=func258.trans (Q7 Z kQ)
 f243:=func90.trans (Q7 Z kQ)
 f244:=func175.trans (Q7 Z kQ)
 f245:=func176.trans (Q7 Z kQ)
 f246:=func140.trans (Q7 Z kQ)
 f247:=func218.trans (Q7 Z kQ)
 f279:=func219.trans (Q7 Z kQ)
 f280:=func220.trans (Q7 Z kQ)
 f281:=func221.trans (Q7 Z kQ)
 f282:=func222.trans (Q7 Z kQ)
 f283:=func188.trans (Q7 Z kQ)
 f284:=func189.trans (Q7 Z kQ)
 f285:=func190.trans (Q7 Z kQ)
 f286:=func191.trans (Q7 Z kQ)
 f287:=func256.trans (Q7 Z kQ)
 f316:=func257.trans (Q7 Z kQ)
 f317:=func227.trans (Q7 Z kQ)
 f318:=func229.trans (Q7 Z kQ)
 f319:=func230.trans (Q7 Z kQ)
 f320:=func231.trans (Q7 Z kQ)
 f321:=func284.trans (Q7 Z kQ)
 f322:=func285.trans (Q7 Z kQ)
 f337:=func259.trans (Q7 Z kQ)
 f338:=func260.trans (Q7 Z kQ)
 t0:=underlying0
 a0:=isAgg0
 z0:=sizeOf0
 v0:=zeroValue0
 t2:=underlying2
 a2:=isAgg2
 z2:=sizeOf2
 v2:=zeroValue2
 t3:=underlying3
 a3:=isAgg3
 z3:=sizeOf3
 v3:=zeroValue3
 t4:=underlying4
 a4:=isAgg4
 z4:=Tryz.sizeOf4
 v4:=zeroValue4
 t5:=underlying5
 a5:=isAgg5
 z5:=sizeOf5
 v5:=zeroValue5
 t9:=Vyh
 a9:=isAgg9
 z9:=sizeOf9
 v9:=zeroValue9
 t20:=underlying20
 a20:=isAgg20
 z20:=sizeOf20
 v20:=zeroValue20
 t21:=underlying21
 a21:=isAgg21
 z21:=sizeOf21
 v21:=zeroValue21
 t37:=underlying80
 a37:=isAgg80
 z37:=sizeOf80
 v37:=zeroValue80
 t46:=underlying266
 a46:=isAgg266
 z46:=sizeOf266
 v46:=zeroValue266
 t51:=underlying310
 a51:=isAgg310
 z51:=sizeOf310
 v51:=zeroValue310
 t53:=underlying273
 a53:=isAgg273
 z53:=sizeOf273
 v53:=zeroValue273
 t75:=underlying25
 a75:=isAgg25
 z75:=sizeOf25
 v75:=zeroValue25
 t76:=underlying107
 a76:=isAgg107
 z76:=sizeOf107
 v76:=zeroValue107
 t85:=underlying305
 a85:=isAgg305
 z85:=sizeOf305
 v85:=zeroValue305
 t127:=underlying223
 a127:=isAgg223
 z127:=sizeOf223
 v127:=zeroValue223
 t143:=underlying361
 a143:=isAgg361
 z143:=sizeOf361
 v143:=zeroValue361
 t145:=underlying363
 a145:=isAgg363
 z145:=sizeOf363
 v145:=zeroValue363
 t167:=underlying304
 a167:=isAgg304
 z167:=sizeOf304
 v167:=zeroValue304
 t168:=underlying307
 a168:=isAgg307
 z168:=sizeOf307
 v168:=zeroValue307
 t171:=underlying272
 a171:=isAgg272
 z171:=sizeOf272
 v171:=zeroValue272
 t173:=underlying276
 a173:=isAgg276
 z173:=sizeOf276
 v173:=zeroValue276
 t175:=underlying340
 a175:=isAgg340
 z175:=sizeOf340
 v175:=zeroValue340
 t210:=underlying343
 a210:=isAgg343
 z210:=sizeOf343
 v210:=zeroValue343
 t212:=underlying314
 a212:=isAgg314
 z212:=sizeOf314
 v212:=zeroValue314
 t213:=underlying315
 a213:=isAgg315
 z213:=sizeOf315
 t232:=underlying364
 a232:=isAgg364
 z232:=sizeOf364
 v232:=zeroValue364
 t233:=underlying365
 a233:=isAgg365
 z233:=sizeOf365
 v233:=zeroValue365
 g15:=kQ
 g16:=kQ
 g17:=kQ
 g18:=kQ
 g19:=kQ
 t80:=underlying100
 a80:=isAgg100
 z80:=sizeOf100
 v80:=zeroValue100
 i0:=kQ
 i2:=kQ
 i3:=kQ
 i4:=kQ
 i5:=kQ
 i9:=kQ
 i20:=kQ
 i21:=kQ
 i37:=kQ
 i46:=kQ
 i51:=kQ
 i53:=kQ
 i75:=kQ
 i76:=kQ
 i80:=kQ
 i85:=kQ
 i127:=kQ
 i143:=kQ
 i145:=kQ
 i167:=kQ
 i168:=kQ
 i171:=kQ
 i173:=kQ
 i175:=kQ
 i210:=kQ
 i212:=kQ
 i232:=kQ
 i233:=kQ
 m15:=kQ
 m16:=kQ
 m17:=kQ
 m18:=kQ
 m19:=kQ
 c0:=kQ
 c2:=kQ
 c3:=kQ
 c4:=kQ
 c5:=kQ
 c9:=kQ
 c20:=kQ
 c21:=kQ
 c37:=kQ
 c46:=kQ
 c51:=kQ
 c53:=kQ
 c75:=kQ
 c76:=kQ
 c80:=kQ
 c85:=kQ
 c127:=kQ
 c143:=kQ
 c145:=kQ
 c167:=kQ
 c168:=kQ
 c171:=kQ
 c173:=kQ
 c175:=kQ
 c210:=kQ
 c212:=kQ
 c213:=kQ
 c232:=kQ
 c233:=by kernel_rfl }
open Go.RowKit in
theorem Tryz.strconv_Atoi_ok (s:ByteArray)(a:s.size<=9223372036854775806)(v:Int)(h:Lib.atoiAll s.data.toList=.ok v)(w:M) :
  Zq 126 #[.string s] w λ e I=>e=VJ (.tuple #[J v,.nilIface])/\(I=w\/∃t,I=Lib.bytesWorld w 5 t):=Any.strconv_Atoi_ok Tryz.laysC172 s a v h w
open Go.RowKit in
theorem Tryz.strconv_Atoi_syntax (s:ByteArray)(c:s.size<=281474976710656)(h:Lib.atoiAll s.data.toList=.«syntax»)(a:Vr)(w:M)(g:Cq w 6 0 a)(b:a=.nilIface\/∃d f,a=.iface d f) :
  Zq 126 #[.string s] w λ e I=>∃N,e=VJ (.tuple #[J (0),.iface 307 (Pq N)])/\G w.heap<=N/\I.heap[N]? = Z (VP #[.string ⟨#[65,116,111,105]⟩,.string s,a] 343 (0,0))/\Bq w I:=Any.strconv_Atoi_syntax Tryz.laysC172 s c h a w g b
open Go.RowKit in
theorem Tryz.strconv_Atoi_range (s:ByteArray)(c:s.size<=281474976710656)(h:Lib.atoiAll s.data.toList=.range)(a:Vr)(w:M)(g:Cq w 7 0 a)(b:a=.nilIface\/∃d f,a=.iface d f) :
  Zq 126 #[.string s] w λ e I=>∃N,e=VJ (.tuple #[J (Lib.atoiSat s.data.toList),.iface 307 (Pq N)])/\G w.heap<=N/\I.heap[N]? = Z (VP #[.string ⟨#[65,116,111,105]⟩,.string s,a] 343 (0,0))/\Bq w I:=Any.strconv_Atoi_range Tryz.laysC172 s c h a w g b
def Tryz.lays219_ren:Go.Shelf.Ren:=⟨λ|219=>135|217=>182|225=>183|224=>184|267=>185|266=>224|314=>225|n=>n,λ|9=>9|3=>3|4=>4|5=>5|46=>266|146=>311|51=>310|n=>n,λ|1=>0|n=>n⟩
theorem Tryz.lays219:Go.Proofs.Lays.n219 Vyj Tryz.lays219_ren:={
 mixed:=kQ
 f217:=func182.trans (Q7 Z kQ)
 f219:=func135.trans (Q7 Z kQ)
 f224:=func184.trans (Q7 Z kQ)
 f225:=func183.trans (Q7 Z kQ)
 f266:=func224.trans (Q7 Z kQ)
 f267:=func185.trans (Q7 Z kQ)
 f314:=func225.trans (Q7 Z kQ)
 t3:=underlying3
 a3:=isAgg3
 z3:=sizeOf3
 v3:=zeroValue3
 t4:=underlying4
 a4:=isAgg4
 z4:=Tryz.sizeOf4
 v4:=zeroValue4
 t5:=underlying5
 a5:=isAgg5
 z5:=sizeOf5
 v5:=zeroValue5
 t9:=Vyh
 a9:=isAgg9
 z9:=sizeOf9
 v9:=zeroValue9
 t46:=underlying266
 a46:=isAgg266
 z46:=sizeOf266
 v46:=zeroValue266
 t51:=underlying310
 a51:=isAgg310
 z51:=sizeOf310
 v51:=zeroValue310
 t146:=underlying311
 a146:=isAgg311
 z146:=sizeOf311
 v146:=zeroValue311
 g1:=by kernel_rfl }
open Go.RowKit Go.Lib in
theorem Tryz.stringslite_Index_one (s:ByteArray)(c:UInt8)(w:M) :
  Eq9 135 #[.string s,.string ⟨#[c]⟩] w (J (Lib.indexByte s.data.toList c)):=Any.stringslite_Index_one Tryz.lays219 s c w
def Tryz.lays101_ren:Go.Shelf.Ren:=⟨λ|101=>127|208=>177|206=>223|n=>n,λ|9=>9|4=>4|3=>3|n=>n,λ|n=>n⟩
theorem Tryz.lays101:Go.Proofs.Lays.n101 Vyj Tryz.lays101_ren:={
 mixed:=kQ
 f101:=func127.trans (Q7 Z kQ)
 f206:=func223.trans (Q7 Z kQ)
 f208:=func177.trans (Q7 Z kQ)
 t3:=underlying3
 a3:=isAgg3
 z3:=sizeOf3
 v3:=zeroValue3
 t4:=underlying4
 a4:=isAgg4
 z4:=Tryz.sizeOf4
 v4:=zeroValue4
 t9:=Vyh
 a9:=isAgg9
 z9:=sizeOf9
 v9:=zeroValue9 }
open Go.RowKit Go.Lib in
theorem Tryz.strings_TrimPrefix (s p:ByteArray)(w:M) :
  Eq9 127 #[.string s,.string p] w (.string ⟨(Lib.trimPrefix s.data.toList p.data.toList).toArray⟩):=Any.strings_TrimPrefix Tryz.lays101 s p w
end
theorem sizeBuilder:(prog.info? 168).map (·.size)=Z 2:=kQ
theorem liesBuilder:liesAt Vyj prog.depth 168 (2/prog.cellsOf 168) 0 168 1=true:=kQ
theorem infoByte:(prog.info? 5).map (λ i=>(i.zero,i.size,i.bytes))=Z (Z (.int .u8 0),1,1):=kQ
theorem CV (b:Nat)(w:M)(d:Cq w b 0 (Pq b)) :
  Eq9 133 #[Pq b] w (.tuple #[]):=by
 obtain⟨j,a,_⟩:=TK.1 sizeBuilder;have c:=λ w=>Lib.run_neq_ptr_same w (O b 0) underlying166 a;go_enter func133,ntmps133;go_wp2;go_end0;exact⟨rfl,rfl⟩
theorem zV (b:Nat)(w:M)(i:Cq w b 0 (.pointer UP))(a:w.shape? b=Z (168,2))(f:w.frozen? (O b 0)=Vl) :
  Zq 133 #[Pq b] w λ e I=>e=VJ (.tuple #[])/\I=C' w (O b 0) (Pq b):=by
 obtain⟨j,d,c⟩:=TK.1 sizeBuilder;have h:=Lib.run_to_unsafe w (O b 0) underlying166 underlying263 d (by rw[c];decide) a (Nat.zero_lt_succ 1);have g:=Lib.run_from_unsafe w (O b 0) underlying263 underlying166 d a liesBuilder;go_enter func133,ntmps133;go_wp2;rw[run_callFunc_extern func180 kQ kQ kQ (e:=Extern.AbiNoEscape.same) kQ];rw[Lib.run_noEscape];simp only[Result.andThen];rw[Oper.upon_value];go_wp2;go_end0;exact⟨rfl,rfl⟩
theorem ub (B b:Nat)(d:List Vr)(w:M)(h:Lib.IsBuilder 168 5 B b d w) :
  Zq 133 #[Pq b] w λ e I=>e=VJ (.tuple #[])/\Lib.BuilderAt 168 5 B b (Pq b) d I/\Vw B w I:=by
 rcases h with h|h
 exact(zV b w h.cell0 h.shape h.frozen0).mono λ e I ⟨c,a⟩=>⟨c,by rw[a];exact h.used _,by rw[a];exact(Below.refl B w).setCell (p:=O b 0) h.1 _⟩;exact(CV b w h.cell0).mono λ e I ⟨c,a⟩=>⟨c,by rw[a];exact h,by rw[a];exact Below.refl B w⟩
theorem Gn (B b:Nat)(f:List Vr)(c:Int)(w:M)(h:Lib.IsBuilder 168 5 B b f w)(y:K f+1<=1000000)(WQ:B<=G w.heap) :
  Zq 153 #[Pq b,.int .u8 c] w λ e I=>e=VJ .nilIface/\Lib.IsBuilder 168 5 B b (f++[.int .u8 c]) I/\Vw B w I:=by
 obtain⟨L,P,t⟩:=TK.1 infoByte;simp only[Prod.mk.injEq]at t;obtain⟨X,W,V⟩:=t;go_enter func153,ntmps153;go_wp2_with (go_at_call 133;refine(ub B b f _ h).mono ?_);rintro e m ⟨rfl,R,o⟩;obtain⟨z,v,r,d,Y⟩:=R;obtain⟨j,l,rfl⟩:∃S a,v=.slice S (K f) a:=by
  rcases d.2 with⟨n,A⟩|⟨g,a,s,n,_⟩
  ·exact⟨UP,0,by rw[n,A]⟩
  ·exact⟨_,_,n⟩
 have sz:=o.size;have c0:D m (O b 0)=Z (Pq b):=by rw[Lib.cell_of_heap r];rfl
 have c1:D m (O b 1)=Z (.slice j (K f) l):=by rw[Lib.cell_of_heap r];rfl
 have VS:b<G m.heap:=(Array.getElem?_eq_some_iff.1 r).1;go_wp2_with (at_builtin;refine wpList_append_own _ rfl _ _ 80 rfl B 5 L (.int .u8 0) 1 1 underlying80 P X W V rfl dQ _ _ _ rfl (d.alloc _) (O (G m.heap) 0) 1 1 [.int .u8 c] rfl rfl ?c1 ?c2 ?c3 ?c4 ?c5 ?_)
 case c1=>exact cell_one_new _ _ _
 case c2=>intro u x;simp at x;subst x;rfl
 case c3=>unfold maxLen;omega
 case c4=>omega
 case c5=>simp;omega
 intro H q C F _;have i:q.heap[b]? = Z (VP #[Pq b,.slice j (K f) l] 168 (0,0)):=by
  rw[F.block b sU (λ e=>Y e.symm),Lib.alloc_old m _ b VS];exact r
 have d0:D q (O b 0)=Z (Pq b):=by rw[Lib.cell_of_heap i];rfl
 have d1:D q (O b 1)=Z (.slice j (K f) l):=by rw[Lib.cell_of_heap i];rfl
 have f1:q.frozen? (O b 1)=false:=Lib.frozen_of_heap i 1;obtain⟨g,a,rfl⟩:∃g a,H=.slice (Z ⟨g,0,UP⟩) (K f+1) a:=by
  rcases C.2 with⟨_,A⟩|⟨g,a,s,n,_⟩
  ·omega
  ·exact⟨g,a,n⟩
 go_wp2;go_ret;refine⟨rfl,.inr (Lib.BuilderAt.put (T:=168) (e:=5) z i (bs':=f++[.int .u8 c]) (by simpa using C) dQ),?_⟩;exact((o.alloc U _).grown F sU (λ k N=>(d.lt k N).1)).setCell (p:=O b 1) z _
theorem zW (B b:Nat)(f:List Vr)(s:ByteArray)(w:M)(h:Lib.IsBuilder 168 5 B b f w)(y:K f+s.size<=1000000)(WQ:B<=G w.heap) :
  Zq 85 #[Pq b,.string s] w λ e I=>e=VJ (.tuple #[J s.size,.nilIface])/\Lib.IsBuilder 168 5 B b (f++Lib.strCells s) I/\Vw B w I:=by
 obtain⟨H,N,x⟩:=TK.1 infoByte;simp only[Prod.mk.injEq]at x;obtain⟨W,V,S⟩:=x;go_enter func85,ntmps85;go_wp2_with (go_at_call 133;refine(ub B b f _ h).mono ?_);rintro e r ⟨rfl,P,m⟩;obtain⟨z,v,q,c,X⟩:=P;obtain⟨j,l,rfl⟩:∃o a,v=.slice o (K f) a:=by
  rcases c.2 with⟨i,R⟩|⟨g,a,t,i,_⟩
  ·exact⟨UP,0,by rw[i,R]⟩
  ·exact⟨_,_,i⟩
 have sz:=m.size;have c0:D r (O b 0)=Z (Pq b):=by rw[Lib.cell_of_heap q];rfl
 have c1:D r (O b 1)=Z (.slice j (K f) l):=by rw[Lib.cell_of_heap q];rfl
 have Y:b<G r.heap:=(Array.getElem?_eq_some_iff.1 q).1;go_wp2_with (at_builtin;refine Lib.wpList_append_own_string _ rfl _ _ 80 9 rfl B 5 H underlying80 Vyh N W V S _ _ _ rfl c s rfl ?c3 ?c4 ?c5 ?_)
 case c3=>unfold maxLen;omega
 case c4=>omega
 case c5=>omega
 intro F n A C _;have d:n.heap[b]? = Z (VP #[Pq b,.slice j (K f) l] 168 (0,0)):=by
  rw[C.block b Y (λ e=>X e.symm)];exact q
 have d0:D n (O b 0)=Z (Pq b):=by rw[Lib.cell_of_heap d];rfl
 have d1:D n (O b 1)=Z (.slice j (K f) l):=by rw[Lib.cell_of_heap d];rfl
 have f1:n.frozen? (O b 1)=false:=Lib.frozen_of_heap d 1;obtain⟨o,u,a,rfl⟩:∃o u a,F=.slice o u a:=by
  rcases A.2 with⟨i,_⟩|⟨g,a,t,i,_⟩
  ·exact⟨_,_,_,i⟩
  ·exact⟨_,_,_,i⟩
 go_wp2;go_ret2;refine⟨rfl,.inr (Lib.BuilderAt.put (T:=168) (e:=5) z d (bs':=f++Lib.strCells s) (by simpa [Lib.strCells_length]using A) dQ),?_⟩;exact(m.grown C U (λ k L=>(c.lt k L).1)).setCell (p:=O b 1) z _
section
open Go.Lib
theorem uc (c:UInt8):∀(l:Lu) (a:Nat),parseUint10 a (l++[c])=match parseUint10 a l with|.ok u=>parseUint10 u [c]|.syntax=>.syntax|.range=>.range
 |[],_=>rfl
 |d::r,a=>by
  simp only[Uw,parseUint10];split;split;rfl;split;rfl;exact uc c r _;rfl
theorem eo (h:n<10):(UInt8.ofNat (48+n)).toNat=48+n:=by grind [UInt8.toNat_ofNat']
theorem jP (h:¬n<10):decDigits n=decDigits (n/10)++[UInt8.ofNat (48+n%10)]:=by grind [decDigits]
theorem wK (n:Nat)(h:n<18446744073709551616):parseUint10 0 (decDigits n)=.ok n:=by
 induction n using Vn with
 |_ n b =>
  by_cases a:n<10;rw[decDigits_one a];simp only[parseUint10,eo a];rw[Q5 U,Q6 U,Q6 U]
  congr 1
  omega;rw[jP a,uc,b (n/10) U U];have c:n%10<10:=U;simp only[parseUint10,eo c];rw[Q5 U,Q6 U,Q6 U]
  congr 1
  omega
def isD (c:UInt8):Prop:=48<=c.toNat/\c.toNat<=57
theorem nT (n:Nat):∀c∈decDigits n,isD c:=by
 induction n using Vn with
 |_ n b =>
  intro c d;by_cases a:n<10
  grind [decDigits_one,Tv,isD,eo]
  grind [jP,Tv,isD,eo]
theorem mH (n:Nat):decDigits n≠[]:=by grind [Go.Lib.decDigits_length,Go.Lib.nDigits_pos]
theorem ud (n:Nat):∃c r,decDigits n=c::r/\isD c:=by
 cases h:decDigits n with
 |nil=>exact Q8 h (mH n)
 |cons c r=>exact⟨c,r,rfl,nT n c (by grind)⟩
theorem kf (v:Int)(j:-9223372036854775808<=v)(i:v<=9223372036854775807):atoiAll (itoa v)=.ok v:=by
 unfold itoa;by_cases d:v<0;rw[Q5 d];have a:parseMag (decDigits v.natAbs)=.ok v.natAbs:=by grind [parseMag,mH,wK]
 simp only[atoiAll];have b:(45:UInt8).toNat=45:=rfl;rw[b,Q5 (Or.inr rfl),a];simp only[not_true,false_and,if_false,true_and,if_true];rw[Q6 U]
 congr 1
 omega;rw[Q6 d];obtain⟨c,r,f,e⟩:=ud v.toNat;have a:parseMag (decDigits v.toNat)=.ok v.toNat:=by grind [parseMag,mH,wK]
 rw[f]at a ⊢;unfold isD at e;simp only[atoiAll];have h:¬(c.toNat=43\/c.toNat=45):=U;have g:¬c.toNat=45:=U;rw[Q6 h,a];simp only[g,not_false_eq_true,true_and,false_and,if_false];rw[Q6 U]
 congr 1
 omega
theorem ue (w x:Lu):trimPrefix (w++x) w=x:=by
 unfold trimPrefix hasPrefix;rw[Q5 (by grind)];simp
def dM (s word:Lu):Option Int :=
 match atoiAll (trimPrefix s word) with
 |.ok v=>if s=word++itoa v then Z v else UP
 |_=>UP
theorem ft {s word:Lu}{v:Int}:dM s word=Z v↔(s=word++itoa v/\-9223372036854775808<=v/\v<=9223372036854775807):=by grind [dM,Option.some.injEq,Go.Lib.atoiAll_bounds,ue,kf]
def cE (acc:Nat) (l:Lu):Nat:=l.foldl (λ a c=>a*10+(c.toNat-48)) acc
theorem kg (a:Nat):cE a []=a:=List.foldl_nil
theorem gN (a:Nat)(c:UInt8)(r:Lu):cE a (c::r)=cE (a*10+(c.toNat-48)) r:=List.foldl_cons
theorem pw (c:UInt8)(l:Lu)(a:Nat):cE a (l++[c])=cE a l*10+(c.toNat-48):=by grind [cE]
theorem iZ:∀(l:Lu) (a:Nat),cE a l=a*10 ^ K l+cE 0 l
 |[],a=>by simp[kg]
 |c::r,a=>by
  simp only[gN,Tk];rw[iZ r (a*10+(c.toNat-48)),iZ r (0*10+(c.toNat-48)),Nat.pow_succ];generalize 10 ^ K r=P;rw[Nat.add_mul,Nat.zero_mul,Tm,U8 P 10,Nat.mul_assoc];omega
theorem lF:∀(l:Lu),(∀c∈l,isD c)->cE 0 l<10 ^ K l
 |[],_=>by simp[kg]
 |c::r,h=>by
  have d:=lF r λ x a=>h x (Tj _ a);have b:isD c:=h c Tp;unfold isD at b;simp only[gN,Tk];rw[iZ,Nat.pow_succ,Nat.zero_mul,Tm];generalize 10 ^ K r=P at *;have:(c.toNat-48)*P<=9*P:=UN _ U;omega
theorem yB (c:UInt8)(r:Lu)(h:49<=c.toNat):10 ^ K r<=cE 0 (c::r):=by
 simp only[gN];rw[iZ,Nat.zero_mul,Tm];generalize 10 ^ K r=P;have:1*P<=(c.toNat-48)*P:=UN _ U;omega
theorem mI (n:Nat):cE 0 (decDigits n)=n:=by
 induction n using Vn with
 |_ n b =>
  by_cases a:n<10;rw[decDigits_one a];simp only[gN,kg,eo a];omega
  grind [jP,pw,eo]
theorem uf:∀(n:Nat),1<=n->∃c r,decDigits n=c::r/\49<=c.toNat:=by
 intro n
 induction n using Vn with
 |_ n b =>
  intro f;by_cases a:n<10;exact⟨_,_,decDigits_one a,by rw[eo a];omega⟩;obtain⟨c,r,e,d⟩:=b (n/10) U U;exact⟨c,r++[UInt8.ofNat (48+n%10)],by rw[jP a,e];rfl,d⟩
theorem qe:∀(k:Nat) (d:Lu),K d=k+1->(∀c∈d,isD c)->(2<=K d->∀c r,d=c::r->49<=c.toNat)->decDigits (cE 0 d)=d
 |0,d,f,b,_=>by
  obtain⟨c,rfl⟩:∃c,d=[c]:=List.length_eq_one_iff.1 f;have g:=b c Tp;unfold isD at g;simp only[gN,kg];rw[decDigits_one U]
  congr 1
  apply UInt8.toNat_inj.1;rw[eo U];omega
 |k+1,d,f,b,m=>by
  obtain⟨i,c,rfl⟩:∃i c,d=i++[c]:=⟨d.dropLast,d.getLast (by grind),(List.dropLast_concat_getLast _).symm⟩;have g:=b c sQ;unfold isD at g;have h:K i=k+1:=by simpa using f
  obtain⟨a,r,rfl⟩:∃a r,i=a::r:=by
   cases i with
   |nil=>simp at h
   |cons a r=>exact⟨a,r,rfl⟩
  have o:49<=a.toNat:=m sQ a (r++[c]) rfl;have j:=qe k (a::r) h (λ x l=>b x (List.mem_append_left _ l)) λ _ q p e=>by grind
  have n:=yB a r o;have s:1<=10 ^ K r:=Nat.one_le_pow _ _ dQ;rw[pw];rw[jP U];rw[show (cE 0 (a::r)*10+(c.toNat-48))/10=cE 0 (a::r) by omega,j]
  congr 2
  apply UInt8.toNat_inj.1;rw[eo U];omega
theorem wL:∀(a b:Lu),K a=K b->(∀c∈a,isD c)->(∀c∈b,isD c)->(Op.bytesLess a b=Q↔cE 0 a<cE 0 b)
 |[],[],_,_,_=>by simp[Op.bytesLess]
 |[],_::_,h,_,_=>by simp at h
 |_::_,[],h,_,_=>by simp at h
 |x::a,y::b,h,g,f=>by
  have e:K a=K b:=by simpa using h
  have j:=wL a b e (λ c d=>g c (Tj _ d)) (λ c d=>f c (Tj _ d));have i:=lF a λ c d=>g c (Tj _ d);have o:=lF b λ c d=>f c (Tj _ d);have l:=g x Tp;have k:=f y Tp;unfold isD at l k;simp only[Op.bytesLess,gN];rw[iZ a,iZ b,e,Nat.zero_mul,Tm,Tm];rw[e]at i;generalize 10 ^ K b=P at *;simp only[Vo,TB,decide_eq_true_eq,beq_iff_eq,j,UInt8.lt_iff_toNat_lt];rcases Vs x.toNat y.toNat with p|n|m
  have:(x.toNat-48+1)*P<=(y.toNat-48)*P:=UN _ U;rw[Nat.add_mul]at this;constructor;intro _;omega
  grind
  grind [UInt8.toNat_inj]
  have:(y.toNat-48+1)*P<=(x.toNat-48)*P:=UN _ U;rw[Nat.add_mul]at this;constructor
  grind
  intro h;omega
def ik (below:Bool):Lu:=if below then [57,50,50,51,51,55,50,48,51,54,56,53,52,55,55,53,56,48,56] else [57,50,50,51,51,55,50,48,51,54,56,53,52,55,55,53,56,48,55]
def sh (below:Bool):Nat:=if below then 9223372036854775808 else 9223372036854775807
def fT (t:Lu) (below:Bool):Bool:=decide (K t<19) || (decide (K t=19)&&(Op.bytesLess t (ik below) || t==ik below))
theorem rE (b:Bool):cE 0 (ik b)=sh b:=by cases b<;>decide
theorem zX (b:Bool):K (ik b)=19:=by cases b<;>rfl
theorem zY (b:Bool):∀c∈ik b,isD c:=by
 cases b<;>(unfold ik isD;simp)
theorem ug (t:Lu)(a:Bool)(d:∀c∈t,isD c)(g:2<=K t->∀c r,t=c::r->49<=c.toNat):fT t a=Q↔cE 0 t<=sh a:=by
 have o:10 ^ 18<=sh a/\sh a<10 ^ 19:=by cases a<;>decide
 unfold fT;rw[Vo,TB,Vo,decide_eq_true_eq,decide_eq_true_eq,beq_iff_eq];rcases Vs (K t) 19 with h|h|h
 have l:=lF t d;have k:10 ^ K t<=10 ^ 18:=UM dQ U;constructor;intro _;omega
 grind
 have b:K t=K (ik a):=by rw[zX,h]
 rw[wL t (ik a) b d (zY a),rE];constructor
 grind [rE]
 intro i;refine Or.inr ⟨h,?_⟩;rcases Nat.lt_or_ge (cE 0 t) (sh a) with j|p
 exact Or.inl j;refine Or.inr ?_;have e:cE 0 t=cE 0 (ik a):=by rw[rE];omega
 have n:=qe 18 t h d g;have m:=qe 18 (ik a) (zX a) (zY a) (by
  cases a<;>(intro _ c r f;unfold ik at f;simp at f;rw[<- f.1];decide))
 rw[<- n,<- m,e];obtain⟨c,r,rfl⟩:∃c r,t=c::r:=by
  cases t with
  |nil=>simp at h
  |cons c r=>exact⟨c,r,rfl⟩
 have l:=yB c r (g U c r rfl);have k:10 ^ 19<=10 ^ K r:=UM dQ (by simp at h;omega);constructor
 grind
 intro _;omega
end
section
open Go.Lib
def eU:Lu->Option (Lu×Lu)
 |[]=>UP
 |c::r=>if c=10 then Z ([],r) else match eU r with|none=>UP|some p=>Z (c::p.1,p.2)
theorem kh:∀{s a b:Lu},eU s=Z (a,b)->s=a++10::b/\10∉a
 |[],_,_,h=>by simp[eU]at h
 |c::r,a,b,h=>by
  unfold eU at h;split at h
  grind
  rename_i g
  split at h;cases h
  rename_i p d
  simp at h;obtain⟨rfl,rfl⟩:=h;obtain⟨e,f⟩:=kh (s:=r) (a:=p.1) (b:=p.2) d;refine⟨by rw[Uw,<- e],?_⟩;simp only[TD,not_or];exact⟨λ h=>g h.symm,f⟩
theorem wM:∀{s:Lu},eU s=UP->10∉s
 |[],_=>by simp
 |c::r,h=>by
  unfold eU at h;split at h;cases h
  rename_i b
  split at h
  rename_i a
  simp only[TD,not_or];exact⟨λ h=>b h.symm,wM a⟩;cases h
def eL:Lu:=[116,121,112,101,32,111,99,116,105,108,101]
def aZ:Lu:=[104,101,105,103,104,116,32]
def bR:Lu:=[119,105,100,116,104,32]
def iG:Lu:=[109,97,112]
def jq (c:UInt8):Option Bool :=
 if c=46\/c=71\/c=83 then Z Vl else if c=64\/c=79\/c=84\/c=87 then Z Q else UP
def eM:Lu->Option (List Bool)
 |[]=>Z []
 |c::r=>match jq c with
  |none=>UP
  |some b=>match eM r with
   |none=>UP
   |some l=>Z (b::l)
def dN (w:Nat):Nat->Lu->Option (List Bool)
 |0,r=>if r=[] then Z [] else UP
 |k+1,r=>match eU r with
  |none=>UP
  |some p=>if K p.1=w then (match eM p.1 with
   |none=>UP
   |some a=>match dN w k p.2 with
    |none=>UP
    |some l=>Z (a++l)) else UP
theorem kn:∀{l:Lu}{a:List Bool},eM l=Z a->K a=K l
 |[],a,h=>by simp[eM]at h;subst h;rfl
 |c::r,a,h=>by
  unfold eM at h;split at h;cases h;split at h;cases h
  rename_i b _ l d
  simp at h;subst h;simp[kn d]
theorem wN {w:Nat}:∀{k:Nat}{r:Lu}{a:List Bool},dN w k r=Z a->K a=k*w
 |0,r,a,h=>by
  unfold dN at h;split at h
  grind
  cases h
 |k+1,r,a,h=>by
  unfold dN at h;split at h;cases h;split at h
  rename_i p _ c
  split at h;cases h
  rename_i x b
  split at h;cases h
  rename_i l d
  simp at h;subst h;rw[Td,kn b,c,wN d,UX];omega;cases h
inductive Read where
 |bad (n:Nat)
 |good (W H:Nat) (cs:List Bool)
def jr (s:Lu):Option (Lu×Lu×Lu×Lu×Lu) :=
 match eU s with
 |none=>UP
 |some (a,s1)=>match eU s1 with
  |none=>UP
  |some (b,s2)=>match eU s2 with
   |none=>UP
   |some (c,s3)=>match eU s3 with
    |none=>UP
    |some (d,s4)=>Z (a,b,c,d,s4)
def sizeOf4 (a b c d:Lu):Oi :=
 match dM b aZ with
 |none=>UP
 |some h=>match dM c bR with
  |none=>UP
  |some w=>if a=eL/\d=iG then Z (w,h) else UP
def qf (n:Int):Bool:=decide (1<=n/\n<=16)
def cH (s:Lu):Read :=
 if 1000<K s then .bad 2 else match jr s with
 |none=>.bad 3
 |some (a,b,c,d,r)=>match sizeOf4 a b c d with
  |none=>.bad 3
  |some (w,h)=>if qf w=Q/\qf h=Q then (match dN w.toNat h.toNat r with
   |none=>.bad 3
   |some cs=>.good w.toNat h.toNat cs) else .bad 1
def o8 (b:Bool):UInt8:=if b then 64 else 46
def mJ (Y:Bn) (c w:Nat):Lu:=(Ud w).map λ x=>o8 (Y (c+x))
def iq (Y:Bn) (w:Nat):Nat->Lu
 |0=>[]
 |k+1=>iq Y w k++(mJ Y (k*w) w++[10])
def jQ (w h:Int):Lu:=eL++([10]++((aZ++itoa h)++([10]++((bR++itoa w)++([10]++(iG++[10]))))))
def eu (Y:Bn) (w h:Nat):Lu:=jQ w h++iq Y w h
theorem zZ (Y:Bn)(c w:Nat):K (mJ Y c w)=w:=by simp[mJ]
def fH (Y:Bn) (w:Nat):Nat->Nat->Lu
 |0,_=>[]
 |k+1,j=>mJ Y (j*w) w++10::fH Y w k (j+1)
theorem o9 (Y:Bn)(w:Nat):∀(k j:Nat),fH Y w (k+1) j=fH Y w k j++(mJ Y ((j+k)*w) w++[10])
 |0,j=>by simp[fH]
 |k+1,j=>by
  rw[fH,o9 Y w k (j+1),fH];rw[show j+1+k=j+(k+1) by omega];simp
theorem pA (Y:Bn)(w:Nat):∀(k:Nat),iq Y w k=fH Y w k 0
 |0=>rfl
 |k+1=>by rw[iq,o9,pA Y w k,Tm]
theorem js (v:Int)(b:1<=v)(a:v<=16):K (itoa v)<=2:=by grind [itoa,decDigits_length,nDigits,nDigits_small,nDigits_big]
theorem lG (Y:Bn)(w:Nat):∀(k j:Nat),K (fH Y w k j)=k*(w+1)
 |0,_=>by simp[fH]
 |k+1,j=>by
  rw[fH,Td,Tk,lG Y w k,zZ,UX];omega
theorem wO (Y:Bn)(w h:Nat)(f:1<=w)(e:w<=16)(g:1<=h)(d:h<=16):K (eu Y w h)<=1000:=by
 have a:=js w U U;have b:=js h U U;have c:h*(w+1)<=16*17:=Uo d U;unfold eu jQ;rw[pA];simp only[Td,lG];simp[eL,aZ,bR,iG];omega
theorem Gp (w h:Int)(b:-9223372036854775808<=w)(a:w<=9223372036854775807)(d:-9223372036854775808<=h)(c:h<=9223372036854775807):sizeOf4 eL (aZ++itoa h) (bR++itoa w) iG=Z (w,h):=by
 unfold sizeOf4;rw[(ft (v:=h)).2 ⟨rfl,d,c⟩];simp only;rw[(ft (v:=w)).2 ⟨rfl,b,a⟩];simp
theorem qg {a b c d:Lu}{w h:Int}(e:sizeOf4 a b c d=Z (w,h)):a=eL/\b=aZ++itoa h/\c=bR++itoa w/\d=iG/\dM b aZ=Z h/\dM c bR=Z w:=by grind [sizeOf4,eL,aZ,bR,iG,dM]
theorem wP {s:Lu}{w h:Nat}(e:cH s=.good w h cs):1<=w/\w<=16/\1<=h/\h<=16/\K cs=h*w:=by
 unfold cH at e;split at e;cases e;split at e;cases e;split at e;cases e;split at e
 rename_i c
 unfold qf at c;rw[decide_eq_true_eq,decide_eq_true_eq]at c;obtain⟨a,b⟩:=c;split at e;cases e
 rename_i d
 injection e with i g f
 subst i g f;have:=wN d;exact⟨U,U,U,U,this⟩;cases e
end
structure Env (w:M):Prop where
 es:∃tp p,D w (O 6 0)=Z (.iface tp p)
 er:∃tp p,D w (O 7 0)=Z (.iface tp p)
 tab : Lib.TabIs Vyj w "internal/strconv.uint64pow10" .u64 Lib.pow10Tab
 z:10<=G w.heap
theorem QR : prog.globalNamed "internal/strconv.uint64pow10" = Z 4 := kQ
theorem Env.below {B:Nat}(h:Env w)(a:Vw B w I)(i:10<=B):Env I:=by
 obtain⟨⟨t2,c,g⟩,⟨t3,b,f⟩,e,d⟩:=h;refine⟨⟨t2,c,?_⟩,⟨t3,b,?_⟩,?_,Nat.le_trans d a.size⟩;exact(a.cell (p:=O 6 0) (by show 6<B;omega)).trans g;exact(a.cell (p:=O 7 0) (by show 7<B;omega)).trans f;exact var?_below a QR U e
theorem Env.grown (h:Env w)(a:Bq w I):Env I:=h.below a h.z
theorem gO (v:Int)(k:-9223372036854775808<=v)(j:v<=9223372036854775807):K (Lib.itoa v)<=20:=by
 have d:∀u:Nat,u<10 ^ 19->Lib.nDigits u<=19:=by
  intro u i;rcases Nat.lt_or_ge (Lib.nDigits u) 20 with h|h
  omega;exfalso;by_cases e:1<=u;obtain⟨c,r,b,g⟩:=uf u e;have a:=Lib.decDigits_length u;have f:=yB c r g;rw[<- b,mI]at f;rw[b]at a;simp at a;have:10 ^ 19<=10 ^ K r:=UM dQ U;omega
  grind [Lib.nDigits_small]
 unfold Lib.itoa;split
 grind [Tk,Lib.decDigits_length]
 grind [Lib.decDigits_length]
theorem jw (n:Int)(e:-9223372036854775808<=n)(d:n<=9223372036854775807)(w:M)(E9:Env w) :
  Rq 52 #[J n] w (.string ⟨(Lib.itoa n).toArray⟩) :=
 (Tryz.strconv_Itoa n e d w E9.tab).mono λ _ _ ⟨c,k,a,b⟩=>⟨c,by rw[b];exact Lib.below_grow _ w aa k a⟩
def str (l:Lu):ByteArray:=⟨l.toArray⟩
theorem ar (l:Lu):(str l).size=K l:=by
 rw[Lib.size_eq];rfl
theorem mK (l:Lu):(str l).data.toList=l:=rfl
theorem bV (a b:Lu):str a++str b=str (a++b):=by
 apply ByteArray.ext;rw[ByteArray.data_append];simp[str]
def EP (w h:Int):Array Value:=#[.string (str eL),.string (str aZ++str (Lib.itoa h)),.string (str bR++str (Lib.itoa w)),.string (str iG)]
theorem CW:(prog.info? 160).map (·.size)=Z 4:=kQ
theorem Aa {P:Program}{f:Func}{p:Tmp}{c:TypeId}(h:f.results=#[.cell p c])(a:Array Vr)(w:M)(b:Nat)(cs:List Vr)(d:TypeDesc)
  (i:a.getD p undef=Pq b) (l:w.rangeAt b 0 cs) (g:P.underlying c=Z d) (k:d.isRow=Q) (j:(P.info? c).map (·.size)=Z (K cs)) :
  (results f a).run P w=.ok (.agg cs.toArray) w:=by
 have e:a[p]?.getD undef=Pq b:=by simpa using i
 simp[results,h,e,asAddr,run_loadVar_mid w b 0 c cs d l g k j]
theorem qh {P:Program}{f:Func}{p u v:Tmp}{c:TypeId}(h:f.results=#[.cell p c,.tmp u,.tmp v])(a:Array Vr)(w:M)(b:Nat)(cs:List Vr)(d:TypeDesc)
  (i:a.getD p undef=Pq b) (l:w.rangeAt b 0 cs) (g:P.underlying c=Z d) (k:d.isRow=Q) (j:(P.info? c).map (·.size)=Z (K cs)) :
  (results f a).run P w=.ok (.tuple #[.agg cs.toArray,a.getD u undef,a.getD v undef]) w:=by
 have e:a[p]?.getD undef=Pq b:=by simpa using i
 simp[results,h,e,asAddr,run_loadVar_mid w b 0 c cs d l g k j]
theorem CX (w:M)(b:Nat)(v0 v1 v2 v3:Vr)(a:w.there b 0 4) :
  ((((C' w (O b 0) v0).setCell (O b 1) v1).setCell (O b 2) v2).setCell (O b 3) v3).rangeAt b 0 [v0,v1,v2,v3] :=
 World.rangeAt_setCells_same w b 0 [v0,v1,v2,v3] a
theorem JN (e:∀j,j<4->∃v,Cq w b j v)(d:∀j,w.frozen? (O b j)=Vl):w.there b 0 4:=λ j c=>by
 rw[Tm];obtain⟨v,a⟩:=e j c;rw[a];exact⟨rfl,d j⟩
theorem CY {v0 v1 v2 v3:Vr}(e:Cq w b 0 v0)(d:Cq w b 1 v1)(c:Cq w b 2 v2)(a:Cq w b 3 v3):∀j,j<4->∃v,Cq w b j v:=by grind
theorem JO {n:Int}{I9:ByteArray}(a:str (Lib.itoa n)=I9)(c:-9223372036854775808<=n)(b:n<=9223372036854775807)(w:M)(E9:Env w) :
  Rq 52 #[J n] w (.string I9):=by
 subst a;exact jw n c b w E9
theorem CZ (W H:Int)(r:-9223372036854775808<=W)(q:W<=9223372036854775807)(o:-9223372036854775808<=H)(n:H<=9223372036854775807)(w:M)(E9:Env w) :
  Rq 128 #[J W,J H] w (.agg (EP W H)):=by
 have m:=gO W r q;have l:=gO H o n;rw[<- ar]at m l;unfold EP;obtain⟨I,h⟩:∃k,str (Lib.itoa W)=k:=⟨_,rfl⟩;obtain⟨L,i⟩:∃k,str (Lib.itoa H)=k:=⟨_,rfl⟩;rw[h]at m ⊢;rw[i]at l ⊢;have B:=qH h;have C:=qH i;clear h i;have t:Bq w (E w (VP #[.string ⟨#[]⟩,.string ⟨#[]⟩,.string ⟨#[]⟩,.string ⟨#[]⟩] 160)):=ae.alloc aa _;go_enter func128,ntmps128;go_wp2_with (go_at_call 52;refine(JO C.out o n _ (E9.grown t)).mono ?_);rintro e F ⟨rfl,a⟩;have s:=t.trans (a.mono sQ);go_wp2_with (go_at_call 52;refine(JO B.out r q _ (E9.grown s)).mono ?_);rintro e b ⟨rfl,c⟩;have u:=a.size;simp only[UI]at u;have f:∀j:Nat,D b (O (G w.heap) j)=D (E w (VP #[.string ⟨#[]⟩,.string ⟨#[]⟩,.string ⟨#[]⟩,.string ⟨#[]⟩] 160)) (O (G w.heap) j):=λ j =>
  (c.cell (p:=O (G w.heap) j) (by show G w.heap<_;omega)).trans (a.cell (p:=O (G w.heap) j) sQ)
 have d:∀j:Nat,b.frozen? (O (G w.heap) j)=false:=λ j =>
  ((c.frozen (p:=O (G w.heap) j) (by show G w.heap<_;omega)).trans (a.frozen (p:=O (G w.heap) j) sQ)).trans (bC w _ _ _ aa j)
 have g:=s.trans (c.mono U);have z:D b (O (G w.heap) 0)=Z (.string ⟨#[]⟩):=by rw[f,Tb];rfl
 have y:D b (O (G w.heap) 1)=Z (.string ⟨#[]⟩):=by rw[f,Tb];rfl
 have x:D b (O (G w.heap) 2)=Z (.string ⟨#[]⟩):=by rw[f,Tb];rfl
 have v:D b (O (G w.heap) 3)=Z (.string ⟨#[]⟩):=by rw[f,Tb];rfl
 have f0:=d 0;have f1:=d 1;have f2:=d 2;have f3:=d 3;have A:=JN (CY z y x v) d;clear f d;go_wp2;refine Vxl (Aa rfl _ _ (G w.heap) _ _ rfl (CX b (G w.heap) _ _ _ _ A) underlying160 rfl CW) rfl ⟨rfl,?_⟩;exact(((g.setCell (p:=O (G w.heap) 0) aa _).setCell (p:=O (G w.heap) 1) aa _).setCell (p:=O (G w.heap) 2) aa _).setCell (p:=O (G w.heap) 3) aa _
theorem uh (h:jq c=UP):((c.toNat:Int)==46)=Vl/\((c.toNat:Int)==71)=Vl/\((c.toNat:Int)==83)=Vl/\((c.toNat:Int)==64)=Vl/\((c.toNat:Int)==79)=Vl/\((c.toNat:Int)==84)=Vl/\((c.toNat:Int)==87)=false:=by
 have a:∀d:UInt8,c≠d->((c.toNat:Int)==(d.toNat:Int))=false:=λ d f=>by grind [Q4,UInt8.toNat_inj]
 unfold jq at h;split at h;cases h
 rename_i e
 split at h;cases h
 rename_i b
 simp only[not_or]at e b;exact⟨a 46 e.1,a 71 e.2.1,a 83 e.2.2,a 64 b.1,a 79 b.2.1,a 84 b.2.2.1,a 87 b.2.2.2⟩
theorem ui {b:Bool}(h:jq c=Z b):(b=Vl/\(c=46\/c=71\/c=83))\/(b=Q/\(c=64\/c=79\/c=84\/c=87)):=by grind [jq]
theorem Ab (h:jq c=UP)(w:M) :
  Eq9 178 #[.int .u8 c.toNat] w (.tuple #[.bool Vl,.bool Vl]):=by
 obtain⟨i,g,f,e,d,b,a⟩:=uh h;clear h;generalize (c.toNat:Int)=n at *;go_enter func178,ntmps178;go_wp2;go_ret2;exact⟨rfl,rfl⟩
theorem so {b:Bool}(h:jq c=Z b)(w:M) :
  Eq9 178 #[.int .u8 c.toNat] w (.tuple #[.bool b,.bool Q]):=by
 rcases ui h with⟨rfl,rfl|rfl|rfl⟩|⟨rfl,rfl|rfl|rfl|rfl⟩
 all_goals
  clear h;go_enter func178,ntmps178;go_wp2;go_ret2;exact⟨rfl,rfl⟩
theorem cV.trans {u v:M}(h:cV b u v)(k:cV b v w):cV b u w :=
 ⟨k.os.trans h.os,k.tape.trans h.tape,k.output.trans h.output,k.size.trans h.size,λ i a=>(k.other i a).trans (h.other i a)⟩
def dZ (cs:List Bool) (i:Nat):Bool:=cs.getD i Vl
theorem qi (cs:List Bool):dZ (cs++[Vl])=dZ cs:=by grind [dZ]
theorem sq (cs:List Bool):upd (dZ cs) (K cs) Q=dZ (cs++[Q]):=by grind [upd,dZ]
theorem rG (cs:List Bool):dZ cs (K cs)=false:=by
 unfold dZ;simp
def blocks (cs:List Bool):Nat:=cs.count Q
theorem su (cs:List Bool):(blocks (cs++[Q]):Int)=blocks cs+1:=by
 unfold blocks;rw[List.count_append];simp
theorem qj (cs:List Bool):blocks (cs++[Vl])=blocks cs:=by
 unfold blocks;rw[List.count_append];simp
theorem nU (cs:List Bool):blocks cs<=K cs:=List.count_le_length
def dh (w:M) (b:Nat) (W H:Nat) (cs:List Bool):Prop:=aq w b W H (blocks cs) (dZ cs)/\gL w b
theorem wQ {row:Lu}{j:Nat}{a:List Bool}(h:eM (row.take j)=Z a)(k:j<K row):eM (row.take (j+1))=(jq row[j]).map (λ b=>a++[b]):=by
 have e:∀(l:Lu) (a:List Bool) (c:UInt8),eM l=Z a->eM (l++[c])=(jq c).map λ b=>a++[b]:=by
  intro l
  induction l with
  |nil =>
   intro a c d;simp[eM]at d;subst d;simp only[List.nil_append,eM];cases jq c<;>rfl
  |cons x l i =>
   intro a c d;simp only[Uw,eM]at d ⊢;cases g:jq x with
   |none=>simp[g]at d
   |some b =>
    simp only[g]at d ⊢;cases f:eM l with
    |none=>simp[f]at d
    |some m =>
     simp only[f,Option.some.injEq]at d;subst d;rw[i m c f];cases jq c<;>rfl
 rw[List.take_add_one,List.getElem?_eq_getElem k];exact e _ _ _ h
theorem wR {row:Lu}:∀{j:Nat},eM (row.take j)=UP->eM row=none:=by
 have a:∀(l m:Lu),eM l=UP->eM (l++m)=none:=by
  intro l m
  induction l with
  |nil=>intro h;simp[eM]at h
  |cons x l d =>
   intro h;simp only[Uw,eM]at h ⊢;cases e:jq x with
   |none=>simp
   |some b =>
    simp only[e]at h ⊢;cases c:eM l with
    |none=>rw[d c]
    |some q=>simp[c]at h
 intro j h;have:=a _ (row.drop j) h
 rwa [List.take_append_drop]at this
theorem yC {c:Nat}(h:c<W*H):inB W H c=true:=by grind [inB]
theorem wT (a:i=K cs)(w:M)(g:dh w b W H cs)(c:K cs<W*H) :
  Dq 179 #[Pq b,J i,.bool Vl] w (.tuple #[.bool Vl,.nilIface]):=by
 subst a;exact tU (K cs) Vl w g.1 (yC c) (rG cs)
theorem JP (c:i=K cs)(w:M)(g:dh w b W H cs)(j:K cs<W*H)(k:K cs<=1000000) :
  Zq 179 #[Pq b,J i,.bool Q] w λ e I=>e=VJ (.tuple #[.bool Q,.nilIface])/\cV b w I/\dh I b W H (cs++[Q]):=by
 subst c;have l:=nU cs;refine(yh (K cs) Q w g.1 g.2 (yC j) (rG cs) U U).mono λ e I ⟨d,f,a,h⟩=>⟨d,f,?_,h⟩;rw[sq,<- su]at a;exact a
theorem dh.false (g:dh w b W H cs):dh w b W H (cs++[Vl]):=by grind [dh,qi,qj]
theorem dh.drewN (g:dh w b W H cs)(m:Nat):dh (w.drewN m) b W H cs:=⟨g.1.drewN m,g.2⟩
theorem fe (l:Lu)(j:Nat)(a:j<K l)(w:M):(Instr.index 9 (.string (str l)) (J j)).run Vyj w=.ok (.int .u8 (l[j]).toNat) w:=by
 rw[run_index_string w 9 (str l) .i64 j Vyh,dif_pos ⟨U,by rw[ar];omega⟩]
 congr 1
theorem Ac (row:Lu)(w:M)(g:dh w b W H cs)(C:K cs+K row<=W*H) :
  Zq 130 #[Pq b,J (K cs),.string (str row)] w λ e I=>e=VJ (.bool (eM row).isSome)/\cV b w I/\(∀a,eM row=Z a->dh I b W H (cs++a)):=by
 have w1:=g.1.w1;have Y:=g.1.w2;have h1:=g.1.h1;have h2:=g.1.h2;have B:W*H<=16*16:=Uo U U;have Ws:=ar row;obtain⟨N,s⟩:∃N,W*H=N:=⟨_,rfl⟩;have T:=qH s;rw[s]at C B;clear s;go_enter func130,ntmps130;go_wp2;go_loopw [14] (λ i wr=>∃(j:Nat) (a:List Bool),j<=K row/\i=J j/\eM (row.take j)=Z a/\cV b w wr/\dh wr b W H (cs++a))
  (λ i _=>K row-(intOf i).toNat)
 case atStart=>exact⟨0,[],U,rfl,rfl,cV.refl b w,by simpa using g⟩
 case round =>
  obtain⟨j,a,F,rfl,h,o,k⟩:=hrel;by_cases A:j<K row
  ·have t:=kn h;rw[List.length_take,Nat.min_eq_left F]at t;have p:K (cs++a)=K cs+j:=(by rw[Td,t]);have d:=wQ h A;have q:=fe row j A;have R:eM (row.take (j+1))=UP->eM row=none:=wR;generalize row[j]=c at d q;have y:(K cs:Int)+j=(K (cs++a):Nat):=(by rw[p];omega);have u:K (cs++a)<W*H:=(by rw[p,T.out];omega);have r:K (cs++a)<=1000000:=(by rw[p];omega);have x:=qH y;have j1:(0:Int)<=(K cs:Int)+j/\(K cs:Int)+j<=1000000:=U;clear y p t;cases f:jq c with
   |none =>
    have z:eM row=none:=R (by rw[d,f];rfl);clear d;go_wp2_with (first|(go_at_call 178;refine Q0 (Ab f _) ?_)|(go_at_call 179;refine QQ (wT x.out _ k u) λ m=>?_));go_ret;exact⟨by rw[z];rfl,o.drewN m,λ L l=>by rw[z]at l;cases l⟩
   |some v =>
    rw[f]at d;have n:=bX d;clear d;cases v with
    |false =>
     go_wp2_with (first|(go_at_call 178;refine Q0 (so f _) ?_)|(go_at_call 179;refine QQ (wT x.out _ k u) λ m=>?_));go_roundw
     case rel=>exact⟨j+1,a++[Vl],U,gQ,n.out,o.drewN m,by rw[<- TC];exact(k.drewN m).false⟩
     case measure=>simp[intOf];omega
    |true =>
     go_wp2_with (first|(go_at_call 178;refine Q0 (so f _) ?_)|(go_at_call 179;refine(JP x.out _ k u r).mono ?_;rintro e X ⟨rfl,S,V⟩));go_roundw
     case rel=>exact⟨j+1,a++[Q],U,gQ,n.out,o.trans S,by rw[<- TC];exact V⟩
     case measure=>simp[intOf];omega
  ·have P:j=K row:=U;subst P;rw[List.take_length]at h;go_wp2;go_ret;exact⟨by rw[h];rfl,o,λ L l=>by rw[h]at l;cases l;exact k⟩
theorem C0 (b:Bool)(w:M) :
  Zq 154 #[.bool b] w λ e I=>e=VJ (.int .u8 (o8 (!b)).toNat)/\I=w:=by
 cases b
 ·go_enter func154,ntmps154;go_wp2;go_ret;exact⟨rfl,rfl⟩
 ·go_enter func154,ntmps154;go_wp2;go_ret;exact⟨rfl,rfl⟩
def eI (w:M) (b:Nat) (l:Lu):Prop:=Lib.IsBuilder 168 5 b b (Lib.byteCells l) w
theorem eI.drewN {l:Lu}(h:eI w b l)(m:Nat):eI (w.drewN m) b l:=h
theorem eI.lt {l:Lu}(h:eI w b l):b<G w.heap:=by
 rcases h with h|h
 exact h.lt;exact h.lt
theorem lH {l:Lu}(s:Lu)(w:M)(h:eI w b l)(f:K l+K s<=1000000) :
  Zq 85 #[Pq b,.string (str s)] w λ e I=>e=VJ (.tuple #[J (K s),.nilIface])/\eI I b (l++s)/\Vw b w I :=
 (zW b b (Lib.byteCells l) (str s) w h (by grind [Lib.byteCells_length,ar]) (UQ h.lt)).mono λ e I ⟨a,d,c⟩ =>
  ⟨by rw[a,ar],by unfold eI;rw[Lib.byteCells_append];exact d,c⟩
theorem Ad {l:Lu}(c:UInt8)(w:M)(h:eI w b l)(g:K l+1<=1000000) :
  Zq 153 #[Pq b,.int .u8 c.toNat] w λ e I=>e=VJ .nilIface/\eI I b (l++[c])/\Vw b w I :=
 (Gn b b (Lib.byteCells l) c.toNat w h (by grind [Lib.byteCells_length]) (UQ h.lt)).mono λ e I ⟨a,f,d⟩ =>
  ⟨a,by unfold eI;rw[Lib.byteCells_append];exact f,d⟩
theorem uj {l:Lu}(w:M)(h:eI w b l)(a:K l+1<=1000000) :
  Zq 153 #[Pq b,.int .u8 10] w λ e I=>e=VJ .nilIface/\eI I b (l++[10])/\Vw b w I:=Ad 10 w h a
theorem Ae {l:Lu}(w:M)(h:eI w b l) :
  Zq 87 #[Pq b] w λ e I=>e=VJ (.string (str l))/\Vw b w I :=
 Tryz.Builder_String_any b b l w h (UQ h.lt)
theorem Gq (w I:M)(a:Vw (G w.heap+1) (E w (VP #[.pointer UP,.slice UP 0 0] 168)) I):eI I (G w.heap) []:=by
 refine .inl ⟨aa,.slice UP 0 0,?_,?_,by simp[Value.ownBlock]⟩;rw[a.block _ (Ur _)];exact heap_alloc_new w _;refine⟨by simp[Lib.byteCells],.inl ⟨rfl,rfl⟩⟩
def vY (a b c d:Lu) (j:Nat):Lu:=([a,b,c,d].take j).flatMap λ l=>l++[10]
theorem ES (v0 v1 v2 v3:Vr)(w:M):(Instr.index 160 (.agg #[v0,v1,v2,v3]) (J 0)).run Vyj w=.ok v0 w/\(Instr.index 160 (.agg #[v0,v1,v2,v3]) (J 1)).run Vyj w=.ok v1 w/\(Instr.index 160 (.agg #[v0,v1,v2,v3]) (J 2)).run Vyj w=.ok v2 w/\(Instr.index 160 (.agg #[v0,v1,v2,v3]) (J 3)).run Vyj w=.ok v3 w :=
 ⟨kQ,kQ,kQ,kQ⟩
theorem Gs (w h:Int):EP w h=#[.string (str eL),.string (str (aZ++Lib.itoa h)),.string (str (bR++Lib.itoa w)),.string (str iG)]:=by grind [EP,bV]
theorem C8 (w h:Int):jQ w h=vY eL (aZ++Lib.itoa h) (bR++Lib.itoa w) iG 4:=by
 unfold jQ vY;simp
theorem Af {W H:Int}{a b c d:Lu}(i:eL=a)(h:aZ++Lib.itoa H=b)(g:bR++Lib.itoa W=c)(f:iG=d)(m:-9223372036854775808<=W)(l:W<=9223372036854775807)(k:-9223372036854775808<=H)(j:H<=9223372036854775807)(w:M)(E9:Env w) :
  Zq 128 #[J W,J H] w λ e I=>e=VJ (.agg #[.string (str a),.string (str b),.string (str c),.string (str d)])/\Vw (G w.heap) w I:=by grind [CZ,Gs]
theorem JQ {a b c d:Lu}(h:K a<=n)(g:K b<=n)(f:K c<=n)(e:K d<=n)(j:Nat):K (vY a b c d j)<=4*n+4:=by
 unfold vY
 match j with
 |0=>simp
 |1=>simp;omega
 |2=>simp;omega
 |3=>simp;omega
 |j+4=>simp;omega
theorem Gt (Y:Bn)(W y:Nat)(b:W<=16)(a:y<=16):K (iq Y W y)<=272:=by
 rw[pA,lG];have:y*(W+1)<=16*17:=Uo a U;omega
theorem rH (Y:Bn)(c x:Nat):mJ Y c (x+1)=mJ Y c x++[o8 (Y (c+x))]:=by grind [mJ,o8,List.range_succ]
theorem JR {Y:Bn}{x y:Nat}(b:x<W)(a:y<H):aM W H Y x y=!Y (y*W+x):=by grind [aM,atB,Q2]
theorem JS {b:Bool}(a:o8 (!b)=c)(w:M) :
  Zq 154 #[.bool b] w λ e I=>e=VJ (.int .u8 c.toNat)/\I=w:=a▸C0 b w
theorem Gu {V:Int}{Y:Bn}(w:M)(E9:Env w)(g:aq w b W H V Y)(ac:b<G w.heap) :
  Zq 104 #[Pq b] w λ e I=>e=VJ (.string (str (eu Y W H)))/\Vw (G w.heap) w I:=by
 have w1:=g.w1;have w2:=g.w2;have h1:=g.h1;have h2:=g.h2;have i1:=js W U U;have i2:=js H U U;unfold eu;rw[C8];obtain⟨o,X⟩:∃l,eL=l:=⟨_,rfl⟩;obtain⟨n,T⟩:∃l,aZ++Lib.itoa H=l:=⟨_,rfl⟩;obtain⟨k,S⟩:∃l,bR++Lib.itoa W=l:=⟨_,rfl⟩;obtain⟨h,R⟩:∃l,iG=l:=⟨_,rfl⟩;have na:K o<=20:=by rw[<- X];decide
 have nb:K n<=20:=by rw[<- T,Td];have:aZ.length=7:=rfl;omega
 have nc:K k<=20:=by rw[<- S,Td];have:bR.length=6:=rfl;omega
 have nd:K h<=20:=by rw[<- R];decide
 rw[X,T,S,R];have HA:=bX X;have HB:=bX T;have HC:=bX S;have HD:=bX R;clear X T S R i1 i2;have F:=JQ na nb nc nd;go_enter func104,ntmps104;go_wp2_with (go_at_call 129;refine QQ (Co _ g) λ m=>?_);have Zp:Vw (G w.heap) w (E (w.drewN m) (VP #[.pointer UP,.slice UP 0 0] 168)):=(Vxj ae m).alloc aa _;go_wp2_with (go_at_call 128;refine(Af HA.out HB.out HC.out HD.out U U U U _ (E9.grown Zp)).mono ?_);rintro e wa ⟨rfl,f⟩;have ab:=f.size;simp only[UI,World.heap_drewN]at ab;have hH:eI wa (G w.heap) []:=Gq (w.drewN m) wa (by simpa using f);have B:Vw (G w.heap) w wa:=Zp.trans (f.mono sQ);clear f Zp E9;go_wp2;go_loopw [18] (λ i wr=>∃j:Nat,j<=4/\i=J j/\eI wr (G w.heap) (vY o n k h j)/\Vw (G w.heap) w wr)
  (λ i _=>4-(intOf i).toNat)
 case atStart=>exact⟨0,U,rfl,hH,B⟩
 case round =>
  obtain⟨j,hj,rfl,v,C⟩:=hrel;have hl:=F j;obtain⟨x0,x1,x2,x3⟩:_/\_/\_/\_:=⟨λ w=>(ES (.string (str o)) (.string (str n)) (.string (str k)) (.string (str h)) w).1,λ w=>(ES (.string (str o)) (.string (str n)) (.string (str k)) (.string (str h)) w).2.1,λ w=>(ES (.string (str o)) (.string (str n)) (.string (str k)) (.string (str h)) w).2.2.1,λ w=>(ES (.string (str o)) (.string (str n)) (.string (str k)) (.string (str h)) w).2.2.2⟩;by_cases VS:j<4
  ·have Wx:j=0\/j=1\/j=2\/j=3:=U;rcases Wx with rfl|rfl|rfl|rfl
   ·go_wp2_with (first|(go_at_call 85;refine(lH o _ v U).mono ?_;rintro e w3 ⟨rfl,r,s⟩)|(go_at_call 153;refine(uj _ r sU).mono ?_;rintro e u ⟨rfl,d,a⟩));go_roundw
    case rel=>exact⟨1,U,gQ,by simpa [vY]using d,C.trans (s.trans a)⟩
    case measure=>simp[intOf]
   ·go_wp2_with (first|(go_at_call 85;refine(lH n _ v U).mono ?_;rintro e w3 ⟨rfl,r,s⟩)|(go_at_call 153;refine(uj _ r sU).mono ?_;rintro e u ⟨rfl,d,a⟩));go_roundw
    case rel=>exact⟨2,U,gQ,by simpa [vY]using d,C.trans (s.trans a)⟩
    case measure=>simp[intOf]
   ·go_wp2_with (first|(go_at_call 85;refine(lH k _ v U).mono ?_;rintro e w3 ⟨rfl,r,s⟩)|(go_at_call 153;refine(uj _ r sU).mono ?_;rintro e u ⟨rfl,d,a⟩));go_roundw
    case rel=>exact⟨3,U,gQ,by simpa [vY]using d,C.trans (s.trans a)⟩
    case measure=>simp[intOf]
   ·go_wp2_with (first|(go_at_call 85;refine(lH h _ v U).mono ?_;rintro e w3 ⟨rfl,r,s⟩)|(go_at_call 153;refine(uj _ r sU).mono ?_;rintro e u ⟨rfl,d,a⟩));go_roundw
    case rel=>exact⟨4,U,gQ,by simpa [vY]using d,C.trans (s.trans a)⟩
    case measure=>simp[intOf]
  ·have:j=4:=U;subst this;clear x0 x1 x2 x3 F hH B;obtain⟨t,hU⟩:∃t,vY o n k h 4=t:=⟨_,rfl⟩;rw[hU]at v hl;have HU:=bX hU;clear hU;clear na nb nc nd HA HB HC HD;rw[show ((4:Nat):Int)=4 from rfl];go_wp2;go_loopw [26] (λ i wr=>∃y:Nat,y<=H/\i=J y/\eI wr (G w.heap) (t++iq Y W y)/\Vw (G w.heap) w wr)
    (λ i _=>H-(intOf i).toNat)
   case atStart=>exact⟨0,U,rfl,by simpa [iq]using v,C⟩
   case round =>
    obtain⟨y,hy,rfl,N,Yt⟩:=hrel;have hR:=Gt Y W y U U;by_cases z:y<H
    ·have y1:(y:Int)<(H:Int):=U;go_wp2;go_loopw [30] (λ i wr=>∃x:Nat,x<=W/\i=J x/\eI wr (G w.heap) (t++iq Y W y++mJ Y (y*W) x)/\Vw (G w.heap) w wr)
      (λ i _=>W-(intOf i).toNat)
     case atStart=>exact⟨0,U,rfl,by simpa [mJ]using N,Yt⟩
     case round =>
      obtain⟨x,hx,rfl,L,q⟩:=hrel;have hQ:=zZ Y (y*W) x;have p:K (t++iq Y W y++mJ Y (y*W) x)+1<=1000000:=by
       rw[Td,Td,hQ];omega
      by_cases A:x<W
      ·have x1:(x:Int)<(W:Int):=U;have ho:=JR (Y:=Y) A z;have gr:=g.below q ac;obtain⟨c,hc⟩:∃c,o8 (Y (y*W+x))=c:=⟨_,rfl⟩;have P:o8 (!(!Y (y*W+x)))=c:=(by rw[Bool.not_not,hc]);have X5:t++iq Y W y++mJ Y (y*W) (x+1)=t++iq Y W y++mJ Y (y*W) x++[c]:=(by rw[rH,hc,<- TC]);have ad:=bX X5;clear X5 hc;generalize (!Y (y*W+x))=ob at ho P;go_wp2_with (first|(go_at_call 155;refine QQ (gK ho _ gr) λ m3=>?_)|(go_at_call 154;refine Q0 (JS P _) ?_)|(go_at_call 153;refine(Ad c _ (L.drewN m3) p).mono ?_;rintro e u ⟨rfl,d,a⟩));go_roundw
       case rel=>exact⟨x+1,U,gQ,by rw[ad.out];exact d,(Vxj q _).trans a⟩
       case measure=>simp[intOf];omega
      ·have:x=W:=U;subst this;go_wp2_with (go_at_call 153;refine(uj _ L p).mono ?_;rintro e u ⟨rfl,d,a⟩);go_roundw
       case rel=>exact⟨y+1,U,gQ,by simpa [iq]using d,q.trans a⟩
       case measure=>simp[intOf];omega
    ·have:y=H:=U;subst this;go_wp2_with (go_at_call 87;refine Q9 (Ae _ N) λ u a=>?_);go_ret;exact⟨by rw[HU.out];rfl,Yt.trans a⟩
theorem cV.under (h:cV b w I):Vw b w I:=h.below ae aa
theorem Env.touch (h:Env w)(t:cV b w I)(a:10<=b):Env I:=h.below t.under a
theorem jz {s a b:Lu}(h:eU s=Z (a,b)):K a+K b+1=K s:=by
 obtain⟨e,_⟩:=kh h;rw[e];simp;omega
theorem yD:∀(s:Lu),match eU s with|none=>Lib.indexByte s 10=-1|some p=>Lib.indexByte s 10=(K p.1:Int)
 |[]=>rfl
 |c::r=>by
  have a:=yD r;unfold eU;by_cases b:c=10;rw[Q5 b];subst b;simp[Lib.indexByte];rw[Q6 b];have d:(c==10)=false:=by simpa using b
  cases h:eU r with
  |none =>
   rw[h]at a;simp only at a ⊢;unfold Lib.indexByte;rw[d,a];rfl
  |some p =>
   rw[h]at a;simp only at a ⊢;unfold Lib.indexByte;rw[d,a];have e:((K p.1:Int) == -1)=false:=(by grind);simp[e]
theorem ET {s:Lu}(a:Lib.indexByte s 10=i)(w:M) :
  Eq9 135 #[.string (str s),.string ⟨#[10]⟩] w (J i):=by grind [Tryz.stringslite_Index_one,str]
theorem JT (a b:Lu):(str (a++10::b)).extract 0 (K a)=str a:=by
 rw[Lib.extract_eq,mK];simp[str]
theorem JU (a b:Lu)(n:Nat)(c:n=K a+1+K b):(str (a++10::b)).extract (K a+1) n=str b:=by
 subst c;rw[Lib.extract_eq,mK];rw[show K a+1+K b-(K a+1)=K b by omega];simp[str]
theorem Gv {s a b:Lu}(h:eU s=Z (a,b))(j:K s<4294967281)(w:M) :
  Zq 105 #[.string (str s),.string ⟨#[10]⟩] w λ e I=>e=VJ (.tuple #[.string (str a),.string (str b),.bool Q])/\∃n,I=w.drewN n:=by
 obtain⟨e,_⟩:=kh h;have c:=yD s;rw[h]at c;simp only at c;have d:=qH c;have q:=ar s;have k:=jz h;have g:(str s).extract 0 (K a)=str a:=by rw[e];exact JT a b
 have f:(str s).extract (K a+1) (K s)=str b:=by rw[e];exact JU a b _ sU
 clear c h e;have i:(⟨#[10]⟩:ByteArray).size=1:=rfl;have p:(0:Int)<=(K a:Int):=U;have o:(K a:Int)<=(K s:Int):=U;have m:(0:Int)<=(K a:Int)+1:=U;have l:(K a:Int)+1<=(K s:Int):=U;have t1:((K a:Int)+1).toNat=K a+1:=U;go_enter func105,ntmps105;go_wp2_with (go_at_call 135;refine Q0 (ET d.out _) ?_);go_quiet (fail);go_wp2;go_ret3;exact⟨rfl,_,rfl⟩
theorem Gw {s:Lu}(h:eU s=UP)(w:M) :
  Zq 105 #[.string (str s),.string ⟨#[10]⟩] w λ e I=>e=VJ (.tuple #[.string (str s),.string (str []),.bool Vl])/\∃n,I=w.drewN n:=by
 have a:=yD s;rw[h]at a;simp only at a;have b:=qH a;clear a h;go_enter func105,ntmps105;go_wp2_with (go_at_call 135;refine Q0 (ET b.out _) ?_);go_ret3;exact⟨rfl,0,rfl⟩
theorem ql {s a b:Lu}(h:eU s=Z (a,b))(c:K s<4294967281)(w:M)(_E:Env w) :
  Zq 61 #[.string (str s),.string ⟨#[10]⟩] w λ e I=>e=VJ (.tuple #[.string (str a),.string (str b),.bool Q])/\∃n,I=w.drewN n:=by
 have H:=qH h;clear h;go_enter func61,ntmps61;go_wp2_with (go_at_call 105;refine QQ (Gv H.out c _) λ m=>?_);go_ret3;exact⟨rfl,_,rfl⟩
theorem Ag {s:Lu}(h:eU s=UP)(_hs:K s<4294967281)(w:M)(_E:Env w) :
  Zq 61 #[.string (str s),.string ⟨#[10]⟩] w λ e I=>e=VJ (.tuple #[.string (str s),.string (str []),.bool Vl])/\∃n,I=w.drewN n:=by
 have H:=qH h;clear h;go_enter func61,ntmps61;go_wp2_with (go_at_call 105;refine QQ (Gw H.out _) λ m=>?_);go_ret3;exact⟨rfl,_,rfl⟩
theorem wU {row:Lu}{r:Option (List Bool)}(c:eM row=r)(f:i=K cs)(w:M)(g:dh w b W H cs)(d:K cs+K row<=W*H) :
  Zq 130 #[Pq b,J i,.string (str row)] w λ e I=>e=VJ (.bool r.isSome)/\cV b w I/\(∀a,r=Z a->dh I b W H (cs++a)):=by grind [Ac]
theorem aD (l:Lu):(str l).toList=l:=by
 rw[Lib.toList_data];rfl
theorem C9 {rest row a:Lu}{x:List Bool}(b:eU rest=Z (row,a))(d:K row=W)(c:eM row=Z x):dN W (k+1) rest=(dN W k a).map (λ l=>x++l):=by grind [eU,eM,dN]
theorem JV (d:Lu)(w:M)(E9:Env w)(S:10<=b)(g:dh w b W H [])(hl:K d<=1000) :
  Zq 81 #[Pq b,.string (str d)] w λ e I=>e=VJ (.bool (dN W H d).isSome)/\cV b w I/\(∀a,dN W H d=Z a->dh I b W H a):=by
 have w1:=g.1.w1;have w2:=g.1.w2;have h1:=g.1.h1;have h2:=g.1.h2;go_enter func81,ntmps81;go_wp2_with (go_at_call 129;refine QQ (Co _ g.1) λ m=>?_);go_loopw [1,17] (λ r i wr=>∃(y:Nat) (a:List Bool) (h:Lu),y<=H/\i=J y/\r=.string (str h)/\cV b w wr/\dh wr b W H a/\K a=y*W/\dN W H d=(dN W (H-y) h).map (λ l=>a++l)/\K h<=1000)
  (λ _ i _=>H-(intOf i).toNat)
 case atStart=>exact⟨0,[],d,U,rfl,rfl,(cV.refl b w).drewN m,g.drewN m,by simp,by simp,hl⟩
 case round =>
  obtain⟨y,a,h,hy,rfl,rfl,v,T,F,o,ac⟩:=hrel;have L:=E9.touch v S;by_cases VS:y<H
  ·obtain⟨k,hk⟩:∃k,H-y=k+1:=⟨H-y-1,U⟩;have R:H-(y+1)=k:=U;rw[hk]at o;have y1:(y:Int)<(H:Int):=U;have A:y*W+W<=W*H:=by
    have:=Nat.mul_le_mul_left W (show y+1<=H by omega);rw[Nat.mul_add,U8 W y]at this;omega
   have X:(y:Int)*(W:Int)=(K a:Nat):=(by rw[F,VK]);have HI:=qH X;have j1:(0:Int)<=(y:Int)*W/\(y:Int)*W<=256:=by
    have:=Uo (show y<=16 by omega) (show W<=16 by omega);rw[<- VK];omega
   clear X;cases f:eU h with
   |none =>
    have s:dN W H d=none:=(by rw[o];unfold dN;rw[f];rfl);clear o;go_wp2_with (go_at_call 61;refine QQ (Ag f U _ L) λ u=>?_);go_ret;exact⟨by rw[s];rfl,v.drewN u,λ C n=>by rw[s]at n;cases n⟩
   |some p =>
    obtain⟨t,j⟩:=p;have WH:=jz f;have Ws:=ar t;by_cases z:K t=W
    ·cases q:eM t with
     |none =>
      have s:dN W H d=none:=(by rw[o];unfold dN;rw[f];simp[z,q]);clear o;go_wp2_with (first|(go_at_call 61;refine QQ (ql f U _ L) λ u=>?_)|(go_at_call 130;refine(wU q HI.out _ (T.drewN u) (by rw[F,z];exact A)).mono ?_;rintro e w3 ⟨rfl,V,C3⟩));go_ret;exact⟨by rw[s];rfl,(v.drewN u).trans V,λ C n=>by rw[s]at n;cases n⟩
     |some x =>
      have P:=kn q;have Y:dN W H d=(dN W k j).map (λ l=>(a++x)++l):=by
       rw[o,C9 f z q];cases dN W k j with
       |none=>rfl
       |some l=>simp
      have HX:=qH Y;clear o Y;go_wp2_with (first|(go_at_call 61;refine QQ (ql f U _ L) λ u=>?_)|(go_at_call 130;refine(wU q HI.out _ (T.drewN u) (by rw[F,z];exact A)).mono ?_;rintro e w3 ⟨rfl,V,C3⟩));go_roundw
      case rel=>exact⟨y+1,a++x,j,U,gQ,rfl,(v.drewN u).trans V,C3 x rfl,by rw[Td,F,P,z,UX],by rw[R];exact HX.out,U⟩
      case measure=>simp[intOf];omega
    ·have s:dN W H d=none:=(by rw[o];unfold dN;rw[f];simp[z]);clear o;have VY:((K t:Int)==(W:Int))=false:=(by rw[Q4];omega);go_wp2_with (go_at_call 61;refine QQ (ql f U _ L) λ u=>?_);go_ret;exact⟨by rw[s];rfl,v.drewN u,λ C n=>by rw[s]at n;cases n⟩
  ·have N:y=H:=U;subst N;rw[Nat.sub_self]at o;have ab:=aD h;cases h with
   |nil =>
    have B:dN W y d=Z a:=(by rw[o];simp[dN]);clear o;go_wp2;go_ret;exact⟨by rw[B];rfl,v,λ C n=>by rw[B]at n;cases n;exact T⟩
   |cons c r =>
    have s:dN W y d=none:=(by rw[o];simp[dN]);clear o;go_wp2;go_ret;exact⟨by rw[s];rfl,v,λ C n=>by rw[s]at n;cases n⟩
theorem EU (v0 v1 v2 v3:Vr)(_h0:v0.oneCell'=Q)(w:M):(part 9 #[v0,v1,v2,v3] (0*1)).run Vyj w=.ok v0 w/\(part 9 #[v0,v1,v2,v3] (1*1)).run Vyj w=.ok v1 w/\(part 9 #[v0,v1,v2,v3] (2*1)).run Vyj w=.ok v2 w/\(part 9 #[v0,v1,v2,v3] (3*1)).run Vyj w=.ok v3 w :=
 ⟨kQ,kQ,kQ,kQ⟩
theorem PF:prog.cellsOf 9=1:=kQ
theorem QS:(prog.info? 9).isSome=true:=kQ
theorem qm (d:Nat)(a b:ByteArray)(w:M):(Op.equalIn (d+1) 9 (.string a) (.string b)).run Vyj w=.ok (a==b) w:=by
 simp[Op.equalIn,run_underlying Vyh]
theorem lJ {P:Program}{d:Nat}{e:TypeId}{c i:Nat}{xs f:Array Vr}{g:Ln}{a b:Vr}{r:Bool}(k:(part e xs (i*c)).run P w=.ok a w)(j:(part e f (i*c)).run P w=.ok b w)(h:(Op.equalIn d e a b).run P w=.ok r w) :
  (Op.eqItems d e c xs f (i::g)).run P w=if r then (Op.eqItems d e c xs f g).run P w else .ok Vl w:=by
 simp only[Op.eqItems,Sem.run_bind,k,j,h,Result.andThen_ok];cases r<;>rfl
theorem QT (j g f e d c b a:ByteArray)(w:M) :
  (binOp .eql 160 (.agg #[.string j,.string g,.string f,.string e]) (.agg #[.string d,.string c,.string b,.string a])).run Vyj w=.ok (.bool (j==d&&(g==c&&(f==b&&e==a)))) w:=by
 obtain⟨i,s⟩:=Option.isSome_iff_exists.1 QS;have h:(Op.equalIn (9999+1) 160 (.agg #[.string j,.string g,.string f,.string e]) (.agg #[.string d,.string c,.string b,.string a])).run Vyj w=.ok (j==d&&(g==c&&(f==b&&e==a))) w:=by
  rw[run_equalIn_array w 9999 _ _ underlying160 s,PF];obtain⟨r,q,p,o⟩:=EU (.string j) (.string g) (.string f) (.string e) rfl w;obtain⟨n,m,l,k⟩:=EU (.string d) (.string c) (.string b) (.string a) rfl w;have t:Ud 4=[0,1,2,3]:=rfl;rw[t,lJ r n (qm 9998 j d w),lJ q m (qm 9998 g c w),lJ p l (qm 9998 f b w),lJ o k (qm 9998 e a w)];cases j==d<;>cases g==c<;>cases f==b<;>cases e==a<;>rfl
 simp only[binOp];simp[Op.equal,Op.maxDepth,h]
theorem tw (a b:Lu):(str a==str b)=decide (a=b):=by
 have h:(str a==str b)=(a.toArray==b.toArray):=rfl;rw[h,Bool.eq_iff_iff,beq_iff_eq,decide_eq_true_eq];constructor
 grind
 intro h;rw[h]
theorem JW {l p r:Lu}(h:Lib.trimPrefix l p=r)(w:M) :
  Eq9 127 #[.string (str l),.string (str p)] w (.string (str r)):=by grind [Tryz.strings_TrimPrefix,str]
theorem JX {l r:Lu}(h:Lib.trimPrefix l aZ=r)(w:M) :
  Eq9 127 #[.string (str l),.string ⟨#[104,101,105,103,104,116,32]⟩] w (.string (str r)):=JW h w
theorem JY {l r:Lu}(h:Lib.trimPrefix l bR=r)(w:M) :
  Eq9 127 #[.string (str l),.string ⟨#[119,105,100,116,104,32]⟩] w (.string (str r)):=JW h w
theorem tA {l:Lu}{v:Int}(h:Lib.atoiAll l=.ok v)(c:K l<=1000)(w:M) :
  Rq 126 #[.string (str l)] w (.tuple #[J v,.nilIface]) :=
 (Tryz.strconv_Atoi_ok (str l) (by rw[ar];omega) v h w).mono λ e I ⟨b,a⟩=>⟨b,by
  rcases a with rfl|⟨t,rfl⟩
  exact ae;exact Lib.bytesWorld_below w 5 t⟩
theorem uk {l:Lu}(h:∀v,Lib.atoiAll l≠.ok v)(g:K l<=1000)(w:M)(E9:Env w) :
  Zq 126 #[.string (str l)] w λ e I=>∃v A,e=VJ (.tuple #[J v,.iface 307 (.pointer (Z A))])/\Bq w I:=by
 cases d:Lib.atoiAll l with
 |ok v=>exact Q8 d (h v)
 |«syntax» =>
  obtain⟨a,p,b⟩:=E9.es;exact(Tryz.strconv_Atoi_syntax (str l) (by rw[ar];omega) d _ w b (.inr ⟨a,p,rfl⟩)).mono λ e I ⟨N,c,_,_,f⟩=>⟨_,_,c,f⟩
 |range =>
  obtain⟨a,p,b⟩:=E9.er;exact(Tryz.strconv_Atoi_range (str l) (by rw[ar];omega) d _ w b (.inr ⟨a,p,rfl⟩)).mono λ e I ⟨N,c,_,_,f⟩=>⟨_,_,c,f⟩
theorem Gx {l:Lu}(d:K l<=1000)(w:M)(E9:Env w) :
  Zq 126 #[.string (str l)] w λ e I=>∃v f,e=VJ (.tuple #[J v,f])/\Bq w I:=by
 by_cases h:∃v,Lib.atoiAll l=.ok v;obtain⟨v,a⟩:=h;exact(tA a d w).mono λ e I ⟨b,c⟩=>⟨_,_,b,c⟩;exact(uk (λ v a=>h ⟨v,a⟩) d w E9).mono λ e I ⟨_,_,b,c⟩=>⟨_,_,b,c⟩
def mq (a b c d:Lu):Obj:=VP #[.string (str a),.string (str b),.string (str c),.string (str d)] 160
theorem nV (w:M)(a b c d:Lu){I:M}(e:Vw (G w.heap+1) (w.alloc (mq a b c d)) I) :
  I.cell? (O (G w.heap) 0)=Z (.string (str a))/\D I (O (G w.heap) 1)=Z (.string (str b))/\D I (O (G w.heap) 2)=Z (.string (str c))/\D I (O (G w.heap) 3)=Z (.string (str d)):=by
 have h:∀j,D I (O (G w.heap) j)=D (w.alloc (mq a b c d)) (O (G w.heap) j):=λ j=>e.cell (p:=O (G w.heap) j) (Ur _);refine⟨?_,?_,?_,?_⟩<;>(rw[h];unfold mq;rw[Tb];rfl)
theorem ko (l p:Lu)(h:K l<=1000):K (Lib.trimPrefix l p)<=1000:=by
 unfold Lib.trimPrefix;split
 grind
 exact h
theorem Gy {a b c d:Lu}(h:∀v,Lib.atoiAll (Lib.trimPrefix b aZ)≠.ok v)(B:K b<=1000)(A:K c<=1000)(w:M)(E9:Env w) :
  Zq 80 #[.agg #[.string (str a),.string (str b),.string (str c),.string (str d)]] w λ e I=>(∃x y,e=VJ (.tuple #[J x,J y,.bool Vl]))/\Bq w I:=by
 obtain⟨R,i⟩:∃l,Lib.trimPrefix b aZ=l:=⟨_,rfl⟩;obtain⟨P,g⟩:∃l,Lib.trimPrefix c bR=l:=⟨_,rfl⟩;have p:=ko b aZ B;have o:=ko c bR A;rw[i]at h p;rw[g]at o;have F:=qH i;have C:=qH g;clear i g;have n:Bq w (w.alloc (mq a b c d)):=ae.alloc aa _;obtain⟨t,s,r,q⟩:=nV w a b c d ae;unfold mq at n t s r q;go_enter func80,ntmps80;go_wp2_with (first|(go_at_call 127;refine Q0 (JX F.out _) ?_)|(go_at_call 126;refine(uk h p _ (E9.grown n)).mono ?_));rintro e z ⟨N,T,rfl,f⟩;have j:=f.size;simp only[UI]at j;obtain⟨t,s,r,q⟩:=nV w a b c d (show Vw (G w.heap+1) _ z from by simpa [mq,Bq]using f);have u:=n.trans (f.mono sQ);go_wp2_with (first|(go_at_call 127;refine Q0 (JY C.out _) ?_)|(go_at_call 126;refine(Gx o _ (E9.grown u)).mono ?_));rintro e H ⟨L,S,rfl,k⟩;have m:=u.trans (k.mono U);go_wp2;go_quiet (fail);go_wp2;go_ret3;exact⟨⟨_,_,rfl⟩,Vxj m _⟩
theorem Gz {a b c d:Lu}{v1:Int}(h:Lib.atoiAll (Lib.trimPrefix b aZ)=.ok v1)(t:∀v,Lib.atoiAll (Lib.trimPrefix c bR)≠.ok v)(C:K b<=1000)(B:K c<=1000)(w:M)(E9:Env w) :
  Zq 80 #[.agg #[.string (str a),.string (str b),.string (str c),.string (str d)]] w λ e I=>(∃x y,e=VJ (.tuple #[J x,J y,.bool Vl]))/\Bq w I:=by
 obtain⟨S,i⟩:∃l,Lib.trimPrefix b aZ=l:=⟨_,rfl⟩;obtain⟨R,g⟩:∃l,Lib.trimPrefix c bR=l:=⟨_,rfl⟩;have o:=ko b aZ C;have n:=ko c bR B;rw[i]at h o;rw[g]at t n;have H:=qH i;have F:=qH g;have L:=qH h;clear i g h;have z:Bq w (w.alloc (mq a b c d)):=ae.alloc aa _;obtain⟨s,r,q,p⟩:=nV w a b c d ae;unfold mq at z s r q p;go_enter func80,ntmps80;go_wp2_with (first|(go_at_call 127;refine Q0 (JX H.out _) ?_)|(go_at_call 126;refine(tA L.out o _).mono ?_));rintro e A ⟨rfl,f⟩;have j:=f.size;simp only[UI]at j;obtain⟨s,r,q,p⟩:=nV w a b c d (show Vw (G w.heap+1) _ A from by simpa [mq,Bq]using f);have u:=z.trans (f.mono sQ);go_wp2_with (first|(go_at_call 127;refine Q0 (JY F.out _) ?_)|(go_at_call 126;refine(uk t n _ (E9.grown u)).mono ?_));rintro e N ⟨P,T,rfl,k⟩;have m:=u.trans (k.mono U);go_wp2;go_quiet (fail);go_wp2;go_ret3;exact⟨⟨_,_,rfl⟩,Vxj m _⟩
theorem wV {a b c d:Lu}{v1 v2:Int}(h:Lib.atoiAll (Lib.trimPrefix b aZ)=.ok v1)(q:Lib.atoiAll (Lib.trimPrefix c bR)=.ok v2)(hb:K b<=1000)(Y:K c<=1000)(w:M)(E9:Env w) :
  Rq 80 #[.agg #[.string (str a),.string (str b),.string (str c),.string (str d)]] w (.tuple #[J v2,J v1,.bool (decide (a=eL)&&(decide (b=aZ++Lib.itoa v1)&&(decide (c=bR++Lib.itoa v2)&&decide (d=iG))))]):=by
 have n:=Lib.atoiAll_bounds h;have m:=Lib.atoiAll_bounds q;obtain⟨tb,j⟩:∃l,Lib.trimPrefix b aZ=l:=⟨_,rfl⟩;obtain⟨tc,i⟩:∃l,Lib.trimPrefix c bR=l:=⟨_,rfl⟩;have N:=ko b aZ hb;have L:=ko c bR Y;rw[j]at h N;rw[i]at q L;have HB:=qH j;have HC:=qH i;have HA:=qH h;have I:=qH q;clear j i h q;rw[<- tw,<- tw,<- tw,<- tw];obtain⟨V,H⟩:∃l,eL=l:=⟨_,rfl⟩;obtain⟨t,F⟩:∃l,aZ++Lib.itoa v1=l:=⟨_,rfl⟩;obtain⟨s,C⟩:∃l,bR++Lib.itoa v2=l:=⟨_,rfl⟩;obtain⟨T,B⟩:∃l,iG=l:=⟨_,rfl⟩;rw[H,F,C,B];have H1:=qH H;have H2:=qH F;have H3:=qH C;have H4:=qH B;clear H F C B;have X:=QT (str a) (str b) (str c) (str d) (str V) (str t) (str s) (str T);have P:Bq w (w.alloc (mq a b c d)):=ae.alloc aa _;obtain⟨A,z,y,v⟩:=nV w a b c d ae;unfold mq at P A z y v;go_enter func80,ntmps80;go_wp2_with (first|(go_at_call 127;refine Q0 (JX HB.out _) ?_)|(go_at_call 126;refine(tA HA.out N _).mono ?_));rintro e R ⟨rfl,g⟩;have r:=g.size;simp only[UI]at r;obtain⟨A,z,y,v⟩:=nV w a b c d (show Vw (G w.heap+1) _ R from by simpa [mq,Bq]using g);have Z3:=P.trans (g.mono sQ);go_wp2_with (first|(go_at_call 127;refine Q0 (JY HC.out _) ?_)|(go_at_call 126;refine(tA I.out L _).mono ?_));rintro e k ⟨rfl,f⟩;have S:=f.size;have o:=Z3.trans (f.mono U);have E2:=E9.grown o;have S0:∀x:cJ k,Cq x.u (G w.heap) 0 (.string (str a)):=λ x=>((x.cell _ _ U).trans (f.cell (p:=O (G w.heap) 0) (by show G w.heap<_;omega))).trans A;have S1:∀x:cJ k,Cq x.u (G w.heap) 1 (.string (str b)):=λ x=>((x.cell _ _ U).trans (f.cell (p:=O (G w.heap) 1) (by show G w.heap<_;omega))).trans z;have S2:∀x:cJ k,Cq x.u (G w.heap) 2 (.string (str c)):=λ x=>((x.cell _ _ U).trans (f.cell (p:=O (G w.heap) 2) (by show G w.heap<_;omega))).trans y;have S3:∀x:cJ k,Cq x.u (G w.heap) 3 (.string (str d)):=λ x=>((x.cell _ _ U).trans (f.cell (p:=O (G w.heap) 3) (by show G w.heap<_;omega))).trans v;have VY:Nonempty (cJ k):=⟨⟨k,ae⟩⟩;go_wp2;refine bF kQ kQ ?_
 repeat (go_big_quiet_step (first|(go_at_call 128;exact Calls.Vxe (Af H1.out H2.out H3.out H4.out m.1 m.2 n.1 n.2 _ (E2.grown (cJ.h _))))))
 refine wpQuiet_nil ?_;rintro _ ⟨x,rfl⟩;have W:=x.h.size;go_wp2;go_ret3;exact⟨rfl,o.trans (x.h.mono U)⟩
theorem EW {a b c d:Lu}{W H:Int}(h:sizeOf4 a b c d=Z (W,H))(p:K b<=1000)(o:K c<=1000)(w:M)(E9:Env w) :
  Rq 80 #[.agg #[.string (str a),.string (str b),.string (str c),.string (str d)]] w (.tuple #[J W,J H,.bool Q]):=by
 obtain⟨t,g,f,s,l,k⟩:=qg h;have j:=(ft.1 l).2;have i:=(ft.1 k).2;have r:Lib.atoiAll (Lib.trimPrefix b aZ)=.ok H:=by rw[g,ue];exact kf H j.1 j.2
 have q:Lib.atoiAll (Lib.trimPrefix c bR)=.ok W:=by rw[f,ue];exact kf W i.1 i.2
 refine(wV r q p o w E9).mono λ e I ⟨n,m⟩=>⟨?_,m⟩;rw[n,Q2 t,Q2 g,Q2 f,Q2 s];rfl
theorem JZ {a b c d:Lu}(h:sizeOf4 a b c d=UP)(r:K b<=1000)(q:K c<=1000)(w:M)(E9:Env w) :
  Zq 80 #[.agg #[.string (str a),.string (str b),.string (str c),.string (str d)]] w λ e I=>(∃x y,e=VJ (.tuple #[J x,J y,.bool Vl]))/\Bq w I:=by
 by_cases g:∃v,Lib.atoiAll (Lib.trimPrefix b aZ)=.ok v;obtain⟨j,g⟩:=g;by_cases f:∃v,Lib.atoiAll (Lib.trimPrefix c bR)=.ok v;obtain⟨i,f⟩:=f;refine(wV g f r q w E9).mono λ e I ⟨p,n⟩=>⟨⟨i,j,?_⟩,n⟩;rw[p];have o:(decide (a=eL)&&(decide (b=aZ++Lib.itoa j)&&(decide (c=bR++Lib.itoa i)&&decide (d=iG))))=false:=by
  rw[Bool.eq_false_iff];intro k;simp only[TB,decide_eq_true_eq]at k;obtain⟨z,u,t,s⟩:=k;have m:=Lib.atoiAll_bounds g;have l:=Lib.atoiAll_bounds f;rw[z,u,t,s,Gp i j l.1 l.2 m.1 m.2]at h;cases h
 rw[o]
 grind [Gz]
 grind [Gy]
def qo:Nat->Lu->Option (List Lu×Lu)
 |0,s=>Z ([],s)
 |n+1,s=>match eU s with
  |none=>UP
  |some p=>match qo n p.2 with
   |none=>UP
   |some q=>Z (p.1::q.1,q.2)
theorem J0 (s:Lu):qo 4 s=(jr s).map λ p=>([p.1,p.2.1,p.2.2.1,p.2.2.2.1],p.2.2.2.2):=by
 unfold jr;simp only[qo];cases eU s with
 |none=>rfl
 |some p =>
  simp only;cases eU p.2 with
  |none=>rfl
  |some q =>
   simp only;cases eU q.2 with
   |none=>rfl
   |some r =>
    simp only;cases eU r.2 with
    |none=>rfl
    |some t=>rfl
theorem GA {s a r:Lu}(h:eU s=Z (a,r)):qo (n+1) s=(qo n r).map λ q=>(a::q.1,q.2):=by
 simp only[qo,h];cases qo n r<;>rfl
def dW (w:M) (b:Nat) (ls:List Lu):Prop:=∀i,i<4->D w (O b i)=Z (.string (str (ls.getD i [])))
theorem dW.set {ls:List Lu}(h:dW w b ls)(l:Lu)(a:K ls<4):dW (C' w (O b (K ls)) (.string (str l))) b (ls++[l]):=by grind [dW,str,Go.World.cell?_setCell_same,Td,List.instLawfulGetElemNatLtLength,Std.instReflLeOfIsPreorder,List.getElem_append_right,GetElem.getElem.congr_simp,Go.World.cell?_setCell_other,ck,Nat.lt_or_ge,TO,List.getElem?_eq_none]
theorem Ah (w:M)(c:Array Vr)(t:TypeId):gL (E w (.cells c t)) (G w.heap):=bC w c t _ aa
theorem dW.all {c l1 l2 a:Lu}(h:dW w b [c,l1,l2,a]):Cq w b 0 (.string (str c))/\Cq w b 1 (.string (str l1))/\Cq w b 2 (.string (str l2))/\Cq w b 3 (.string (str a)):=by grind [dW,str]
theorem dW.none (h:dW w b []):Cq w b 0 (.string ⟨#[]⟩)/\Cq w b 1 (.string ⟨#[]⟩)/\Cq w b 2 (.string ⟨#[]⟩)/\Cq w b 3 (.string ⟨#[]⟩) :=
 ⟨h 0 dQ,h 1 dQ,h 2 dQ,h 3 dQ⟩
theorem wW (w:M)(I:M)(a:Vw (G w.heap+1) (E w (VP #[.string ⟨#[]⟩,.string ⟨#[]⟩,.string ⟨#[]⟩,.string ⟨#[]⟩] 160)) I):dW I (G w.heap) []/\gL I (G w.heap):=by
 constructor;intro i b;rw[a.cell (p:=⟨G w.heap,i,Option.none⟩) (Ur _),Tb]
 match i,b with
 |0,_=>rfl
 |1,_=>rfl
 |2,_=>rfl
 |3,_=>rfl
 intro o;rw[a.frozen (p:=⟨G w.heap,o,Option.none⟩) (Ur _)];exact Ah w _ _ o
theorem sy {ls:List Lu}(h:dW w b ls)(f:gL w b):w.there b 0 4:=JN (λ j a=>⟨_,h j a⟩) f
theorem um {B:Nat}{a:M}{v0 v1 v2 v3:Vr}(h:Vw B a w)(c:B<=b):Vw B a ((((C' w (O b 0) v0).setCell (O b 1) v1).setCell (O b 2) v2).setCell (O b 3) v3):=by grind [Go.RowKit.Below.setCell]
theorem dW.touch {ls:List Lu}(h:dW w b ls){c o:Nat}{v:Vr}(a:I=w.setCell ⟨c,o,Option.none⟩ v)(d:b≠c):dW I b ls:=by grind [dW,str,Go.World.cell?_setCell_other]
def mL (s:Lu) (e:Ending):Prop:=match jr s with
 |none=>e=VJ (.tuple #[.agg #[.string (str []),.string (str []),.string (str []),.string (str [])],.string (str []),.bool Vl])
 |some (a,b,c,d,r)=>e=VJ (.tuple #[.agg #[.string (str a),.string (str b),.string (str c),.string (str d)],.string (str r),.bool Q])
theorem sB (s:Lu)(hs:K s<=1000)(w:M)(E9:Env w) :
  Zq 79 #[.string (str s)] w λ e I=>mL s e/\Bq w I:=by
 go_enter func79,ntmps79;go_wp2;go_loopw [6,12] (λ r i wr=>∃(j:Nat) (t:List Lu) (f:Lu),j<=4/\K t=j/\i=J j/\r=.string (str f)/\K f<=1000/\qo 4 s=(qo (4-j) f).map (λ q=>(t++q.1,q.2)) /\
   dW wr (G w.heap) []/\dW wr (G w.heap+1) t/\gL wr (G w.heap)/\gL wr (G w.heap+1)/\Bq w wr)
  (λ _ i _=>4-(intOf i).toNat)
 case atStart =>
  have b1:Vw (G w.heap+1) (E w (VP #[.string ⟨#[]⟩,.string ⟨#[]⟩,.string ⟨#[]⟩,.string ⟨#[]⟩] 160)) ((E w (VP #[.string ⟨#[]⟩,.string ⟨#[]⟩,.string ⟨#[]⟩,.string ⟨#[]⟩] 160)).alloc (VP #[.string ⟨#[]⟩,.string ⟨#[]⟩,.string ⟨#[]⟩,.string ⟨#[]⟩] 160)):=ae.alloc sQ _;obtain⟨x,n⟩:=wW w _ b1;obtain⟨y,A⟩:=wW (E w (VP #[.string ⟨#[]⟩,.string ⟨#[]⟩,.string ⟨#[]⟩,.string ⟨#[]⟩] 160)) _ ae;rw[UI]at y A;exact⟨0,[],s,U,rfl,rfl,rfl,hs,by simp,x,y,n,A,(ae.alloc aa _).alloc sQ _⟩
 case round =>
  obtain⟨j,t,f,hj,u,rfl,rfl,ab,z,x,y,n,A,C⟩:=hrel;have V:=E9.grown C;by_cases T:j<4
  ·have F:=λ l=>y.set l (by rw[u];exact T);rw[u]at F;have c1:=y j T;have f1:=A j;obtain⟨k,hk⟩:∃k,4-j=k+1:=⟨3-j,U⟩;have L:4-(j+1)=k:=U;rw[hk]at z;have j1:(0:Int)<=(j:Int)/\(j:Int)<4:=U;cases g:eU f with
   |none =>
    have R:jr s=none:=by
     have h:=J0 s;rw[z]at h;simp only[qo,g,Option.map_none]at h;cases v:jr s with
     |none=>rfl
     |some p=>rw[v]at h;cases h
    have H:=sy x n;obtain⟨r0,Y,X,W⟩:=x.none;have f0:=n 0;have f1:=n 1;have f2:=n 2;have f3:=n 3;have Y6:=qH R;clear z F x y n A R;go_wp2_with (go_at_call 61;refine QQ (Ag g U _ V) λ B=>?_)
    (try simp only[Exit.inBlock,Exit.then])
    refine Vxl (qh rfl _ _ (G w.heap) _ _ rfl (CX (wr.drewN B) (G w.heap) _ _ _ _ H) underlying160 rfl CW) rfl ⟨by unfold mL;rw[Y6.out];rfl,?_⟩;exact um (Vxj C B) aa
   |some p =>
    obtain⟨l,m⟩:=p;have WH:=jz g;have S:qo 4 s=(qo k m).map (λ q=>((t++[l])++q.1,q.2)):=by
     rw[z,GA g];cases qo k m with
     |none=>rfl
     |some q=>simp
    have HX:=qH S;have VY:G w.heap≠G w.heap+1:=U;have Xm:=qH (F l);clear z F S;go_wp2_with (go_at_call 61;refine QQ (ql g U _ V) λ B=>?_);go_roundw
    case rel=>exact⟨j+1,t++[l],m,U,by simp[u],gQ,rfl,U,by rw[L];exact HX.out,x.touch (I:=C' wr (O (G w.heap+1) j) (.string (str l))) rfl VY,Xm.out,λ o=>by simpa using n o,λ o=>by simpa using A o,(Vxj C B).setCell (p:=O (G w.heap+1) j) (Nat.le_succ _) _⟩
    case measure=>simp[intOf];omega
  ·have h:K t=4:=U;obtain⟨a,b,c,d,rfl⟩:∃a b c d,t=[a,b,c,d]:=by
    match t,h with
    |[a,b,c,d],_=>exact⟨a,b,c,d,rfl⟩
   have P:jr s=Z (a,b,c,d,f):=by
    have h:=J0 s;rw[z]at h;have e0:4-j=0:=U;rw[e0]at h;simp only[qo,Option.map_some,TU]at h;cases v:jr s with
    |none=>rw[v]at h;cases h
    |some p =>
     rw[v]at h;simp at h;obtain⟨⟨e1,e2,e3,e4⟩,e5⟩:=h;rw[e1,e2,e3,e4,e5]
   have H:=sy x n;obtain⟨r0,Y,X,W⟩:=x.none;obtain⟨c0,c1,c2,c3⟩:=y.all;have f0:=n 0;have f1:=n 1;have f2:=n 2;have f3:=n 3;have HY:=qH P;have N:j=4:=U;clear z x y n A P u h;subst N;rw[show ((4:Nat):Int)=4 from rfl];go_wp2
   (try simp only[Exit.inBlock,Exit.then])
   refine Vxl (qh rfl _ _ (G w.heap) _ _ rfl (CX wr (G w.heap) _ _ _ _ H) underlying160 rfl CW) rfl ⟨by unfold mL;rw[HY.out];rfl,?_⟩;exact um C aa
theorem GB {s:Lu}(h:jr s=UP)(b:K s<=1000)(w:M)(E9:Env w) :
  Rq 79 #[.string (str s)] w (.tuple #[.agg #[.string (str []),.string (str []),.string (str []),.string (str [])],.string (str []),.bool Vl]) :=
 (sB s b w E9).mono λ e I ⟨a,c⟩=>⟨by unfold mL at a;rw[h]at a;exact a,c⟩
theorem rJ {s a b c d r:Lu}(h:jr s=Z (a,b,c,d,r))(g:K s<=1000)(w:M)(E9:Env w) :
  Rq 79 #[.string (str s)] w (.tuple #[.agg #[.string (str a),.string (str b),.string (str c),.string (str d)],.string (str r),.bool Q]) :=
 (sB s g w E9).mono λ e I ⟨f,i⟩=>⟨by unfold mL at f;rw[h]at f;exact f,i⟩
theorem mM {s a b c d r:Lu}(h:jr s=Z (a,b,c,d,r)):K b<=K s/\K c<=K s/\K r<=K s:=by
 unfold jr at h;split at h;cases h
 rename_i i
 split at h;cases h
 rename_i g
 split at h;cases h
 rename_i f
 split at h;cases h
 rename_i e
 simp at h;obtain⟨rfl,rfl,rfl,rfl,rfl⟩:=h;have m:=jz i;have l:=jz g;have k:=jz f;have j:=jz e;omega
theorem Da {s:Lu}(h:1000<K s)(w:M) :
  Rq 47 #[.string (str s)] w (.tuple #[.pointer UP,.iface 42 (J 2)]):=by
 have b:=ar s;have a:(1000:Int)<(K s:Int):=U;go_enter func47,ntmps47;go_wp2;go_ret2;exact⟨rfl,ae⟩
theorem Db {s:Lu}(h:¬1000<K s)(b:jr s=UP)(w:M)(E9:Env w) :
  Rq 47 #[.string (str s)] w (.tuple #[.pointer UP,.iface 42 (J 3)]):=by
 have f:=ar s;have e:¬(1000:Int)<(K s:Int):=U;have c:=qH b;clear b;go_enter func47,ntmps47;go_wp2_with (go_at_call 79;refine Q9 (GB c.out U _ E9) λ d a=>?_);go_ret2;exact⟨rfl,a.alloc (Oq a.size) _⟩
theorem Dc {s a b c d r:Lu}(h:¬1000<K s)(i:jr s=Z (a,b,c,d,r))(j:sizeOf4 a b c d=UP)(w:M)(E9:Env w) :
  Rq 47 #[.string (str s)] w (.tuple #[.pointer UP,.iface 42 (J 3)]):=by
 have z:=ar s;have v:¬(1000:Int)<(K s:Int):=U;obtain⟨u,t,q⟩:=mM i;have n:=qH i;have m:=qH j;clear i j;go_enter func47,ntmps47;go_wp2_with (go_at_call 79;refine Q9 (rJ n.out U _ E9) λ l g=>?_);have o:=g.size;have f:Bq w (l.alloc (mq a b c d)):=g.alloc U _;have k:=E9.grown f;unfold mq at f k;go_wp2_with (go_at_call 80;refine(JZ m.out U U _ k).mono ?_;rintro e p ⟨⟨x,y,rfl⟩,hb3⟩);go_ret2;exact⟨rfl,f.trans (hb3.mono sU)⟩
theorem Ai {s a b c d r:Lu}{W H:Int}(h:¬1000<K s)(g:jr s=Z (a,b,c,d,r))(i:sizeOf4 a b c d=Z (W,H))(l:aT W=Vl\/(aT W=Q/\aT H=Vl))(w:M)(E9:Env w) :
  Rq 47 #[.string (str s)] w (.tuple #[.pointer UP,.iface 42 (J 1)]):=by
 have x:=ar s;have v:¬(1000:Int)<(K s:Int):=U;obtain⟨u,t,q⟩:=mM g;have n:=qH g;have m:=qH i;clear g i;go_enter func47,ntmps47;go_wp2_with (go_at_call 79;refine Q9 (rJ n.out U _ E9) λ k f=>?_);have o:=f.size;have e:Bq w (k.alloc (mq a b c d)):=f.alloc U _;have j:=E9.grown e;unfold mq at e j;go_wp2_with (first|(go_at_call 80;refine Q9 (EW m.out U U _ j) λ p hb3=>?_)|(go_at_call 45;refine Q0 (Ex _ _ _ l) ?_));go_ret2;exact⟨rfl,e.trans (hb3.mono sU)⟩
theorem GC (h:aT W=Q)(k:aT H=Q)(w:M):dh (E w (.cells (fF W H) 149)) (G w.heap) W H [] :=
 ⟨ph W H w h k,bC w _ _ _ aa⟩
theorem uo {s a b c d r:Lu}{o:Option (List Bool)}(h:¬1000<K s)(k:jr s=Z (a,b,c,d,r))(q:sizeOf4 a b c d=Z ((W:Int),(H:Int)))(t:aT W=Q)(v:aT H=Q)(u:dN W H r=o)(w:M)(E9:Env w) :
  Zq 47 #[.string (str s)] w λ e I=>((o=UP/\e=VJ (.tuple #[.pointer UP,.iface 42 (J 3)]))\/(∃cs,o=Z cs/\∃B,G w.heap<=B/\B<G I.heap/\e=VJ (.tuple #[Pq B,.nilIface])/\dh I B W H cs))/\Bq w I:=by
 have Ws:=ar s;have h1:¬(1000:Int)<(K s:Int):=U;obtain⟨l1,l2,l3⟩:=mM k;have P:=qH k;have L:=qH q;have N:=qH u;clear k q u;go_enter func47,ntmps47;go_wp2_with (go_at_call 79;refine Q9 (rJ P.out U _ E9) λ F i=>?_);have Y:=i.size;have f:Bq w (F.alloc (mq a b c d)):=i.alloc U _;have A:=E9.grown f;unfold mq at f A;go_wp2_with (first|(go_at_call 80;refine Q9 (EW L.out U U _ A) λ g hb3=>?_));have C:=hb3.size;simp only[UI]at C;have l:Bq w g:=f.trans (hb3.mono sU);have x:Bq w (E g (.cells (fF W H) 149)):=l.alloc U _;have R:=E9.grown x;have T:=GC t v g;have V:=E9.z;go_wp2_with (first|(go_at_call 45;refine Q0 (CA _ _ _ t v) ?_)|(go_at_call 81;refine(JV r _ R U T U).mono ?_));rintro e p ⟨j,y,n⟩;subst j;rw[N.out]at n ⊢;have m:Bq w p:=x.trans (y.under.mono U);have X:G p.heap=G g.heap+1:=by rw[y.size];simp
 cases o with
 |none =>
  go_wp2;go_ret2
  first|exact⟨.inl ⟨rfl,rfl⟩,m⟩|exact⟨rfl,m⟩
 |some cs =>
  have S:=n cs rfl;clear n;go_wp2;go_ret2;exact⟨.inr ⟨cs,rfl,G g.heap,U,U,rfl,S⟩,m⟩
theorem uq {W H:Int}(h:¬(qf W=Q/\qf H=Q)):aT W=Vl\/(aT W=Q/\aT H=Vl):=by
 have d:qf W=aT W:=rfl;have c:qf H=aT H:=rfl;rw[d,c]at h;cases b:aT W with
 |false=>exact .inl rfl
 |true =>
  refine .inr ⟨rfl,?_⟩;cases a:aT H with
  |false=>rfl
  |true=>exact Q8 ⟨b,a⟩ h
theorem ir {W:Int}(h:qf W=Q):((W.toNat:Nat):Int)=W:=by grind [qf]
theorem GF {s:Lu}(h:cH s=.bad n)(w:M)(E9:Env w) :
  Rq 47 #[.string (str s)] w (.tuple #[.pointer UP,.iface 42 (J n)]):=by
 unfold cH at h;split at h
 grind [Da]
 rename_i m
 split at h
 grind [Db]
 rename_i a b c d r l
 split at h
 grind [Dc]
 rename_i W H g
 split at h
 rename_i f
 split at h
 rename_i k
 cases h;have j:=ir f.1;have i:=ir f.2;rw[<- j,<- i]at g;exact(uo m l g (by rw[j];exact f.1) (by rw[i];exact f.2) k w E9).mono λ e I ⟨o,p⟩=>by grind
 cases h
 grind [Ai,uq]
theorem ur {s:Lu}(h:cH s=.good W H cs)(w:M)(E9:Env w) :
  Zq 47 #[.string (str s)] w λ e I=>∃B,G w.heap<=B/\B<G I.heap/\e=VJ (.tuple #[Pq B,.nilIface])/\dh I B W H cs/\Bq w I:=by
 unfold cH at h;split at h;cases h
 rename_i p
 split at h;cases h
 rename_i a b c d r o
 split at h;cases h
 rename_i t x g
 split at h
 rename_i f
 split at h;cases h
 rename_i q n
 injection h with m l k
 subst m l k;have j:=ir f.1;have i:=ir f.2;rw[<- j,<- i]at g;exact(uo p o g (by rw[j];exact f.1) (by rw[i];exact f.2) n w E9).mono λ e I ⟨u,v⟩=>by grind
 cases h
end Go.Proofs.YtikdmenjibkgiaaGreatDoor
