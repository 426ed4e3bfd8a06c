/- Texts laid together. -/
import Derived.Test.YtikdmenjibkgiaaGreatDoorP1
import Derived.Deep.RegionWith
namespace Go.Proofs.YtikdmenjibkgiaaGreatDoor
open Go renaming below_drewN->Vxj
open Go.World renaming ownsRow->G'
open _root_.Array renaming size->G
open _root_.Int renaming add_mul->Ul,add_assoc->TT,emod_nonneg->VF,emod_lt_of_pos->Vm,ediv_nonneg->VG,ediv_lt_of_lt_mul->Va,mul_comm->U4,add_zero->Uk,mul_nonneg->UL,add_comm->T9
open _root_.Or renaming inl->SQ,inr->SP
open _root_.List renaming replicate->Us,mem_cons->TD,range->Ud,any_eq_true->Uv,length->K
open Go.Proofs.Tryz
open _root_.Option renaming some->Z
open _root_.Bool renaming true->Q,false->Vl
variable {W H o a s d c x y r b p t u X Y9 v V:Int}{e k j:Nat}
set_option maxHeartbeats 8000000
set_option maxRecDepth 1000000
open Go.RowKit
theorem FN {H:Int}{Y:Bn}(t:1<=W)(h:Wk (aF W H Y) o a s d) :
  val (dst (dst (o%W) (a%W)) (dst (o/W) (a/W))) (les (dst (o%W) (a%W)) (dst (o/W) (a/W)))<=val s d:=by
 refine h.ind (R:=λ a s d=>val (dst (dst (o%W) (a%W)) (dst (o/W) (a/W))) (les (dst (o%W) (a%W)) (dst (o/W) (a/W)))<=val s d) ?_ (λ a s d k b _ j e=>?_)
 ·unfold dst les val;simp
 ·obtain⟨w,v,m,l⟩:=e;obtain⟨_,i,_,_⟩:=fZ m;obtain⟨r,q,p,n⟩:=lj i;have e:a+(af k*W+ah k)=(a/W+af k)*W+(a%W+ah k):=by grind [gC,Ul]
  obtain⟨u,g,f⟩:=pX (H:=H) t r q p n;rw[l,e,g,f];clear e u g f r q p n i m l v;rw[cP];generalize o%W=y at *;generalize o/W=x at *;generalize a%W=A at *;generalize a/W=z at *;have c:k=0\/k=1\/k=2\/k=3\/k=4\/k=5\/k=6\/k=7:=U;have B:ah k=0/\af k=-1/\stS k=1/\stD k=0\/ah k=0/\af k=1/\stS k=1/\stD k=0\/ah k=1/\af k=0/\stS k=1/\stD k=0\/ah k=-1/\af k=0/\stS k=1/\stD k=0\/(ah k=1\/ah k=-1)/\(af k=1\/af k=-1)/\stS k=0/\stD k=1:=by
   rcases c with rfl|rfl|rfl|rfl|rfl|rfl|rfl|rfl<;>decide
  refine Int.le_trans ?_ (Int.add_le_add_right j _);clear j c w;unfold val dst les;split<;>split<;>split<;>split<;>split<;>split<;>(try split)<;>(try split)<;>omega
theorem cL.sym {Y:Bn}{F G9:Int->Oi}(f:1<=W)(b:cL (aF W H Y) o F)(a:cL (aF W H Y) c G9){s d:Int}(h:F c=Z (s,d)):G9 o=Z (s,d):=by
 obtain⟨i,l,e,w⟩:=a.least ((b.sound h).back (aF.back f));obtain⟨u,d2,g,v⟩:=b.least ((a.sound e).back (aF.back f));rw[h]at g;cases g;obtain⟨t,r,q⟩:=b.small h;obtain⟨p,n,m⟩:=a.small e;have y:=cT t r q;have x:=cT p n m;obtain⟨k,j⟩:=iS i l s d U U U;rw[e,k,j]
theorem FO {Y:Bn}(f:Y o.toNat=Vl)(h:Wk (aF W H Y) o a s d):Y a.toNat=false:=by
 refine h.ind (R:=λ a _ _=>Y a.toNat=Vl) f (λ a s d k b _ _ e=>?_);obtain⟨l,j,i,g⟩:=e;obtain⟨_,c,_,_⟩:=fZ i;have e:a+(af k*W+ah k)=(a/W+af k)*W+(a%W+ah k):=by grind [gC,Ul]
 rw[g,e];unfold aM at c;rw[Bool.and_eq_true]at c
 simpa using c.2
theorem fX (a:0<=x)(h:x<=1000):IntKind.i64.wrap x=x:=by unfold IntKind.wrap;simp[IntKind.bits,IntKind.signed];omega
theorem lW (a:0<=x)(h:x<=1000):fB x:=⟨U,U⟩
def vn (W H:Int) (Y:Bn) (x y:Int):Prop :=
 aM W H Y x y=Q/\∃k,k<8/\k%2=1/\aM W H Y (x+ah k) (y+af k)=Vl/\aM W H Y (x+ah k) y=Q/\aM W H Y x (y+af k)=Q
theorem sx0:ah 0=0:=rfl
theorem sx1:ah 1=1:=rfl
theorem sx2:ah 2=1:=rfl
theorem sx3:ah 3=1:=rfl
theorem sx4:ah 4=0:=rfl
theorem sx5:ah 5=-1:=rfl
theorem sx6:ah 6=-1:=rfl
theorem sx7:ah 7=-1:=rfl
theorem sy0:af 0=-1:=rfl
theorem sy1:af 1=-1:=rfl
theorem sy2:af 2=0:=rfl
theorem sy3:af 3=1:=rfl
theorem sy4:af 4=1:=rfl
theorem sy5:af 5=1:=rfl
theorem sy6:af 6=0:=rfl
theorem sy7:af 7=-1:=rfl
theorem k8 {d:Nat}(h:d<8):d=0\/d=1\/d=2\/d=3\/d=4\/d=5\/d=6\/d=7:=U
theorem RO {Y:Bn}{d:Nat}(a:d<8)(f:e=(d+3)%8\/e=(d+5)%8)(c:bu W H Y x y d=Q)(b:bu W H Y (x+ah d) (y+af d) e=Q) :
  ∃k,k<8/\k%2=0/\bu W H Y x y k=Q/\ah k=ah d+ah e/\af k=af d+af e:=by
 unfold bu at *;generalize aM W H Y=g at *;rcases f with rfl|rfl
 refine⟨if d%2=0 then (d+2)%8 else (d+1)%8,?_⟩;rcases k8 a with rfl|rfl|rfl|rfl|rfl|rfl|rfl|rfl<;>simp[sx0,sx1,sx2,sx3,sx4,sx5,sx6,sx7,sy0,sy1,sy2,sy3,sy4,sy5,sy6,sy7,TT]at c b ⊢ <;> simp_all
 refine⟨if d%2=0 then (d+6)%8 else (d+7)%8,?_⟩;rcases k8 a with rfl|rfl|rfl|rfl|rfl|rfl|rfl|rfl<;>simp[sx0,sx1,sx2,sx3,sx4,sx5,sx6,sx7,sy0,sy1,sy2,sy3,sy4,sy5,sy6,sy7,TT]at c b ⊢ <;> simp_all
theorem Qu {Y:Bn}{d:Nat}(j:d<8)(i:d%2=0)(h:e=(d+2)%8\/e=(d+6)%8)(f:bu W H Y x y d=Q)(c:bu W H Y (x+ah d) (y+af d) e=Q) :
  vn W H Y (x+ah d) (y+af d)\/∃k,k<8/\k%2=1/\bu W H Y x y k=Q/\ah k=ah d+ah e/\af k=af d+af e:=by
 unfold bu vn at *;generalize aM W H Y=g at *;have b:d=0\/d=2\/d=4\/d=6:=U;rcases h with rfl|rfl
 cases a:g (x+ah d+ah ((d+3)%8)) (y+af d+af ((d+3)%8)) with
 |false =>
  left;refine⟨?_,(d+3)%8,?_⟩<;>rcases b with rfl|rfl|rfl|rfl<;>simp[sx0,sx1,sx2,sx3,sx4,sx5,sx6,sx7,sy0,sy1,sy2,sy3,sy4,sy5,sy6,sy7,TT]at f c a ⊢ <;> simp_all
 |true =>
  right;refine⟨(d+1)%8,?_⟩;rcases b with rfl|rfl|rfl|rfl<;>simp[sx0,sx1,sx2,sx3,sx4,sx5,sx6,sx7,sy0,sy1,sy2,sy3,sy4,sy5,sy6,sy7,TT]at f c a ⊢ <;> simp_all
 cases a:g (x+ah d+ah ((d+5)%8)) (y+af d+af ((d+5)%8)) with
 |false =>
  left;refine⟨?_,(d+5)%8,?_⟩<;>rcases b with rfl|rfl|rfl|rfl<;>simp[sx0,sx1,sx2,sx3,sx4,sx5,sx6,sx7,sy0,sy1,sy2,sy3,sy4,sy5,sy6,sy7,TT]at f c a ⊢ <;> simp_all
 |true =>
  right;refine⟨(d+7)%8,?_⟩;rcases b with rfl|rfl|rfl|rfl<;>simp[sx0,sx1,sx2,sx3,sx4,sx5,sx6,sx7,sy0,sy1,sy2,sy3,sy4,sy5,sy6,sy7,TT]at f c a ⊢ <;> simp_all
theorem Qv {Y:Bn}{d:Nat}(h:d<8)(g:d%2=1)(f:e=(d+2)%8\/e=(d+6)%8)(c:bu W H Y x y d=Q)(b:bu W H Y (x+ah d) (y+af d) e=Q) :
  ∃k,k<8/\k%2=0/\bu W H Y x y k=Q/\bu W H Y (x+ah k) (y+af k) k=Q/\ah k+ah k=ah d+ah e/\af k+af k=af d+af e:=by
 unfold bu at *;generalize aM W H Y=i at *;have a:d=1\/d=3\/d=5\/d=7:=U;rcases f with rfl|rfl
 refine⟨(d+1)%8,?_⟩;rcases a with rfl|rfl|rfl|rfl<;>simp[sx0,sx1,sx2,sx3,sx4,sx5,sx6,sx7,sy0,sy1,sy2,sy3,sy4,sy5,sy6,sy7,TT]at c b ⊢ <;> simp_all
 refine⟨(d+7)%8,?_⟩;rcases a with rfl|rfl|rfl|rfl<;>simp[sx0,sx1,sx2,sx3,sx4,sx5,sx6,sx7,sy0,sy1,sy2,sy3,sy4,sy5,sy6,sy7,TT]at c b ⊢ <;> simp_all
theorem Ph {Y:Bn}{d:Nat}(b:d<8)(h:e=(d+1)%8\/e=(d+7)%8)(f:bu W H Y x y d=Q)(c:bu W H Y (x+ah d) (y+af d) e=Q) :
  vn W H Y (x+ah d) (y+af d)\/(bu W H Y x y e=Q/\bu W H Y (x+ah e) (y+af e) d=Q):=by
 unfold bu vn at *;generalize aM W H Y=g at *;rcases h with rfl|rfl
 cases a:g (x+ah d+ah (if d%2=0 then (d+3)%8 else (d+2)%8)) (y+af d+af (if d%2=0 then (d+3)%8 else (d+2)%8)) with
 |false =>
  left;refine⟨?_,if d%2=0 then (d+3)%8 else (d+2)%8,?_⟩<;>rcases k8 b with rfl|rfl|rfl|rfl|rfl|rfl|rfl|rfl<;>simp[sx0,sx1,sx2,sx3,sx4,sx5,sx6,sx7,sy0,sy1,sy2,sy3,sy4,sy5,sy6,sy7,TT]at f c a ⊢ <;> simp_all
 |true =>
  right;rcases k8 b with rfl|rfl|rfl|rfl|rfl|rfl|rfl|rfl<;>simp[sx0,sx1,sx2,sx3,sx4,sx5,sx6,sx7,sy0,sy1,sy2,sy3,sy4,sy5,sy6,sy7,TT]at f c a ⊢ <;> simp_all
 cases a:g (x+ah d+ah (if d%2=0 then (d+5)%8 else (d+6)%8)) (y+af d+af (if d%2=0 then (d+5)%8 else (d+6)%8)) with
 |false =>
  left;refine⟨?_,if d%2=0 then (d+5)%8 else (d+6)%8,?_⟩<;>rcases k8 b with rfl|rfl|rfl|rfl|rfl|rfl|rfl|rfl<;>simp[sx0,sx1,sx2,sx3,sx4,sx5,sx6,sx7,sy0,sy1,sy2,sy3,sy4,sy5,sy6,sy7,TT]at f c a ⊢ <;> simp_all
 |true =>
  right;rcases k8 b with rfl|rfl|rfl|rfl|rfl|rfl|rfl|rfl<;>simp[sx0,sx1,sx2,sx3,sx4,sx5,sx6,sx7,sy0,sy1,sy2,sy3,sy4,sy5,sy6,sy7,TT]at f c a ⊢ <;> simp_all
section
def Pth (W H:Int) (Y:Bn):Int->Ln->Int->Prop
 |p,[],q=>p=q
 |p,k::ds,q=>∃r,aF W H Y p k r/\Pth W H Y r ds q
def cst:Ln->Int
 |[]=>0
 |k::ds=>val (stS k) (stD k)+cst ds
theorem vp:∀a,0<=cst a
 |[]=>Int.le_refl _
 |k::a=>by have:=vp a;have:=(mF k).1;show 0<=val (stS k) (stD k)+cst a;omega
theorem Pth.snoc {Y:Bn}:∀{a:Ln}{p q:Int},Pth W H Y p a q->aF W H Y q k r->Pth W H Y p (a++[k]) r
 |[],_,_,h,e=>⟨r,h▸e,rfl⟩
 |_::_,_,_,⟨y,b,h⟩,e=>⟨y,b,h.snoc e⟩
theorem Bv (k:Nat):∀a:Ln,cst (a++[k])=cst a+val (stS k) (stD k)
 |[]=>by show val (stS k) (stD k)+0=0+val (stS k) (stD k);omega
 |j::a=>by show val (stS j) (stD j)+cst (a++[k])=val (stS j) (stD j)+cst a+val (stS k) (stD k);rw[Bv k a];omega
theorem Wk.path {Y:Bn}(h:Wk (aF W H Y) a b s d):∃c,Pth W H Y a c b/\cst c=val s d:=by
 refine h.ind (R:=λ b s d=>∃c,Pth W H Y a c b/\cst c=val s d) ⟨[],rfl,dQ⟩ (λ p s d k q _ f e=>?_);obtain⟨c,i,g⟩:=f;exact⟨c++[k],i.snoc e,by rw[Bv,g,cP]⟩
variable {W H : Int} {Y : Nat → Bool} {a b : Int} {F G9 : Int → Option (Int × Int)}
theorem cL.fwd (i:cL (aF W H Y) a F):∀{b:Ln}{p q s d:Int},Pth W H Y p b q->F p=Z (s,d)->∃f g,F q=Z (f,g)/\val f g<=val s d+cst b
 |[],p,q,s,d,h,c=>⟨s,d,by rw[<- (show p=q from h)];exact c,by show _<=val s d+0;omega⟩
 |k::b,p,q,s,d,⟨r,e,h⟩,c=>by
  obtain⟨n,d1,m,t⟩:=i.Vxh c e;obtain⟨j,d2,l,o⟩:=i.fwd h m;exact⟨j,d2,l,by show _<=val s d+(val (stS k) (stD k)+cst b);omega⟩
theorem cL.bwd (d:1<=W)(i:cL (aF W H Y) b G9):∀{a:Ln}{p q t u:Int},Pth W H Y p a q->G9 q=Z (t,u)->∃g f,G9 p=Z (g,f)/\val g f<=val t u+cst a
 |[],p,q,t,u,h,c=>⟨t,u,by rw[(show p=q from h)];exact c,by show _<=val t u+0;omega⟩
 |k::a,p,q,t,u,⟨r,e,h⟩,c=>by
  obtain⟨t1,u1,m,w⟩:=i.bwd d h c;obtain⟨v,s,o,n⟩:=aF.back d _ _ _ e;obtain⟨t2,u2,l,j⟩:=i.Vxh m s;rw[o,n]at j;exact⟨t2,u2,l,by show _<=val t u+(val (stS k) (stD k)+cst a);omega⟩
theorem Wk.join {E9:Int->Nat->Int->Prop}{q:Int}(h:Wk E9 a p s d)(k:Wk E9 p q t u):Wk E9 a q (s+t) (d+u):=by
 refine k.ind (R:=λ q t u=>Wk E9 a q (s+t) (d+u)) (by simpa using h) (λ x t u k y _ b e=>?_);have:=b.step e;rw[TT,TT]at this;exact this
theorem Me (h:1<=W)(g:cL (aF W H Y) a F)(l:cL (aF W H Y) b G9){c d0:Int}(k:F b=Z (c,d0)){p s d t u:Int}(j:F p=Z (s,d))(i:G9 p=Z (t,u)):val c d0<=val s d+val t u:=by
 obtain⟨m,n,f,e⟩:=g.least ((g.sound j).join ((l.sound i).back (aF.back h)));rw[k]at f;cases f;rw[cP]at e;exact e
def Tgt (W H:Int) (Y:Bn) (F G9:Int->Oi) (D9:Int) (p:Int) (ds:Ln) (q:Int):Prop :=
 Pth W H Y p ds q/\∃s d t u,F p=Z (s,d)/\G9 q=Z (t,u)/\val s d+cst ds+val t u=D9
def OnW (F G9:Int->Oi) (D9:Int) (p:Int):Prop:=∃s d t u,F p=Z (s,d)/\G9 p=Z (t,u)/\val s d+val t u=D9/\0<val s d/\0<val t u
theorem Tgt.tail (l:1<=W)(j:cL (aF W H Y) a F)(i:cL (aF W H Y) b G9){c d0:Int}(A:F b=Z (c,d0)){p q:Int}{k:Nat}{f:Ln}(h:Tgt W H Y F G9 (val c d0) p (k::f) q) :
  ∃r,aF W H Y p k r/\Tgt W H Y F G9 (val c d0) r f q/\(0<cst f->OnW F G9 (val c d0) r):=by
 obtain⟨⟨r,e,n⟩,s,d,t,u,o,g,z⟩:=h;obtain⟨m,d1,f1,f2⟩:=j.Vxh o e;obtain⟨t1,u1,v,L⟩:=i.bwd l n g;have:=Me l j i A f1 v;have y:val s d+(val (stS k) (stD k)+cst f)+val t u=val c d0:=z;have I:=(mF k).1;have C:0<=val s d:=by obtain⟨x,w,_⟩:=j.small o;unfold val;omega
 have B:0<=val t u:=by obtain⟨x,w,_⟩:=i.small g;unfold val;omega
 exact⟨r,e,⟨n,m,d1,t,u,f1,g,U⟩,λ N=>⟨m,d1,t1,u1,f1,v,U,U,U⟩⟩
theorem Tgt.least (g:1<=W)(f:cL (aF W H Y) a F)(m:cL (aF W H Y) b G9){c d0:Int}(k:F b=Z (c,d0)){p q:Int}{e ds':Ln}(h:Tgt W H Y F G9 (val c d0) p e q)(l:Pth W H Y p ds' q):cst e<=cst ds':=by
 obtain⟨_,s,d,t,u,j,i,o⟩:=h;obtain⟨n,d1,f1,f2⟩:=f.fwd l j;have:=Me g f m k f1 i;omega
theorem kM (h:k%2=0):val (stS k) (stD k)=38613965:=by unfold val stS stD;rw[h];decide
theorem qU (h:k%2=1):val (stS k) (stD k)=54608393:=by unfold val stS stD;rw[h];decide
theorem aF.place (a:1<=W){p r:Int}{k:Nat}(e:aF W H Y p k r):r%W=p%W+ah k/\r/W=p/W+af k:=by
 obtain⟨_,_,g,f⟩:=e;obtain⟨_,d,_,_⟩:=fZ g;obtain⟨l,j,i,h⟩:=lj d;have e:p+(af k*W+ah k)=(p/W+af k)*W+(p%W+ah k):=by grind [gC,Ul]
 obtain⟨m,c,b⟩:=pX (H:=H) a l j i h;rw[f,e,c,b];exact⟨rfl,rfl⟩
theorem Tgt.two (f:1<=W)(v:cL (aF W H Y) a F)(o:cL (aF W H Y) b G9){R d0:Int}(n:F b=Z (R,d0))(hC:∀p,OnW F G9 (val R d0) p->¬vn W H Y (p%W) (p/W))
  {p q:Int}{d e:Nat}{c:Ln}(h:Tgt W H Y F G9 (val R d0) p (d::e::c) q):e=d\/((e=(d+1)%8\/e=(d+7)%8)/\Tgt W H Y F G9 (val R d0) p (e::d::c) q):=by
 obtain⟨r,I,hr,ab⟩:=h.tail f v o n;obtain⟨z,e2,B,_⟩:=hr.tail f v o n;have i:=hC r (ab (by have:=(mF e).1;have:=vp c;show 0<val (stS e) (stD e)+cst c;omega));obtain⟨x1,y1⟩:=I.place f;have m:=I.1;have he:=e2.1;have S:=I.2.2.1;have w:=e2.2.2.1;have ip:=I.2.1;have P:=I.2.2.2;have N:=e2.2.2.2;rw[x1,y1]at i w;have vd:=mF d;have ve:=mF e;have Wx:cst (d::e::c)=val (stS d) (stD d)+(val (stS e) (stD e)+cst c):=rfl;have L:∀k,k<8->bu W H Y (p%W) (p/W) k=Q->ah k=ah d+ah e->af k=af d+af e->aF W H Y p k z:=λ k hk hm hx hy=>⟨hk,ip,hm,by rw[N,P,hx,hy,Ul];omega⟩;have Xk:e=d\/(e=(d+1)%8\/e=(d+7)%8)\/(e=(d+2)%8\/e=(d+6)%8)\/(e=(d+3)%8\/e=(d+5)%8)\/e=(d+4)%8:=U;rcases Xk with g|g|g|g|g
 exact SQ g;right;refine⟨g,?_⟩;rcases Ph m g S w with hc|⟨n1,n2⟩
 exact Q8 hc i;have j:aF W H Y p e (p+(af e*W+ah e)):=⟨he,ip,n1,rfl⟩;have e4:aF W H Y (p+(af e*W+ah e)) d z:=by
  obtain⟨X,V⟩:=j.place f;exact⟨m,j.in' f,by rw[X,V];exact n2,by rw[N,P];omega⟩
 obtain⟨_,s,d',t,u,f1,f2,f3⟩:=h;refine⟨⟨_,j,z,e4,B.1⟩,s,d',t,u,f1,f2,?_⟩;rw[Wx]at f3;show val s d'+(val (stS e) (stD e)+(val (stS d) (stD d)+cst c))+val t u=_;omega;exfalso;by_cases hp:d%2=0;rcases Qu m hp g S w with hc|⟨k,l,A,y,x,T⟩
 exact i hc;have:=h.least f v o n (ds':=k::c) ⟨z,L k l y x T,B.1⟩;have c1:=qU A;have c2:=kM hp;have c3:val (stS e) (stD e)=38613965:=kM U;have:cst (k::c)=val (stS k) (stD k)+cst c:=rfl;omega;have C:d%2=1:=U;obtain⟨k,l,A,y,x,T,k6⟩:=Qv m C g S w;have j:aF W H Y p k (p+(af k*W+ah k)):=⟨l,ip,y,rfl⟩;have e4:aF W H Y (p+(af k*W+ah k)) k z:=by
  obtain⟨X,V⟩:=j.place f;refine⟨l,j.in' f,by rw[X,V];exact x,?_⟩;have hW:af k*W+af k*W=af d*W+af e*W:=by rw[<- Ul,<- Ul,k6]
  rw[N,P];omega
 have:=h.least f v o n (ds':=k::k::c) ⟨_,j,z,e4,B.1⟩;have c1:=kM A;have c2:=qU C;have c3:val (stS e) (stD e)=54608393:=qU U;have:cst (k::k::c)=val (stS k) (stD k)+(val (stS k) (stD k)+cst c):=rfl;omega;exfalso;obtain⟨k,l,A,y,x,T⟩:=RO m g S w;have:=h.least f v o n (ds':=k::c) ⟨z,L k l y x T,B.1⟩;have c1:=kM A;have:cst (k::c)=val (stS k) (stD k)+cst c:=rfl;have c2:38613965<=val (stS d) (stD d):=by grind [kM,decide,qU]
 omega;exfalso;have ho:e=opp d:=by unfold opp;exact g
 obtain⟨g1,g2⟩:=tW d m;have ac:z=p:=by rw[N,P,ho,g1,g2,Int.neg_mul];omega
 have:=h.least f v o n (ds':=c) (by rw[<- ac];exact B.1);omega
theorem xQ (f:Nat):∀l:Ln,(∀x∈l,x=f)\/∃j g a,l=Us j f++g::a/\g≠f
 |[]=>SQ (λ _ h=>by cases h)
 |x::l=>by
  by_cases e:x=f;rcases xQ f l with h|⟨j,g,a,c,b⟩
  grind
  exact SP ⟨j+1,g,a,by rw[c,e];rfl,b⟩;exact SP ⟨0,x,l,rfl,e⟩
theorem Tgt.slide (f:1<=W)(k:cL (aF W H Y) a F)(i:cL (aF W H Y) b G9){d d0:Int}(g:F b=Z (d,d0))(l:∀p,OnW F G9 (val d d0) p->¬vn W H Y (p%W) (p/W)){c m:Nat}(n:c≠m) :
  ∀(j:Nat) {p q:Int}{rest:Ln},Tgt W H Y F G9 (val d d0) p (c::(Us j m++rest)) q->∃o,Tgt W H Y F G9 (val d d0) o (c::rest) q
 |0,p,_,_,h=>⟨p,h⟩
 |j+1,p,q,rest,h=>by
  have u:Tgt W H Y F G9 (val d d0) p (c::m::(Us j m++rest)) q:=h;rcases u.two f k i g l with e|⟨_,t⟩
  exact Q8 e.symm n;obtain⟨r,_,s,_⟩:=t.tail f k i g;exact Tgt.slide f k i g l n j s
theorem Tgt.within (l:1<=W)(o:cL (aF W H Y) a F)(n:cL (aF W H Y) b G9){w d0:Int}(m:F b=Z (w,d0))(u:∀p,OnW F G9 (val w d0) p->¬vn W H Y (p%W) (p/W)) :
  ∀{v:Ln}{p q:Int},Tgt W H Y F G9 (val w d0) p v q->∃k,k<8/\∀d∈v,d=k\/d=(k+1)%8
 |[],_,_,_=>⟨0,dQ,λ _ h=>by cases h⟩
 |[d],p,q,h=>by
  obtain⟨r,e,_⟩:=h.tail l o n m;exact⟨d,e.1,λ x c=>SQ (by simpa using c)⟩
 |d::f::v,p,q,h=>by
  obtain⟨r,e,L,_⟩:=h.tail l o n m;obtain⟨k,I,y⟩:=Tgt.within l o n m u L;have P:=e.1;have N:=y f sQ;by_cases t:d=k\/d=(k+1)%8;exact⟨k,I,λ x c=>(TD.1 c).elim (λ q=>by rw[q];exact t) (λ c=>y x c)⟩;have z:f=d\/(f=(d+1)%8\/f=(d+7)%8):=by
   rcases h.two l o n m u with i|⟨i,_⟩
   exact SQ i;exact SP i
  have s:f≠d:=λ q=>t (q▸N);rcases xQ f (f::v) with C|⟨j,g,A,B,V⟩
  rcases z with i|i|i
  exact Q8 i s;exact⟨d,P,λ x c=>(TD.1 c).elim (λ q=>by rw[q];exact SQ rfl) (λ c=>SP ((C x c).trans i))⟩;refine⟨f,U,λ x c=>?_⟩;rcases TD.1 c with rfl|c
  exact SP U;exact SQ (C x c);rw[B]at h;obtain⟨T,R⟩:=Tgt.slide l o n m u (λ q=>s q.symm) j h;have X:=y g (by rw[B];simp);have S:g=d\/(g=(d+1)%8\/g=(d+7)%8):=by
   rcases R.two l o n m u with i|⟨i,_⟩
   exact SQ i;exact SP i
  exfalso;omega
theorem Pth.count (b:1<=W){k:Nat}:∀{a:Ln}{p q:Int},Pth W H Y p a q->(∀d∈a,d=k\/d=(k+1)%8) ->
  ∃m n:Nat,q%W=p%W+m*ah k+n*ah ((k+1)%8)/\q/W=p/W+m*af k+n*af ((k+1)%8)/\cst a=m*val (stS k) (stD k)+n*val (stS ((k+1)%8)) (stD ((k+1)%8))
 |[],p,q,h,_=>⟨0,0,by rw[<- (show p=q from h)];simp,by rw[<- (show p=q from h)];simp,by show (0:Int)=_;simp⟩
 |d::a,p,q,⟨r,e,h⟩,c=>by
  obtain⟨m,n,s,o,l⟩:=Pth.count b h (λ x f=>c x (List.mem_cons_of_mem _ f));obtain⟨i,g⟩:=e.place b;have j:cst (d::a)=val (stS d) (stD d)+cst a:=rfl;rcases c d sQ with rfl|rfl
  refine⟨m+1,n,?_,?_,?_⟩
  grind
  grind
  grind
  refine⟨m,n+1,?_,?_,?_⟩
  grind
  grind
  grind
theorem Pth.octile (c:1<=W){k:Nat}(g:k<8){b:Ln}{p q:Int}(h:Pth W H Y p b q)(i:∀d∈b,d=k\/d=(k+1)%8) :
  cst b=val (dst (dst (p%W) (q%W)) (dst (p/W) (q/W))) (les (dst (p%W) (q%W)) (dst (p/W) (q/W))):=by
 obtain⟨m,n,r,o,l⟩:=h.count c i;rw[l,r,o];generalize p%W=x;generalize p/W=y;have f:∀j:Nat,j%2=0->val (stS j) (stD j)=38613965:=λ j a=>kM a;have e:∀j:Nat,j%2=1->val (stS j) (stD j)=54608393:=λ j a=>qU a;rcases k8 g with rfl|rfl|rfl|rfl|rfl|rfl|rfl|rfl<;>simp[sx0,sx1,sx2,sx3,sx4,sx5,sx6,sx7,sy0,sy1,sy2,sy3,sy4,sy5,sy6,sy7,f,e]<;>unfold val dst les<;>(repeat' split)<;>omega
theorem Iw (i:1<=W)(e:cL (aF W H Y) a F)(h:cL (aF W H Y) b G9){c d0:Int}(g:F b=Z (c,d0))
  (w:val c d0≠val (dst (dst (a%W) (b%W)) (dst (a/W) (b/W))) (les (dst (a%W) (b%W)) (dst (a/W) (b/W)))) :
  ∃p s d t u,F p=Z (s,d)/\G9 p=Z (t,u)/\s+t=c/\d+u=d0/\0<val s d/\0<val t u/\vn W H Y (p%W) (p/W):=by
 apply Classical.byContradiction;intro X;have y:∀p,OnW F G9 (val c d0) p->¬vn W H Y (p%W) (p/W):=by
  rintro p ⟨s,d,t,u,n,m,l,A,z⟩ f;obtain⟨V,T,S⟩:=e.small n;obtain⟨R,P,N⟩:=h.small m;obtain⟨L,I,C⟩:=e.small g;have sa:=cT V T S;have sb:=cT R P N;have sc:=cT L I C;rw[<- cP]at l;obtain⟨q,o⟩:=iS (s+t) (d+u) c d0 U U l;exact X ⟨p,s,d,t,u,n,m,q,o,A,z,f⟩
 obtain⟨B,j,f⟩:=(e.sound g).path;have x:Tgt W H Y F G9 (val c d0) a B b:=⟨j,0,0,0,0,e.home,h.home,by rw[f];have:val 0 0=0:=dQ;omega⟩;obtain⟨k,v,r⟩:=x.within i e h g y;exact w (by rw[<- f];exact j.octile i v r)
end
section
def aP (W a b:Int):Int:=dst (dst (a%W) (b%W)) (dst (a/W) (b/W))
def aO (W a b:Int):Int:=les (dst (a%W) (b%W)) (dst (a/W) (b/W))
def vq (W:Int) (Fl:Int->Int->Oi) (a b:Int):Prop:=Fl a b=Z (aP W a b,aO W a b)
def dG (W H:Int) (Y:Bn) (c:Int):Prop:=vn W H Y (c%W) (c/W)
def Ix (W H:Int) (Y:Bn) (Fl:Int->Int->Oi) (a b:Int):Prop :=
 vq W Fl a b/\∀k s d t u,dG W H Y k->k≠a->k≠b->Fl a k=Z (s,d)->Fl b k=Z (t,u)->¬(s+t=aP W a b/\d+u=aO W a b)
def Chn (P:Int->Int->Prop):Int->List Int->Int->Prop
 |a,[],b=>a=b
 |a,c::l,b=>P a c/\Chn P c l b
def pO (W:Int):Int->List Int->Int
 |_,[]=>0
 |a,c::l=>aP W a c+pO W c l
def pP (W:Int):Int->List Int->Int
 |_,[]=>0
 |a,c::l=>aO W a c+pP W c l
theorem Chn.app {P:Int->Int->Prop}{W:Int}:∀{l1 l2:List Int}{a c b:Int},Chn P a l1 c->Chn P c l2 b->Chn P a (l1++l2) b/\pO W a (l1++l2)=pO W a l1+pO W c l2/\pP W a (l1++l2)=pP W a l1+pP W c l2
 |[],l2,a,c,b,h,k=>by
  have e:a=c:=h;subst e;exact⟨k,(Int.zero_add _).symm,(Int.zero_add _).symm⟩
 |x::l1,l2,a,c,b,⟨f,d⟩,k=>by
  obtain⟨g,j,i⟩:=Chn.app (W:=W) d k;refine⟨⟨f,g⟩,?_,?_⟩
  grind [aP,pO]
  grind [aO,pP]
variable {W H : Int} {Y : Nat → Bool} {Fl : Int → Int → Option (Int × Int)}
theorem qV {E9:Int->Nat->Int->Prop}(h:Wk E9 o a s d)(e:val s d<=0):a=o:=by
 rcases h.inv with⟨b,_⟩|⟨m,c,i,k,b,_,g,f⟩
 exact b;obtain⟨l,j⟩:=b.nonneg;have:=(mF k).1;rw[g,f,cP]at e;have:0<=val c i:=by unfold val;omega
 omega
end
def fY (x y u v:Int) (k:Nat):Prop :=
 dst (dst (x+ah k) u) (dst (y+af k) v)+stS k=dst (dst x u) (dst y v)/\les (dst (x+ah k) u) (dst (y+af k) v)+stD k=les (dst x u) (dst y v)
theorem Bw (x u s:Int)(h:s=-1\/s=0\/s=1):(s=0->dst (x+s) u=dst x u)/\dst x u-1<=dst (x+s) u/\(dst (x+s) u=dst x u-1->(s=1/\x<u)\/(s=-1/\u<x)):=by grind [dst]
theorem Mf {P Q9:Int}(b:dst P Q9+0=dst X Y9)(a:les P Q9+1=les X Y9):P+Q9=X+Y9-2:=by
 unfold dst les at *
 (repeat' split at *)<;>omega
theorem Mg {P Q9:Int}(b:dst P Q9+1=dst X Y9)(a:les P Q9+0=les X Y9):P+Q9=X+Y9-1/\(P=X-1->Y9<X)/\(Q9=Y9-1->X<Y9):=by
 unfold dst les at *
 (repeat' split at *)<;>omega
theorem jc (k:Nat)(h:k<8):(ah k=-1\/ah k=0\/ah k=1)/\(af k=-1\/af k=0\/af k=1)/\(k%2=0->(ah k=0/\af k≠0)\/(af k=0/\ah k≠0))/\(k%2=0->stS k=1/\stD k=0)/\(k%2=1->stS k=0/\stD k=1):=by
 rcases k8 h with rfl|rfl|rfl|rfl|rfl|rfl|rfl|rfl<;>decide
theorem nt (d:k<8)(g:fY x y u v k) :
  (k%2=1->((ah k=1/\x<u)\/(ah k=-1/\u<x))/\((af k=1/\y<v)\/(af k=-1/\v<y))) /\
  (k%2=0->(af k=0/\((ah k=1/\x<u)\/(ah k=-1/\u<x))/\dst y v<dst x u)\/(ah k=0/\((af k=1/\y<v)\/(af k=-1/\v<y))/\dst x u<dst y v)):=by
 obtain⟨c,b⟩:=g;obtain⟨u1,u2,u3,u4,u5⟩:=jc k d;obtain⟨o,n,m⟩:=Bw x u (ah k) u1;obtain⟨l,j,i⟩:=Bw y v (af k) u2;constructor
 grind [Mf]
 intro a;rw[(u4 a).1]at c;rw[(u4 a).2]at b;obtain⟨h,f,e⟩:=Mg c b;rcases u3 a with⟨z,_⟩|⟨z,_⟩
 grind
 grind
theorem Bx (a:k<8)(b:j<8)(t:k%2=j%2)(g:fY x y u v k)(h:fY x y u v j):k=j:=by
 obtain⟨l,i⟩:=nt a g;obtain⟨f,e⟩:=nt b h;by_cases q:k%2=1;obtain⟨s,o⟩:=l q;obtain⟨n,m⟩:=f U;have d:ah k=ah j:=U;have c:af k=af j:=U;rcases k8 a with rfl|rfl|rfl|rfl|rfl|rfl|rfl|rfl<;>rcases k8 b with rfl|rfl|rfl|rfl|rfl|rfl|rfl|rfl<;>first|rfl|(exfalso;revert d c;decide)
 have p:=i U;have r:=e U;have d:ah k=ah j:=U;have c:af k=af j:=U;rcases k8 a with rfl|rfl|rfl|rfl|rfl|rfl|rfl|rfl<;>rcases k8 b with rfl|rfl|rfl|rfl|rfl|rfl|rfl|rfl<;>first|rfl|(exfalso;revert d c;decide)
section
variable {W H : Int} {Y : Nat → Bool}
def dw (W a b:Int):Int:=val (aP W a b) (aO W a b)
theorem qW (a b:Int):dst a b=dst b a:=by unfold dst;split<;>split<;>omega
theorem aW (W a b:Int):aP W a b=aP W b a:=by unfold aP;rw[qW (a%W),qW (a/W)]
theorem aX (W a b:Int):aO W a b=aO W b a:=by unfold aO;rw[qW (a%W),qW (a/W)]
theorem eR (W a b:Int):dw W a b=dw W b a:=by unfold dw;rw[aW,aX]
theorem qX (a:Int):dst a a=0:=by unfold dst;split<;>omega
theorem gz (W a:Int):aP W a a=0:=by unfold aP;rw[qX,qX];rfl
theorem gA (W a:Int):aO W a a=0:=by unfold aO;rw[qX,qX];rfl
theorem vr (a b:Int):0<=dst a b:=by unfold dst;split<;>omega
theorem aJ (W a b:Int):0<=aP W a b:=vr _ _
theorem aG (W a b:Int):0<=aO W a b:=by grind [aO,les,dst,vr]
theorem jH (h:0<=s)(k:0<=d):0<=val s d:=by unfold val;omega
theorem Oy (X Y9:Int):38613965*X+15994428*Y9<=val (dst X Y9) (les X Y9)/\38613965*Y9+15994428*X<=val (dst X Y9) (les X Y9)/\(val (dst X Y9) (les X Y9)=38613965*X+15994428*Y9\/val (dst X Y9) (les X Y9)=38613965*Y9+15994428*X):=by
 unfold val dst les;split<;>omega
theorem Oz (a b c:Int):dst a c<=dst a b+dst b c:=by unfold dst;split<;>split<;>split<;>omega
theorem oL (W a b c:Int):dw W a c<=dw W a b+dw W b c:=by grind [dw,val,aP,aO,dst,Oz,les,Oy]
theorem fp (b:1<=W)(h:Wk (aF W H Y) o a s d):dw W o a<=val s d:=FN b h
theorem zj (e:aF W H Y p k r):Wk (aF W H Y) p r (stS k) (stD k):=by grind [aF,Wk,stS,stD]
theorem dX (a:1<=W){p r t:Int}{k:Nat}(e:aF W H Y p k r):fY (p%W) (p/W) (t%W) (t/W) k↔aP W r t+stS k=aP W p t/\aO W r t+stD k=aO W p t:=by
 obtain⟨c,b⟩:=e.place a;unfold fY aP aO;rw[c,b]
def Tw (W H:Int) (Y:Bn) (a t p:Int):Prop :=
 ∀R:Int->Prop,R a->(∀p k r,R p->aF W H Y p k r->fY (p%W) (p/W) (t%W) (t/W) k->R r)->R p
theorem Tw.nil :Tw W H Y a t a:=λ _ h _=>h
theorem Tw.step (h:Tw W H Y a t p)(e:aF W H Y p k r)(g:fY (p%W) (p/W) (t%W) (t/W) k):Tw W H Y a t r:=λ R c b=>b _ _ _ (h R c b) e g
theorem Tw.walk (b:1<=W){a t p:Int}(h:Tw W H Y a t p):∃s d,Wk (aF W H Y) a p s d/\s+aP W p t=aP W a t/\d+aO W p t=aO W a t:=by
 refine h (λ p=>∃s d,Wk (aF W H Y) a p s d/\s+aP W p t=aP W a t/\d+aO W p t=aO W a t) ⟨0,0,Wk.nil,Int.zero_add _,Int.zero_add _⟩ ?_;rintro p k r ⟨s,d,c,i,f⟩ e g;obtain⟨l,j⟩:=(dX b e).1 g;exact⟨_,_,c.step e,U,U⟩
theorem FP :aO W a b*54608393<=dw W a b:=by
 have:=aJ W a b;have:=aG W a b;unfold dw val;omega
theorem Tw.of_walk (c:1<=W){a t p s d:Int}(I:aO W a t<=1000)(F:aP W a t<=1000)(h:Wk (aF W H Y) a p s d)(f:val s d+dw W p t<=dw W a t):Tw W H Y a t p:=by
 refine h.ind (R:=λ p s d=>val s d+dw W p t<=dw W a t->Tw W H Y a t p) (λ _=>Tw.nil) ?_ f;intro p s d k r i u e f;have S:=fp c (zj e);have P:=oL W p r t;have N:=oL W a p t;have L:=fp c i;rw[cP]at f;have v:val s d+dw W p t<=dw W a t:=U;have g:dw W r t+val (stS k) (stD k)=dw W p t:=U;have w:dw W p t<=dw W a t:=by
  obtain⟨n,m⟩:=i.nonneg;have:=jH n m;omega
 have C:=FP (W:=W) (a:=p) (b:=t);have B:=FP (W:=W) (a:=r) (b:=t);have A:=aG W p t;have o:=aG W r t;have z:dw W a t<=93222358000:=by unfold dw val;omega
 have y:=jH (aJ W r t) o;have x:=(mF k).1;have T:=ji k;have q:val (aP W r t+stS k) (aO W r t+stD k)=val (aP W p t) (aO W p t):=by rw[cP];exact g
 obtain⟨l,j⟩:=iS _ _ _ _ U U q;exact(u v).step e ((dX c e).2 ⟨l,j⟩)
def On (W H:Int) (Y:Bn) (a b k:Int):Prop:=Tw W H Y a b k/\Tw W H Y b a k
theorem cA (j:1<=W)(i:W<=16)(v:1<=H)(u:H<=16)(e:inB W H a=Q)(d:inB W H b=Q):aP W a b<=16/\aO W a b<=16:=by
 have e:0<=a/\a<W*H:=Q1 e;have d:0<=b/\b<W*H:=Q1 d;have t:=VF a (show W≠0 by omega);have s:=Vm a (show 0<W by omega);have r:=VF b (show W≠0 by omega);have q:=Vm b (show 0<W by omega);have p:0<=a/W:=VG e.1 U;have o:0<=b/W:=VG d.1 U;have n:a/W<H:=Va U (by rw[U4];exact e.2);have m:b/W<H:=Va U (by rw[U4];exact d.2);unfold aP aO;generalize a%W=h at *;generalize a/W=g at *;generalize b%W=f at *;generalize b/W=c at *
 have l:dst h f<=16/\0<=dst h f:=by unfold dst;split<;>omega
 have k:dst g c<=16/\0<=dst g c:=by unfold dst;split<;>omega
 generalize dst h f=X at *;generalize dst g c=Y9 at *
 unfold dst les;constructor<;>split<;>omega
theorem tK (j:0<=d)(i:0<=s)(g:0<=u)(f:u<=1000)(h:val s d=val t u)(b:t<=1000):s=t/\d=u:=by
 have e:val t u<=93222358000:=by unfold val;omega
 have a:54608393*d<=val s d:=by unfold val;omega
 have c:d<=2000:=by
  rw[h]at a;clear h;generalize val t u=x at *;omega
 exact iS s d t u U U h
theorem On.Vxd (c:1<=W){a b k:Int}(B:aP W a b<=1000)(C:aO W a b<=1000)(h:On W H Y a b k) :
  Wk (aF W H Y) a k (aP W a k) (aO W a k)/\Wk (aF W H Y) b k (aP W b k) (aO W b k)/\aP W a k+aP W b k=aP W a b/\aO W a k+aO W b k=aO W a b:=by
 obtain⟨s,d,f,l,j⟩:=h.1.walk c;obtain⟨t,u,e,f1,f2⟩:=h.2.walk c;have I:=fp c f;have F:=fp c e;have r:=oL W a k b;have q:val s d+dw W k b=dw W a b:=by unfold dw;rw[<- cP,l,j]
 have f3:val t u+dw W k a=dw W b a:=by unfold dw;rw[<- cP,f1,f2]
 rw[eR W b a]at f3;rw[eR W k b]at q;rw[eR W k a]at f3;rw[eR W k b]at r;have n:val s d=dw W a k:=U;have m:val t u=dw W b k:=U;obtain⟨A,p⟩:=f.nonneg;obtain⟨z,o⟩:=e.nonneg;have y:=aJ W k b;have x:=aG W k b;have w:=aJ W k a;have v:=aG W k a;rw[aW W b a]at f1;rw[aX W b a]at f2;have i:=tK (aG W a k) (aJ W a k) p U n.symm U;have g:=tK (aG W b k) (aJ W b k) o U m.symm U;rw[aW W k b]at l;rw[aX W k b]at j;rw[i.1,i.2];refine⟨f,by rw[g.1,g.2];exact e,U,U⟩
theorem On.of_walks (c:1<=W){a b k s d t u:Int}(g:aP W a b<=1000)(h:aO W a b<=1000)(f:Wk (aF W H Y) a k s d)(e:Wk (aF W H Y) b k t u)(j:s+t=aP W a b)(i:d+u=aO W a b):On W H Y a b k:=by
 have o:=fp c f;have n:=fp c e;have l:=oL W a k b;have m:val s d+val t u=dw W a b:=by unfold dw;rw[<- cP,j,i]
 refine⟨Tw.of_walk c h g f ?_,Tw.of_walk c (by rw[aX];exact h) (by rw[aW];exact g) e ?_⟩;rw[eR W k b];omega;rw[eR W b a,eR W k a];rw[eR W k b]at l;omega
section
variable {F G9 : Int → Option (Int × Int)} {a b : Int}
theorem vt (f:1<=W)(c:cL (aF W H Y) a F){k:Int}(h:Wk (aF W H Y) a k (aP W a k) (aO W a k)):F k=Z (aP W a k,aO W a k):=by
 obtain⟨s,d,b,n⟩:=c.least h;have g:=fp f (c.sound b);obtain⟨m,e,l⟩:=c.small b;have o:=cT m e l;have v:val (aP W a k) (aO W a k)=val s d:=by unfold dw at g;omega
 obtain⟨j,i⟩:=tK (aG W a k) (aJ W a k) e U v U;rw[b,j,i]
theorem Mh (c:1<=W)(j:aP W a b<=1000)(l:aO W a b<=1000)(n:cL (aF W H Y) a F)(m:cL (aF W H Y) b G9)(k:Int) :
  On W H Y a b k↔∃s d t u,F k=Z (s,d)/\G9 k=Z (t,u)/\s+t=aP W a b/\d+u=aO W a b:=by
 constructor;intro h;obtain⟨i,g,f,e⟩:=h.Vxd c j l;exact⟨_,_,_,_,vt c n i,vt c m g,f,e⟩;rintro⟨s,d,t,u,i,g,f,e⟩;exact On.of_walks c j l (n.sound i) (m.sound g) f e
end
section
variable {a b : Int}
theorem On.ends (c:1<=W){k:Int}(e:aP W a b<=1000)(f:aO W a b<=1000)(h:On W H Y a b k):On W H Y a b a/\On W H Y a b b/\Wk (aF W H Y) a b (aP W a b) (aO W a b):=by
 obtain⟨l,j,i,g⟩:=h.Vxd c e f;have d:=Wk.join l (j.back (aF.back c));rw[i,g]at d;exact⟨On.of_walks c e f Wk.nil (d.back (aF.back c)) (Int.zero_add _) (Int.zero_add _),On.of_walks c e f d Wk.nil (Uk _) (Uk _),d⟩
theorem On.of_near (c:1<=W)(d:aP W a b<=1000)(e:aO W a b<=1000)(h:Wk (aF W H Y) a b (aP W a b) (aO W a b)):On W H Y a b b :=
 On.of_walks c d e h Wk.nil (Uk _) (Uk _)
theorem On.next (d:1<=W){k:Int}(i:aP W a b<=1000)(l:aO W a b<=1000)(h:On W H Y a b k)(y:k≠b):∃j r,aF W H Y k j r/\fY (k%W) (k/W) (b%W) (b/W) j/\On W H Y a b r:=by
 obtain⟨o,w,F,C⟩:=h.Vxd d i l;rcases w.inv with⟨e,_⟩|⟨r,n,m,j,g,x,S,R⟩
 exact Q8 e y;obtain⟨f,c,f1,f2⟩:=aF.back d _ _ _ x;have p:=On.of_walks d i l (o.step c) g U U;obtain⟨P,N,L,I⟩:=p.Vxd d i l;refine⟨f,r,c,(dX d c).2 ?_,p⟩;have q:=fp d g;have u:=fp d (o.step c);have t:val (aP W a k+stS f) (aO W a k+stD f)+val n m=dw W a r+dw W b r:=by
  unfold dw;rw[<- cP,<- cP]
  congr 1<;>omega
 have s:val (aP W b r) (aO W b r)=val n m:=by unfold dw at q u t;omega
 obtain⟨B,v⟩:=g.nonneg;have:=aJ W a k;have:=aG W a k;have:=ji j;obtain⟨A,z⟩:=tK (aG W b r) (aJ W b r) v U s U;rw[aW W r b,aX W r b,aW W k b,aX W k b];omega
theorem vu (a:k<8):¬fY x y x y k:=by
 intro g;obtain⟨c,b⟩:=nt a g;by_cases q:k%2=1;have:=(c q).1;omega;have:=b U;omega
end
def RP (W H:Int) (Y:Bn) (a b p:Int) (k:Nat) (r:Int):Prop:=aF W H Y p k r/\fY (p%W) (p/W) (b%W) (b/W) k/\On W H Y a b r
def DZ (W H:Int) (Y:Bn) (a b p:Int) (k:Nat) (r:Int):Prop:=RP W H Y a b p k r/\(k%2=0->∀j q,j%2=1->¬RP W H Y a b p j q)
def WSt (W H:Int) (Y:Bn) (a b p r:Int):Prop:=∃k,DZ W H Y a b p k r
theorem Chn.snoc {P:Int->Int->Prop}:∀{l:List Int}{a c r:Int},Chn P a l c->P c r->Chn P a (l++[r]) r
 |[],a,c,r,h,k=>by
  have e:a=c:=h;subst e;exact⟨k,rfl⟩
 |x::l,a,c,r,⟨d,b⟩,k=>⟨d,Chn.snoc b k⟩
end
def ffv (W H:Int) (Y:Bn) (c:Int):Int:=if inB W H c then (if Y c.toNat then 4 else 0) else 1
def D4 (n:Int):Value:=if n=0 then .nilIface else .iface 42 (J n)
theorem kN {b:Nat}{Y:Bn}(c:Int)(w:World)(g:aq w b W H V Y) :
  Rq 192 #[Pq b,J c] w (D4 (ffv W H Y c)):=by
 have q:∀{v:Value},(Dq 192 #[Pq b,J c] w v)->Rq 192 #[Pq b,J c] w v:=λ h=>h.mono λ _ _ ⟨i,m,f⟩=>⟨i,by subst f;exact Vxj ae m⟩;cases a:inB W H c with
 |false =>
  have e:ffv W H Y c=1:=by unfold ffv;rw[a];rfl
  rw[e];exact q (Gf c w g a)
 |true =>
  have j:0<=c/\c<W*H:=Q1 a;obtain⟨n,rfl⟩:∃n:Nat,c=n:=⟨c.toNat,U⟩;have e:ffv W H Y n=if Y n then 4 else 0:=by unfold ffv;rw[a];rfl
  rw[e];cases d:Y n with
  |true=>exact q (Jx n w g a d)
  |false=>exact q (Jy n w g a d)
section
open Go.RowKit
variable {W H : Int} {Y : Nat → Bool}
theorem On.sym {k:Int}(h:On W H Y a b k):On W H Y b a k:=⟨h.2,h.1⟩
theorem vw {F:Int->Oi}(c:1<=W)(d:aP W a b<=1000)(e:aO W a b<=1000)(f:cL (aF W H Y) a F):(∃z,On W H Y a b z)↔F b=Z (aP W a b,aO W a b):=by
 constructor;rintro⟨z,h⟩;exact vt c f (h.ends c d e).2.2;intro h;exact⟨b,On.of_near c d e (f.sound h)⟩
theorem On.near_a {k:Int}(c:1<=W)(f:aP W a b<=1000)(g:aO W a b<=1000)(d:aP W a k<=1000)(e:aO W a k<=1000)(h:On W H Y a b k):∃z,On W H Y a k z :=
 ⟨k,On.of_near c d e (h.Vxd c f g).1⟩
theorem On.free {k:Int}(c:1<=W)(e:aP W a b<=1000)(f:aO W a b<=1000)(d:Y a.toNat=Vl)(h:On W H Y a b k):Y k.toNat=false:=FO d (h.Vxd c e f).1
theorem nw (b:inB W H c=Q)(a:Y c.toNat=Vl):ffv W H Y c=0:=by unfold ffv;rw[b,a];rfl
end
def crB (W H:Int) (Y:Bn) (x y:Int) (k:Nat):Bool:=aM W H Y (x+ah k) y&&aM W H Y x (y+af k)&&!aM W H Y (x+ah k) (y+af k)
def mj (W H:Int) (Y:Bn) (x y:Int):Bool:=(Ud 4).any λ j=>crB W H Y x y (2*j+1)
def aY (W H:Int) (Y:Bn) (c:Int):Bool:=aM W H Y (c%W) (c/W)&&mj W H Y (c%W) (c/W)
theorem sR {Y:Bn}(h:∀j,j<4->crB W H Y x y (2*j+1)=Vl):mj W H Y x y=false:=by grind [crB,mj]
theorem gT {Y:Bn}(a:j<4)(h:crB W H Y x y (2*j+1)=Q):mj W H Y x y=true :=
 Uv.2 ⟨j,List.mem_range.2 a,h⟩
theorem Iy {b:Nat}{Y:Bn}(x y:Int)(w:World)(g:aq w b W H V Y)(s:az w)(F:-100<=x)(C:x<=100)(B:-100<=y)(A:y<=100) :
  Dq 211 #[Pq b,J x,J y] w (.bool (mj W H Y x y)):=by
 go_enter func211,ntmps211;go_wp2;go_loopg [7] (4:Nat) (λ u v wr=>∃i:Nat,i<=4/\u=4-i/\v=J ((2*i+1:Nat):Int)/\(∀j,j<i->crB W H Y x y (2*j+1)=Vl)/\∃m,wr=w.drewN m)
 case atStart=>exact⟨0,Nat.zero_le _,rfl,rfl,λ j o=>Q8 o U,0,rfl⟩
 case round =>
  obtain⟨i,R,S,rfl,k,m,rfl⟩:=hrel;by_cases z:i<4
  ·have t:2*i+1<8:=U;obtain⟨P,N,L,I⟩:=gX (2*i+1);have d:=λ w h=>ij (2*i+1) w h t;have a:crB W H Y x y (2*i+1)=(aM W H Y (x+ah (2*i+1)) y&&aM W H Y x (y+af (2*i+1))&&!aM W H Y (x+ah (2*i+1)) (y+af (2*i+1))):=rfl;generalize ah (2*i+1)=r at *;generalize af (2*i+1)=q at *;have go_on:crB W H Y x y (2*i+1)=Vl->Hid (∀j,j<i+1->crB W H Y x y (2*j+1)=Vl):=λ h j o=>by
    by_cases e:j=i
    ·rw[e];exact h
    ·exact k j U
   clear k;cases f:aM W H Y (x+r) y with
   |false =>
    rw[f]at a;have c:=go_on (by rw[a];rfl);clear a go_on;go_wp2_with (first|(go_at_call 171;refine QQ (d _ (s.drewN _)) λ m=>?_)|(go_at_call 155;refine QQ (gK aQ _ (g.drewN _)) λ m=>?_));go_roundg (4-(i+1))
    case measure=>omega
    case rel=>exact⟨i+1,U,rfl,gQ,c.out,_,rfl⟩
   |true =>
    cases l:aM W H Y x (y+q) with
    |false =>
     rw[f,l]at a;have c:=go_on (by rw[a];rfl);clear a go_on;go_wp2_with (first|(go_at_call 171;refine QQ (d _ (s.drewN _)) λ m=>?_)|(go_at_call 155;refine QQ (gK aQ _ (g.drewN _)) λ m=>?_));go_roundg (4-(i+1))
     case measure=>omega
     case rel=>exact⟨i+1,U,rfl,gQ,c.out,_,rfl⟩
    |true =>
     cases p:aM W H Y (x+r) (y+q) with
     |true =>
      rw[f,l,p]at a;have c:=go_on (by rw[a];rfl);clear a go_on;go_wp2_with (first|(go_at_call 171;refine QQ (d _ (s.drewN _)) λ m=>?_)|(go_at_call 155;refine QQ (gK aQ _ (g.drewN _)) λ m=>?_));go_roundg (4-(i+1))
      case measure=>omega
      case rel=>exact⟨i+1,U,rfl,gQ,c.out,_,rfl⟩
     |false =>
      rw[f,l,p]at a;have n:=qH (gT z a);clear a go_on;go_wp2_with (first|(go_at_call 171;refine QQ (d _ (s.drewN _)) λ m=>?_)|(go_at_call 155;refine QQ (gK aQ _ (g.drewN _)) λ m=>?_));go_ret;exact⟨by rw[n.out];rfl,_,rfl⟩
  ·have:i=4:=U;subst this;have n:=qH (sR k);clear k;go_wp2;go_ret;exact⟨by rw[n.out];rfl,_,rfl⟩
theorem FQ {b:Nat}{Y:Bn}{r:Bool}(f:mj W H Y x y=r)(w:World)(g:aq w b W H V Y)(s:az w)(e:-100<=x)(d:x<=100)(c:-100<=y)(a:y<=100) :
  Dq 211 #[Pq b,J x,J y] w (.bool r):=f▸Iy x y w g s e d c a
theorem dY (d:1<=W)(a:inB W H c=Q):0<=c%W/\c%W<W/\0<=c/W/\c/W<H:=by
 have b:0<=c/\c<W*H:=Q1 a;exact⟨VF _ U,Vm _ U,VG b.1 U,Va U (by grind)⟩
theorem RQ {b:Nat}{W H V:Int}{Y:Bn}(c:Int)(w:World)(g:aq w b W H V Y)(s:az w)(d:inB W H c=Q) :
  Dq 163 #[Pq b,J c] w (.tuple #[.bool (aY W H Y c),.nilIface]):=by
 obtain⟨j,i,h,f⟩:=dY g.w1 d;have n:=g.w2;have o:=g.h2;have a:=λ w g=>eK (b:=b) (W:=W) (H:=H) (V:=V) (Y:=Y) c w g d;have e:aY W H Y c=(aM W H Y (c%W) (c/W)&&mj W H Y (c%W) (c/W)):=rfl;rw[e];clear e;generalize c%W=x at *;generalize c/W=y at *;cases l:aM W H Y x y with
 |false =>
  simp only[Bool.false_and];go_enter func163,ntmps163;go_wp2_with (first|(go_at_call 123;refine QQ (a _ g) λ m=>?_)|(go_at_call 155;refine QQ (gK aQ _ (g.drewN _)) λ m=>?_));go_ret2;exact⟨rfl,_,rfl⟩
 |true =>
  cases k:mj W H Y x y with
  |false =>
   simp only[Bool.and_false];go_enter func163,ntmps163;go_wp2_with (first|(go_at_call 123;refine QQ (a _ g) λ m=>?_)|(go_at_call 155;refine QQ (gK aQ _ (g.drewN _)) λ m=>?_)|(go_at_call 211;refine QQ (FQ aQ _ (g.drewN _) (s.drewN _) U U U U) λ m=>?_));go_ret2;exact⟨rfl,_,rfl⟩
  |true =>
   simp only[Bool.and_true];go_enter func163,ntmps163;go_wp2_with (first|(go_at_call 123;refine QQ (a _ g) λ m=>?_)|(go_at_call 155;refine QQ (gK aQ _ (g.drewN _)) λ m=>?_)|(go_at_call 211;refine QQ (FQ aQ _ (g.drewN _) (s.drewN _) U U U U) λ m=>?_));go_ret2;exact⟨rfl,_,rfl⟩
theorem OA {b:Nat}{Y:Bn}{r:Bool}(d:aY W H Y c=r)(w:World)(g:aq w b W H V Y)(s:az w)(a:inB W H c=Q) :
  Dq 163 #[Pq b,J c] w (.tuple #[.bool r,.nilIface]):=d▸RQ c w g s a
def crs (W H:Int) (Y:Bn) (k:Nat):Ln:=(Ud k).filter λ c=>aY W H Y (c:Nat)
theorem By (W H:Int)(Y:Bn)(k:Nat):crs W H Y (k+1)=crs W H Y k++(if aY W H Y (k:Nat) then [k] else []):=by grind [crs,aY,List.range_succ,List.filter_cons_of_neg,Bool.false_eq_true,not_false_eq_true,List.filter_cons_of_pos]
theorem fx (W H:Int)(Y:Bn)(k:Nat):K (crs W H Y k)<=k:=by grind [crs,List.length_filter_le,aY,Ud]
theorem OB {b:Nat}{Y:Bn}(w:World)(g:aq w b W H V Y)(s:az w)(F:b<G w.heap) :
  Zq 119 #[Pq b] w λ e I=>∃v,e=.returned v /\
   I.ownsRow (G w.heap) 3 1 v (K (crs W H Y (W*H).toNat)) (aH (crs W H Y (W*H).toNat))/\Bq w I:=by
 obtain⟨A,C,R,P,N⟩:=info_parts Tryz.Vxg;obtain⟨k1,k2⟩:=bG g.w1 g.w2 g.h1 g.h2;go_enter func119,ntmps119;go_wp2_with (go_at_call 97;refine QQ (iX _ g) λ m=>?_);go_loopw [3,9] (λ v i wr=>∃k:Nat,(k:Int)<=W*H/\i=J k/\G' wr (G w.heap) 3 1 v (K (crs W H Y k)) (aH (crs W H Y k))/\Bq w wr)
  (λ _ i _=>1000-(intOf i).toNat)
 case atStart=>exact⟨0,U,rfl,World.ownsRow_nil _ _ _ _,Vxj ae _⟩
 case round =>
  obtain⟨k,hk,rfl,a,c⟩:=hrel;have hl:=fx W H Y k;have o:=g.below c F;have n:=s.below c U;have L:=c.size;by_cases T:(k:Int)<W*H
  ·have d:=By W H Y k;have t:inB W H (k:Nat)=true:=Q2 ⟨U,T⟩;cases l:aY W H Y (k:Nat) with
   |false =>
    rw[l]at d;have f:crs W H Y (k+1)=crs W H Y k:=by simpa using d
    have HS:=qH f;clear f;clear d;go_wp2_with (go_at_call 163;refine QQ (OA l _ o n t) λ m=>?_);go_roundw
    case rel=>exact⟨k+1,U,gQ,by rw[HS.out];exact a,Vxj c _⟩
    case measure=>simp[intOf];omega
   |true =>
    rw[l]at d;have f:crs W H Y (k+1)=crs W H Y k++[k]:=by simpa using d
    have HS:=qH f;clear f;clear d;go_wp2_with (first|(go_at_call 163;refine QQ (OA l _ o n t) λ m=>?_)|(at_builtin;refine wpList_append_own _ rfl _ _ 60 rfl (G w.heap) 3 A (J 0) 1 8 underlying60 C R P N rfl dQ _ _ _ rfl (World.ownsRow.alloc a _) (O (G wr.heap) 0) 1 1 [J k] rfl rfl ?c1 ?c2 ?c3 ?c4 ?c5 ?_))
    case c1 =>
     intro j u h
     match j,h with
     |0,h =>
      simp at h;subst h;simp only[Addr.add];exact World.cell?_alloc_at (w:=wr.drewN m) #[J k] 3 (G wr.heap) 0 rfl
    case c2=>intro u r;simp at r;subst r;rfl
    case c3=>unfold maxLen;omega
    case c4=>omega
    case c5=>simp;omega
    intro z p x y _;have S:=λ q B=>(a.lt q B).1;have B1:Bq w p:=((Vxj c m).alloc L _).grown y sU S;have X:G' p (G w.heap) 3 1 z (K (crs W H Y (k+1))) (aH (crs W H Y (k+1))):=by
     rw[HS.out]
     simpa [aH]using x
    clear x y a c o n;go_wp2;go_roundw
    case rel=>exact⟨k+1,U,gQ,X,B1⟩
    case measure=>simp[intOf];omega
  ·have e:(W*H).toNat=k:=U;have HE:=qH e;clear e;go_wp2;go_ret;exact⟨_,rfl,by rw[HE.out];exact a,c⟩
theorem cU {Y:Bn}{c:Nat}:c∈crs W H Y k↔c<k/\aY W H Y (c:Nat)=true:=by grind [crs]
theorem aI {Y:Bn}:aY W H Y c=Q↔dG W H Y c:=by
 unfold aY dG vn;rw[Bool.and_eq_true];constructor
 grind [mj,Uv,crB]
 rintro⟨e,k,g,f,d,b,a⟩;refine⟨e,?_⟩;obtain⟨j,rfl⟩:∃j,k=2*j+1:=⟨k/2,U⟩;refine gT (j:=j) U ?_;unfold crB;rw[d,b,a];rfl
theorem aR {Y:Bn}(b:1<=W)(h:dG W H Y c):inB W H c=true:=by
 obtain⟨k,j,a,i⟩:=lj h.1;have e:=gC W c;have g:=UL a (show 0<=W by omega);have f:c/W*W+W<=H*W:=by
  have:=Int.mul_le_mul_of_nonneg_right (show c/W+1<=H by omega) (show 0<=W by omega);rw[Ul]at this;omega
 have d:H*W=W*H:=U4 H W;exact Q2 ⟨U,U⟩
theorem iL (h:(s=1/\x<u)\/(s=-1/\u<x)):dst (x+s) u=dst x u-1/\1<=dst x u:=by
 unfold dst
 (repeat' split)<;>omega
theorem oM (h:(s=1/\x<u)\/(s=-1/\u<x))(a:2<=dst x u):(s=1/\x+s<u)\/(s=-1/\u<x+s):=by
 unfold dst at a;split at a<;>omega
theorem OC :dst (X-1) (Y9-1)+0=dst X Y9/\les (X-1) (Y9-1)+1=les X Y9:=by
 unfold dst les
 (repeat' split)<;>omega
theorem SK (h:Y9<X):dst (X-1) Y9+1=dst X Y9/\les (X-1) Y9+0=les X Y9:=by
 unfold dst les
 (repeat' split)<;>omega
theorem SM (h:X<Y9):dst X (Y9-1)+1=dst X Y9/\les X (Y9-1)+0=les X Y9:=by
 unfold dst les
 (repeat' split)<;>omega
theorem xR (d:k<8)(a:k%2=1)(c:(ah k=1/\x<u)\/(ah k=-1/\u<x))(b:(af k=1/\y<v)\/(af k=-1/\v<y)):fY x y u v k:=by
 obtain⟨_,_,_,_,u5⟩:=jc k d;unfold fY;rw[(u5 a).1,(u5 a).2,(iL c).1,(iL b).1];exact OC
theorem Qw (d:k<8)(a:k%2=0)(c:(ah k=1/\x<u)\/(ah k=-1/\u<x))(b:af k=0)(e:dst y v<dst x u):fY x y u v k:=by
 obtain⟨_,_,_,u4,_⟩:=jc k d;unfold fY;rw[(u4 a).1,(u4 a).2,(iL c).1,b,Uk];exact SK e
theorem Qx (d:k<8)(a:k%2=0)(b:(af k=1/\y<v)\/(af k=-1/\v<y))(c:ah k=0)(e:dst x u<dst y v):fY x y u v k:=by
 obtain⟨_,_,_,u4,_⟩:=jc k d;unfold fY;rw[(u4 a).1,(u4 a).2,(iL b).1,c,Uk];exact SM e
theorem Pj (e:j<8)(d:k<8)(c:k%2=1)(a:af j=0)(b:ah j=ah k):(k=(j+1)%8\/k=(j+7)%8)/\(j=(k+1)%8\/j=(k+7)%8):=by
 rcases k8 d with rfl|rfl|rfl|rfl|rfl|rfl|rfl|rfl<;>rcases k8 e with rfl|rfl|rfl|rfl|rfl|rfl|rfl|rfl<;>revert c a b<;>decide
theorem Pk (e:j<8)(d:k<8)(c:k%2=1)(b:ah j=0)(a:af j=af k):(k=(j+1)%8\/k=(j+7)%8)/\(j=(k+1)%8\/j=(k+7)%8):=by
 rcases k8 d with rfl|rfl|rfl|rfl|rfl|rfl|rfl|rfl<;>rcases k8 e with rfl|rfl|rfl|rfl|rfl|rfl|rfl|rfl<;>revert c a b<;>decide
theorem Mi (b:j<8)(a:k<8)(l:k≠j)(h:fY x y u v j)(g:fY x y u v k) :
  (k=(j+1)%8\/k=(j+7)%8)/\fY (x+ah j) (y+af j) u v k:=by
 obtain⟨r,o⟩:=nt b h;obtain⟨n,m⟩:=nt a g;by_cases p:j%2=1;by_cases q:k%2=1;exact Q8 (Bx a b U g h) l;obtain⟨f,e⟩:=r p;rcases m U with⟨z,d,i⟩|⟨z,c,i⟩
 refine⟨(Pj a b p z U).2,Qw a U ?_ z ?_⟩;rw[show ah j=ah k by omega];exact oM d (Oq (iL e).2);rw[(iL f).1,(iL e).1];omega;refine⟨(Pk a b p z U).2,Qx a U ?_ z ?_⟩;rw[show af j=af k by omega];exact oM c (Oq (iL f).2);rw[(iL f).1,(iL e).1];omega;by_cases q:k%2=1;obtain⟨d,c⟩:=n q;rcases o U with⟨z,f,i⟩|⟨z,e,i⟩
 refine⟨(Pj b a q z U).1,xR a q ?_ (by rw[z,Uk];exact c)⟩;rw[show ah j=ah k by omega];exact oM d (Oq (iL c).2);refine⟨(Pk b a q z U).1,xR a q (by rw[z,Uk];exact d) ?_⟩;rw[show af j=af k by omega];exact oM c (Oq (iL d).2);exact Q8 (Bx a b U g h) l
def Dir (W H:Int) (Y:Bn) (a b:Int):Prop:=(∃z,On W H Y a b z)/\∀k,On W H Y a b k->dG W H Y k->k=a\/k=b
section
variable {W H : Int} {Y : Nat → Bool} {a b : Int}
theorem Mj (c:1<=W)(e:inB W H a=Q)(h:Wk (aF W H Y) a b s d):inB W H b=true:=by grind [inB,Wk,aF,stS,stD,Wk.inv,aF.in']
theorem On.trans (c:1<=W)(d:aP W a b<=1000)(e:aO W a b<=1000){k z:Int}(h:On W H Y a b k)(g:On W H Y a k z):On W H Y a b z:=by
 obtain⟨p,f,o,n⟩:=h.Vxd c d e;have m:=aJ W b k;have l:=aG W b k;obtain⟨j,i,r,q⟩:=g.Vxd c U U;exact On.of_walks c d e j (Wk.join f i) U U
theorem vx (h:dst x y=0):x=y:=by
 unfold dst at h;split at h<;>omega
theorem Mk (h:les x y=0)(e:x=y):x=0:=by
 unfold les at h;split at h<;>omega
theorem kO (e:aP W a b=0)(f:aO W a b=0):a=b:=by
 have d:=vx e;have c:=Mk f d;have h:a%W=b%W:=vx c;have g:a/W=b/W:=vx (d.symm.trans c);rw[<- Int.emod_add_mul_ediv a W,<- Int.emod_add_mul_ediv b W,h,g]
theorem Dir.full (c:1<=W)(l:aP W a b<=1000)(m:aO W a b<=1000)(hd:Dir W H Y a b) :
  ∀(n:Nat) (p:Int),On W H Y a b p->aP W p b+aO W p b<=n->∀k,k<8->fY (p%W) (p/W) (b%W) (b/W) k->∃r,aF W H Y p k r/\On W H Y a b r:=by
 intro n
 induction n with
 |zero =>
  intro p C hn k d g;have n1:=aJ W p b;have n2:=aG W p b;have:=kO (W:=W) (a:=p) (b:=b) U U;rw[this]at g;exact Q8 g (vu d)
 |succ n ih =>
  intro p C hn k d g;have z:p≠b:=λ e=>by rw[e]at g;exact vu d g
  obtain⟨j,q,f,S,y⟩:=On.next c l m C z
  by_cases h:k=j;exact⟨q,h▸f,y⟩;have I:=f.1;obtain⟨P,i⟩:=Mi I d h S g;obtain⟨u,t⟩:=f.place c;rw[<- u,<- t]at i;obtain⟨w,v⟩:=(dX c f).1 S;have sj:=ji j;obtain⟨s,N,hs⟩:=ih q y U k d i;obtain⟨p1,p2,p3,p4⟩:=C.Vxd c l m;have F:¬dG W H Y q:=λ L=>by
   rcases hd.2 q y L with e|e
   rw[e]at w v;have:=aJ W a p;have:=aG W a p;rw[aW W p b]at w;rw[aX W p b]at v;omega;rw[e]at i;exact vu d i
  have m1:=f.2.2.1;have R:=N.2.2.1;rw[u,t]at R;rcases Ph I P m1 R with L|⟨m3,m4⟩
  exact Q8 (by unfold dG;rw[u,t];exact L) F;have o:aF W H Y p k (p+(af k*W+ah k)):=⟨d,f.2.1,m3,rfl⟩;obtain⟨X,V⟩:=o.place c;have We:=o.in' c
  have x:s=p+(af k*W+ah k)+(af j*W+ah j):=by
   rw[N.2.2.2,f.2.2.2];generalize af k*W=A;generalize af j*W=B;omega
  have e2:aF W H Y (p+(af k*W+ah k)) j s:=⟨I,We,by rw[X,V];exact m4,x⟩;obtain⟨j',eb,b1,b2⟩:=aF.back c _ _ _ e2;obtain⟨s1,T,s3,s4⟩:=hs.Vxd c l m;obtain⟨k1,k2⟩:=(dX c N).1 i;refine⟨_,o,On.of_walks c l m (p1.step o) (T.step eb) ?_ ?_⟩;rw[b1,aW W b s];rw[aW W p b]at w;omega;rw[b2,aX W b s];rw[aX W p b]at v;omega
theorem Dir.sub (c:1<=W)(f:aP W a b<=1000)(g:aO W a b<=1000)(j:Dir W H Y a b){k:Int}(h:On W H Y a b k):Dir W H Y k a:=by
 obtain⟨t,s,r,q⟩:=h.Vxd c f g;have n:=aJ W b k;have m:=aG W b k;obtain⟨z,i⟩:=On.near_a c f g U U h;refine⟨⟨z,i.sym⟩,λ y d l=>?_⟩;rcases j.2 y (On.trans c f g h d.sym) l with e|e
 exact SP e;left;rw[e]at d ⊢;obtain⟨x,w,v,u⟩:=d.sym.Vxd c U U;have p:=aJ W k b;have o:=aG W k b;exact kO (W:=W) (by grind) (by grind)
theorem Dir.sym (h:Dir W H Y a b):Dir W H Y b a:=by grind [Dir,On,dG,On.sym]
theorem Dir.self (d:1<=W):Dir W H Y a a:=by
 have c:aP W a a<=1000:=by rw[gz];omega
 have b:aO W a a<=1000:=by rw[gA];omega
 refine⟨⟨a,Tw.nil,Tw.nil⟩,λ k e _=>?_⟩;obtain⟨l,j,g,f⟩:=e.Vxd d c b;rw[gz]at g;rw[gA]at f;have i:=aJ W a k;have h:=aG W a k;exact SQ (kO (W:=W) U U).symm
end
def Blk (W c p:Int):Prop:=p%W-1<=c%W/\c%W<=p%W+1/\p/W-1<=c/W/\c/W<=p/W+1
section
variable {W H c0 : Int} {Y WM : Nat → Bool}
theorem Bz (b:∀n:Nat,(n:Int)≠c0->Y n=WM n){x y:Int}(h:¬(x=c0%W/\y=c0/W)):aM W H Y x y=aM W H WM x y:=by
 unfold aM;cases a:atB W H x y with
 |false=>rfl
 |true =>
  have q:0<=x/\x<W/\0<=y/\y<H:=Q1 a;have c:0<=y*W:=UL q.2.2.1 U;have e:Y (y*W+x).toNat=WM (y*W+x).toNat:=b _ (λ e=>h (by
   rw[Int.toNat_of_nonneg U]at e;rw[<- e];constructor;rw[T9,Int.add_mul_emod_self_right];exact(Int.emod_eq_of_lt q.1 q.2.1).symm;rw[T9,Int.add_mul_ediv_right _ _ U,Int.ediv_eq_zero_of_lt q.1 q.2.1];omega))
  rw[e]
theorem FT (b:∀n:Nat,(n:Int)≠c0->Y n=WM n){p:Int}(h:¬Blk W c0 p){k:Nat}(a:k<8):bu W H Y (p%W) (p/W) k=bu W H WM (p%W) (p/W) k:=by
 obtain⟨u1,u2,_⟩:=jc k a;have f:∀s t:Int,(s=-1\/s=0\/s=1)->(t=-1\/t=0\/t=1)->aM W H Y (p%W+s) (p/W+t)=aM W H WM (p%W+s) (p/W+t):=λ s t d c=>Bz b (λ ⟨g,e⟩=>h (by unfold Blk;omega));have f0:=f 0 0 U U;have f1:=f (ah k) 0 u1 U;have f2:=f 0 (af k) U u2;have f3:=f _ _ u1 u2;rw[Uk]at f1 f2;rw[Uk,Uk]at f0;unfold bu;rw[f0,f1,f2,f3]
theorem vy (i:∀n:Nat,(n:Int)≠c0->Y n=WM n){p:Int}(h:¬Blk W c0 p):dG W H Y p->dG W H WM p:=by
 have f:∀s t:Int,(s=-1\/s=0\/s=1)->(t=-1\/t=0\/t=1)->aM W H Y (p%W+s) (p/W+t)=aM W H WM (p%W+s) (p/W+t):=λ s t l j=>Bz i (λ ⟨o,m⟩=>h (by unfold Blk;omega));rintro⟨g,k,a,b,e,d,c⟩;obtain⟨u1,u2,_⟩:=jc k a;have f0:=f 0 0 U U;have f1:=f (ah k) 0 u1 U;have f2:=f 0 (af k) U u2;have f3:=f _ _ u1 u2;rw[Uk]at f1 f2;rw[Uk,Uk]at f0;exact⟨f0▸g,k,a,b,f3▸e,f1▸d,f2▸c⟩
theorem Iz (y:∀n:Nat,(n:Int)≠c0->Y n=WM n)(i:1<=W){c d:Int}(l:aP W c d<=1000)(m:aO W c d<=1000)(hc:inB W H c=Q)(hf:Y c.toNat=Vl)(hd:dG W H Y d)(h:Dir W H Y c d)
  (Wl:∀p,inB W H p=Q->Y p.toNat=Vl->Blk W c0 p->¬Dir W H Y p c):dG W H WM d/\Dir W H WM c d:=by
 have s:∀p,On W H Y c d p->¬Blk W c0 p:=λ p f hB=>Wl p (Mj i hc (f.Vxd i l m).1) (f.free i l m hf) hB (h.sub i l m f);have mv:∀p k r,On W H Y c d p->aF W H Y p k r->aF W H WM p k r:=λ p k r f e=>⟨e.1,e.2.1,by rw[<- FT y (s p f) e.1];exact e.2.2.1,e.2.2.2⟩;have vm:∀p k r,On W H Y c d p->aF W H WM p k r->aF W H Y p k r:=λ p k r f e=>⟨e.1,e.2.1,by rw[FT y (s p f) e.1];exact e.2.2.1,e.2.2.2⟩;obtain⟨z,P⟩:=h.1;obtain⟨oc,od,_⟩:=P.ends i l m
 -- forth: by the steps that bring one nearer, all of which may be gone
 have R:aP W d c<=1000:=by rw[aW];exact l
 have S:aO W d c<=1000:=by rw[aX];exact m
 have V:∀p,Tw W H WM c d p->On W H Y c d p:=λ p f=>f (λ p=>On W H Y c d p) oc (λ p k r f e g=>by
  obtain⟨r',e',hr⟩:=h.full i l m (aP W p d+aO W p d).toNat p f U k e.1 g;rw[e.2.2.2,<- e'.2.2.2];exact hr)
 have B:∀p,On W H Y c d p->Tw W H WM c d p:=by
  intro p f
  -- walk back to the beginning
  have t:∀(n:Nat) (p:Int),On W H Y c d p->aP W c p+aO W c p<=n->Tw W H WM c d p:=by
   intro n
   induction n with
   |zero =>
    intro p f u;have n1:=aJ W c p;have n2:=aG W c p;rw[<- kO (W:=W) (a:=c) (b:=p) U U];exact Tw.nil
   |succ n I =>
    intro p f u;by_cases e:p=c;rw[e];exact Tw.nil;obtain⟨j,q,w,T,o⟩:=On.next i R S f.sym e
    have o:=o.sym;obtain⟨N,L⟩:=(dX i w).1 T;have sj:=ji j;rw[aW W q c,aW W p c]at N;rw[aX W q c,aX W p c]at L;obtain⟨F,x,b1,X⟩:=aF.back i _ _ _ w;have A:=I q o U;obtain⟨q1,q2,q3,q4⟩:=o.Vxd i l m;obtain⟨p1,p2,p3,p4⟩:=f.Vxd i l m;refine A.step (mv q F p o x) ((dX i x).2 ?_);rw[b1,X,aW W p d,aW W q d,aX W p d,aX W q d];omega
  exact t (aP W c p+aO W c p).toNat p f U
 have C:∀p,On W H Y c d p->Tw W H WM d c p:=by
  have t:∀(n:Nat) (p:Int),On W H Y c d p->aP W p d+aO W p d<=n->Tw W H WM d c p:=by
   intro n
   induction n with
   |zero =>
    intro p f u;have n1:=aJ W p d;have n2:=aG W p d;rw[kO (W:=W) (a:=p) (b:=d) U U];exact Tw.nil
   |succ n I =>
    intro p f u;by_cases e:p=d;rw[e];exact Tw.nil;obtain⟨j,q,w,T,o⟩:=On.next i l m f e
    obtain⟨N,L⟩:=(dX i w).1 T;have sj:=ji j;obtain⟨F,x,b1,X⟩:=aF.back i _ _ _ w;have A:=I q o U;obtain⟨q1,q2,q3,q4⟩:=o.Vxd i l m;obtain⟨p1,p2,p3,p4⟩:=f.Vxd i l m;refine A.step (mv q F p o x) ((dX i x).2 ?_);rw[b1,X,aW W p c,aW W q c,aX W p c,aX W q c];rw[aW W q d,aW W p d]at N;rw[aX W q d,aX W p d]at L;omega
  exact λ p f=>t (aP W p d+aO W p d).toNat p f U
 refine⟨vy y (s d od) hd,⟨z,B z P,C z P⟩,λ k hk XO=>?_⟩;have v:=V k hk.1;exact h.2 k v (vy (λ n u=>(y n u).symm) (s k v) XO)
end
end Go.Proofs.YtikdmenjibkgiaaGreatDoor
