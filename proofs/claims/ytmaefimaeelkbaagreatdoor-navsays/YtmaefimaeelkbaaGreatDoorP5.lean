/- Texts laid together. -/
import Derived.Test.YtmaefimaeelkbaaGreatDoorP2
import Derived.Test.YtmaefimaeelkbaaGreatDoorP3
import Derived.Test.YtmaefimaeelkbaaGreatDoorP4
import Derived.Deep.RegionWith
import Derived.Sort.OwnSortedInts
import Derived.Maps.AppendAt
import Derived.Deep.RegionHeld3
import Derived.RegionTactic
import Derived.BigRegion
import Derived.Laws.OwnMore
namespace Go.Proofs.YtmaefimaeelkbaaGreatDoor
open _root_.Int renaming add_mul→Nw,add_assoc→Nx,neg_mul→Of,natCast_add→NW,zero_add→Oq,add_comm→NI,tmod_eq_emod_of_nonneg→OA
open _root_.Bool renaming and_eq_true→MW
open _root_.Or renaming inl→MG,inr→MF
open _root_.List renaming replicate→N8,mem_cons→Nh,mem_cons_of_mem→MV,getElem?_append_left→Nd,getElem?_append_right→Ni,getElem?_map→NF,getElem?_eq_getElem→MJ,range→NX,length_map→NP,mem_map→NH,mem_filter→Ns,mem_range→NR,mem_cons_self→M4,not_mem_nil→N6,pairwise_map→N7,getElem?_toArray→N9,getElem?_replicate→PD,getElem?_eq_some_iff→Np,getElem?_range→Oj,length_replicate→OE,getElem?_set_ne→N4,getElem?_take→Pj
open _root_.Array renaming getElem?_eq_some_iff→Na,getElem?_eq_none→Oz
open Go.World renaming block_lt_of_cell?→MK,cell?_alloc_at→ME,cell?_setCell_other→MH,cell?_setCell_same→MO,ownsRow_nil→Nj,grownBy_alloc→Nu,cell?_of_block→NS,cell?_alloc_new→MP,there_setCells→NU,rangeAt_setCells_apart→NL,rangeAt_setCells_same→NG,frozen?→OU,frozen?_setCell→NY
open _root_.Nat renaming lt_irrefl→NJ,zero_le→MQ,lt_of_lt_of_le→MN,lt_succ_self→N5,zero_add→M8
open Go.Value renaming ownBlock→NA,int→NB,bool→OZ,slice→Ny
open _root_.Option renaming map_some→PA
open Go.Value renaming int→PE
open Go.IntKind renaming i64→PF
open Go.Proofs.Tryz
open _root_.Option renaming some→OM,none→Pk
open _root_.Bool renaming true→Pm,false→PB
open Go renaming World→PG,Value→PH,Calls→PK
open Go.RowKit renaming Below→PI
open Go.Ending renaming returned→PM
open Go.Obj renaming cells→PN
variable {W H a c V o s d x y t u:Int}{b k j e base n B g cap i m cb ib mb:Nat}{bl:Nat->Bool}{F:Int->Option (Int×Int)}{r:Bool}{v tv:PH}{w w' wr:PG}{xs:List PH}{D:Nat->Prop}{l td:List Nat}{S:Int->Bool}{f:Int->Option PH}
set_option maxHeartbeats 8000000
set_option maxRecDepth 1000000
section
open Go.RowKit
def aF (W H:Int) (bl:Nat->Bool) (a:Int) (k:Nat) (b:Int):Prop:=k<8/\inB W H a=Pm/\bC W H bl (a%W) (a/W) k=Pm/\b=a+(af k*W+ah k)
theorem aF.in' {b:Int}(w1:1<=W)(e:aF W H bl a k b):inB W H b=true:=by
 rw[e.2.2.2];exact(jN w1 e.1 e.2.2.1).1
theorem Aj (k:Nat):stS (opp k)=stS k/\stD (opp k)=stD k:=by
 have:opp k%2=k%2:=by unfold opp;omega
 unfold stS stD;rw[this];exact⟨rfl,rfl⟩
theorem aF.back (w1:1<=W)(a:Int)(k:Nat)(b:Int)(e:aF W H bl a k b):∃k',aF W H bl b k' a/\stS k'=stS k/\stD k'=stD k:=by
 obtain⟨h1,h2,h3,h4⟩:=e;obtain⟨f1,j,hj,hj2⟩:=jN w1 h1 h3;have hm:=kz hj;rw[hj2,<- h4]at hm;refine⟨opp k,⟨uM k,by rw[h4];exact f1,hm.2,?_⟩,Aj k⟩;rw[h4];exact(tF h1).symm
theorem aF.one {b:Int}(e:aF W H bl a k b)(f:aF W H bl a j c)(h:j=k):c=b:=by
 rw[e.2.2.2,f.2.2.2,h]
theorem D4 (c:Int)(w:PG)(g:aw w b W H V bl)(hr:inB W H c=PB) :
  PK prog 123 #[.pointer (OM ⟨b,0,Pk⟩),PE PF c] w fun e w'=>e=PM (.iface 54 (PE PF 1))/\∃m,w'=w.drewN m:=by
 go_enter func123,ntmps123;go_wp2_with (go_at_call 72;refine(qZ c _ g hr).mono ?_;rintro e w' ⟨rfl,m,rfl⟩);go_ret;exact⟨rfl,_,rfl⟩
theorem GQ {b:Nat}{W H V:Int}{bl:Nat->Bool}(c:Nat)(w:PG)(g:aw w b W H V bl)(hr:inB W H c=Pm)(hb:bl c=Pm) :
  PK prog 123 #[.pointer (OM ⟨b,0,Pk⟩),PE PF c] w fun e w'=>e=PM (.iface 54 (PE PF 4))/\∃m,w'=w.drewN m:=by
 have hf:=fun w g=>jL (b:=b) (W:=W) (H:=H) (V:=V) (bl:=bl) c w g hr;rw[hb]at hf;go_enter func123,ntmps123;go_wp2_with (go_at_call 72;refine(hf _ g).mono ?_;rintro e w' ⟨rfl,m,rfl⟩);go_ret;exact⟨rfl,_,rfl⟩
theorem GS {b:Nat}{W H V:Int}{bl:Nat->Bool}(c:Nat)(w:PG)(g:aw w b W H V bl)(hr:inB W H c=Pm)(hb:bl c=PB) :
  PK prog 123 #[.pointer (OM ⟨b,0,Pk⟩),PE PF c] w fun e w'=>e=PM .nilIface/\∃m,w'=w.drewN m:=by
 have hf:=fun w g=>jL (b:=b) (W:=W) (H:=H) (V:=V) (bl:=bl) c w g hr;rw[hb]at hf;go_enter func123,ntmps123;go_wp2_with (go_at_call 72;refine(hf _ g).mono ?_;rintro e w' ⟨rfl,m,rfl⟩);go_ret;exact⟨rfl,_,rfl⟩
end
section
open Go.RowKit
theorem Cf {H:Int}(w1:1<=W)(h:Wk (aF W H bl) o a s d) :
  val (dst (dst (o%W) (a%W)) (dst (o/W) (a/W))) (les (dst (o%W) (a%W)) (dst (o/W) (a/W)))<=val s d:=by
 refine h.ind (R:=fun a s d=>val (dst (dst (o%W) (a%W)) (dst (o/W) (a/W))) (les (dst (o%W) (a%W)) (dst (o/W) (a/W)))<=val s d) ?_ (fun a s d k b _ ih e=>?_)
 ·unfold dst les val;simp
 ·obtain⟨h1,h2,h3,h4⟩:=e;obtain⟨_,o2,_,_⟩:=ft h3;obtain⟨a1,a2,a3,a4⟩:=jM o2;have e:a+(af k*W+ah k)=(a/W+af k)*W+(a%W+ah k):=by
   have:=fe W a;rw[Nw];omega
  obtain⟨p1,p2,p3⟩:=nM (H:=H) w1 a1 a2 a3 a4;rw[h4,e,p2,p3];clear e p1 p2 p3 a1 a2 a3 a4 o2 h3 h4 h2;rw[cC];generalize o%W=ox at *;generalize o/W=oy at *;generalize a%W=ax at *;generalize a/W=ay at *;have UB:k=0\/k=1\/k=2\/k=3\/k=4\/k=5\/k=6\/k=7:=by omega
  have Qq:ah k=0/\af k=-1/\stS k=1/\stD k=0\/ah k=0/\af k=1/\stS k=1/\stD k=0\/ah k=1/\af k=0/\stS k=1/\stD k=0\/ah k=-1/\af k=0/\stS k=1/\stD k=0\/(ah k=1\/ah k=-1)/\(af k=1\/af k=-1)/\stS k=0/\stD k=1:=by
   rcases UB with rfl|rfl|rfl|rfl|rfl|rfl|rfl|rfl<;>decide
  refine Int.le_trans ?_ (Int.add_le_add_right ih _);clear ih UB h1;unfold val dst les;split<;>split<;>split<;>split<;>split<;>split<;>(try split)<;>(try split)<;>omega
theorem ct.sym {G:Int->Option (Int×Int)}(w1:1<=W)(hF:ct (aF W H bl) o F)(hG:ct (aF W H bl) c G){s d:Int}(h:F c=OM (s,d)):G o=OM (s,d):=by
 obtain⟨s',d',h1,h2⟩:=hG.least ((hF.sound h).back (aF.back w1));obtain⟨s2,d2,h3,h4⟩:=hF.least ((hG.sound h1).back (aF.back w1));rw[h]at h3;cases h3;obtain⟨a1,a2,a3⟩:=hF.small h;obtain⟨b1,b2,b3⟩:=hG.small h1;have c1:=cE a1 a2 a3;have c2:=cE b1 b2 b3;obtain⟨e1,e2⟩:=gL s' d' s d (by omega) (by omega) (by omega);rw[h1,e1,e2]
theorem Cg (ho:bl o.toNat=PB)(h:Wk (aF W H bl) o a s d):bl a.toNat=false:=by
 refine h.ind (R:=fun a _ _=>bl a.toNat=PB) ho (fun a s d k b _ _ e=>?_);obtain⟨h1,h2,h3,h4⟩:=e;obtain⟨_,o2,_,_⟩:=ft h3;have e:a+(af k*W+ah k)=(a/W+af k)*W+(a%W+ah k):=by
  have:=fe W a;rw[Nw];omega
 rw[h4,e];unfold aM at o2;rw[MW]at o2
 simpa using o2.2
theorem fk (h0:0<=x)(h:x<=1000):IntKind.i64.wrap x=x:=by unfold IntKind.wrap;simp[IntKind.bits,IntKind.signed];omega
theorem jQ (h0:0<=x)(h:x<=1000):eK x:=⟨by omega,by omega⟩
end
section
open Go.RowKit
def rk (W H:Int) (bl:Nat->Bool) (x y:Int):Prop :=
 aM W H bl x y=Pm/\∃k,k<8/\k%2=1/\aM W H bl (x+ah k) (y+af k)=PB/\aM W H bl (x+ah k) y=Pm/\aM W H bl x (y+af k)=Pm
theorem sx0:ah 0=0:=rfl
theorem sx1:ah 1=1:=rfl
theorem sx2:ah 2=1:=rfl
theorem sx3:ah 3=1:=rfl
theorem sx4:ah 4=0:=rfl
theorem sx5:ah 5=-1:=rfl
theorem sx6:ah 6=-1:=rfl
theorem sx7:ah 7=-1:=rfl
theorem sy0:af 0=-1:=rfl
theorem sy1:af 1=-1:=rfl
theorem sy2:af 2=0:=rfl
theorem sy3:af 3=1:=rfl
theorem sy4:af 4=1:=rfl
theorem sy5:af 5=1:=rfl
theorem sy6:af 6=0:=rfl
theorem sy7:af 7=-1:=rfl
theorem k8 {d:Nat}(h:d<8):d=0\/d=1\/d=2\/d=3\/d=4\/d=5\/d=6\/d=7:=by omega
theorem Md {d:Nat}(hd:d<8)(he:e=(d+3)%8\/e=(d+5)%8)(h1:bC W H bl x y d=Pm)(h2:bC W H bl (x+ah d) (y+af d) e=Pm) :
  ∃k,k<8/\k%2=0/\bC W H bl x y k=Pm/\ah k=ah d+ah e/\af k=af d+af e:=by
 unfold bC at *;generalize aM W H bl=O at *;rcases he with rfl|rfl
 ·refine⟨if d%2=0 then (d+2)%8 else (d+1)%8,?_⟩;rcases k8 hd with rfl|rfl|rfl|rfl|rfl|rfl|rfl|rfl<;>simp[sx0,sx1,sx2,sx3,sx4,sx5,sx6,sx7,sy0,sy1,sy2,sy3,sy4,sy5,sy6,sy7,Nx]at h1 h2 ⊢ <;> simp_all
 ·refine⟨if d%2=0 then (d+6)%8 else (d+7)%8,?_⟩;rcases k8 hd with rfl|rfl|rfl|rfl|rfl|rfl|rfl|rfl<;>simp[sx0,sx1,sx2,sx3,sx4,sx5,sx6,sx7,sy0,sy1,sy2,sy3,sy4,sy5,sy6,sy7,Nx]at h1 h2 ⊢ <;> simp_all
theorem La {d:Nat}(hd:d<8)(hp:d%2=0)(he:e=(d+2)%8\/e=(d+6)%8)(h1:bC W H bl x y d=Pm)(h2:bC W H bl (x+ah d) (y+af d) e=Pm) :
  rk W H bl (x+ah d) (y+af d)\/∃k,k<8/\k%2=1/\bC W H bl x y k=Pm/\ah k=ah d+ah e/\af k=af d+af e:=by
 unfold bC rk at *;generalize aM W H bl=O at *;have hk:d=0\/d=2\/d=4\/d=6:=by omega
 rcases he with rfl|rfl
 ·cases ho:O (x+ah d+ah ((d+3)%8)) (y+af d+af ((d+3)%8)) with
  |false =>
   left;refine⟨?_,(d+3)%8,?_⟩<;>rcases hk with rfl|rfl|rfl|rfl<;>simp[sx0,sx1,sx2,sx3,sx4,sx5,sx6,sx7,sy0,sy1,sy2,sy3,sy4,sy5,sy6,sy7,Nx]at h1 h2 ho ⊢ <;> simp_all
  |true =>
   right;refine⟨(d+1)%8,?_⟩;rcases hk with rfl|rfl|rfl|rfl<;>simp[sx0,sx1,sx2,sx3,sx4,sx5,sx6,sx7,sy0,sy1,sy2,sy3,sy4,sy5,sy6,sy7,Nx]at h1 h2 ho ⊢ <;> simp_all
 ·cases ho:O (x+ah d+ah ((d+5)%8)) (y+af d+af ((d+5)%8)) with
  |false =>
   left;refine⟨?_,(d+5)%8,?_⟩<;>rcases hk with rfl|rfl|rfl|rfl<;>simp[sx0,sx1,sx2,sx3,sx4,sx5,sx6,sx7,sy0,sy1,sy2,sy3,sy4,sy5,sy6,sy7,Nx]at h1 h2 ho ⊢ <;> simp_all
  |true =>
   right;refine⟨(d+7)%8,?_⟩;rcases hk with rfl|rfl|rfl|rfl<;>simp[sx0,sx1,sx2,sx3,sx4,sx5,sx6,sx7,sy0,sy1,sy2,sy3,sy4,sy5,sy6,sy7,Nx]at h1 h2 ho ⊢ <;> simp_all
theorem Lb {d:Nat}(hd:d<8)(hp:d%2=1)(he:e=(d+2)%8\/e=(d+6)%8)(h1:bC W H bl x y d=Pm)(h2:bC W H bl (x+ah d) (y+af d) e=Pm) :
  ∃k,k<8/\k%2=0/\bC W H bl x y k=Pm/\bC W H bl (x+ah k) (y+af k) k=Pm/\ah k+ah k=ah d+ah e/\af k+af k=af d+af e:=by
 unfold bC at *;generalize aM W H bl=O at *;have hk:d=1\/d=3\/d=5\/d=7:=by omega
 rcases he with rfl|rfl
 ·refine⟨(d+1)%8,?_⟩;rcases hk with rfl|rfl|rfl|rfl<;>simp[sx0,sx1,sx2,sx3,sx4,sx5,sx6,sx7,sy0,sy1,sy2,sy3,sy4,sy5,sy6,sy7,Nx]at h1 h2 ⊢ <;> simp_all
 ·refine⟨(d+7)%8,?_⟩;rcases hk with rfl|rfl|rfl|rfl<;>simp[sx0,sx1,sx2,sx3,sx4,sx5,sx6,sx7,sy0,sy1,sy2,sy3,sy4,sy5,sy6,sy7,Nx]at h1 h2 ⊢ <;> simp_all
theorem JZ {d:Nat}(hd:d<8)(he:e=(d+1)%8\/e=(d+7)%8)(h1:bC W H bl x y d=Pm)(h2:bC W H bl (x+ah d) (y+af d) e=Pm) :
  rk W H bl (x+ah d) (y+af d)\/(bC W H bl x y e=Pm/\bC W H bl (x+ah e) (y+af e) d=Pm):=by
 unfold bC rk at *;generalize aM W H bl=O at *;rcases he with rfl|rfl
 ·cases ho:O (x+ah d+ah (if d%2=0 then (d+3)%8 else (d+2)%8)) (y+af d+af (if d%2=0 then (d+3)%8 else (d+2)%8)) with
  |false =>
   left;refine⟨?_,if d%2=0 then (d+3)%8 else (d+2)%8,?_⟩<;>rcases k8 hd with rfl|rfl|rfl|rfl|rfl|rfl|rfl|rfl<;>simp[sx0,sx1,sx2,sx3,sx4,sx5,sx6,sx7,sy0,sy1,sy2,sy3,sy4,sy5,sy6,sy7,Nx]at h1 h2 ho ⊢ <;> simp_all
  |true =>
   right;rcases k8 hd with rfl|rfl|rfl|rfl|rfl|rfl|rfl|rfl<;>simp[sx0,sx1,sx2,sx3,sx4,sx5,sx6,sx7,sy0,sy1,sy2,sy3,sy4,sy5,sy6,sy7,Nx]at h1 h2 ho ⊢ <;> simp_all
 ·cases ho:O (x+ah d+ah (if d%2=0 then (d+5)%8 else (d+6)%8)) (y+af d+af (if d%2=0 then (d+5)%8 else (d+6)%8)) with
  |false =>
   left;refine⟨?_,if d%2=0 then (d+5)%8 else (d+6)%8,?_⟩<;>rcases k8 hd with rfl|rfl|rfl|rfl|rfl|rfl|rfl|rfl<;>simp[sx0,sx1,sx2,sx3,sx4,sx5,sx6,sx7,sy0,sy1,sy2,sy3,sy4,sy5,sy6,sy7,Nx]at h1 h2 ho ⊢ <;> simp_all
  |true =>
   right;rcases k8 hd with rfl|rfl|rfl|rfl|rfl|rfl|rfl|rfl<;>simp[sx0,sx1,sx2,sx3,sx4,sx5,sx6,sx7,sy0,sy1,sy2,sy3,sy4,sy5,sy6,sy7,Nx]at h1 h2 ho ⊢ <;> simp_all
end
section
def Pth (W H:Int) (bl:Nat->Bool):Int->List Nat->Int->Prop
 |p,[],q=>p=q
 |p,k::ds,q=>∃r,aF W H bl p k r/\Pth W H bl r ds q
def cst:List Nat->Int
 |[]=>0
 |k::ds=>val (stS k) (stD k)+cst ds
theorem rm:∀ds,0<=cst ds
 |[]=>Int.le_refl _
 |k::ds=>by have:=rm ds;have:=(kC k).1;show 0<=val (stS k) (stD k)+cst ds;omega
theorem Pth.snoc {r:Int}:∀{ds:List Nat}{p q:Int},Pth W H bl p ds q->aF W H bl q k r->Pth W H bl p (ds++[k]) r
 |[],_,_,h,e=>⟨r,h▸e,rfl⟩
 |_::_,_,_,⟨y,e1,h⟩,e=>⟨y,e1,h.snoc e⟩
theorem xM (k:Nat):∀ds:List Nat,cst (ds++[k])=cst ds+val (stS k) (stD k)
 |[]=>by show val (stS k) (stD k)+0=0+val (stS k) (stD k);omega
 |j::ds=>by show val (stS j) (stD j)+cst (ds++[k])=val (stS j) (stD j)+cst ds+val (stS k) (stD k);rw[xM k ds];omega
theorem Wk.path {b:Int}(h:Wk (aF W H bl) a b s d):∃ds,Pth W H bl a ds b/\cst ds=val s d:=by
 refine h.ind (R:=fun b s d=>∃ds,Pth W H bl a ds b/\cst ds=val s d) ⟨[],rfl,by decide⟩ (fun p s d k q _ ih e=>?_);obtain⟨ds,h1,h2⟩:=ih;exact⟨ds++[k],h1.snoc e,by rw[xM,h2,cC]⟩
variable {W H : Int} {bl : Nat → Bool} {a b : Int} {F G : Int → Option (Int × Int)}
theorem ct.fwd (BA:ct (aF W H bl) a F):∀{ds:List Nat}{p q s d:Int},Pth W H bl p ds q->F p=OM (s,d)->∃s' d',F q=OM (s',d')/\val s' d'<=val s d+cst ds
 |[],p,q,s,d,h,hp=>⟨s,d,by rw[<- (show p=q from h)];exact hp,by show _<=val s d+0;omega⟩
 |k::ds,p,q,s,d,⟨r,e,h⟩,hp=>by
  obtain⟨s1,d1,h1,h2⟩:=BA.edge hp e;obtain⟨s2,d2,h3,h4⟩:=BA.fwd h h1;exact⟨s2,d2,h3,by show _<=val s d+(val (stS k) (stD k)+cst ds);omega⟩
theorem ct.bwd (w1:1<=W)(BB:ct (aF W H bl) b G):∀{ds:List Nat}{p q t u:Int},Pth W H bl p ds q->G q=OM (t,u)->∃t' u',G p=OM (t',u')/\val t' u'<=val t u+cst ds
 |[],p,q,t,u,h,hq=>⟨t,u,by rw[(show p=q from h)];exact hq,by show _<=val t u+0;omega⟩
 |k::ds,p,q,t,u,⟨r,e,h⟩,hq=>by
  obtain⟨t1,u1,h1,h2⟩:=BB.bwd w1 h hq;obtain⟨k',e',g1,g2⟩:=aF.back w1 _ _ _ e;obtain⟨t2,u2,h3,h4⟩:=BB.edge h1 e';rw[g1,g2]at h4;exact⟨t2,u2,h3,by show _<=val t u+(val (stS k) (stD k)+cst ds);omega⟩
theorem Wk.join {E:Int->Nat->Int->Prop}{p q:Int}(h:Wk E a p s d)(k:Wk E p q t u):Wk E a q (s+t) (d+u):=by
 refine k.ind (R:=fun q t u=>Wk E a q (s+t) (d+u)) (by simpa using h) (fun x t u k y _ ih e=>?_);have:=ih.step e;rw[Nx,Nx]at this;exact this
theorem GU (w1:1<=W)(BA:ct (aF W H bl) a F)(BB:ct (aF W H bl) b G){s0 d0:Int}(h0:F b=OM (s0,d0)){p s d t u:Int}(hp:F p=OM (s,d))(hq:G p=OM (t,u)):val s0 d0<=val s d+val t u:=by
 obtain⟨s',d',h1,h2⟩:=BA.least ((BA.sound hp).join ((BB.sound hq).back (aF.back w1)));rw[h0]at h1;cases h1;rw[cC]at h2;exact h2
def Tgt (W H:Int) (bl:Nat->Bool) (F G:Int->Option (Int×Int)) (D:Int) (p:Int) (ds:List Nat) (q:Int):Prop :=
 Pth W H bl p ds q/\∃s d t u,F p=OM (s,d)/\G q=OM (t,u)/\val s d+cst ds+val t u=D
def OnW (F G:Int->Option (Int×Int)) (D:Int) (p:Int):Prop:=∃s d t u,F p=OM (s,d)/\G p=OM (t,u)/\val s d+val t u=D/\0<val s d/\0<val t u
theorem Tgt.tail (w1:1<=W)(BA:ct (aF W H bl) a F)(BB:ct (aF W H bl) b G){s0 d0:Int}(h0:F b=OM (s0,d0)){p q:Int}{k:Nat}{ds:List Nat}(h:Tgt W H bl F G (val s0 d0) p (k::ds) q) :
  ∃r,aF W H bl p k r/\Tgt W H bl F G (val s0 d0) r ds q/\(0<cst ds->OnW F G (val s0 d0) r):=by
 obtain⟨⟨r,e,hp⟩,s,d,t,u,h1,h2,h3⟩:=h;obtain⟨s1,d1,f1,f2⟩:=BA.edge h1 e;obtain⟨t1,u1,g1,g2⟩:=BB.bwd w1 hp h2;have:=GU w1 BA BB h0 f1 g1;have h3':val s d+(val (stS k) (stD k)+cst ds)+val t u=val s0 d0:=h3;have hk:=(kC k).1;have z1:0<=val s d:=by obtain⟨n1,n2,_⟩:=BA.small h1;unfold val;omega
 have z2:0<=val t u:=by obtain⟨n1,n2,_⟩:=BB.small h2;unfold val;omega
 exact⟨r,e,⟨hp,s1,d1,t,u,f1,h2,by omega⟩,fun Tm=>⟨s1,d1,t1,u1,f1,g1,by omega,by omega,by omega⟩⟩
theorem Tgt.least (w1:1<=W)(BA:ct (aF W H bl) a F)(BB:ct (aF W H bl) b G){s0 d0:Int}(h0:F b=OM (s0,d0)){p q:Int}{ds ds':List Nat}(h:Tgt W H bl F G (val s0 d0) p ds q)(h':Pth W H bl p ds' q):cst ds<=cst ds':=by
 obtain⟨_,s,d,t,u,h1,h2,h3⟩:=h;obtain⟨s1,d1,f1,f2⟩:=BA.fwd h' h1;have:=GU w1 BA BB h0 f1 h2;omega
theorem jk (h:k%2=0):val (stS k) (stD k)=38613965:=by unfold val stS stD;rw[h];decide
theorem nP (h:k%2=1):val (stS k) (stD k)=54608393:=by unfold val stS stD;rw[h];decide
theorem aF.place (w1:1<=W){p r:Int}{k:Nat}(e:aF W H bl p k r):r%W=p%W+ah k/\r/W=p/W+af k:=by
 obtain⟨_,_,h3,h4⟩:=e;obtain⟨_,o2,_,_⟩:=ft h3;obtain⟨a1,a2,a3,a4⟩:=jM o2;have e:p+(af k*W+ah k)=(p/W+af k)*W+(p%W+ah k):=by
  have:=fe W p;rw[Nw];omega
 obtain⟨p1,p2,p3⟩:=nM (H:=H) w1 a1 a2 a3 a4;rw[h4,e,p2,p3];exact⟨rfl,rfl⟩
theorem Tgt.two (w1:1<=W)(BA:ct (aF W H bl) a F)(BB:ct (aF W H bl) b G){s0 d0:Int}(h0:F b=OM (s0,d0))(hC:∀p,OnW F G (val s0 d0) p->¬rk W H bl (p%W) (p/W))
  {p q:Int}{d e:Nat}{ds:List Nat}(h:Tgt W H bl F G (val s0 d0) p (d::e::ds) q):e=d\/((e=(d+1)%8\/e=(d+7)%8)/\Tgt W H bl F G (val s0 d0) p (e::d::ds) q):=by
 obtain⟨r,e1,hr,onr⟩:=h.tail w1 BA BB h0;obtain⟨z,e2,hz,_⟩:=hr.tail w1 BA BB h0;have YO:=hC r (onr (by have:=(kC e).1;have:=rm ds;show 0<val (stS e) (stD e)+cst ds;omega));obtain⟨x1,y1⟩:=e1.place w1;have hd:=e1.1;have he:=e2.1;have m1:=e1.2.2.1;have m2:=e2.2.2.1;have ip:=e1.2.1;have zr:=e1.2.2.2;have zz:=e2.2.2.2;rw[x1,y1]at YO m2;have vd:=kC d;have ve:=kC e;have Qp:cst (d::e::ds)=val (stS d) (stD d)+(val (stS e) (stD e)+cst ds):=rfl;have WK:∀k,k<8->bC W H bl (p%W) (p/W) k=Pm->ah k=ah d+ah e->af k=af d+af e->aF W H bl p k z:=fun k hk hm hx hy=>⟨hk,ip,hm,by rw[zz,zr,hx,hy,Nw];omega⟩;have QS:e=d\/(e=(d+1)%8\/e=(d+7)%8)\/(e=(d+2)%8\/e=(d+6)%8)\/(e=(d+3)%8\/e=(d+5)%8)\/e=(d+4)%8:=by omega
 rcases QS with h1|h1|h1|h1|h1
 ·exact MG h1
 ·right;refine⟨h1,?_⟩;rcases JZ hd h1 m1 m2 with hc|⟨n1,n2⟩
  ·exact absurd hc YO
  ·have e3:aF W H bl p e (p+(af e*W+ah e)):=⟨he,ip,n1,rfl⟩;have e4:aF W H bl (p+(af e*W+ah e)) d z:=by
    obtain⟨x3,y3⟩:=e3.place w1;exact⟨hd,e3.in' w1,by rw[x3,y3];exact n2,by rw[zz,zr];omega⟩
   obtain⟨_,s,d',t,u,f1,f2,f3⟩:=h;refine⟨⟨_,e3,z,e4,hz.1⟩,s,d',t,u,f1,f2,?_⟩;rw[Qp]at f3;show val s d'+(val (stS e) (stD e)+(val (stS d) (stD d)+cst ds))+val t u=_;omega
 ·exfalso;by_cases hp:d%2=0
  ·rcases La hd hp h1 m1 m2 with hc|⟨k,k1,k2,k3,k4,k5⟩
   ·exact YO hc
   ·have:=h.least w1 BA BB h0 (ds':=k::ds) ⟨z,WK k k1 k3 k4 k5,hz.1⟩;have c1:=nP k2;have c2:=jk hp;have c3:val (stS e) (stD e)=38613965:=jk (by omega);have:cst (k::ds)=val (stS k) (stD k)+cst ds:=rfl;omega
  ·have hp1:d%2=1:=(by omega);obtain⟨k,k1,k2,k3,k4,k5,k6⟩:=Lb hd hp1 h1 m1 m2;have e3:aF W H bl p k (p+(af k*W+ah k)):=⟨k1,ip,k3,rfl⟩;have e4:aF W H bl (p+(af k*W+ah k)) k z:=by
    obtain⟨x3,y3⟩:=e3.place w1;refine⟨k1,e3.in' w1,by rw[x3,y3];exact k4,?_⟩;have hW:af k*W+af k*W=af d*W+af e*W:=(by rw[<- Nw,<- Nw,k6]);rw[zz,zr];omega
   have:=h.least w1 BA BB h0 (ds':=k::k::ds) ⟨_,e3,z,e4,hz.1⟩;have c1:=jk k2;have c2:=nP hp1;have c3:val (stS e) (stD e)=54608393:=nP (by omega);have:cst (k::k::ds)=val (stS k) (stD k)+(val (stS k) (stD k)+cst ds):=rfl;omega
 ·exfalso;obtain⟨k,k1,k2,k3,k4,k5⟩:=Md hd h1 m1 m2;have:=h.least w1 BA BB h0 (ds':=k::ds) ⟨z,WK k k1 k3 k4 k5,hz.1⟩;have c1:=jk k2;have:cst (k::ds)=val (stS k) (stD k)+cst ds:=rfl;have c2:38613965<=val (stS d) (stD d):=by
   by_cases hp:d%2=0
   ·rw[jk hp];decide
   ·rw[nP (by omega)];decide
  omega
 ·exfalso;have ho:e=opp d:=by unfold opp;exact h1
  obtain⟨g1,g2⟩:=q9 d hd;have hzp:z=p:=by rw[zz,zr,ho,g1,g2,Of];omega
  have:=h.least w1 BA BB h0 (ds':=ds) (by rw[<- hzp];exact hz.1);omega
theorem tH (f:Nat):∀l:List Nat,(∀x∈l,x=f)\/∃j g rest,l=N8 j f++g::rest/\g≠f
 |[]=>MG (fun _ h=>by cases h)
 |x::l=>by
  by_cases e:x=f
  ·rcases tH f l with h|⟨j,g,rest,h1,h2⟩
   ·exact MG (fun y hy=>(Nh.1 hy).elim (fun q=>by rw[q];exact e) (fun hy=>h y hy))
   ·exact MF ⟨j+1,g,rest,by rw[h1,e];rfl,h2⟩
  ·exact MF ⟨0,x,l,rfl,e⟩
theorem Tgt.slide (w1:1<=W)(BA:ct (aF W H bl) a F)(BB:ct (aF W H bl) b G){s0 d0:Int}(h0:F b=OM (s0,d0))(hC:∀p,OnW F G (val s0 d0) p->¬rk W H bl (p%W) (p/W)){c m:Nat}(SU:c≠m) :
  ∀(j:Nat) {p q:Int}{rest:List Nat},Tgt W H bl F G (val s0 d0) p (c::(N8 j m++rest)) q->∃p',Tgt W H bl F G (val s0 d0) p' (c::rest) q
 |0,p,_,_,h=>⟨p,h⟩
 |j+1,p,q,rest,h=>by
  have h':Tgt W H bl F G (val s0 d0) p (c::m::(N8 j m++rest)) q:=h;rcases h'.two w1 BA BB h0 hC with e|⟨_,h2⟩
  ·exact absurd e.symm SU
  ·obtain⟨r,_,hr,_⟩:=h2.tail w1 BA BB h0;exact Tgt.slide w1 BA BB h0 hC SU j hr
theorem Tgt.within (w1:1<=W)(BA:ct (aF W H bl) a F)(BB:ct (aF W H bl) b G){s0 d0:Int}(h0:F b=OM (s0,d0))(hC:∀p,OnW F G (val s0 d0) p->¬rk W H bl (p%W) (p/W)) :
  ∀{ds:List Nat}{p q:Int},Tgt W H bl F G (val s0 d0) p ds q->∃k,k<8/\∀d∈ds,d=k\/d=(k+1)%8
 |[],_,_,_=>⟨0,by decide,fun _ h=>by cases h⟩
 |[d],p,q,h=>by
  obtain⟨r,e,_⟩:=h.tail w1 BA BB h0;exact⟨d,e.1,fun x hx=>MG (by simpa using hx)⟩
 |d::f::ds,p,q,h=>by
  obtain⟨r,e,hr,_⟩:=h.tail w1 BA BB h0;obtain⟨k,k1,k2⟩:=Tgt.within w1 BA BB h0 hC hr;have hd:=e.1;have hf:=k2 f (by simp);by_cases hdk:d=k\/d=(k+1)%8
  ·exact⟨k,k1,fun x hx=>(Nh.1 hx).elim (fun q=>by rw[q];exact hdk) (fun hx=>k2 x hx)⟩
  ·have adj:f=d\/(f=(d+1)%8\/f=(d+7)%8):=by
    rcases h.two w1 BA BB h0 hC with h1|⟨h1,_⟩
    ·exact MG h1
    ·exact MF h1
   have hfd:f≠d:=fun q=>hdk (q▸hf);rcases tH f (f::ds) with Qe|⟨j,g,rest,hl,hg⟩
   ·rcases adj with h1|h1|h1
    ·exact absurd h1 hfd
    ·exact⟨d,hd,fun x hx=>(Nh.1 hx).elim (fun q=>by rw[q];exact MG rfl) (fun hx=>MF ((Qe x hx).trans h1))⟩
    ·refine⟨f,by omega,fun x hx=>?_⟩;rcases Nh.1 hx with rfl|hx
     ·exact MF (by omega)
     ·exact MG (Qe x hx)
   ·rw[hl]at h;obtain⟨p',h2⟩:=Tgt.slide w1 BA BB h0 hC (fun q=>hfd q.symm) j h;have QD:=k2 g (by rw[hl];simp);have arF:g=d\/(g=(d+1)%8\/g=(d+7)%8):=by
     rcases h2.two w1 BA BB h0 hC with h1|⟨h1,_⟩
     ·exact MG h1
     ·exact MF h1
    exfalso;omega
theorem Pth.count (w1:1<=W){k:Nat}:∀{ds:List Nat}{p q:Int},Pth W H bl p ds q->(∀d∈ds,d=k\/d=(k+1)%8) ->
  ∃m n:Nat,q%W=p%W+m*ah k+n*ah ((k+1)%8)/\q/W=p/W+m*af k+n*af ((k+1)%8)/\cst ds=m*val (stS k) (stD k)+n*val (stS ((k+1)%8)) (stD ((k+1)%8))
 |[],p,q,h,_=>⟨0,0,by rw[<- (show p=q from h)];simp,by rw[<- (show p=q from h)];simp,by show (0:Int)=_;simp⟩
 |d::ds,p,q,⟨r,e,h⟩,hd=>by
  obtain⟨m,n,h1,h2,h3⟩:=Pth.count w1 h (fun x hx=>hd x (MV _ hx));obtain⟨x1,y1⟩:=e.place w1;have hc:cst (d::ds)=val (stS d) (stD d)+cst ds:=rfl;rcases hd d (by simp) with rfl|rfl
  ·refine⟨m+1,n,?_,?_,?_⟩
   ·rw[h1,x1,NW,Nw];omega
   ·rw[h2,y1,NW,Nw];omega
   ·rw[hc,h3,NW,Nw];omega
  ·refine⟨m,n+1,?_,?_,?_⟩
   ·rw[h1,x1,NW,Nw];omega
   ·rw[h2,y1,NW,Nw];omega
   ·rw[hc,h3,NW,Nw];omega
theorem Pth.octile (w1:1<=W){k:Nat}(hk:k<8){ds:List Nat}{p q:Int}(h:Pth W H bl p ds q)(hd:∀d∈ds,d=k\/d=(k+1)%8) :
  cst ds=val (dst (dst (p%W) (q%W)) (dst (p/W) (q/W))) (les (dst (p%W) (q%W)) (dst (p/W) (q/W))):=by
 obtain⟨m,n,h1,h2,h3⟩:=h.count w1 hd;rw[h3,h1,h2];generalize p%W=x;generalize p/W=y;have v0:∀j:Nat,j%2=0->val (stS j) (stD j)=38613965:=fun j hj=>jk hj;have v1:∀j:Nat,j%2=1->val (stS j) (stD j)=54608393:=fun j hj=>nP hj;rcases k8 hk with rfl|rfl|rfl|rfl|rfl|rfl|rfl|rfl<;>simp[sx0,sx1,sx2,sx3,sx4,sx5,sx6,sx7,sy0,sy1,sy2,sy3,sy4,sy5,sy6,sy7,v0,v1]<;>unfold val dst les<;>(repeat' split)<;>omega
theorem Ea (w1:1<=W)(BA:ct (aF W H bl) a F)(BB:ct (aF W H bl) b G){s0 d0:Int}(h0:F b=OM (s0,d0))
  (hn:val s0 d0≠val (dst (dst (a%W) (b%W)) (dst (a/W) (b/W))) (les (dst (a%W) (b%W)) (dst (a/W) (b/W)))) :
  ∃p s d t u,F p=OM (s,d)/\G p=OM (t,u)/\s+t=s0/\d+u=d0/\0<val s d/\0<val t u/\rk W H bl (p%W) (p/W):=by
 apply Classical.byContradiction;intro Qc;have hC:∀p,OnW F G (val s0 d0) p->¬rk W H bl (p%W) (p/W):=by
  rintro p ⟨s,d,t,u,h1,h2,h3,h4,h5⟩ hc;obtain⟨a1,a2,a3⟩:=BA.small h1;obtain⟨b1,b2,b3⟩:=BB.small h2;obtain⟨c1,c2,c3⟩:=BA.small h0;have sa:=cE a1 a2 a3;have sb:=cE b1 b2 b3;have sc:=cE c1 c2 c3;rw[<- cC]at h3;obtain⟨q1,q2⟩:=gL (s+t) (d+u) s0 d0 (by omega) (by omega) h3;exact Qc ⟨p,s,d,t,u,h1,h2,q1,q2,h4,h5,hc⟩
 obtain⟨ds,hp,hc⟩:=(BA.sound h0).path;have hT:Tgt W H bl F G (val s0 d0) a ds b:=⟨hp,0,0,0,0,BA.home,BB.home,by rw[hc];have:val 0 0=0:=(by decide);omega⟩;obtain⟨k,k1,k2⟩:=hT.within w1 BA BB h0 hC;exact hn (by rw[<- hc];exact hp.octile w1 k1 k2)
end
section
def aO (W a b:Int):Int:=dst (dst (a%W) (b%W)) (dst (a/W) (b/W))
def aK (W a b:Int):Int:=les (dst (a%W) (b%W)) (dst (a/W) (b/W))
def tJ (W:Int) (Fl:Int->Int->Option (Int×Int)) (a b:Int):Prop:=Fl a b=OM (aO W a b,aK W a b)
def dC (W H:Int) (bl:Nat->Bool) (c:Int):Prop:=rk W H bl (c%W) (c/W)
def GV (W H:Int) (bl:Nat->Bool) (Fl:Int->Int->Option (Int×Int)) (a b:Int):Prop :=
 tJ W Fl a b/\∀k s d t u,dC W H bl k->k≠a->k≠b->Fl a k=OM (s,d)->Fl b k=OM (t,u)->¬(s+t=aO W a b/\d+u=aK W a b)
def Chn (P:Int->Int->Prop):Int->List Int->Int->Prop
 |a,[],b=>a=b
 |a,c::l,b=>P a c/\Chn P c l b
def kF (W:Int):Int->List Int->Int
 |_,[]=>0
 |a,c::l=>aO W a c+kF W c l
def kG (W:Int):Int->List Int->Int
 |_,[]=>0
 |a,c::l=>aK W a c+kG W c l
theorem Chn.app {P:Int->Int->Prop}{W:Int}:∀{l1 l2:List Int}{a c b:Int},Chn P a l1 c->Chn P c l2 b->Chn P a (l1++l2) b/\kF W a (l1++l2)=kF W a l1+kF W c l2/\kG W a (l1++l2)=kG W a l1+kG W c l2
 |[],l2,a,c,b,h,k=>by
  have e:a=c:=h;subst e;exact⟨k,(Oq _).symm,(Oq _).symm⟩
 |x::l1,l2,a,c,b,⟨h1,h2⟩,k=>by
  obtain⟨g1,g2,g3⟩:=Chn.app (W:=W) h2 k;refine⟨⟨h1,g1⟩,?_,?_⟩
  ·show aO W a x+kF W x (l1++l2)=aO W a x+kF W x l1+kF W c l2;omega
  ·show aK W a x+kG W x (l1++l2)=aK W a x+kG W x l1+kG W c l2;omega
variable {W H : Int} {bl : Nat → Bool} {Fl : Int → Int → Option (Int × Int)}
theorem nQ {E:Int->Nat->Int->Prop}(h:Wk E o a s d)(hv:val s d<=0):a=o:=by
 rcases h.inv with⟨h1,_⟩|⟨a',s',d',k,h1,_,h2,h3⟩
 ·exact h1
 ·obtain⟨n1,n2⟩:=h1.nonneg;have:=(kC k).1;rw[h2,h3,cC]at hv;have:0<=val s' d':=by unfold val;omega
  omega
end
def fl (x y u v:Int) (k:Nat):Prop :=
 dst (dst (x+ah k) u) (dst (y+af k) v)+stS k=dst (dst x u) (dst y v)/\les (dst (x+ah k) u) (dst (y+af k) v)+stD k=les (dst x u) (dst y v)
theorem xN (x u s:Int)(h:s=-1\/s=0\/s=1):(s=0->dst (x+s) u=dst x u)/\dst x u-1<=dst (x+s) u/\(dst (x+s) u=dst x u-1->(s=1/\x<u)\/(s=-1/\u<x)):=by
 unfold dst;rcases h with rfl|rfl|rfl<;>refine⟨fun _=>?_,?_,fun _=>?_⟩<;>(repeat' split at *)<;>omega
theorem GW {X Y P Q:Int}(h1:dst P Q+0=dst X Y)(h2:les P Q+1=les X Y):P+Q=X+Y-2:=by
 unfold dst les at *
 (repeat' split at *)<;>omega
theorem GX {X Y P Q:Int}(h1:dst P Q+1=dst X Y)(h2:les P Q+0=les X Y):P+Q=X+Y-1/\(P=X-1->Y<X)/\(Q=Y-1->X<Y):=by
 unfold dst les at *
 (repeat' split at *)<;>omega
theorem gU (k:Nat)(h:k<8):(ah k=-1\/ah k=0\/ah k=1)/\(af k=-1\/af k=0\/af k=1)/\(k%2=0->(ah k=0/\af k≠0)\/(af k=0/\ah k≠0))/\(k%2=0->stS k=1/\stD k=0)/\(k%2=1->stS k=0/\stD k=1):=by
 rcases k8 h with rfl|rfl|rfl|rfl|rfl|rfl|rfl|rfl<;>decide
theorem kH {v:Int}(hk:k<8)(g:fl x y u v k) :
  (k%2=1->((ah k=1/\x<u)\/(ah k=-1/\u<x))/\((af k=1/\y<v)\/(af k=-1/\v<y))) /\
  (k%2=0->(af k=0/\((ah k=1/\x<u)\/(ah k=-1/\u<x))/\dst y v<dst x u)\/(ah k=0/\((af k=1/\y<v)\/(af k=-1/\v<y))/\dst x u<dst y v)):=by
 obtain⟨g1,g2⟩:=g;obtain⟨u1,u2,u3,u4,u5⟩:=gU k hk;obtain⟨a1,a2,a3⟩:=xN x u (ah k) u1;obtain⟨b1,b2,b3⟩:=xN y v (af k) u2;constructor
 ·intro hp;rw[(u5 hp).1]at g1;rw[(u5 hp).2]at g2;have:=GW g1 g2;exact⟨a3 (by omega),b3 (by omega)⟩
 ·intro hp;rw[(u4 hp).1]at g1;rw[(u4 hp).2]at g2;obtain⟨c1,c2,c3⟩:=GX g1 g2;rcases u3 hp with⟨z,_⟩|⟨z,_⟩
  ·have:=a1 z;exact MF ⟨z,b3 (by omega),c3 (by omega)⟩
  ·have:=b1 z;exact MG ⟨z,a3 (by omega),c2 (by omega)⟩
theorem xO {v:Int}(hk:k<8)(hj:j<8)(hp:k%2=j%2)(g:fl x y u v k)(h:fl x y u v j):k=j:=by
 obtain⟨a1,a2⟩:=kH hk g;obtain⟨b1,b2⟩:=kH hj h;by_cases q:k%2=1
 ·obtain⟨p1,p2⟩:=a1 q;obtain⟨q1,q2⟩:=b1 (by omega);have ex:ah k=ah j:=by omega
  have ey:af k=af j:=by omega
  rcases k8 hk with rfl|rfl|rfl|rfl|rfl|rfl|rfl|rfl<;>rcases k8 hj with rfl|rfl|rfl|rfl|rfl|rfl|rfl|rfl<;>first|rfl|(exfalso;revert ex ey;decide)
 ·have p:=a2 (by omega);have r:=b2 (by omega);have ex:ah k=ah j:=by omega
  have ey:af k=af j:=by omega
  rcases k8 hk with rfl|rfl|rfl|rfl|rfl|rfl|rfl|rfl<;>rcases k8 hj with rfl|rfl|rfl|rfl|rfl|rfl|rfl|rfl<;>first|rfl|(exfalso;revert ex ey;decide)
section
open Go.RowKit
def kI (x y u v:Int) (k:Nat):Bool:=decide (dst (dst (x+ah k) u) (dst (y+af k) v)+stS k=dst (dst x u) (dst y v))&&decide (les (dst (x+ah k) u) (dst (y+af k) v)+stD k=les (dst x u) (dst y v))
theorem gV {v:Int}:kI x y u v k=Pm↔fl x y u v k:=by
 unfold kI fl;rw[MW,decide_eq_true_eq,decide_eq_true_eq]
theorem GY (k:Nat)(h:k<8):dst (dst 0 (ah k)) (dst 0 (af k))=stS k/\les (dst 0 (ah k)) (dst 0 (af k))=stD k:=by
 rcases k8 h with rfl|rfl|rfl|rfl|rfl|rfl|rfl|rfl<;>decide
theorem Ak {v dx dy s1 d1 s2 d2 s3 d3:Int}(w:PG)
  (x1:-100<=x) (x2:x<=100) (y1:-100<=y) (y2:y<=100) (e1:-1<=dx) (e2:dx<=1) (e3:-1<=dy) (e4:dy<=1)
  (hs:PK prog 151 #[PE PF k] w fun e w'=>e=PM (.tuple #[PE PF dx,PE PF dy])/\∃m,w'=w.drewN m)
  (ho1:∀w,PK prog 86 #[PE PF 0,PE PF 0,PE PF dx,PE PF dy] w fun e w'=>e=PM (.agg #[PE PF s1,PE PF d1])/\PI w.heap.size w w')
  (ho2:∀w,PK prog 86 #[PE PF (x+dx),PE PF (y+dy),PE PF u,PE PF v] w fun e w'=>e=PM (.agg #[PE PF s2,PE PF d2])/\PI w.heap.size w w')
  (Xi:∀w,PK prog 86 #[PE PF x,PE PF y,PE PF u,PE PF v] w fun e w'=>e=PM (.agg #[PE PF s3,PE PF d3])/\PI w.heap.size w w')
  (ha:∀w,PK prog 177 #[.agg #[PE PF s1,PE PF d1],.agg #[PE PF s2,PE PF d2]] w fun e w'=>e=PM (.agg #[PE PF (s1+s2),PE PF (d1+d2)])/\PI w.heap.size w w')
  (hr:(decide (s1+s2=s3)&&decide (d1+d2=d3))=r) :
  PK prog 167 #[PE PF x,PE PF y,PE PF k,PE PF u,PE PF v] w fun e w'=>e=PM (.bool r)/\PI w.heap.size w w':=by
 go_enter func167,ntmps167;go_wp2_with (go_at_call 151;refine hs.mono ?_;rintro e w' ⟨rfl,m,rfl⟩);refine(ho1 _).mono ?_;rintro e w1 ⟨rfl,hb1⟩;have B1:PI w.heap.size w w1:=(below_drewN al m).trans hb1;clear hb1 ho1 hs;go_wp2_with fail;refine(ho2 _).mono ?_;rintro e w2 ⟨rfl,hb2⟩;have B2:PI w.heap.size w w2:=ak B1 hb2;clear hb2 ho2 B1;go_wp2_with fail;refine(ha _).mono ?_;rintro e w3 ⟨rfl,hb3⟩;have B2':PI w.heap.size w ((w2.alloc (PN #[PE PF s1,PE PF d1] 53)).alloc (PN #[PE PF s2,PE PF d2] 53)):=(B2.alloc B2.size _).alloc (by have:=B2.size;simp;omega) _;have B3:PI w.heap.size w w3:=B2'.trans (hb3.mono B2'.size);clear hb3 ha B2 B2';go_wp2_with fail;refine(Xi _).mono ?_;rintro e w4 ⟨rfl,QB⟩;have B4:PI w.heap.size w w4:=ak B3 QB;clear QB Xi B3;by_cases q1:s1+s2=s3
 ·by_cases q2:d1+d2=d3
  ·rw[decide_eq_true q1,decide_eq_true q2]at hr;subst hr q1 q2;go_wp2;go_ret;exact⟨rfl,B4⟩
  ·rw[decide_eq_true q1,decide_eq_false q2]at hr;subst hr q1;go_wp2;go_ret;exact⟨rfl,B4⟩
 ·rw[decide_eq_false q1]at hr;subst hr;go_wp2;go_ret;exact⟨rfl,B4⟩
theorem bG (h:-100<=a)(k:a<=100):eK a:=by unfold eK;omega
theorem Jv {v:Int}(x1:-100<=x)(x2:x<=100)(y1:-100<=y)(y2:y<=100)(u1:-100<=u)(u2:u<=100)(v1:-100<=v)(v2:v<=100):okC (dst (dst x u) (dst y v)) (les (dst x u) (dst y v)):=by
 unfold okC;have a:0<=dst x u/\dst x u<=200:=by unfold dst;split<;>omega
 have b:0<=dst y v/\dst y v<=200:=by unfold dst;split<;>omega
 generalize dst x u=X at *;generalize dst y v=Y at *;unfold dst les;split<;>omega
theorem Lc (k:Nat):okC (stS k) (stD k):=by
 have:=iz k;unfold okC;omega
theorem kJ {v:Int}(hr:kI x y u v k=r)(w:PG)(s:az w)(hk:k<8)(x1:0<=x)(x2:x<=50)(y1:0<=y)(y2:y<=50)(u1:0<=u)(u2:u<=50)(v1:0<=v)(v2:v<=50) :
  PK prog 167 #[PE PF x,PE PF y,PE PF k,PE PF u,PE PF v] w fun e w'=>e=PM (.bool r)/\PI w.heap.size w w':=by
 obtain⟨e1,e2,e3,e4⟩:=fW k;obtain⟨o1,o2⟩:=GY k hk;have n1:=bG (show -100<=ah k by omega) (by omega);have n2:=bG (show -100<=af k by omega) (by omega);have n0:=bG (show -100<=(0:Int) by omega) (by omega);have nx:=bG (show -100<=x by omega) (by omega);have ny:=bG (show -100<=y by omega) (by omega);have nu:=bG (show -100<=u by omega) (by omega);have nv:=bG (show -100<=v by omega) (by omega);have nx':=bG (show -100<=x+ah k by omega) (by omega);have ny':=bG (show -100<=y+af k by omega) (by omega);refine Ak (s1:=stS k) (d1:=stD k) w (by omega) (by omega) (by omega) (by omega) e1 e2 e3 e4 (gy k w s hk) (fun w=>?_) (fun w=>kY _ _ _ _ w nx' ny' nu nv) (fun w=>kY _ _ _ _ w nx ny nu nv) (fun w=>jF _ _ _ _ w (Lc k) (Jv (by omega) (by omega) (by omega) (by omega) (by omega) (by omega) (by omega) (by omega))) ?_
 ·have:=kY 0 0 (ah k) (af k) w n0 n0 n1 n2;rw[o1,o2]at this;exact this
 ·rw[<- hr];unfold kI;rw[NI (stS k),NI (stD k)]
end
section
open Go.RowKit
theorem ai.two {F:Nat->Prop}(h:ai F w w')(n:Nat)(hn:n+1+1<=w.heap.size)(hF:∀k,n<=k->¬F k) :
  (∀o,w'.cell? ⟨n,o,Pk⟩=w.cell? ⟨n,o,Pk⟩)/\(∀o,w'.cell? ⟨n+1,o,Pk⟩=w.cell? ⟨n+1,o,Pk⟩) :=
 ⟨fun o=>h.cell (p:=⟨n,o,Pk⟩) (by show n<_;omega) (hF n (by omega)),fun o=>h.cell (p:=⟨n+1,o,Pk⟩) (by show n+1<_;omega) (hF (n+1) (by omega))⟩
theorem aq {e:TypeId}(h:w.ownsRow base e k v n xs)(hb:PI w.heap.size w w'):w'.ownsRow base e k v n xs:=by
 refine⟨h.1,?_⟩;rcases h.2 with h2|⟨g,cap,cur,hv,PX,hg,h3⟩
 ·exact MG h2
 ·exact MF ⟨g,cap,cur,hv,PX,(hb.block g (Na.1 hg).1).trans hg,h3⟩
structure bz (w:PG) (B:Nat) (s d:Int):Prop where
 c0:w.cell? ⟨B,0,Pk⟩=OM (PE PF s)
 c1:w.cell? ⟨B,1,Pk⟩=OM (PE PF d)
 z0:w.frozen? ⟨B,0,Pk⟩=PB
 z1:w.frozen? ⟨B,1,Pk⟩=PB
theorem bz.keep {F:Nat->Prop}(h:bz w B s d)(K:ai F w w')(hn:¬F B):bz w' B s d:=by
 have hB:=MK w _ h.c0;exact⟨K.cellOf h.c0 hn,K.cellOf h.c1 hn,(K.frozen (p:=⟨B,0,Pk⟩) hB hn).trans h.z0,(K.frozen (p:=⟨B,1,Pk⟩) hB hn).trans h.z1⟩
theorem bz.below (h:bz w B s d)(hb:PI w.heap.size w w'):bz w' B s d:=h.keep (F:=fun _=>False) (ai.of_below hb) id
theorem bz.new (w:PG)(s d:Int):bz (w.alloc (PN #[PE PF s,PE PF d] 53)) w.heap.size s d :=
 ⟨ME #[PE PF s,PE PF d] 53 w.heap.size 0 rfl,ME #[PE PF s,PE PF d] 53 w.heap.size 1 rfl,bE w #[PE PF s,PE PF d] 53 w.heap.size aj 0,bE w #[PE PF s,PE PF d] 53 w.heap.size aj 1⟩
theorem kK (w:PG)(B:Nat)(s d:Int){x y:PH}(h0:w.cell? ⟨B,0,Pk⟩=OM x)(h1:w.cell? ⟨B,1,Pk⟩=OM y) :
  ((w.setCell ⟨B,0,Pk⟩ (PE PF s)).setCell ⟨B,1,Pk⟩ (PE PF d)).cell? ⟨B,0,Pk⟩=OM (PE PF s)/\((w.setCell ⟨B,0,Pk⟩ (PE PF s)).setCell ⟨B,1,Pk⟩ (PE PF d)).cell? ⟨B,1,Pk⟩=OM (PE PF d):=by
 constructor
 ·rw[MH _ _ _ _ (by intro e;cases e)];exact MO _ _ _ h0
 ·refine MO _ _ _ (u:=y) ?_;rw[MH _ _ _ _ (by intro e;cases e)];exact h1
theorem bz.set (S:bz w B x y)(s d:Int):bz ((w.setCell ⟨B,0,Pk⟩ (PE PF s)).setCell ⟨B,1,Pk⟩ (PE PF d)) B s d:=by
 have r:=kK w B s d S.c0 S.c1;exact⟨r.1,r.2,by simpa using S.z0,by simpa using S.z1⟩
theorem eF (w:PG)(B:Nat)(s d:Int):ai (fun k=>k=B) w ((w.setCell ⟨B,0,Pk⟩ (PE PF s)).setCell ⟨B,1,Pk⟩ (PE PF d)) :=
 ((ai.refl (fun k=>k=B) w).setCell (p:=⟨B,0,Pk⟩) (fun _=>rfl) _).setCell (p:=⟨B,1,Pk⟩) (fun _=>rfl) _
theorem aA (h:w.mapTurned w' b):ai (fun k=>k=b) w w' :=
 (ai.refl _ w).grown h.grown (fun k hk _=>by cases hk;rfl)
theorem aw.keep (g:aw w b W H V bl)(K:ai D w w')(h:¬D b):aw w' b W H V bl:=by
 have hb:b<w.heap.size:=MK w _ g.c0;exact⟨g.w1,g.w2,g.h1,g.h2,(K.cell (p:=⟨b,0,Pk⟩) hb h).trans g.c0,(K.cell (p:=⟨b,1,Pk⟩) hb h).trans g.c1,(K.cell (p:=⟨b,2,Pk⟩) hb h).trans g.c2,fun i hi=>(K.cell (p:=⟨b,3+i,Pk⟩) hb h).trans (g.cs i hi)⟩
theorem az.pos (s:az w):1<w.heap.size:=MK w _ (s 0 (by decide)).1
theorem az.keep (s:az w)(K:ai D w w')(h:¬D 1):az w' :=
 fun i hi=>⟨(K.cell (p:=⟨1,2*i,Pk⟩) s.pos h).trans (s i hi).1,(K.cell (p:=⟨1,2*i+1,Pk⟩) s.pos h).trans (s i hi).2⟩
def fv (F:Int->Option (Int×Int)):Int->Option Value:=fun a=>(F a).map fun c=>.agg #[PE PF c.1,PE PF c.2]
theorem gP (h:F a=OM (s,d)):fv F a=OM (.agg #[PE PF s,PE PF d]):=by unfold fv;rw[h];rfl
theorem jR (h:F a=Pk):fv F a=none:=by unfold fv;rw[h];rfl
theorem uR (F:Int->Option (Int×Int))(a s d:Int):bL (fv F) a (.agg #[PE PF s,PE PF d])=fv (aB F a s d):=by
 funext i
 unfold bL fv aB;by_cases h:i=a
 ·rw[if_pos h,if_pos h];rfl
 ·rw[if_neg h,if_neg h]
theorem nT (l:List Nat)(x i:Nat):(l++[x]).getD i 0=if i<l.length then l.getD i 0 else if i=l.length then x else 0:=by
 simp only[List.getD_eq_getElem?_getD];by_cases h:i<l.length
 ·rw[if_pos h,Nd h]
 ·rw[if_neg h,Ni (by omega)];by_cases e:i=l.length
  ·subst e;simp
  ·rw[if_neg e,List.getElem?_eq_none (by simp;omega)];rfl
theorem iO (h:w.ownsRow base 3 1 (.slice (OM ⟨g,0,Pk⟩) l.length cap) l.length (aH l))(i:Nat)(hi:i<l.length):w.cell? ⟨g,i,Pk⟩=OM (PE PF ((l.getD i 0:Nat):Int)):=by
 rw[h.cellAt i (by omega),bo _ _ hi];unfold aH;rw[NF,MJ hi];rfl
end
section
open Go.RowKit
theorem aY:prog.underlying 3=OM (.int .i64):=underlying3
def nU (S:Int->Bool):Int->Option Value:=fun i=>if S i then OM (.agg #[]) else Pk
theorem jl {i:Int}(h:S i=Pm):nU S i=OM (.agg #[]):=if_pos h
theorem jo {i:Int}(h:S i=PB):nU S i=none:=by unfold nU;rw[h];rfl
theorem dO (S:Int->Bool)(i:Int):(nU S i).isSome=S i:=by
 unfold nU;cases S i<;>rfl
theorem jq {i:Int}(h:nU S i=OM v):S i=Pm/\v=.agg #[]:=by
 unfold nU at h;cases hs:S i with
 |false=>rw[hs]at h;cases h
 |true=>rw[hs]at h;cases h;exact⟨rfl,rfl⟩
def dK (S:Int->Bool) (a:Int):Int->Bool:=fun i=>decide (i=a) || S i
theorem cF (S:Int->Bool)(a i:Int):dK S a i=Pm↔i=a\/S i=true:=by unfold dK;rw[Bool.or_eq_true,decide_eq_true_eq]
theorem GZ (S:Int->Bool)(a:Int):bL (nU S) a (.agg #[])=nU (dK S a):=by
 funext i
 unfold bL nU dK;by_cases e:i=a
 ·rw[if_pos e,decide_eq_true e];rfl
 ·rw[if_neg e,decide_eq_false e];rfl
theorem jr (h:S a=Pm):dK S a=S:=by
 funext i
 unfold dK;by_cases e:i=a
 ·rw[decide_eq_true e,e,h];rfl
 ·rw[decide_eq_false e];rfl
def cu (S:Int->Bool):Nat->Nat
 |0=>0
 |N+1=>cu S N+if S N then 1 else 0
theorem lF (S:Int->Bool)(N:Nat):cu S N<=N:=by
 induction N with
 |zero=>exact aj
 |succ N ih=>unfold cu;split<;>omega
theorem Eb (S:Int->Bool)(a:Int)(N:Nat)(h:(N:Int)<=a):cu (dK S a) N=cu S N:=by
 induction N with
 |zero=>rfl
 |succ N ih =>
  unfold cu;rw[ih (by omega)];have:dK S a N=S N:=by unfold dK;rw[decide_eq_false (by omega)];rfl
  rw[this]
theorem iC (S:Int->Bool)(a:Int)(N:Nat)(h0:0<=a)(h:a<N)(hn:S a=PB):cu (dK S a) N=cu S N+1:=by
 induction N with
 |zero=>omega
 |succ N ih =>
  unfold cu;by_cases e:a=N
  ·rw[Eb S a N (by omega)];have:dK S a N=true:=(cF _ _ _).2 (MG e.symm);rw[this,<- e,hn];simp
  ·rw[ih (by omega)];have:dK S a N=S N:=(by unfold dK;rw[decide_eq_false (fun q=>e q.symm)];rfl);rw[this];omega
theorem G8 {N:Nat}:0<cu S N↔∃i:Int,0<=i/\i<N/\S i=true:=by
 induction N with
 |zero=>exact⟨fun h=>absurd h (NJ _),fun ⟨i,h1,h2,_⟩=>by omega⟩
 |succ N ih =>
  unfold cu;cases hs:S N with
  |true=>exact⟨fun _=>⟨N,by omega,by omega,hs⟩,fun _=>by simp⟩
  |false =>
   simp only[Bool.false_eq_true,if_false,Nat.add_zero];rw[ih];constructor
   ·rintro⟨i,h1,h2,h3⟩;exact⟨i,h1,by omega,h3⟩
   ·rintro⟨i,h1,h2,h3⟩;refine⟨i,h1,?_,h3⟩;by_cases e:i=N
    ·rw[e,hs]at h3;cases h3
    ·omega
theorem lG (N:Nat):cu (fun _=>PB) N=0:=by
 induction N with
 |zero=>rfl
 |succ N ih=>unfold cu;rw[ih];rfl
structure aX (w:PG) (b:Nat) (S:Int->Bool):Prop where
 mp:aZ prog 3 w b (nU S) (cu S 256)
 bd:∀i,S i=Pm->0<=i/\i<256
theorem aX.lt (h:aX w b S):b<w.heap.size:=h.mp.lt
theorem aX.below (h:aX w b S)(hb:PI w.heap.size w w'):aX w' b S:=⟨h.mp.kept (hb.block b h.lt),h.bd⟩
theorem aX.kept (h:aX w b S)(hb:w'.heap[b]? = w.heap[b]?):aX w' b S:=⟨h.mp.kept hb,h.bd⟩
theorem aX.grown {row:Option Nat}(h:aX w b S)(hg:w.grownBy w' row)(hn:OM b≠row):aX w' b S:=h.kept (hg.block b h.lt hn)
theorem aX.made (w:PG):aX (w.alloc (.map #[] 0)) w.heap.size (fun _=>PB) :=
 ⟨by rw[lG];exact aZ.made w prog 3,fun i h=>by cases h⟩
theorem aX.put (h:aX w b S)(h0:0<=a)(h1:a<256)(hm:aZ prog 3 w' b (bL (nU S) a (.agg #[])) (if (nU S a).isSome then cu S 256 else cu S 256+1)):aX w' b (dK S a):=by
 refine⟨?_,fun i hi=>?_⟩
 ·rw[GZ,dO]at hm;cases hs:S a with
  |true=>rw[hs,jr hs]at hm;rw[jr hs];exact hm
  |false=>rw[hs]at hm;rw[iC S a 256 h0 h1 hs];exact hm
 ·rcases (cF _ _ _).1 hi with rfl|hi
  ·exact⟨h0,h1⟩
  ·exact h.bd i hi
theorem aX.room (_h:aX w b S):cu S 256<maxLen:=by
 have:=lF S 256;unfold maxLen;omega
theorem aX.ne_nil (h:aX w b S):0<cu S 256↔∃i,S i=true:=by
 rw[G8];exact⟨fun ⟨i,_,_,h3⟩=>⟨i,h3⟩,fun ⟨i,hi⟩=>⟨i,(h.bd i hi).1,(h.bd i hi).2,hi⟩⟩
theorem aC (h0:0<=a)(h1:a<256):(Lit.int .i64 a).wf=true:=WalkArith.wf_i64 (by omega)
theorem Tryz.underS:Tryz.prog.underlying 164=OM (.map 3 217):=by kernel_rfl
theorem pH (w:PG):(zeroValue 217).run prog w=.ok (.agg #[]) w:=by kernel_rfl
abbrev xP (w:PG) (b r:Nat) (S left:Int->Bool) (cnt:Nat):Prop:=fQ prog 3 w b r (nU S) (cu S 256) left cnt
theorem fQ.below {P:Program}{k:TypeId}{r cnt:Nat}{left:Int->Bool}(h:fQ P k w b r f n left cnt)(hb:PI w.heap.size w w'):fQ P k w' b r f n left cnt :=
 h.kept (hb.block b h.map.lt) (hb.block r h.lt)
theorem fQ.grown {P:Program}{k:TypeId}{r cnt:Nat}{left:Int->Bool}{row:Option Nat}(h:fQ P k w b r f n left cnt)(hg:w.grownBy w' row)(h1:OM b≠row)(h2:OM r≠row):fQ P k w' b r f n left cnt :=
 h.kept (hg.block b h.map.lt h1) (hg.block r h.lt h2)
section
variable {P : Program} {w : PG} {ops : Array Oper} {rest : List Oper} {o : Oper} {a : Act} {Q : Exit → Act → PG → Prop}
theorem rq (hg:o.guard=Pk)(m x v:Operand)(t:TypeId)(U2:o.op=Op.insert t m x v)(k e:TypeId)(hk:P.underlying k=OM (.int .i64))(ht:P.underlying t=OM (.map k e))(b n:Nat)(f:Int->Option PH)
  (hm:a.eval m=.map (OM b)) (h:aZ P k w b f n) (hn:n<maxLen) (i:Int) (val:PH) (hx:a.eval x=.int .i64 i) (hv:a.eval v=val) (hi:(Lit.int .i64 i).wf=Pm)
  (hK:∀w',aZ P k w' b (bL f i val) (if (f i).isSome then n else n+1)->w.mapTurned w' b->wpList P ops Q rest (a.put o.dst undef) w') :
  wpList P ops Q (o::rest) a w:=by
 refine wpList_plain hg fun K' hK'=>?_;obtain⟨w',Qs,r1,r2⟩:=h.store hk ht hn hi val;unfold Oper.wp;simp[execOp,U2,hm,hx,hv,Qs,Result.andThen];exact hK' _ _ (hK w' r1 r2)
end
end
section
open Go.RowKit
theorem Ec (k:Nat)(hk:k<8)(w:PG):PK prog 254 #[PE PF k] w fun e w'=>e=PM (PE PF ((opp k:Nat):Int))/\w'=w:=by
 rcases k8 hk with rfl|rfl|rfl|rfl|rfl|rfl|rfl|rfl<;>(go_enter func254,ntmps254;go_wp2;go_ret;exact⟨rfl,rfl⟩)
def xQ (W H:Int) (bl:Nat->Bool) (c t:Int) (k:Nat):Bool:=bC W H bl (c%W) (c/W) k&&kI (c%W+ah k) (c/W+af k) (t%W) (t/W) (opp k)
def tgt (W c:Int) (k:Nat):Nat:=(c+(af k*W+ah k)).toNat
def iD (W H:Int) (bl:Nat->Bool) (c t:Int) (n:Nat):List Nat:=((NX n).filter fun i=>xQ W H bl c t i).map fun i=>tgt W c i
theorem Ee (W H:Int)(bl:Nat->Bool)(c t:Int)(n:Nat):iD W H bl c t (n+1)=iD W H bl c t n++(if xQ W H bl c t n then [tgt W c n] else []):=by
 unfold iD;rw[List.range_succ,List.filter_append,List.map_append];cases h:xQ W H bl c t n<;>simp[h]
theorem xR (W H:Int)(bl:Nat->Bool)(c t:Int)(n:Nat):(iD W H bl c t n).length<=n:=by
 unfold iD;rw[NP];have:=List.length_filter_le (fun i=>xQ W H bl c t i) (NX n)
 simpa using this
theorem kL (w1:1<=W)(h:bC W H bl (c%W) (c/W) k=Pm):(tgt W c k:Int)=c+(af k*W+ah k):=by
 unfold tgt;obtain⟨_,o2,_,_⟩:=ft h;obtain⟨a1,a2,a3,a4⟩:=jM o2;have e:c+(af k*W+ah k)=(c/W+af k)*W+(c%W+ah k):=by
  have:=fe W c;rw[Nw];omega
 have:=Int.mul_nonneg a3 (show 0<=W by omega);omega
def Og (W H:Int) (bl:Nat->Bool) (t c:Int) (k:Nat) (r:Int):Prop:=aF W H bl c k r/\fl (r%W) (r/W) (t%W) (t/W) (opp k)
theorem xS {H:Int}{z:Nat}(w1:1<=W)(hc:inB W H c=Pm):z∈iD W H bl c t 8↔∃k,Og W H bl t c k z:=by
 unfold iD;rw[NH];constructor
 ·rintro⟨i,hi,rfl⟩;rw[Ns,NR]at hi;have h:=hi.2;unfold xQ at h;rw[MW]at h;have e:aF W H bl c i (tgt W c i:Int):=⟨hi.1,hc,h.1,kL w1 h.1⟩;obtain⟨p1,p2⟩:=e.place w1;exact⟨i,e,by rw[p1,p2];exact gV.1 h.2⟩
 ·rintro⟨k,e,hg⟩;obtain⟨p1,p2⟩:=e.place w1;rw[p1,p2]at hg;obtain⟨h1,_,h3,h4⟩:=e;refine⟨k,Ns.2 ⟨NR.2 h1,?_⟩,?_⟩
  ·unfold xQ;rw[MW];exact⟨h3,gV.2 hg⟩
  ·have:=kL (H:=H) w1 h3;omega
theorem ru {z:Int}(w1:1<=W)(hc:inB W H c=Pm)(hl:iD W H bl c t 8=l) :
  (∃i,i<l.length/\z=((l.getD i 0:Nat):Int))↔∃k,Og W H bl t c k z:=by
 constructor
 ·rintro⟨i,hi,rfl⟩;have hm:l.getD i 0∈l:=by rw[bo _ _ hi];exact List.getElem_mem hi
  generalize l.getD i 0=n at *;rw[<- hl]at hm;exact(xS w1 hc).1 hm
 ·rintro⟨k,e,hg⟩;have hz:0<=z/\z<W*H:=of_decide_eq_true (e.in' w1);have hm:z.toNat∈iD W H bl c t 8:=(xS w1 hc).2 ⟨k,by rw[Int.toNat_of_nonneg hz.1];exact⟨e,hg⟩⟩;rw[hl]at hm;obtain⟨i,hi,h⟩:=List.getElem_of_mem hm;refine⟨i,hi,?_⟩;rw[bo _ _ hi,h];omega
theorem G9 {b:Nat}{H V v:Int}{bl:Nat->Bool}(w:PG)(g:aw w b W H V bl)(s:az w)(hb:b<w.heap.size)
  (hx:c%W=x) (hy:c/W=y) (hu:t%W=u) (hv:t/W=v)
  (hP:∀w,aw w b W H V bl->PK prog 84 #[.pointer (OM ⟨b,0,Pk⟩),PE PF c] w fun e w'=>e=PM (.tuple #[PE PF x,PE PF y,.nilIface])/\∃m,w'=w.drewN m)
  (hQ:∀w,aw w b W H V bl->PK prog 84 #[.pointer (OM ⟨b,0,Pk⟩),PE PF t] w fun e w'=>e=PM (.tuple #[PE PF u,PE PF v,.nilIface])/\∃m,w'=w.drewN m)
  (x1:0<=x) (x2:x<=50) (y1:0<=y) (y2:y<=50) (u1:0<=u) (u2:u<=50) (v1:0<=v) (v2:v<=50) (c1:0<=c) (c2:c<=300) :
  PK prog 233 #[.pointer (OM ⟨b,0,Pk⟩),PE PF c,PE PF t] w fun e w'=>∃v,e=PM v /\
   w'.ownsRow w.heap.size 3 1 v (iD W H bl c t 8).length (aH (iD W H bl c t 8))/\PI w.heap.size w w':=by
 obtain⟨i0,hi,P0,P3,Qd⟩:=info_parts Tryz.info3;go_enter func233,ntmps233;go_wp2_with fail;refine(hP _ g).mono ?_;rintro e w1 ⟨rfl,m1,rfl⟩;go_wp2_with fail;refine(hQ _ (g.drewN _)).mono ?_;rintro e w2 ⟨rfl,m2,rfl⟩;clear hP hQ;go_wp2;go_loopw [13,31] (fun v i wr=>∃k:Nat,k<=8/\i=PE PF k/\wr.ownsRow w.heap.size 3 1 v (iD W H bl c t k).length (aH (iD W H bl c t k))/\PI w.heap.size w wr)
  (fun _ i _=>8-(intOf i).toNat)
 case atStart=>exact⟨0,MQ _,rfl,Nj _ _ _ _,below_drewN al _⟩
 case round =>
  obtain⟨k,hk,rfl,hown,Qu⟩:=hrel;have hl:=xR W H bl c t k;have gr:=g.below Qu hb;have sr:=s.below Qu (by omega);have QC:=Qu.size;by_cases PO:k<8
  ·have Q3:=Ee W H bl c t k;have QK:xQ W H bl c t k=(bC W H bl x y k&&kI (x+ah k) (y+af k) u v (opp k)):=(by unfold xQ;rw[hx,hy,hu,hv]);obtain⟨s1,s2,s3,s4⟩:=fW k;have Qq:=fun w h=>gy k w h PO;have htg:c+(af k*W+ah k)=(tgt W c k:Int)\/bC W H bl x y k=false:=by
    cases hM:bC W H bl x y k with
    |false=>exact MF rfl
    |true =>
     left;rw[<- hx,<- hy]at hM;exact(kL g.w1 hM).symm
   have Ri:=fun (z:Int) (htz:c+(af k*W+ah k)=z) w g s=>Mb (b:=b) (H:=H) (V:=V) (bl:=bl) htz w g s PO (by omega) (by omega);have Ry:bC W H bl x y k=Pm->(0<=x+ah k/\x+ah k<=50)/\(0<=y+af k/\y+af k<=50):=fun hM=>by
    obtain⟨_,o2,_,_⟩:=ft hM;obtain⟨a1,a2,a3,a4⟩:=jM o2;have:=g.w2;have:=g.h2;omega
   have U2:=uM k;have hit:=fun (r:Bool) (hr:kI (x+ah k) (y+af k) u v (opp k)=r) w s p1 p2 p3 p4=>kJ hr w s U2 p1 p2 p3 p4 u1 u2 v1 v2;have Q7:=Ec k PO;have Sc:=fun (r:Bool) (hM:bC W H bl x y k=r) w g s=>tB (b:=b) (V:=V) hM w g s PO (by omega) (by omega) (by omega) (by omega);have hrw:=fun (hM:bC W H bl x y k=Pm)=>Ri (tgt W c k:Int) (htg.resolve_right (by rw[hM];decide));generalize ah k=dx at *;generalize af k=dy at *;generalize opp k=ok at *;generalize tgt W c k=z at *;clear hx hy hu hv Ri htg;cases hM:bC W H bl x y k with
   |false =>
    have HS:Hid (iD W H bl c t (k+1)=iD W H bl c t k):=(by rw[Q3,QK,hM];simp[Hid]);have Sc:=Sc PB hM;clear Q3 QK hrw hit Ry;go_wp2_with fail;refine(Qq _ sr).mono ?_;rintro e w3 ⟨rfl,m3,rfl⟩;clear Qq;go_wp2_with fail;refine(Sc _ (gr.drewN _) (sr.drewN _)).mono ?_;rintro e w4 ⟨rfl,m4,rfl⟩;clear Sc;go_wp2;go_roundw
    case rel=>exact⟨k+1,by omega,by go_num,by rw[HS.out];exact hown,below_drewN Qu _⟩
    case measure=>simp[intOf];omega
   |true =>
    obtain⟨⟨p1,p2⟩,p3,p4⟩:=Ry hM;have Ri:=hrw hM;have Sc:=Sc Pm hM;cases hG:kI (x+dx) (y+dy) u v ok with
    |false =>
     have HS:Hid (iD W H bl c t (k+1)=iD W H bl c t k):=(by rw[Q3,QK,hM,hG];simp[Hid]);have hit:=fun w s=>hit PB hG w s p1 p2 p3 p4;clear Q3 QK Ri Ry hrw hG hM;go_wp2_with fail;refine(Qq _ sr).mono ?_;rintro e w3 ⟨rfl,m3,rfl⟩;clear Qq;go_wp2_with fail;refine(Sc _ (gr.drewN _) (sr.drewN _)).mono ?_;rintro e w4 ⟨rfl,m4,rfl⟩;clear Sc;go_wp2_with fail;refine(Q7 _).mono ?_;rintro e w5 ⟨rfl,rfl⟩;clear Q7;go_wp2_with fail;refine(hit _ (sr.drewN _)).mono ?_;rintro e w6 ⟨rfl,Qr⟩;have Ra:PI wr.heap.size wr w6:=(below_drewN al (m3+m4)).trans Qr;clear hit;go_wp2;go_roundw
     case rel=>exact⟨k+1,by omega,by go_num,by rw[HS.out];exact aq hown Ra,Qu.trans (Ra.mono QC)⟩
     case measure=>simp[intOf];omega
    |true =>
     have HS:Hid (iD W H bl c t (k+1)=iD W H bl c t k++[z]):=(by rw[Q3,QK,hM,hG];simp[Hid]);have hit:=fun w s=>hit Pm hG w s p1 p2 p3 p4;clear Q3 QK Ry hrw hG hM;go_wp2_with fail;refine(Qq _ sr).mono ?_;rintro e w3 ⟨rfl,m3,rfl⟩;clear Qq;go_wp2_with fail;refine(Sc _ (gr.drewN _) (sr.drewN _)).mono ?_;rintro e w4 ⟨rfl,m4,rfl⟩;clear Sc;go_wp2_with fail;refine(Q7 _).mono ?_;rintro e w5 ⟨rfl,rfl⟩;clear Q7;go_wp2_with fail;refine(hit _ (sr.drewN _)).mono ?_;rintro e w6 ⟨rfl,Qr⟩;have Ra:PI wr.heap.size wr w6:=(below_drewN al (m3+m4)).trans Qr;clear hit;have g4:=gr.below Ra (by omega);have s4:=sr.below Ra (by omega);have o4:=aq hown Ra;have n4:=Qu.trans (Ra.mono QC);clear Qr Ra hown Qu gr sr;go_wp2_with fail;refine(Ri _ g4 s4).mono ?_;rintro e w7 ⟨rfl,m5,rfl⟩;clear Ri g4 s4;have hz4:=n4.size;go_wp2_with (at_builtin;refine wpList_append_own _ rfl _ _ 51 rfl w.heap.size 3 i0 (PE PF 0) 1 8 underlying51 hi P0 P3 Qd rfl (by decide) _ _ _ rfl (World.ownsRow.alloc (show (w6.drewN m5).ownsRow w.heap.size 3 1 _ _ _ from o4) _) ⟨w6.heap.size,0,Pk⟩ 1 1 [PE PF z] rfl rfl ?c1 ?c2 ?c3 ?c4 ?c5 ?_)
     case c1 =>
      intro j u hj
      match j,hj with
      |0,hj =>
       simp at hj;subst hj;simp only[Addr.add];exact ME (w:=w6.drewN m5) #[PE PF z] 3 w6.heap.size 0 rfl
     case c2=>intro u hu;simp at hu;subst hu;rfl
     case c3=>unfold maxLen;omega
     case c4=>omega
     case c5=>simp;omega
     intro v' w8 PS PR _;have PX:=fun q hq=>(o4.lt q hq).1;have B1:PI w.heap.size w w8:=((below_drewN n4 m5).alloc hz4 _).grown PR (by simp;omega) PX;have O1:w8.ownsRow w.heap.size 3 1 v' (iD W H bl c t (k+1)).length (aH (iD W H bl c t (k+1))):=by
      rw[HS.out]
      simpa [aH]using PS
     clear PS PR o4 n4;go_wp2;go_roundw
     case rel=>exact⟨k+1,by omega,by go_num,O1,B1⟩
     case measure=>simp[intOf];omega
  ·have:k=8:=(by omega);subst this;go_wp2;go_ret;exact⟨_,rfl,hown,Qu⟩
theorem Ef (hl:iD W H bl c t 8=l)(w:PG)(g:aw w b W H V bl)(s:az w)(hb:b<w.heap.size)(hc:inB W H c=Pm)(ht:inB W H t=Pm) :
  PK prog 233 #[.pointer (OM ⟨b,0,Pk⟩),PE PF c,PE PF t] w fun e w'=>∃A cap,e=PM (.slice A l.length cap)/\bu w' A l.length (fun i=>(l.getD i 0:Nat))/\PI w.heap.size w w':=by
 obtain⟨x1,x2,y1,y2⟩:=dA g.w1 hc;obtain⟨u1,u2,v1,v2⟩:=dA g.w1 ht;have gw:=g.w2;have gh:=g.h2;have hq:0<=c/\c<W*H:=of_decide_eq_true hc;have hk:=bP g.w1 g.w2 g.h1 g.h2;refine(G9 w g s hb rfl rfl rfl rfl (fun w g=>dZ c w g hc) (fun w g=>dZ t w g ht) x1 (by omega) y1 (by omega) u1 (by omega) v1 (by omega) hq.1 (by omega)).mono ?_;rintro e w' ⟨v,he,hown,Qz⟩;rw[hl]at hown;obtain⟨A,cap,rfl,PT⟩:=iw hown;exact⟨A,cap,he,PT,Qz⟩
end
section
open Go.RowKit
theorem Me (w:PG):(Instr.makeMap 164 Pk).run prog w=.ok (.map (OM w.heap.size)) (w.alloc (.map #[] 0)):=by kernel_rfl
theorem Eg {fb bb:Nat}{B:Int->Bool}(w:PG)(g:aw w b W H V bl)(s:az w)(hb:b<w.heap.size)(hS:aX w fb S)(hB:aX w bb B)(XW:fb≠bb)(X6:b≠bb)(h0:1≠bb)(PY:∀i,S i=Pm->inB W H i=Pm)(ha:inB W H a=Pm)
  (hap:∀c k z,S c=Pm->Og W H bl a c k z->S z=PB) :
  PK prog 200 #[.pointer (OM ⟨b,0,Pk⟩),.map (OM fb),.map (OM bb),PE PF a] w fun e w'=>∃nb T B',e=PM (.map (OM nb))/\aX w' nb T/\aX w' bb B'/\(∀z,T z=Pm↔∃c k,S c=Pm/\Og W H bl a c k z) /\
   (∀z,B' z=Pm↔B z=Pm\/∃c k,S c=Pm/\Og W H bl a c k z/\(B c=Pm\/(bj W H bl c=Pm/\c≠a)))/\w.heap.size<=nb/\ai (fun k=>k=bb) w w':=by
 have RY:=hS.lt;have Qz:=hB.lt;have Qa:=g.w1;have Rq:=bP g.w1 g.w2 g.h1 g.h2;have Uy:=aX.made w;have hS0:=hS.grown (Nu w (.map #[] 0) Pk) (by simp);have hB0:=hB.grown (Nu w (.map #[] 0) Pk) (by simp);have P0:(w.alloc (.map #[] 0)).heap.size=w.heap.size+1:=by simp
 have K0:ai (fun k=>k=bb) w (w.alloc (.map #[] 0)):=(ai.refl _ _).alloc _;have WV:=Me w;have HAP:=ae hap;clear hap;go_enter func200,ntmps200;go_wp2_with (first|(at_range;refine cw rfl _ 164 rfl 3 217 aY Tryz.underS fb _ _ rfl hS0.mp ?_;intro w0 Td Te hs0;rw[P0]at Td hs0 ⊢)|go_in);have Ti:=Uy.grown Te (by simp);have hB1:=hB0.grown Te (by simp);have K1:ai (fun k=>k=bb) w w0:=K0.grown Te (by simp);clear Uy hS0 Te K0 hB0;go_frame;go_loopg [] (cu S 256) (fun gk wr=>∃left cnt T B1,gk=cnt/\xP wr fb (w.heap.size+1) S left cnt/\aX wr w.heap.size T/\aX wr bb B1/\Hid (∀z,T z=Pm↔∃c k,(S c=Pm/\left c=PB)/\Og W H bl a c k z) /\
   Hid (∀z,B1 z=Pm↔B z=Pm\/∃c k,(S c=Pm/\left c=PB)/\Og W H bl a c k z/\(B c=Pm\/(bj W H bl c=Pm/\c≠a)))/\ai (fun k=>k=bb) w wr)
 case atStart =>
  refine⟨_,_,_,_,rfl,Td,Ti,hB1,fun z=>⟨fun h=>(by cases h),?_⟩,fun z=>⟨MG,?_⟩,K1⟩
  ·rintro⟨c,k,⟨h1,h2⟩,_⟩;rw[dO,h1]at h2;cases h2
  ·rintro (h|⟨c,k,⟨h1,h2⟩,_⟩)
   ·exact h
   ·rw[dO,h1]at h2;cases h2
 case round =>
  obtain⟨left,cnt,T,B1,QD,QN,hT,Uz,Qe,acL,hK⟩:=hrel;have VM:=hK.size;go_wp2_with (first|(at_next;refine cM rfl _ rfl 3 aY fb (w.heap.size+1) _ _ _ _ rfl QN ?_ ?_)|go_in)
  ·intro Ue Rf;go_wp2;go_ret;refine⟨_,T,B1,rfl,hT,Uz,fun z=>(Qe.out z).trans ⟨?_,?_⟩,fun z=>(acL.out z).trans ⟨?_,?_⟩,aj,hK⟩
   ·rintro⟨c,k,h1,h2⟩;exact⟨c,k,h1.1,h2⟩
   ·rintro⟨c,k,h1,h2⟩;exact⟨c,k,⟨h1,Rf c⟩,h2⟩
   ·rintro (h|⟨c,k,h1,h2⟩)
    ·exact MG h
    ·exact MF ⟨c,k,h1.1,h2⟩
   ·rintro (h|⟨c,k,h1,h2⟩)
    ·exact MG h
    ·exact MF ⟨c,k,⟨h1,Rf c⟩,h2⟩
  ·intro x v w1 Qf Tf Se SD QE PO QI Rx TM;obtain⟨U4,rfl⟩:=jq SD;have Tj:=PY x U4;have Tg:=hT.grown QI (fun e=>by have:=Option.some.inj e;omega);have ZF:=Uz.grown QI (fun e=>by have:=Option.some.inj e;omega);have K2:ai (fun k=>k=bb) w w1:=hK.grown QI (fun k e h=>by cases e;omega);have hBx:B1 x=B x:=by
    have h1:=acL.out x;cases hb1:B x with
    |true=>rw[hb1]at h1;exact h1.2 (MG rfl)
    |false =>
     cases hb2:B1 x with
     |false=>rfl
     |true =>
      rw[hb1,hb2]at h1;obtain⟨c,k,h3,h4,_⟩:=(h1.1 rfl).resolve_left (by decide);have:=HAP.out c k x h3.1 h4;rw[U4]at this;cases this
   obtain⟨l,hl⟩:∃l,iD W H bl x a 8=l:=⟨_,rfl⟩;have HL:=ae hl;have Wp:l.length<=8:=(by rw[<- hl];exact xR _ _ _ _ _ _);clear hl;have hzb:∀j,j<l.length->(0:Int)<=((l.getD j 0:Nat):Int)/\((l.getD j 0:Nat):Int)<256:=fun j hj=>by
    obtain⟨k,e,_⟩:=(ru (z:=((l.getD j 0:Nat):Int)) Qa Tj HL.out).1 ⟨j,hj,rfl⟩;have:0<=((l.getD j 0:Nat):Int)/\((l.getD j 0:Nat):Int)<W*H:=of_decide_eq_true (e.in' Qa);omega
   have HZ:=ae hzb;clear hzb;have g1:=g.keep K2 X6;have s1:=s.keep K2 h0;have RF:b<w1.heap.size:=MN hb K2.size;obtain⟨cx,hcx⟩:∃cx,bj W H bl x=cx:=⟨_,rfl⟩;have HCX:=ae hcx;have RQ:=Js hcx w1 g1 s1 Tj;obtain⟨bx,hbx⟩:∃bx,B x=bx:=⟨_,rfl⟩;have XN:=ae hbx;have akd:Hid (B1 x=bx):=hBx.trans hbx;clear hcx hbx hBx;clear hT QN hK QI K1 Ti Td hB1 Uz;go_wp2_with fail;refine RQ.mono ?_;rintro e w2 ⟨rfl,m2,Vy⟩;have RM:(Instr.lookup 164 (.map (OM bb)) (PE PF x) Pm).run prog w2=.ok (.tuple #[.agg #[],.bool bx]) w2:=by
    have Vj:aX w2 bb B1:=(by rw[Vy];exact ZF.below (below_drewN al m2));have hq:=akd.out;cases bx with
    |false=>exact Vj.mp.look_none aY Tryz.underS (pH _) Tf (jo hq) Pm
    |true=>exact Vj.mp.look_some aY Tryz.underS (pH _) Tf (jl hq) Pm
   have b2:PI w1.heap.size w1 (w2.alloc (PN #[] 217)):=(by rw[Vy];exact(below_drewN al m2).alloc (by simp) _);have g2:=g1.below b2 RF;have s2:=s1.below b2 (by omega);have Th:=Tg.below b2;have Vj:=ZF.below b2;have Rb:=QE.below b2;have K3:=K2.below b2;have afO:b<(w2.alloc (PN #[] 217)).heap.size:=MN RF b2.size;clear b2 Vy g1 s1 Tg ZF QE K2 RQ;have QK:=Ef HL.out (w2.alloc (PN #[] 217)) g2 s2 afO Tj ha;go_wp2_with fail;refine QK.mono ?_;rintro e w3 ⟨A,cap,rfl,PT,hb3⟩;have WU:=Th.below hb3;have Zw:=Vj.below hb3;have QP:=Rb.below hb3;have K4:=K3.below hb3;clear Th Vj Rb K3 hb3 QK g2 s2 afO RM;go_wp2;go_loopg [41] l.length (fun gj iv wr=>∃(j:Nat) (T' B':Int->Bool),gj=l.length-j/\iv=PE PF j/\j<=l.length/\aX wr w.heap.size T'/\aX wr bb B'/\Hid (∀z,T' z=Pm↔T z=Pm\/∃i,i<j/\z=((l.getD i 0:Nat):Int)) /\
     Hid (∀z,B' z=Pm↔B1 z=Pm\/((bx=Pm\/(cx=Pm/\x≠a))/\∃i,i<j/\z=((l.getD i 0:Nat):Int)))/\xP wr fb (w.heap.size+1) S (fun z=>left z&&!decide (z=x)) Qf/\bu wr A l.length (fun i=>(l.getD i 0:Nat))/\ai (fun k=>k=bb) w wr)
   case atStart=>exact⟨0,T,B1,rfl,rfl,MQ _,WU,Zw,fun z=>⟨MG,fun h=>h.resolve_right (fun ⟨i,hi,_⟩=>by omega)⟩,fun z=>⟨MG,fun h=>h.resolve_right (fun ⟨_,i,hi,_⟩=>by omega)⟩,QP,PT,K4⟩
   case round =>
    obtain⟨j,T',B',hgj,rfl,hj,SR,hBB,U5,YP,U6,Qo,hK'⟩:=hrel;by_cases VN:j<l.length
    ·obtain⟨ba,oa,rfl,Tk,PU⟩:=Qo j VN;obtain⟨z0,z1⟩:=HZ.out j VN;have QH:wr.cell? ⟨ba,oa+j,Pk⟩=OM (PE PF ((l.getD j 0:Nat):Int)):=PU;clear PU;have HJ:Hid (∀z:Int,(∃i,i<j+1/\z=((l.getD i 0:Nat):Int))↔(∃i,i<j/\z=((l.getD i 0:Nat):Int))\/z=((l.getD j 0:Nat):Int)):=fun z=>by
      constructor
      ·rintro⟨i,hi,h⟩;by_cases e:i=j
       ·subst e;exact MF h
       ·exact MG ⟨i,by omega,h⟩
      ·rintro (⟨i,hi,h⟩|h)
       ·exact⟨i,by omega,h⟩
       ·exact⟨j,by omega,h⟩
     generalize ((l.getD j 0:Nat):Int)=zz at *;have i1:(0:Int)<=(j:Int):=(by omega);have i2:(j:Int)<(l.length:Int):=(by omega);have WW:ba≠w.heap.size:=fun e=>by
      have h:=SR.mp.cell (oa+j);rw[<- e,QH]at h;cases h
     have abk:ba≠bb:=fun e=>by
      have h:=hBB.mp.cell (oa+j);rw[<- e,QH]at h;cases h
     have hRW:∀w' row,wr.grownBy w' (OM row)->ba≠row->bu w' (OM ⟨ba,oa,Pk⟩) l.length (fun i=>(l.getD i 0:Nat)):=fun w' row hg hn i hi=>by
      obtain⟨b',o',e,h1,h2⟩:=Qo i hi;cases e;exact⟨ba,oa,rfl,MN h1 hg.size,(NS (w:=wr) (hg.block ba h1 (fun e=>hn (Option.some.inj e)))).trans h2⟩
     have Xx:w.heap.size≠bb:=(by omega);have tok:True:=trivial;cases bx with
     |true =>
      go_wp2_with (first|(at_mapUpdate;have _t:=tok;refine dE rfl _ _ _ 164 rfl 3 217 aY Tryz.underS w.heap.size _ _ rfl SR.mp SR.room zz (.agg #[]) rfl rfl (aC z0 z1) ?_;intro w4 Vs Uu;have Uj:=SR.put z0 z1 Vs;have TN:=Uu.grown;have Vj:=hBB.grown TN (fun e=>Xx (Option.some.inj e).symm);clear tok Vs Uu;go_frame)|(at_mapUpdate;refine dE rfl _ _ _ 164 rfl 3 217 aY Tryz.underS bb _ _ rfl Vj.mp Vj.room zz (.agg #[]) rfl rfl (aC z0 z1) ?_;intro w5 XA XB;go_frame)|go_in);have Zw:=Vj.put z0 z1 XA;have RU:=XB.grown;have XC:=Uj.grown RU (fun e=>Xx (Option.some.inj e));have Wh:=(U6.grown TN (fun e=>by have:=Option.some.inj e;omega) (fun e=>by have:=Option.some.inj e;omega)).grown RU (fun e=>XW (Option.some.inj e)) (fun e=>by have:=Option.some.inj e;omega);have hK4:ai (fun k=>k=bb) w w5:=(hK'.grown TN (fun k e h=>by cases e;omega)).grown RU (fun k e h=>by cases e;rfl);have Q1:=hRW w4 _ TN WW;have Um:bu w5 (OM ⟨ba,oa,Pk⟩) l.length (fun i=>(l.getD i 0:Nat)):=fun i hi=>by
       obtain⟨b',o',e,h1,h2⟩:=Q1 i hi;cases e;exact⟨ba,oa,rfl,MN h1 RU.size,(NS (w:=w4) (RU.block ba h1 (fun e=>abk (Option.some.inj e)))).trans h2⟩
      go_roundg (l.length-(j+1))
      case measure=>omega
      case rel =>
       refine⟨j+1,_,_,rfl,by go_num,by omega,XC,Zw,fun z=>?_,fun z=>?_,Wh,Um,hK4⟩
       ·rw[cF,U5.out z,HJ.out z];exact⟨fun h=>h.elim (fun e=>MF (MF e)) (fun h=>h.imp id MG),fun h=>h.elim (fun e=>MF (MG e)) (fun h=>h.elim (fun e=>MF (MF e)) MG)⟩
       ·rw[cF,YP.out z,HJ.out z];constructor
        ·rintro (h|h|⟨h1,h2⟩)
         ·exact MF ⟨by simp,MF h⟩
         ·exact MG h
         ·exact MF ⟨h1,MG h2⟩
        ·rintro (h|⟨h1,h|h⟩)
         ·exact MF (MG h)
         ·exact MF (MF ⟨h1,h⟩)
         ·exact MG h
     |false =>
      cases cx with
      |false =>
       go_wp2_with (first|(at_mapUpdate;have _t:=tok;refine dE rfl _ _ _ 164 rfl 3 217 aY Tryz.underS w.heap.size _ _ rfl SR.mp SR.room zz (.agg #[]) rfl rfl (aC z0 z1) ?_;intro w4 Vs Uu;have Uj:=SR.put z0 z1 Vs;have TN:=Uu.grown;have Vj:=hBB.grown TN (fun e=>Xx (Option.some.inj e).symm);clear tok Vs Uu;go_frame)|go_in);have Wh:=U6.grown TN (fun e=>by have:=Option.some.inj e;omega) (fun e=>by have:=Option.some.inj e;omega);have hK4:ai (fun k=>k=bb) w w4:=hK'.grown TN (fun k e h=>by cases e;omega);have Q1:=hRW w4 _ TN WW;go_roundg (l.length-(j+1))
       case measure=>omega
       case rel =>
        refine⟨j+1,_,_,rfl,by go_num,by omega,Uj,Vj,fun z=>?_,fun z=>?_,Wh,Q1,hK4⟩
        ·rw[cF,U5.out z,HJ.out z];exact⟨fun h=>h.elim (fun e=>MF (MF e)) (fun h=>h.imp id MG),fun h=>h.elim (fun e=>MF (MG e)) (fun h=>h.elim (fun e=>MF (MF e)) MG)⟩
        ·rw[YP.out z];exact or_congr Iff.rfl ⟨fun h=>absurd h.1 (by simp),fun h=>absurd h.1 (by simp)⟩
      |true =>
       by_cases Zs:x=a
       ·subst Zs;go_wp2_with (first|(at_mapUpdate;have _t:=tok;refine dE rfl _ _ _ 164 rfl 3 217 aY Tryz.underS w.heap.size _ _ rfl SR.mp SR.room zz (.agg #[]) rfl rfl (aC z0 z1) ?_;intro w4 Vs Uu;have Uj:=SR.put z0 z1 Vs;have TN:=Uu.grown;have Vj:=hBB.grown TN (fun e=>Xx (Option.some.inj e).symm);clear tok Vs Uu;go_frame)|go_in);have Wh:=U6.grown TN (fun e=>by have:=Option.some.inj e;omega) (fun e=>by have:=Option.some.inj e;omega);have hK4:ai (fun k=>k=bb) w w4:=hK'.grown TN (fun k e h=>by cases e;omega);have Q1:=hRW w4 _ TN WW;go_roundg (l.length-(j+1))
        case measure=>omega
        case rel =>
         refine⟨j+1,_,_,rfl,by go_num,by omega,Uj,Vj,fun z=>?_,fun z=>?_,Wh,Q1,hK4⟩
         ·rw[cF,U5.out z,HJ.out z];exact⟨fun h=>h.elim (fun e=>MF (MF e)) (fun h=>h.imp id MG),fun h=>h.elim (fun e=>MF (MG e)) (fun h=>h.elim (fun e=>MF (MF e)) MG)⟩
         ·rw[YP.out z];exact or_congr Iff.rfl ⟨fun h=>absurd h.1 (by simp),fun h=>absurd h.1 (by simp)⟩
       ·have HXA:=ae Zs;go_wp2_with (first|(at_mapUpdate;have _t:=tok;refine dE rfl _ _ _ 164 rfl 3 217 aY Tryz.underS w.heap.size _ _ rfl SR.mp SR.room zz (.agg #[]) rfl rfl (aC z0 z1) ?_;intro w4 Vs Uu;have Uj:=SR.put z0 z1 Vs;have TN:=Uu.grown;have Vj:=hBB.grown TN (fun e=>Xx (Option.some.inj e).symm);clear tok Vs Uu;go_frame)|(at_mapUpdate;refine dE rfl _ _ _ 164 rfl 3 217 aY Tryz.underS bb _ _ rfl Vj.mp Vj.room zz (.agg #[]) rfl rfl (aC z0 z1) ?_;intro w5 XA XB;go_frame)|go_in);have Zw:=Vj.put z0 z1 XA;have RU:=XB.grown;have XC:=Uj.grown RU (fun e=>Xx (Option.some.inj e));have Wh:=(U6.grown TN (fun e=>by have:=Option.some.inj e;omega) (fun e=>by have:=Option.some.inj e;omega)).grown RU (fun e=>XW (Option.some.inj e)) (fun e=>by have:=Option.some.inj e;omega);have hK4:ai (fun k=>k=bb) w w5:=(hK'.grown TN (fun k e h=>by cases e;omega)).grown RU (fun k e h=>by cases e;rfl);have Q1:=hRW w4 _ TN WW;have Um:bu w5 (OM ⟨ba,oa,Pk⟩) l.length (fun i=>(l.getD i 0:Nat)):=fun i hi=>by
         obtain⟨b',o',e,h1,h2⟩:=Q1 i hi;cases e;exact⟨ba,oa,rfl,MN h1 RU.size,(NS (w:=w4) (RU.block ba h1 (fun e=>abk (Option.some.inj e)))).trans h2⟩
        go_roundg (l.length-(j+1))
        case measure=>omega
        case rel =>
         refine⟨j+1,_,_,rfl,by go_num,by omega,XC,Zw,fun z=>?_,fun z=>?_,Wh,Um,hK4⟩
         ·rw[cF,U5.out z,HJ.out z];exact⟨fun h=>h.elim (fun e=>MF (MF e)) (fun h=>h.imp id MG),fun h=>h.elim (fun e=>MF (MG e)) (fun h=>h.elim (fun e=>MF (MF e)) MG)⟩
         ·rw[cF,YP.out z,HJ.out z];constructor
          ·rintro (h|h|⟨h1,h2⟩)
           ·exact MF ⟨(by have:=HXA.out;simp_all),MF h⟩
           ·exact MG h
           ·exact MF ⟨h1,MG h2⟩
          ·rintro (h|⟨h1,h|h⟩)
           ·exact MF (MG h)
           ·exact MF (MF ⟨h1,h⟩)
           ·exact MG h
    ·have e:j=l.length:=(by omega);subst e;go_wp2;go_roundg Qf
     case measure=>omega
     case rel =>
      refine⟨_,Qf,T',B',rfl,U6,SR,hBB,fun z=>?_,fun z=>?_,hK'⟩
      ·rw[U5.out z,Qe.out z,ru Qa Tj HL.out];constructor
       ·rintro (⟨c,k,⟨h1,h2⟩,h3⟩|⟨k,h3⟩)
        ·exact⟨c,k,⟨h1,by rw[h2];rfl⟩,h3⟩
        ·exact⟨x,k,⟨U4,by simp⟩,h3⟩
       ·rintro⟨c,k,⟨h1,h2⟩,h3⟩;by_cases e:c=x
        ·subst e;exact MF ⟨k,h3⟩
        ·rw[decide_eq_false e]at h2;exact MG ⟨c,k,⟨h1,by simpa using h2⟩,h3⟩
      ·rw[YP.out z,acL.out z,ru Qa Tj HL.out,<- XN.out,<- HCX.out];constructor
       ·rintro ((h|⟨c,k,⟨h1,h2⟩,h3⟩)|⟨h4,k,h3⟩)
        ·exact MG h
        ·exact MF ⟨c,k,⟨h1,by rw[h2];rfl⟩,h3⟩
        ·exact MF ⟨x,k,⟨U4,by simp⟩,h3,h4⟩
       ·rintro (h|⟨c,k,⟨h1,h2⟩,h3,h4⟩)
        ·exact MG (MG h)
        ·by_cases e:c=x
         ·subst e;exact MF ⟨h4,k,h3⟩
         ·rw[decide_eq_false e]at h2;exact MG (MF ⟨c,k,⟨h1,by simpa using h2⟩,h3,h4⟩)
end
section
open Go.RowKit Go.Sort
theorem xT:∀{l l':List Int},l.Pairwise (·<·)->l'.Pairwise (·<·)->(∀x,x∈l↔x∈l')->l=l'
 |[],[],_,_,_=>rfl
 |[],y::l',_,_,h=>absurd ((h y).2 (M4 ..)) (N6)
 |x::l,[],_,_,h=>absurd ((h x).1 (M4 ..)) (N6)
 |x::l,y::l',h1,h2,h=>by
  rw[List.pairwise_cons]at h1 h2;have e:x=y:=by
   rcases Nh.1 ((h x).1 (M4 ..)) with e|e
   ·exact e
   ·rcases Nh.1 ((h y).2 (M4 ..)) with f|f
    ·exact f.symm
    ·have:=h2.1 x e;have:=h1.1 y f;omega
  subst e;have ih:=xT h1.2 h2.2 (fun z=>by
   constructor
   ·intro hz;rcases Nh.1 ((h z).1 (MV _ hz)) with e|e
    ·have:=h1.1 z hz;omega
    ·exact e
   ·intro hz;rcases Nh.1 ((h z).2 (MV _ hz)) with e|e
    ·have:=h2.1 z hz;omega
    ·exact e)
  rw[ih]
abbrev cO (l:List Nat):List Int:=l.map fun n:Nat=>(n:Int)
theorem gW :x∈cO l↔∃n:Nat,n∈l/\x=n:=by
 unfold cO;rw[NH];exact⟨fun ⟨n,h,e⟩=>⟨n,h,e.symm⟩,fun ⟨n,h,e⟩=>⟨n,h,e.symm⟩⟩
theorem mF (h:l.Pairwise (·<·)):(cO l).Pairwise (·<·):=by
 unfold cO;rw[N7];exact h.imp (fun h=>by omega)
theorem pY {l':List Nat}(h1:l.Pairwise (·<·))(h2:l'.Pairwise (·<·))(h:∀n,n∈l↔n∈l'):l=l':=by
 have:=xT (mF h1) (mF h2) (fun x=>by
  rw[gW,gW];exact⟨fun ⟨n,a,b⟩=>⟨n,(h n).1 a,b⟩,fun ⟨n,a,b⟩=>⟨n,(h n).2 a,b⟩⟩)
 have q:=congrArg (List.map Int.toNat) this
 simpa [cO,List.map_map,Function.comp_def]using q
theorem Al (L:List Nat)(hn:L.Nodup):∃l:List Nat,l.Pairwise (·<·)/\(∀n,n∈l↔n∈L)/\l.length=L.length/\(cO L).mergeSort (fun x y=>decide (x<=y))=cO l:=by
 have hp:=List.mergeSort_perm (cO L) (fun x y=>decide (x<=y));have hs:((cO L).mergeSort (fun x y=>decide (x<=y))).Pairwise (fun x y=>decide (x<=y)=Pm):=List.pairwise_mergeSort (fun a b c h1 h2=>by simp at *;omega) (fun a b=>by simp;omega) (cO L);have hnI:(cO L).Nodup:=by
  unfold cO List.Nodup;rw[N7];exact hn.imp (fun h e=>h (by omega))
 have Ud:=hp.nodup_iff.2 hnI;generalize (cO L).mergeSort (fun x y=>decide (x<=y))=Z at *;have PO:Z.Pairwise (·<·):=by
  have:=hs.and Ud;refine this.imp ?_;rintro a b ⟨h1,h2⟩;have:=of_decide_eq_true h1;omega
 have hz:∀x∈Z,0<=x:=fun x hx=>by
  obtain⟨n,_,e⟩:=gW.1 (hp.mem_iff.1 hx);omega
 have eZ:cO (Z.map Int.toNat)=Z:=by
  unfold cO;rw[List.map_map]
  conv=>rhs;rw[<- List.map_id Z]
  exact List.map_congr_left (fun x hx=>by
   have:=hz x hx;simp;omega)
 refine⟨Z.map Int.toNat,?_,fun n=>?_,?_,eZ.symm⟩
 ·rw[N7];refine List.Pairwise.imp_of_mem ?_ PO;intro a b ha hb h;have:=hz a ha;omega
 ·rw[NH];constructor
  ·rintro⟨x,hx,rfl⟩;obtain⟨m,hm,e⟩:=gW.1 (hp.mem_iff.1 hx);rw[e];exact hm
  ·intro hn;exact⟨n,hp.mem_iff.2 (gW.2 ⟨n,hn,rfl⟩),by simp⟩
 ·rw[NP,hp.length_eq];simp[cO]
theorem cQ:∀(N:Nat) {L:List Nat},L.Nodup->(∀n∈L,n<N)->L.length<=N
 |0,[],_,_=>aj
 |0,x::_,_,h=>absurd (h x (M4 ..)) (Nat.not_lt_zero _)
 |N+1,L,hn,h=>by
  have h1:=cQ N (L:=L.erase N) (hn.erase N) (fun n hm=>by
   have:=(hn.mem_erase_iff).1 hm;have:=h n this.2;omega)
  have h2:L.length<=(L.erase N).length+1:=by
   rw[List.length_erase];split<;>omega
  omega
theorem gX {row:Option Nat}(h:w.ownsRow base e k v n xs)(hg:w.grownBy w' row)(PW:∀g,v.ownBlock=OM g->OM g≠row):w'.ownsRow base e k v n xs:=by
 refine h.kept hg ?_;cases hv:v.ownBlock with
 |none=>exact MG rfl
 |some g=>exact MF (PW g hv)
theorem bq {F:Nat->Prop}(h:w.ownsRow base e k v n xs)(K:ai F w w')(PW:∀g,v.ownBlock=OM g->¬F g):w'.ownsRow base e k v n xs:=by
 refine⟨h.1,?_⟩;rcases h.2 with h2|⟨g,cap,cur,hv,PX,hg,h3⟩
 ·exact MG h2
 ·refine MF ⟨g,cap,cur,hv,PX,(K.block g (Na.1 hg).1 (PW g (by rw[hv];rfl))).trans hg,h3⟩
theorem bJ {P:Program}{kt:TypeId}(h:w.ownsRow base e k v n xs)(M:aZ P kt w b f m):∀g,v.ownBlock=OM g->g≠b:=by
 intro g hg e;obtain⟨D,⟨es,clock,h1,_⟩,_⟩:=M;rcases h.2 with⟨rfl,_⟩|⟨g',cap,cur,rfl,_,Tb,_⟩
 ·cases hg
 ·simp only[NA,Option.some.injEq]at hg;rw[hg,e,h1]at Tb;cases Tb
theorem xU {base:Nat}{L:List Nat}(w:PG)(h:w.ownsRow base 3 1 v L.length (aH L))(PW:L≠[])(hl:l.length=L.length)(hs:(cO L).mergeSort (fun x y=>decide (x<=y))=cO l)(hlen:L.length<=256) :
  PK prog 142 #[v] w fun e w'=>e=PM (.tuple #[])/\w'.ownsRow base 3 1 v l.length (aH l)/\w.grownBy w' v.ownBlock:=by
 rcases h.2 with⟨_,h0⟩|⟨g,cap,cur,rfl,PX,hg,h1,h2,h3,h4⟩
 ·exact absurd (List.length_eq_zero_iff.1 h0) PW
 ·have hv:aH L=(cO L).map (NB .i64):=by simp[aH,cO]
  have hv':aH l=(cO l).map (NB .i64):=by simp[aH,cO]
  have hL:(cO L).length=L.length:=by simp[cO]
  have hl':(cO l).length=(cO L).length:=by simp[cO,hl]
  have hH:Go.Sort.Holds (NB .i64) w g 0 (cO L).toArray:=holds_of_blockI hg (by rw[hL,<- hv];simpa using h4);have hc:=AnyM.slices_Sort_int Tryz.sortA g 0 cap (cO L) w hH (Na.1 hg).1 (by rw[hL];omega);rw[hs,hL]at hc;refine hc.mono ?_;rintro e w' ⟨rfl,n,os,rfl⟩;refine⟨rfl,?_,grownBy_sortedI _⟩;have:=ownsRow_sortedI (base:=base) (n:=n) (os:=os) (ss:=cO L) (ts:=cO l) hl' PX hg (by rw[hL];exact h1) h2 h3;rw[hL]at this;rw[hl,hv'];exact this
end
section
open Go.RowKit
theorem kM (s d t u:Int)(w:PG)(h:okC s d)(k:okC t u) :
  PK prog 78 #[.agg #[PE PF s,PE PF d],.agg #[PE PF t,PE PF u]] w fun e w'=>e=PM (.agg #[PE PF (s+t),PE PF (d+u)])/\PI w.heap.size w w':=by
 obtain⟨h1,h2,h3,h4⟩:=h;obtain⟨k1,k2,k3,k4⟩:=k;go_enter func78,ntmps78;go_wp2;exact bodyPost_ret (v:=.agg #[PE PF (s+t),PE PF (d+u)]) (by simp[results,results78,go_sem]) rfl ⟨rfl,(((al.alloc aj _).alloc (by simp) _).alloc (by simp;omega) _)⟩
theorem uS (x:Int):-x*-x=x*x:=by rw[Of,Int.mul_neg,Int.neg_neg]
theorem pZ (x y:Int)(hx:0<=x)(hy:0<=y)(hq:y<38613965)(h:x*x=2*(y*y)):x=0:=by
 have a:=yW x y hx hy hq;have b:=EM x y hx hy hq;have e:38613965*x=54608393*y:=by
  rcases Int.lt_trichotomy (38613965*x) (54608393*y) with k|k|k
  ·have:=a.mpr k;omega
  ·exact k
  ·have:=b.mpr k;omega
 exact(yX x y e (Int.lt_of_lt_of_le (by decide) hy) hq).1
theorem irr (x y:Int)(h1:-38613965<y)(h2:y<38613965)(h:x*x=2*(y*y)):x=0:=by
 by_cases hx:0<=x<;>by_cases hy:0<=y
 ·exact pZ x y hx hy h2 h
 ·exact pZ x (-y) hx (by omega) (by omega) (by rw[uS];exact h)
 ·have:=pZ (-x) y (by omega) hy h2 (by rw[uS];exact h);omega
 ·have:=pZ (-x) (-y) (by omega) (by omega) (by omega) (by rw[uS,uS];exact h);omega
theorem Ha (x:Int):x=0\/0<x*x:=by
 by_cases h:x=0
 ·left;exact h
 ·right;have:=eV x;by_cases g:x*x=0
  ·exact absurd (AY x g) h
  ·omega
theorem Jw (s d t u r:Int)(h1:-38613965<d-u)(h2:d-u<38613965)
  (H:∀X Y:Int,(s-t=0\/0<X)->(d-u=0\/0<Y)->(s-t=0->X=0)->(d-u=0->Y=0)->(X=2*Y->s-t=0)->X=(s-t)*(s-t)->Y=(d-u)*(d-u) ->
   ∀A B:Int,(s-t<0->A=-X)->(¬s-t<0->A=X)->(d-u > 0->B=-Y)->(¬d-u > 0->B=Y)->(r=-1/\A<2*B)\/(r=0/\A=2*B)\/(r=1/\2*B<A)) :
  iU s d t u=r:=by
 have h:=H _ _ (Ha (s-t)) (Ha (d-u)) (fun e=>by rw[e];rfl) (fun e=>by rw[e];rfl) (irr (s-t) (d-u) h1 h2) rfl rfl (if s-t<0 then -((s-t)*(s-t)) else (s-t)*(s-t)) (if d-u > 0 then -((d-u)*(d-u)) else (d-u)*(d-u)) (fun e=>by rw[if_pos e]) (fun e=>by rw[if_neg e]) (fun e=>by rw[if_pos e]) (fun e=>by rw[if_neg e]);have e1:sqs (s-t)=if s-t<0 then -((s-t)*(s-t)) else (s-t)*(s-t):=by unfold sqs;rw[Of]
 have e2:sqs (u-d)=if d-u > 0 then -((d-u)*(d-u)) else (d-u)*(d-u):=by
  have n:u-d=-(d-u):=by omega
  rw[n,ud];unfold sqs;rw[Of];by_cases c:d-u<0
  ·rw[if_pos c,if_neg (by omega),Int.neg_neg]
  ·rw[if_neg c];by_cases c2:d-u > 0
   ·rw[if_pos c2]
   ·rw[if_neg c2];have:d-u=0:=(by omega);rw[this];rfl
 unfold iU fy;rw[e1,e2];rcases h with⟨rfl,h⟩|⟨rfl,h⟩|⟨rfl,h⟩
 ·rw[if_pos h]
 ·rw[h,if_neg (by omega)];simp
 ·rw[if_neg (by omega),if_pos h]
theorem Jx {k:IntKind}{b:Int}(h:a=b):Ending.returned (.int k a)=PM (.int k b):=by rw[h]
theorem rz (s d t u:Int)(w:PG)(h:okC s d)(k:okC t u) :
  PK prog 79 #[.agg #[PE PF s,PE PF d],.agg #[PE PF t,PE PF u]] w fun e w'=>e=PM (PE PF (iU s d t u))/\PI w.heap.size w w':=by
 obtain⟨h1,h2,h3,h4⟩:=h;obtain⟨k1,k2,k3,k4⟩:=k;have hB:PI w.heap.size w ((w.alloc (PN #[PE PF s,PE PF d] 53)).alloc (PN #[PE PF t,PE PF u] 53)):=(al.alloc aj _).alloc (by simp) _;have bx:=iJ (s-t) (by omega) (by omega);have by_:=iJ (d-u) (by omega) (by omega);have e2:2*(d-u)*(d-u)=2*((d-u)*(d-u)):=Int.mul_assoc _ _ _;have by2:0<=2*(d-u)*(d-u)/\2*(d-u)*(d-u)<=140737488355328:=by rw[e2];omega
 go_enter func79,ntmps79;go_wp2
 all_goals
  go_ret;refine⟨Jx (Eq.symm (Jw s d t u _ (by omega) (by omega) ?_)),hB⟩;clear hB bx by_ e2 by2;intro X Y p1 p2 p3 p4 p5 eX eY A B q1 q2 q3 q4;simp only[<- eX,<- eY,beq_iff_eq,beq_eq_false_iff_ne,ne_eq,decide_eq_decide,true_and]at *;clear eX eY;omega
end
section
open Go.RowKit Go.Maps
def zC:Array Value:=(N8 512 (NB .i64 0)).toArray
def zB:Array Value:=(N8 256 (OZ PB)).toArray
theorem xV (w:PG):(Instr.alloc 96 Pm (.tuple #[])).run prog w=.ok (.pointer (OM ⟨w.heap.size,0,Pk⟩)) (w.alloc (.cells zC 96)):=by kernel_rfl
theorem xW (w:PG):(Instr.alloc 36 Pm (.tuple #[])).run prog w=.ok (.pointer (OM ⟨w.heap.size,0,Pk⟩)) (w.alloc (.cells zB 36)):=by kernel_rfl
theorem kN {ops:Array Oper}{rest:List Oper}{o:Oper}{a:Act}{Q:Exit->Act->PG->Prop}(Tn:o.guard=Pk)(ho:o.op=.alloc 96)
  (h:wpList prog ops Q rest (a.put o.dst (.pointer (OM ⟨w.heap.size,0,Pk⟩))) (w.alloc (.cells zC 96))):wpList prog ops Q (o::rest) a w :=
 wpList_plain Tn fun _ hK=>by
  unfold Oper.wp execOp;simp only[ho,Sem.run_bind,xV w,Result.andThen_ok];exact hK _ _ h
theorem kO {ops:Array Oper}{rest:List Oper}{o:Oper}{a:Act}{Q:Exit->Act->PG->Prop}(Tn:o.guard=Pk)(ho:o.op=.alloc 36)
  (h:wpList prog ops Q rest (a.put o.dst (.pointer (OM ⟨w.heap.size,0,Pk⟩))) (w.alloc (.cells zB 36))):wpList prog ops Q (o::rest) a w :=
 wpList_plain Tn fun _ hK=>by
  unfold Oper.wp execOp;simp only[ho,Sem.run_bind,xW w,Result.andThen_ok];exact hK _ _ h
def js (F:Int->Option (Int×Int)) (a:Int):Int:=match F a with|some c=>c.1|none=>0
def iT (F:Int->Option (Int×Int)) (a:Int):Int:=match F a with|some c=>c.2|none=>0
theorem cW (h:F a=OM (s,d)):js F a=s/\iT F a=d:=by unfold js iT;rw[h];exact⟨rfl,rfl⟩
theorem xX (h:F a=Pk):js F a=0/\iT F a=0:=by unfold js iT;rw[h];exact⟨rfl,rfl⟩
theorem fS (F:Int->Option (Int×Int))(a s d:Int):aB F a s d a=OM (s,d):=if_pos rfl
theorem jS (F:Int->Option (Int×Int)){a i:Int}(s d:Int)(h:i≠a):aB F a s d i=F i:=if_neg h
theorem uT (F:Int->Option (Int×Int))(a s d:Int):js (aB F a s d) a=s/\iT (aB F a s d) a=d:=cW (fS F a s d)
theorem lH (F:Int->Option (Int×Int)){a i:Int}(s d:Int)(h:i≠a):js (aB F a s d) i=js F i/\iT (aB F a s d) i=iT F i:=by
 unfold js iT;rw[jS F s d h];exact⟨rfl,rfl⟩
structure dP (w:PG) (cb ib:Nat) (F:Int->Option (Int×Int)):Prop where
 c0:∀a:Nat,a<256->w.cell? ⟨cb,a*2,Pk⟩=OM (PE PF (js F a))
 c1:∀a:Nat,a<256->w.cell? ⟨cb,a*2+1,Pk⟩=OM (PE PF (iT F a))
 i0:∀a:Nat,a<256->w.cell? ⟨ib,a,Pk⟩=OM (.bool (F a).isSome)
 zc:gz w cb
 zi:gz w ib
 ne:cb≠ib
theorem dP.lt (h:dP w cb ib F):cb<w.heap.size/\ib<w.heap.size:=⟨MK w _ (h.c0 0 (by decide)),MK w _ (h.i0 0 (by decide))⟩
theorem dP.keep (h:dP w cb ib F)(K:ai D w w')(h1:¬D cb)(h2:¬D ib):dP w' cb ib F :=
 ⟨fun a ha=>K.cellOf (h.c0 a ha) h1,fun a ha=>K.cellOf (h.c1 a ha) h1,fun a ha=>K.cellOf (h.i0 a ha) h2,fun o=>(K.frozen (p:=⟨cb,o,Pk⟩) h.lt.1 h1).trans (h.zc o),fun o=>(K.frozen (p:=⟨ib,o,Pk⟩) h.lt.2 h2).trans (h.zi o),h.ne⟩
theorem dP.below {F:Int->Option (Int×Int)}(h:dP w cb ib F)(hb:PI w.heap.size w w'):dP w' cb ib F:=h.keep (ai.of_below (F:=fun _=>False) hb) id id
theorem J0 (i:Nat)(hi:i<512):zC[i]? = OM (NB .i64 0):=by unfold zC;rw[N9,PD,if_pos hi]
theorem Mf (i:Nat)(hi:i<256):zB[i]? = OM (OZ PB):=by unfold zB;rw[N9,PD,if_pos hi]
theorem dP.new (w:PG):dP ((w.alloc (.cells zC 96)).alloc (.cells zB 36)) w.heap.size (w.heap.size+1) (fun _=>Pk):=by
 have hB:PI (w.alloc (.cells zC 96)).heap.size (w.alloc (.cells zC 96)) ((w.alloc (.cells zC 96)).alloc (.cells zB 36)):=al.alloc aj _;have e:(w.alloc (.cells zC 96)).heap.size=w.heap.size+1:=by simp
 refine⟨fun a ha=>?_,fun a ha=>?_,fun a ha=>?_,fun o=>?_,fun o=>?_,by omega⟩
 ·rw[hB.cell (p:=⟨w.heap.size,a*2,Pk⟩) (by rw[e];exact N5 _),MP];exact J0 _ (by omega)
 ·rw[hB.cell (p:=⟨w.heap.size,a*2+1,Pk⟩) (by rw[e];exact N5 _),MP];exact J0 _ (by omega)
 ·rw[<- e,MP];exact Mf _ ha
 ·rw[hB.frozen (p:=⟨w.heap.size,o,Pk⟩) (by rw[e];exact N5 _)];exact bE w _ _ _ aj o
 ·rw[<- e];exact bE _ _ _ _ aj o
theorem dP.first (h:dP w cb ib (fun _=>Pk))(a:Nat)(ha:a<256):dP (w.setCell ⟨ib,a,Pk⟩ (.bool Pm)) cb ib (aB (fun _=>Pk) a 0 0):=by
 have K:ai (fun k=>k=ib) w (w.setCell ⟨ib,a,Pk⟩ (.bool Pm)):=(ai.refl (fun k=>k=ib) w).setCell (p:=⟨ib,a,Pk⟩) (fun _=>rfl) _;have hl:∀i:Int,js (aB (fun _=>Pk) a 0 0) i=0/\iT (aB (fun _=>Pk) a 0 0) i=0:=fun i=>by
  by_cases q:i=a
  ·rw[q];exact uT _ _ _ _
  ·rw[(lH _ _ _ q).1,(lH _ _ _ q).2];exact xX rfl
 refine⟨fun i hi=>?_,fun i hi=>?_,fun i hi=>?_,fun o=>(K.frozen (p:=⟨cb,o,Pk⟩) h.lt.1 h.ne).trans (h.zc o),fun o=>by simpa using h.zi o,h.ne⟩
 ·rw[(hl i).1];exact K.cellOf (h.c0 i hi) h.ne
 ·rw[(hl i).2];exact K.cellOf (h.c1 i hi) h.ne
 ·by_cases q:i=a
  ·subst q;rw[fS];exact MO _ _ _ (h.i0 i hi)
  ·rw[jS _ _ _ (by omega),MH _ _ _ _ (bR (fun e=>q e.symm))];exact h.i0 i hi
theorem dP.put (h:dP w cb ib F)(a:Nat)(ha:a<256)(s d:Int) :
  dP (((w.setCell ⟨cb,a*2,Pk⟩ (PE PF s)).setCell ⟨cb,a*2+1,Pk⟩ (PE PF d)).setCell ⟨ib,a,Pk⟩ (.bool Pm)) cb ib (aB F a s d):=by
 have nb:∀o p,(⟨ib,o,Pk⟩:Addr)≠⟨cb,p,Pk⟩:=fun o p e=>h.ne (by cases e;rfl);refine⟨fun i hi=>?_,fun i hi=>?_,fun i hi=>?_,fun o=>by simpa using h.zc o,fun o=>by simpa using h.zi o,h.ne⟩
 ·rw[MH _ _ _ _ (nb _ _),MH _ _ _ _ (bR (by omega))];by_cases q:i=a
  ·subst q;rw[(uT F i s d).1];exact MO _ _ _ (h.c0 i hi)
  ·rw[(lH F s d (show (i:Int)≠a by omega)).1,MH _ _ _ _ (bR (by omega))];exact h.c0 i hi
 ·rw[MH _ _ _ _ (nb _ _)];by_cases q:i=a
  ·subst q;rw[(uT F i s d).2];refine MO _ _ _ (u:=PE PF (iT F i)) ?_;rw[MH _ _ _ _ (bR (by omega))];exact h.c1 i hi
  ·rw[(lH F s d (show (i:Int)≠a by omega)).2,MH _ _ _ _ (bR (by omega)),MH _ _ _ _ (bR (by omega))];exact h.c1 i hi
 ·by_cases q:i=a
  ·subst q;rw[fS];refine MO _ _ _ (u:=.bool (F i).isSome) ?_;rw[MH _ _ _ _ (nb _ _).symm,MH _ _ _ _ (nb _ _).symm];exact h.i0 i hi
  ·rw[jS F s d (show (i:Int)≠a by omega),MH _ _ _ _ (bR (by omega)),MH _ _ _ _ (nb _ _).symm,MH _ _ _ _ (nb _ _).symm];exact h.i0 i hi
theorem rB (w:PG)(cb ib a:Nat)(s d:Int):ai (fun k=>k=cb\/k=ib) w (((w.setCell ⟨cb,a*2,Pk⟩ (PE PF s)).setCell ⟨cb,a*2+1,Pk⟩ (PE PF d)).setCell ⟨ib,a,Pk⟩ (.bool Pm)) :=
 (((ai.refl (fun k=>k=cb\/k=ib) w).setCell (p:=⟨cb,a*2,Pk⟩) (fun _=>MG rfl) _).setCell (p:=⟨cb,a*2+1,Pk⟩) (fun _=>MG rfl) _).setCell (p:=⟨ib,a,Pk⟩) (fun _=>MF rfl) _
def cX (F:Int->Option (Int×Int)):List Value:=(NX 512).map fun i=>NB .i64 (if i%2=0 then js F (i/2:Nat) else iT F (i/2:Nat))
def isL (F:Int->Option (Int×Int)):List Value:=(NX 256).map fun (i:Nat)=>OZ (F (i:Int)).isSome
theorem di (F:Int->Option (Int×Int)):(cX F).length=512:=by unfold cX;simp
theorem lJ (F:Int->Option (Int×Int)):(isL F).length=256:=by unfold isL;simp
theorem dP.rangeC (h:dP w cb ib F):w.rangeAt cb 0 (cX F):=by
 intro j v hj;rw[M8];have PO:j<512:=by have:=(Np.1 hj).1;rw[di]at this;exact this
 unfold cX at hj;rw[NF,Oj PO]at hj;simp only[PA,Option.some.injEq]at hj;rw[<- hj];by_cases q:j%2=0
 ·rw[if_pos q];have:=h.c0 (j/2) (by omega);rw[show j/2*2=j by omega]at this;exact this
 ·rw[if_neg q];have:=h.c1 (j/2) (by omega);rw[show j/2*2+1=j by omega]at this;exact this
theorem dP.rangeI (h:dP w cb ib F):w.rangeAt ib 0 (isL F):=by
 intro j v hj;rw[M8];have PO:j<256:=by have:=(Np.1 hj).1;rw[lJ]at this;exact this
 unfold isL at hj;rw[NF,Oj PO]at hj;simp only[PA,Option.some.injEq]at hj;rw[<- hj];exact h.i0 j PO
theorem xY (hc:w.rangeAt cb 0 (cX F))(hi:w.rangeAt ib 0 (isL F))(zc:gz w cb)(zi:gz w ib)(ne:cb≠ib):dP w cb ib F:=by
 refine⟨fun a ha=>?_,fun a ha=>?_,fun a ha=>?_,zc,zi,ne⟩
 ·have:=hc (a*2) (PE PF (js F a)) (by
   unfold cX;rw[NF,Oj (by omega)];simp only[PA,Option.some.injEq];rw[if_pos (by omega),show a*2/2=a by omega])
  rw[M8]at this;exact this
 ·have:=hc (a*2+1) (PE PF (iT F a)) (by
   unfold cX;rw[NF,Oj (by omega)];simp only[PA,Option.some.injEq];rw[if_neg (by omega),show (a*2+1)/2=a by omega])
  rw[M8]at this;exact this
 ·have:=hi a (.bool (F a).isSome) (by
   unfold isL;rw[NF,Oj ha];rfl)
  rw[M8]at this;exact this
theorem Am:(prog.info? 96).map (·.size)=OM 512:=by kernel_rfl
theorem Ao:(prog.info? 36).map (·.size)=OM 256:=by kernel_rfl
def iH (td:List Nat) (i:Nat) (a:Int):Prop:=∃j,i<=j/\j<td.length/\((td.getD j 0:Nat):Int)=a
structure FSt (w wr:PG) (tv:PH) (td:List Nat) (W H:Int) (F:Int->Option (Int×Int)):Prop where
 own:wr.ownsRow (w.heap.size+4) 3 1 tv td.length (aH td)
 lab:dP wr (w.heap.size+2) (w.heap.size+3) F
 r0:wr.there w.heap.size 0 512
 r1:wr.there (w.heap.size+1) 0 256
 bel:PI w.heap.size w wr
 mem:∀j,j<td.length->inB W H ((td.getD j 0:Nat):Int)=Pm/\(F ((td.getD j 0:Nat):Int)).isSome=Pm
 len:(td.length:Int)+pot F (W*H).toNat<=3578815643905
theorem cG {o:Nat}(h:w.there b o n)(hb:b<w.heap.size)(K:ai D w w')(hn:¬D b):w'.there b o n:=fun j hj=>by
 obtain⟨h1,h2⟩:=h j hj;rw[K.cell (p:=⟨b,o+j,Pk⟩) hb hn,K.frozen (p:=⟨b,o+j,Pk⟩) hb hn];exact⟨h1,h2⟩
theorem Eh {e:TypeId}(h:w.ownsRow base e k v n xs)(K:ai D w w')(hn:∀g,base<=g->¬D g):w'.ownsRow base e k v n xs:=by
 refine⟨h.1,?_⟩;rcases h.2 with h2|⟨g,cap,cur,hv,PX,hg,h3⟩
 ·exact MG h2
 ·exact MF ⟨g,cap,cur,hv,PX,(K.block g (Na.1 hg).1 (hn g PX)).trans hg,h3⟩
theorem FSt.big (h:FSt w wr tv td W H F):w.heap.size+4<=wr.heap.size:=by have:=h.lab.lt.2;omega
theorem FSt.below (h:FSt w wr tv td W H F)(hb:PI wr.heap.size wr w'):FSt w w' tv td W H F:=by
 have hs:=h.big;have K:ai (fun _=>False) wr w':=ai.of_below hb;exact⟨aq h.own hb,h.lab.below hb,cG h.r0 (by omega) K id,cG h.r1 (by omega) K id,h.bel.trans (hb.mono h.bel.size),h.mem,h.len⟩
theorem FSt.put (h:FSt w wr tv td W H F)(a:Nat)(ha:a<256)(s d:Int)(hp:pot (aB F a s d) (W*H).toNat+1<=pot F (W*H).toNat) :
  FSt w (((wr.setCell ⟨w.heap.size+2,a*2,Pk⟩ (PE PF s)).setCell ⟨w.heap.size+2,a*2+1,Pk⟩ (PE PF d)).setCell ⟨w.heap.size+3,a,Pk⟩ (.bool Pm)) tv td W H (aB F a s d):=by
 have hs:=h.big;have K:=rB wr (w.heap.size+2) (w.heap.size+3) a s d;refine⟨Eh h.own K (fun g hg=>by omega),h.lab.put a ha s d,cG h.r0 (by omega) K (by omega),cG h.r1 (by omega) K (by omega),h.bel.trans (K.to_below h.bel.size (fun k hk=>by omega)),fun j hj=>?_,by have:=h.len;omega⟩;obtain⟨m1,m2⟩:=h.mem j hj;refine⟨m1,?_⟩;by_cases q:((td.getD j 0:Nat):Int)=a
 ·rw[q,fS];rfl
 ·rw[jS F s d q];exact m2
theorem FSt.app {tv':PH}{a:Nat}(h:FSt w wr tv td W H F)(ho:w'.ownsRow (w.heap.size+4) 3 1 tv' (td++[a]).length (aH (td++[a])))(hg:wr.grownBy w' tv.ownBlock)(ha:inB W H a=Pm)(hF:(F a).isSome=Pm)(hl:(td.length:Int)+1+pot F (W*H).toNat<=3578815643905) :
  FSt w w' tv' (td++[a]) W H F:=by
 have hs:=h.big;have K:ai (fun k=>w.heap.size+4<=k) wr w':=(ai.refl _ wr).grown hg (fun k hk _=>(h.own.lt k hk).1);refine⟨ho,h.lab.keep K (by omega) (by omega),cG h.r0 (by omega) K (by omega),cG h.r1 (by omega) K (by omega),h.bel.trans (K.to_below h.bel.size (fun k hk=>by omega)),fun j hj=>?_,by simp;omega⟩;rw[nT];by_cases q:j<td.length
 ·rw[if_pos q];exact h.mem j q
 ·rw[if_neg q,if_pos (by simp at hj;omega)];exact⟨ha,hF⟩
theorem xZ {a:Nat}(hi:i<=td.length):iH (td++[a]) i x↔(iH td i x\/x=a):=by
 constructor
 ·rintro⟨j,h1,h2,h3⟩;rw[nT]at h3;by_cases q:j<td.length
  ·rw[if_pos q]at h3;exact MG ⟨j,h1,q,h3⟩
  ·rw[if_neg q,if_pos (by simp at h2;omega)]at h3;exact MF h3.symm
 ·rintro (⟨j,h1,h2,h3⟩|rfl)
  ·exact⟨j,h1,by simp;omega,by rw[nT,if_pos h2];exact h3⟩
  ·exact⟨td.length,hi,by simp,by rw[nT,if_neg (NJ _),if_pos rfl]⟩
def x7 (w w':PG) (e:Ending) (W H:Int) (bl:Nat->Bool) (o:Int):Prop :=
 ∃F,e=PM (.tuple #[.agg (cX F).toArray,.agg (isL F).toArray])/\ct (aF W H bl) o F/\PI w.heap.size w w'
theorem gY (w:PG)(l:List PH)(t:TypeId)(n:Nat)(hl:l.length=n):(w.alloc (.cells l.toArray t)).there w.heap.size 0 n:=by
 intro j hj;rw[M8,MP,N9,MJ (by omega)];exact⟨rfl,bE w _ _ _ aj j⟩
theorem Ei (w:PG)(c:Nat)(hr:inB W H c=Pm)(arL:W*H<=256) :
  FSt w ((((((w.alloc (.cells zC 96)).alloc (.cells zB 36)).alloc (.cells zC 96)).alloc (.cells zB 36)).setCell ⟨w.heap.size+1+1+1,c,Pk⟩ (.bool Pm)).alloc (PN #[PE PF (c:Int)] 3)) (.slice (OM ⟨w.heap.size+1+1+1+1,0,Pk⟩) 1 1) [c] W H (aB (fun _=>Pk) c 0 0):=by
 have hc:0<=(c:Int)/\(c:Int)<W*H:=of_decide_eq_true hr;have t0:(w.alloc (.cells zC 96)).there w.heap.size 0 512:=gY w (N8 512 (NB .i64 0)) 96 512 OE;have t1:((w.alloc (.cells zC 96)).alloc (.cells zB 36)).there (w.heap.size+1) 0 256:=by
  have:=gY (w.alloc (.cells zC 96)) (N8 256 (OZ PB)) 36 256 OE;rw[show (w.alloc (.cells zC 96)).heap.size=w.heap.size+1 by simp]at this;exact this
 have s1:(w.alloc (.cells zC 96)).heap.size=w.heap.size+1:=by simp
 have s2:((w.alloc (.cells zC 96)).alloc (.cells zB 36)).heap.size=w.heap.size+2:=by simp
 have B1:=aQ w (.cells zC 96);have B2:PI (w.alloc (.cells zC 96)).heap.size (w.alloc (.cells zC 96)) ((w.alloc (.cells zC 96)).alloc (.cells zB 36)):=al.alloc aj _;have Yg:=B1.trans (B2.mono (by rw[s1];omega));have t0':=cG t0 (by rw[s1];omega) (ai.of_below (F:=fun _=>False) B2) id;generalize (w.alloc (.cells zC 96)).alloc (.cells zB 36)=w2 at *;have L0:=dP.new w2;rw[s2]at L0;have s4:((w2.alloc (.cells zC 96)).alloc (.cells zB 36)).heap.size=w.heap.size+4:=by simp[s2]
 have B3:PI w2.heap.size w2 ((w2.alloc (.cells zC 96)).alloc (.cells zB 36)):=(al.alloc aj _).alloc (by simp) _;have B13:=Yg.trans (B3.mono (by rw[s2];omega));have akf:=cG t0' (by rw[s2];omega) (ai.of_below (F:=fun _=>False) B3) id;have akg:=cG t1 (by rw[s2];omega) (ai.of_below (F:=fun _=>False) B3) id;generalize (w2.alloc (.cells zC 96)).alloc (.cells zB 36)=w4 at *;have L1:=L0.first c (by omega)
 have K:ai (fun k=>k=w.heap.size+2+1) w4 (w4.setCell ⟨w.heap.size+2+1,c,Pk⟩ (.bool Pm)):=(ai.refl (fun k=>k=w.heap.size+2+1) w4).setCell (p:=⟨w.heap.size+2+1,c,Pk⟩) (fun _=>rfl) _;have s5:(w4.setCell ⟨w.heap.size+2+1,c,Pk⟩ (.bool Pm)).heap.size=w.heap.size+4:=by rw[<- s4];simp
 have B14:=B13.trans (K.to_below (by rw[s4];omega) (fun k hk=>by omega));have u0:=cG akf (by rw[s4];omega) K (by omega);have u1:=cG akg (by rw[s4];omega) K (by omega);show FSt w ((w4.setCell ⟨w.heap.size+2+1,c,Pk⟩ (.bool Pm)).alloc (PN #[PE PF (c:Int)] 3)) (.slice (OM ⟨w.heap.size+4,0,Pk⟩) 1 1) [c] W H (aB (fun _=>Pk) c 0 0);generalize w4.setCell ⟨w.heap.size+2+1,c,Pk⟩ (.bool Pm)=w5 at *;have own:=World.ownsRow_lit (base:=w.heap.size+4) (e:=3) (size:=1) w5 #[PE PF (c:Int)] 1 (by rw[s5];omega) (by unfold maxLen;omega) rfl;rw[s5]at own;have B5:=aQ w5 (PN #[PE PF (c:Int)] 3);refine⟨own,L1.below B5,cG u0 (by rw[s5];omega) (ai.of_below (F:=fun _=>False) B5) id,cG u1 (by rw[s5];omega) (ai.of_below (F:=fun _=>False) B5) id,B14.trans (B5.mono (by rw[s5];omega)),fun j hj=>?_,?_⟩
 ·have:j=0:=by simp at hj;omega
  subst this;exact⟨hr,by show (aB _ (c:Int) 0 0 (c:Int)).isSome=Pm;rw[fS];rfl⟩
 ·have:=DY (c:Int) (W*H).toNat (by omega) (by omega) (by omega);show ((1:Nat):Int)+_<=_;omega
end
section
open Go.RowKit Go.Maps
theorem x8 (hl:uO W H bl c l)(w:PG)(g:bg w b W H V bl)(hr:inB W H c=Pm)(hb:b<w.heap.size) :
  PK prog 77 #[.pointer (OM ⟨b,0,Pk⟩),PE PF c] w fun e w'=>∃A cap,e=PM (.slice A l.length cap)/\(bu w' A l.length (fun i=>(l.getD i 0:Nat))/\∀g o,A=OM ⟨g,o,Pk⟩->w.heap.size<=g)/\PI w.heap.size w w' :=
 (DT c w g hr hb).mono fun e w' ⟨v,he,hown,Qz⟩=>by
  rw[hl.eq]at hown;obtain⟨A,cap,rfl,PT⟩:=iw hown;refine⟨A,cap,he,⟨PT,fun g o e=>?_⟩,Qz⟩;rcases hown.2 with⟨hv,_⟩|⟨g',cap',cur,hv,hg,_⟩
  ·simp only[Value.slice.injEq]at hv;rw[hv.1]at e;cases e
  ·simp only[Value.slice.injEq]at hv;rw[hv.1]at e;cases e;exact hg
theorem iP {n:Int}(h1:-1000000<=n)(h2:n<=1000000):IntKind.i64.wrap n=n:=by
 unfold IntKind.wrap;simp[IntKind.bits,IntKind.signed];omega
theorem rE {q dk:Nat}(hq:q<l.length)(hd:l.getD q 0=dk)(h:j∈l.take (q+1)):j∈l.take q\/j=dk:=by
 rw[List.take_add_one,MJ hq]at h;rw[bo _ _ hq]at hd;rw[List.mem_append]at h;rcases h with h|h
 ·exact MG h
 ·exact MF ((by simpa using h:j=l[q]).trans hd)
theorem lK (F:Int->Option (Int×Int)):∀v∈cX F,v.oneCell'=true:=by
 intro v hv;unfold cX at hv;rw[NH]at hv;obtain⟨i,_,rfl⟩:=hv;rfl
theorem p6 (F:Int->Option (Int×Int)):∀v∈isL F,v.oneCell'=true:=by
 intro v hv;unfold isL at hv;rw[NH]at hv;obtain⟨i,_,rfl⟩:=hv;rfl
theorem Hb:prog.underlying 96=OM (.array 256 53):=by kernel_rfl
theorem Hc:prog.underlying 36=OM (.array 256 4):=by kernel_rfl
theorem x9 {P:Program}{fn:Func}{tmps:Array PH}{s t:TypeId}{A B:Addr}{u:PH}(hr:fn.results=#[.cell i s,.cell j t])(a:tmps.getD i undef=.pointer (OM A))(b:tmps.getD j undef=.pointer (OM B))
  (h:(loadVar s A).run P w=.ok u w) (k:(loadVar t B).run P w=.ok v w):(results fn tmps).run P w=.ok (.tuple #[u,v]) w:=by
 unfold results;rw[hr];rw[Array.getD_eq_getD_getElem?]at a b;simp[a,b,h,k,asAddr]
theorem He (w:PG)(c:Nat) :
  ((((w.alloc (.cells zC 96)).alloc (.cells zB 36)).alloc (.cells zC 96)).alloc (.cells zB 36)).setCell ⟨w.heap.size+1+1+1,c,Pk⟩ (.bool Pm)=(((w.alloc (.cells zC 96)).alloc (.cells zB 36)).alloc (.cells zC 96)).alloc (.cells (zB.setIfInBounds c (.bool Pm)) 36):=by
 simp[go_sem]
theorem jT {b:Nat}{W H V:Int}{bl:Nat->Bool}(c:Nat)(w:PG)(g:bg w b W H V bl)(hb:b<w.heap.size)(hr:inB W H c=Pm) :
  PK prog 39 #[.pointer (OM ⟨b,0,Pk⟩),PE PF (c:Int)] w fun e w'=>x7 w w' e W H bl c:=by
 obtain⟨i0,Ws,P0,P3,afP⟩:=info_parts Tryz.info3;have W8:=g.w1;obtain⟨kk1,kk2⟩:=bP g.w1 g.w2 g.h1 g.h2;have hc:0<=(c:Int)/\(c:Int)<W*H:=of_decide_eq_true hr;have S0:=Ei w c hr kk2;have L0:=Lab.start (aF W H bl) (c:Int) (W*H).toNat (by omega) (by omega) (fun a _=>¬iH [c] 0 a) (fun _ h=>h ⟨0,aj,by simp,rfl⟩);obtain⟨N,hN⟩:∃N:Nat,(W*H).toNat=N:=⟨_,rfl⟩;obtain⟨q1,q2⟩:=hc;have q3:(c:Int)<256:=by omega
 have LN:=dP.new ((w.alloc (.cells zC 96)).alloc (.cells zB 36));have ci:=LN.i0 c (by omega);have cz:=LN.zi c;have es:((w.alloc (.cells zC 96)).alloc (.cells zB 36)).heap.size+1=w.heap.size+1+1+1:=by simp
 rw[es]at ci cz;clear LN es;go_enter func39,ntmps39;go_wp2_with (first|(refine kN rfl rfl ?_)|(refine kO rfl rfl ?_));rw[He]at S0;generalize (((((w.alloc (.cells zC 96)).alloc (.cells zB 36)).alloc (.cells zC 96)).alloc (.cells (zB.setIfInBounds c (.bool Pm)) 36)).alloc (PN #[PE PF (c:Int)] 3))=wS at *;clear ci cz;rw[hN]at L0;have Vk:N<=256:=by omega
 go_loopg [8,9] ((pot (aB (fun _=>Pk) (c:Int) 0 0) N).toNat+1) (fun gk tv iv wr=>∃(td:List Nat) (i:Nat) (F:Int->Option (Int×Int)),i<=td.length/\gk=(pot F N).toNat+(td.length-i)/\iv=PE PF i/\FSt w wr tv td W H F/\Lab (aF W H bl) c N F (fun a _=>¬iH td i a))
 case atStart=>exact⟨[c],0,_,by simp,rfl,rfl,S0,L0⟩
 case round =>
  clear S0 L0;obtain⟨td,i,F,hi,QD,rfl,S,L⟩:=hrel;have HG:=ae QD;clear QD;have hlen:=S.len;rw[hN]at hlen;have SO:=L.pot0;by_cases PO:i<td.length
  ·obtain⟨aak,haF⟩:=S.mem i PO;obtain⟨⟨s,d⟩,hFa⟩:=Option.isSome_iff_exists.1 haF;have UA:(i:Int)<(td.length:Int):=(by omega);have i0':(0:Int)<=(i:Int):=(by omega);rcases S.own.2 with⟨_,h0⟩|⟨gt,cap,cur,rfl,PX,hg,_⟩
   ·omega
   ·have ca:=iO S.own i PO;have Vx:gt<wr.heap.size:=(Na.1 hg).1;obtain⟨a,ha⟩:∃a,td.getD i 0=a:=⟨_,rfl⟩;have HA:=ae ha;rw[ha]at aak hFa ca;clear haF ha hg;have hac:0<=(a:Int)/\(a:Int)<W*H:=of_decide_eq_true aak;obtain⟨a1,a2⟩:=hac;have haB:a<256:=(by omega);have a3:(a:Int)<256:=(by omega);have gr:=g.below S.bel hb;obtain⟨l,hl⟩:=GI (W:=W) (H:=H) bl (a:Int) W8;have hbr:=MN hb S.bel.size;go_wp2_with fail;refine(x8 hl wr gr aak hbr).mono ?_;rintro e w2 ⟨A1,X0,rfl,⟨PT,QU⟩,hb2⟩;have S2:=S.below hb2;have L2:Lab (aF W H bl) c N F (fun x j=>(¬iH td (i+1) x/\x≠a)\/(x=a/\j∈l.take 0)):=by
     refine L.widen fun {x k y s d} _ _ h=>?_;rcases h with⟨h1,h2⟩|⟨_,h2⟩
     ·rintro⟨j,j1,j2,j3⟩;by_cases e:j=i
      ·subst e;rw[HA.out]at j3;exact h2 j3.symm
      ·exact h1 ⟨j,by omega,j2,j3⟩
     ·simp at h2
    have Qd:=hb2.size;have ZK:=hl.len;obtain⟨L',hL'⟩:∃L',l.length=L':=⟨_,rfl⟩;have HL:=ae hL';rw[hL']at PT ZK ⊢;obtain⟨M0,Uy⟩:∃M0,wr.heap.size=M0:=⟨_,rfl⟩;rw[Uy]at QU Vx Qd;have anS:w.heap.size+4<=M0:=(by have:=S.big;omega);clear S L hL' gr hb2 hbr ca Uy;go_wp2;go_loopg [8,12] L' (fun gk tv kv wq=>∃(q:Nat) (TU:List Nat) (F':Int->Option (Int×Int)),q<=L'/\gk=L'-q/\kv=PE PF q/\FSt w wq tv TU W H F'/\Lab (aF W H bl) c N F' (fun x j=>(¬iH TU (i+1) x/\x≠a)\/(x=a/\j∈l.take q))/\F' a=OM (s,d)/\i<TU.length/\(pot F' N).toNat+(TU.length-i)<=(pot F N).toNat+(td.length-i)/\ai (fun k=>k<M0) w2 wq/\(∀x,tv.ownBlock=OM x->x<M0\/w2.heap.size<=x))
    case atStart=>exact⟨0,td,F,by omega,rfl,rfl,S2,L2,hFa,PO,aj,ai.refl _ _,fun x hx=>MG (by simp[NA]at hx;omega)⟩
    case round =>
     clear S2 L2 hFa PX Vx;obtain⟨q,TU,F',hq,ZL,rfl,S3,L3,Wi,hi3,Q3,K3,WZ⟩:=hrel;have HGq:=ae ZL;have HM:=ae Q3;clear ZL Q3;by_cases hqlt:q<L'
     ·have aem:(q:Int)<(L':Int):=(by omega);have hq0:(0:Int)<=(q:Int):=(by omega);have ZM:q<l.length:=(by rw[HL.out];exact hqlt);obtain⟨bs,os,rfl,hbs,PU⟩:=PT q hqlt;have hbn:=QU bs os rfl;have cl:wr.cell? ⟨bs,os+q,Pk⟩=OM (PE PF ((l.getD q 0:Nat):Int)):=K3.cellOf PU (by show ¬bs<M0;omega);have X3:=hl.lt q ZM;have Sc:bC W H bl ((a:Int)%W) ((a:Int)/W) (l.getD q 0)=true:=by
       have VP:q<(mvs W H bl ((a:Int)%W) ((a:Int)/W) 8).length:=(by rw[hl.eq];exact ZM);have:=(kz VP).2;rw[hl.eq]at this;exact this
      obtain⟨dk,hdk⟩:∃dk,l.getD q 0=dk:=⟨_,rfl⟩;have HDK:=ae hdk;rw[hdk]at cl X3 Sc;clear PU hdk;have Uo:aF W H bl a dk ((a:Int)+(af dk*W+ah dk)):=⟨X3,aak,Sc,rfl⟩;have ZJ:=Uo.in' W8
      have htc:0<=(a:Int)+(af dk*W+ah dk)/\(a:Int)+(af dk*W+ah dk)<W*H:=of_decide_eq_true ZJ;obtain⟨tn,htn⟩:∃tn:Nat,(a:Int)+(af dk*W+ah dk)=tn:=⟨((a:Int)+(af dk*W+ah dk)).toNat,by omega⟩;have Ri:=fun w g=>Cc (b:=b) (W:=W) (H:=H) (V:=V) (bl:=bl) (c:=(a:Int)) (d:=dk) htn w g X3 (by omega) (by omega);rw[htn]at Uo ZJ htc;obtain⟨t1,t2⟩:=htc;have t3:(tn:Int)<256:=(by omega);have YQ:tn<256:=(by omega);have g3:=g.below S3.bel hb;clear htn Sc;go_wp2_with (go_at_call 49;refine(Ri _ g3).mono ?_;rintro e w4 ⟨rfl,rfl⟩);have ait:Int.tmod (dk:Int) 2=stD dk:=(by unfold stD;rw[OA (by omega)];omega);have aiu:1-stD dk=stS dk:=(by unfold stS stD;omega);have Qq:=iz dk;obtain⟨v1,v2,v3⟩:=L3.val_bd Vk Wi;obtain⟨v4,v5⟩:=cE v1 v2 v3;have abI:okC s d:=(by unfold okC;omega);have abJ:okC (stS dk) (stD dk):=(by unfold okC;omega);have QF:=fun w=>kM s d (stS dk) (stD dk) w abI abJ;have hu:IntKind.i64.wrap (stS dk)=stS dk:=iP (by omega) (by omega);have S4:FSt w w4.drew u8 TU W H F':=S3.below (al.drew);have K4:ai (fun k=>k<M0) w2 w4.drew:=K3.drew;have cl:=bH cl;have x0:w4.drew.cell? ⟨w.heap.size+1+1,a*2,Pk⟩=OM (PE PF s):=(by have:=S4.lab.c0 a haB;rw[(cW Wi).1]at this;exact this);have x1:w4.drew.cell? ⟨w.heap.size+1+1,a*2+1,Pk⟩=OM (PE PF d):=(by have:=S4.lab.c1 a haB;rw[(cW Wi).2]at this;exact this);have Ys:=S3.big;have e1:bs<w4.heap.size:=MK w4.drew _ cl;have CC:∀w',PI w4.drew.heap.size w4.drew w'->w'.cell? ⟨w.heap.size+1+1,a*2,Pk⟩=OM (PE PF s)/\w'.cell? ⟨w.heap.size+1+1,a*2+1,Pk⟩=OM (PE PF d)/\w'.cell? ⟨bs,os+q,Pk⟩=OM (PE PF (dk:Int)) :=
       fun w' hb'=>⟨(hb'.cell (aJ x0)).trans x0,(hb'.cell (aJ x1)).trans x1,(hb'.cell (aJ cl)).trans cl⟩
      have Q5:PI w4.drew.heap.size w4.drew w4.drew:=al;clear S3 K3 g3 Ri;go_wp2;go_region_held3 (fun w'=>w'.cell? ⟨w.heap.size+1+1,a*2,Pk⟩=OM (PE PF s)/\w'.cell? ⟨w.heap.size+1+1,a*2+1,Pk⟩=OM (PE PF d)/\w'.cell? ⟨bs,os+q,Pk⟩=OM (PE PF (dk:Int)))
       (first|(exact CC _ Q5)|(exact CC _ (Q5.alloc Q5.size _))|(exact CC _ ((Q5.setCell (p:=⟨w4.heap.size,0,Pk⟩) aj _).setCell (p:=⟨w4.heap.size,1,Pk⟩) aj _))|(exact CC _ ((Q5.alloc Q5.size _).setCell Q5.size _))|(exact CC _ (((Q5.alloc Q5.size _).setCell Q5.size _).setCell Q5.size _))|(go_keep))
       (first|(go_at_call 78;refine(QF _).mono ?_;rintro e w5 ⟨rfl,PV⟩;have Q5:PI w4.drew.heap.size w4.drew w5:=(by first|exact PV|exact(Q5.alloc Q5.size _).trans (PV.mono (by simp)));obtain⟨XI,hf5⟩:=EK PV;have Tp:=PV.size;simp at Tp))
      all_goals
       have hFD:∃DB W6:Nat,True:=⟨0,0,trivial⟩;clear hFD
       first
        |(have z0:w5.cell? ⟨w4.heap.size,0,Pk⟩=OM (PE PF 0):=(XI _ _ (by simp)).trans (ME (w:=w4) #[PE PF 0,PE PF 0] 53 w4.heap.size 0 rfl)
          have z1:w5.cell? ⟨w4.heap.size,1,Pk⟩=OM (PE PF 0):=(XI _ _ (by simp)).trans (ME (w:=w4) #[PE PF 0,PE PF 0] 53 w4.heap.size 1 rfl);have z2:w5.frozen? ⟨w4.heap.size,0,Pk⟩=false:=(hf5 _ _ (by simp)).trans (bE w4 #[PE PF 0,PE PF 0] 53 w4.heap.size aj 0);have z3:w5.frozen? ⟨w4.heap.size,1,Pk⟩=false:=(hf5 _ _ (by simp)).trans (bE w4 #[PE PF 0,PE PF 0] 53 w4.heap.size aj 1);have Sl:=(bz.mk z0 z1 z2 z3).set (s+stS dk) (d+stD dk);have B6:=(Q5.setCell (p:=⟨w4.heap.size,0,Pk⟩) aj (PE PF (s+stS dk))).setCell (p:=⟨w4.heap.size,1,Pk⟩) aj (PE PF (d+stD dk));clear z0 z1 z2 z3;have hDB:w4.heap.size<=w4.heap.size:=aj;generalize (w5.setCell ⟨w4.heap.size,0,Pk⟩ (PE PF (s+stS dk))).setCell ⟨w4.heap.size,1,Pk⟩ (PE PF (d+stD dk))=W6 at *;obtain⟨DB,aal⟩:∃DB,w4.heap.size=DB:=⟨_,rfl⟩;have akj:w4.heap.size<=DB:=(by omega);rw[aal]at Sl ⊢)
        |(have Sl:=bz.new w5 (s+stS dk) (d+stD dk)
          have B6:=Q5.alloc Q5.size (PN #[PE PF (s+stS dk),PE PF (d+stD dk)] 53);have hDB:w4.heap.size<=w5.heap.size:=Tp;generalize w5.alloc (PN #[PE PF (s+stS dk),PE PF (d+stD dk)] 53)=W6 at *;obtain⟨DB,aal⟩:∃DB,w5.heap.size=DB:=⟨_,rfl⟩;have akj:w4.heap.size<=DB:=(by omega);rw[aal]at Sl ⊢)
       have S6:=S4.below B6;have K6:=K4.below B6;clear hDB aal S4 K4 B6 x0 x1 cl CC Q5 PV XI hf5 Tp QF;have hI:=S6.lab.i0 tn YQ;cases hF:F' (tn:Int) with
       |none =>
        have Sn:∀{t u},F' (tn:Int)=OM (t,u)->val (s+stS dk) (d+stD dk)<val t u:=fun h=>by rw[hF]at h;cases h
        rw[hF]at hI;have hI:W6.cell? ⟨w.heap.size+1+1+1,tn,Pk⟩=OM (.bool PB):=hI;go_wp2;go_quiet (fail);have S7:=S6.below (below_drewN (Below.refl W6.heap.size W6) nq);have K7:=K6.drewN nq;have Sl7:=Sl.below (below_drewN (Below.refl W6.heap.size W6) nq);clear S6 K6 Sl hI;generalize W6.drewN nq=W7 at *;have PW:∀{y},aF W H bl a dk y->y=(tn:Int):=fun e=>Uo.one e rfl;obtain⟨Lx,hpx,acP⟩:=Lab.nearer (iH:=fun x=>iH TU (i+1) x) (dn:=fun j=>j∈l.take q) Vk L3 Wi Uo t1 (by omega) Sn PW;have Ly:Lab (aF W H bl) c N (aB F' tn (s+stS dk) (d+stD dk)) (fun x j=>(¬iH (TU++[tn]) (i+1) x/\x≠a)\/(x=a/\j∈l.take (q+1))):=by
         refine Lx.widen fun {x k y s d} _ _ h=>?_;rcases h with⟨h1,h2⟩|⟨h1,h2⟩
         ·exact MG ⟨fun h3=>h1 ((xZ (by omega)).2 h3),h2⟩
         ·exact MF ⟨h1,rE ZM HDK.out h2⟩
        have hp0:=Lx.pot0;have YR:=S7.len;rw[hN]at YR;have P8:FSt w (((W7.setCell ⟨w.heap.size+1+1,tn*2,Pk⟩ (PE PF (s+stS dk))).setCell ⟨w.heap.size+1+1,tn*2+1,Pk⟩ (PE PF (d+stD dk))).setCell ⟨w.heap.size+1+1+1,tn,Pk⟩ (.bool Pm)) u8 TU W H (aB F' tn (s+stS dk) (d+stD dk)):=S7.put tn YQ _ _ (by rw[hN];exact hpx);have K8:ai (fun k=>k<M0) w2 (((W7.setCell ⟨w.heap.size+1+1,tn*2,Pk⟩ (PE PF (s+stS dk))).setCell ⟨w.heap.size+1+1,tn*2+1,Pk⟩ (PE PF (d+stD dk))).setCell ⟨w.heap.size+1+1+1,tn,Pk⟩ (.bool Pm)):=K7.trans (rB W7 (w.heap.size+2) (w.heap.size+3) tn _ _) (fun k _ hk=>by omega);have y0:W7.cell? ⟨w.heap.size+1+1,tn*2,Pk⟩=OM (PE PF (js F' tn)):=S7.lab.c0 tn YQ;have y1:W7.cell? ⟨w.heap.size+1+1,tn*2+1,Pk⟩=OM (PE PF (iT F' tn)):=S7.lab.c1 tn YQ;have y2:W7.frozen? ⟨w.heap.size+1+1,tn*2,Pk⟩=false:=S7.lab.zc _;have y3:W7.frozen? ⟨w.heap.size+1+1,tn*2+1,Pk⟩=false:=S7.lab.zc _;have y4:W7.cell? ⟨w.heap.size+1+1+1,tn,Pk⟩=OM (.bool (F' tn).isSome):=S7.lab.i0 tn YQ;have y5:W7.frozen? ⟨w.heap.size+1+1+1,tn,Pk⟩=false:=S7.lab.zi _;have y6:=Sl7.c0;have y7:=Sl7.c1;have Rm:=S7.big;have n1:w.heap.size+1+1+1≠w.heap.size+1+1:=(by omega);clear S7 K7 Sl7 Lx;go_wp2_with (at_builtin;refine wpList_append_own_at _ rfl _ _ 51 rfl (w.heap.size+4) 3 i0 (PE PF 0) 1 8 underlying51 Ws P0 P3 afP rfl (by decide) _ _ _ rfl (World.ownsRow.alloc P8.own _) ⟨W7.heap.size,0,Pk⟩ 1 1 [PE PF (tn:Int)] rfl rfl ?c1 ?c2 ?c3 ?c4 ?c5 ?_)
        case c1 =>
         intro j u hj
         match j,hj with
         |0,hj =>
          simp at hj;subst hj;simp only[Addr.add];exact ME #[PE PF (tn:Int)] 3 W7.heap.size 0 (by simp)
        case c2=>intro u hu;simp at hu;subst hu;rfl
        case c3=>unfold maxLen;omega
        case c4=>omega
        case c5=>simp;omega
        intro v' w9 PS PR _ SQ;have P8a:=P8.below (al.alloc aj (PN #[PE PF (tn:Int)] 3));have P9:FSt w w9 v' (TU++[tn]) W H (aB F' tn (s+stS dk) (d+stD dk)):=P8a.app (by simpa [aH]using PS) PR ZJ (by rw[fS];rfl) (by rw[hN];omega);have K9:ai (fun k=>k<M0) w2 w9:=(K8.alloc _).grown PR (fun k hk Xz=>by rcases WZ k hk with h|h<;>omega);have acQ:∀x,v'.ownBlock=OM x->x<M0\/w2.heap.size<=x:=fun x hx=>by
         rcases SQ with h|h
         ·exact WZ x (h.symm.trans hx)
         ·right;have:=h.symm.trans hx;have h8:=K8.size;simp at this h8;omega
        clear PS PR SQ P8 P8a K8 WZ y0 y1 y2 y3 y4 y5 y6 y7;go_wp2;go_roundg (L'-(q+1))
        case measure=>have:=HGq.out;omega
        case rel=>exact⟨q+1,TU++[tn],_,by omega,rfl,by go_num,P9,Ly,acP,by simp;omega,by have:=HM.out;simp;omega,K9,acQ⟩
       |some p =>
        obtain⟨t,u⟩:=p;obtain⟨r1,r2,r3⟩:=L3.val_bd Vk hF;obtain⟨r4,r5⟩:=cE r1 r2 r3;have VU:okC t u:=(by unfold okC;omega);have afR:okC (s+stS dk) (d+stD dk):=(by unfold okC;omega);have ZN:=fun w=>rz (s+stS dk) (d+stD dk) t u w afR VU;have SU:=iV (s+stS dk) (d+stD dk) t u afR VU;rw[hF]at hI;have hI:=bH hI;have g0:W6.drew.cell? ⟨w.heap.size+1+1,tn*2,Pk⟩=OM (PE PF t):=(by have:=S6.lab.c0 tn YQ;rw[(cW hF).1]at this;exact this);have g1:W6.drew.cell? ⟨w.heap.size+1+1,tn*2+1,Pk⟩=OM (PE PF u):=(by have:=S6.lab.c1 tn YQ;rw[(cW hF).2]at this;exact this);have g2:W6.drew.cell? ⟨DB,0,Pk⟩=OM (PE PF (s+stS dk)):=Sl.c0;have g4:W6.drew.cell? ⟨DB,1,Pk⟩=OM (PE PF (d+stD dk)):=Sl.c1;have CC:∀w',PI W6.drew.heap.size W6.drew w'->w'.cell? ⟨w.heap.size+1+1+1,tn,Pk⟩=OM (.bool Pm)/\w'.cell? ⟨w.heap.size+1+1,tn*2,Pk⟩=OM (PE PF t)/\w'.cell? ⟨w.heap.size+1+1,tn*2+1,Pk⟩=OM (PE PF u)/\w'.cell? ⟨DB,0,Pk⟩=OM (PE PF (s+stS dk))/\w'.cell? ⟨DB,1,Pk⟩=OM (PE PF (d+stD dk)) :=
         fun w' hb'=>⟨(hb'.cell (aJ hI)).trans hI,(hb'.cell (aJ g0)).trans g0,(hb'.cell (aJ g1)).trans g1,(hb'.cell (aJ g2)).trans g2,(hb'.cell (aJ g4)).trans g4⟩
        have WL:PI W6.drew.heap.size W6.drew W6.drew:=al;have aam:=cI W6;by_cases UX:val (s+stS dk) (d+stD dk)<val t u
        ·have Sn:∀{t u},F' (tn:Int)=OM (t,u)->val (s+stS dk) (d+stD dk)<val t u:=fun h=>by rw[hF]at h;cases h;exact UX
         have Ue:iU (s+stS dk) (d+stD dk) t u<0:=(by rw[SU];unfold fy;rw[if_pos UX];decide);generalize iU (s+stS dk) (d+stD dk) t u=cr at *;clear SU;go_wp2;go_region_held3 (fun w'=>w'.cell? ⟨w.heap.size+1+1+1,tn,Pk⟩=OM (.bool Pm)/\w'.cell? ⟨w.heap.size+1+1,tn*2,Pk⟩=OM (PE PF t)/\w'.cell? ⟨w.heap.size+1+1,tn*2+1,Pk⟩=OM (PE PF u)/\w'.cell? ⟨DB,0,Pk⟩=OM (PE PF (s+stS dk))/\w'.cell? ⟨DB,1,Pk⟩=OM (PE PF (d+stD dk))) (first|(exact CC _ WL)) (first|(go_at_call 79;refine(ZN _).mono ?_;rintro e W7 ⟨rfl,acR⟩;have WL:=WL.trans (acR.mono WL.size)));have HBa:=aam.trans (WL.mono (by exact aj));have S7:=S6.below HBa;have K7:=K6.below HBa;have Sl7:=Sl.below HBa;clear S6 K6 Sl hI g0 g1 g2 g4 CC WL aam HBa ZN;have PW:∀{y},aF W H bl a dk y->y=(tn:Int):=fun e=>Uo.one e rfl;obtain⟨Lx,hpx,acP⟩:=Lab.nearer (iH:=fun x=>iH TU (i+1) x) (dn:=fun j=>j∈l.take q) Vk L3 Wi Uo t1 (by omega) Sn PW;have Ly:Lab (aF W H bl) c N (aB F' tn (s+stS dk) (d+stD dk)) (fun x j=>(¬iH (TU++[tn]) (i+1) x/\x≠a)\/(x=a/\j∈l.take (q+1))):=by
          refine Lx.widen fun {x k y s d} _ _ h=>?_;rcases h with⟨h1,h2⟩|⟨h1,h2⟩
          ·exact MG ⟨fun h3=>h1 ((xZ (by omega)).2 h3),h2⟩
          ·exact MF ⟨h1,rE ZM HDK.out h2⟩
         have hp0:=Lx.pot0;have YR:=S7.len;rw[hN]at YR;have P8:FSt w (((W7.setCell ⟨w.heap.size+1+1,tn*2,Pk⟩ (PE PF (s+stS dk))).setCell ⟨w.heap.size+1+1,tn*2+1,Pk⟩ (PE PF (d+stD dk))).setCell ⟨w.heap.size+1+1+1,tn,Pk⟩ (.bool Pm)) u8 TU W H (aB F' tn (s+stS dk) (d+stD dk)):=S7.put tn YQ _ _ (by rw[hN];exact hpx);have K8:ai (fun k=>k<M0) w2 (((W7.setCell ⟨w.heap.size+1+1,tn*2,Pk⟩ (PE PF (s+stS dk))).setCell ⟨w.heap.size+1+1,tn*2+1,Pk⟩ (PE PF (d+stD dk))).setCell ⟨w.heap.size+1+1+1,tn,Pk⟩ (.bool Pm)):=K7.trans (rB W7 (w.heap.size+2) (w.heap.size+3) tn _ _) (fun k _ hk=>by omega);have y0:W7.cell? ⟨w.heap.size+1+1,tn*2,Pk⟩=OM (PE PF (js F' tn)):=S7.lab.c0 tn YQ;have y1:W7.cell? ⟨w.heap.size+1+1,tn*2+1,Pk⟩=OM (PE PF (iT F' tn)):=S7.lab.c1 tn YQ;have y2:W7.frozen? ⟨w.heap.size+1+1,tn*2,Pk⟩=false:=S7.lab.zc _;have y3:W7.frozen? ⟨w.heap.size+1+1,tn*2+1,Pk⟩=false:=S7.lab.zc _;have y4:W7.cell? ⟨w.heap.size+1+1+1,tn,Pk⟩=OM (.bool (F' tn).isSome):=S7.lab.i0 tn YQ;have y5:W7.frozen? ⟨w.heap.size+1+1+1,tn,Pk⟩=false:=S7.lab.zi _;have y6:=Sl7.c0;have y7:=Sl7.c1;have Rm:=S7.big;have n1:w.heap.size+1+1+1≠w.heap.size+1+1:=(by omega);clear S7 K7 Sl7 Lx;go_wp2_with (at_builtin;refine wpList_append_own_at _ rfl _ _ 51 rfl (w.heap.size+4) 3 i0 (PE PF 0) 1 8 underlying51 Ws P0 P3 afP rfl (by decide) _ _ _ rfl (World.ownsRow.alloc P8.own _) ⟨W7.heap.size,0,Pk⟩ 1 1 [PE PF (tn:Int)] rfl rfl ?c1 ?c2 ?c3 ?c4 ?c5 ?_)
         case c1 =>
          intro j u hj
          match j,hj with
          |0,hj =>
           simp at hj;subst hj;simp only[Addr.add];exact ME #[PE PF (tn:Int)] 3 W7.heap.size 0 (by simp)
         case c2=>intro u hu;simp at hu;subst hu;rfl
         case c3=>unfold maxLen;omega
         case c4=>omega
         case c5=>simp;omega
         intro v' w9 PS PR _ SQ;have P8a:=P8.below (al.alloc aj (PN #[PE PF (tn:Int)] 3));have P9:FSt w w9 v' (TU++[tn]) W H (aB F' tn (s+stS dk) (d+stD dk)):=P8a.app (by simpa [aH]using PS) PR ZJ (by rw[fS];rfl) (by rw[hN];omega);have K9:ai (fun k=>k<M0) w2 w9:=(K8.alloc _).grown PR (fun k hk Xz=>by rcases WZ k hk with h|h<;>omega);have acQ:∀x,v'.ownBlock=OM x->x<M0\/w2.heap.size<=x:=fun x hx=>by
          rcases SQ with h|h
          ·exact WZ x (h.symm.trans hx)
          ·right;have:=h.symm.trans hx;have h8:=K8.size;simp at this h8;omega
         clear PS PR SQ P8 P8a K8 WZ y0 y1 y2 y3 y4 y5 y6 y7;go_wp2;go_roundg (L'-(q+1))
         case measure=>have:=HGq.out;omega
         case rel=>exact⟨q+1,TU++[tn],_,by omega,rfl,by go_num,P9,Ly,acP,by simp;omega,by have:=HM.out;simp;omega,K9,acQ⟩
        ·have Ue:¬iU (s+stS dk) (d+stD dk) t u<0:=(by rw[SU];unfold fy;rw[if_neg UX];split<;>decide);generalize iU (s+stS dk) (d+stD dk) t u=cr at *;clear SU;have PW:∀{y},aF W H bl a dk y->y=(tn:Int):=fun e=>Uo.one e rfl;have Lx:=Lab.asfar (iH:=fun x=>iH TU (i+1) x) (dn:=fun j=>j∈l.take q) L3 Wi hF (by omega) PW;have Ly:Lab (aF W H bl) c N F' (fun x j=>(¬iH TU (i+1) x/\x≠a)\/(x=a/\j∈l.take (q+1))):=by
          refine Lx.widen fun {x k y s d} _ _ h=>?_;rcases h with h1|⟨h1,h2⟩
          ·exact MG h1
          ·exact MF ⟨h1,rE ZM HDK.out h2⟩
         go_wp2;go_region_held3 (fun w'=>w'.cell? ⟨w.heap.size+1+1+1,tn,Pk⟩=OM (.bool Pm)/\w'.cell? ⟨w.heap.size+1+1,tn*2,Pk⟩=OM (PE PF t)/\w'.cell? ⟨w.heap.size+1+1,tn*2+1,Pk⟩=OM (PE PF u)/\w'.cell? ⟨DB,0,Pk⟩=OM (PE PF (s+stS dk))/\w'.cell? ⟨DB,1,Pk⟩=OM (PE PF (d+stD dk))) (first|(exact CC _ WL)) (first|(go_at_call 79;refine(ZN _).mono ?_;rintro e W7 ⟨rfl,acR⟩;have WL:=WL.trans (acR.mono WL.size)));have HBa:=aam.trans (WL.mono (by exact aj));have S7:=S6.below HBa;have K7:=K6.below HBa;clear S6 K6 Sl hI g0 g1 g2 g4 CC WL aam HBa ZN;go_wp2;go_roundg (L'-(q+1))
         case measure=>have:=HGq.out;omega
         case rel=>exact⟨q+1,TU,F',by omega,rfl,by go_num,S7,Ly,Wi,hi3,HM.out,K7,WZ⟩
     ·have hqL:q=L':=(by omega);subst hqL;have Lz:Lab (aF W H bl) c N F' (fun x _=>¬iH TU (i+1) x):=by
       refine L3.widen fun {x k y s d} _ e h=>?_;by_cases hx:x=a
       ·refine MF ⟨hx,?_⟩;rw[List.take_of_length_le (by rw[HL.out];exact aj),<- hl.eq,uL];obtain⟨e1,_,e3,_⟩:=e;rw[hx]at e3;exact⟨e1,e3⟩
       ·exact MG ⟨h,hx⟩
      go_wp2;go_roundg ((pot F' N).toNat+(TU.length-(i+1)))
      case measure=>have:=HG.out;have:=HM.out;omega
      case rel=>exact⟨TU,i+1,F',by omega,rfl,by go_num,S3,Lz⟩
  ·have SJ:i=td.length:=(by omega);subst SJ;have B:ct (aF W H bl) c F:=Lab.done Vk (L.widen fun {x k y s d} _ _ _=>by rintro⟨j,j1,j2,_⟩;omega);clear L HG PO hlen SO;rcases S.own.2 with⟨rfl,h0⟩|⟨gt,cap,cur,rfl,PX,hg,_⟩
   all_goals
    have q0:=S.lab.rangeC;have q4:=S.lab.rangeI;have q5:=S.r0;have q6:=S.r1;have hB:=S.bel;have o1:=lK F;have o2:=p6 F;have Ql:=di F;have SJ:=lJ F;have akk:∀w',ct (aF W H bl) c F->PI w.heap.size w w'->x7 w w' (PM (.tuple #[.agg (cX F).toArray,.agg (isL F).toArray])) W H bl c:=fun w' b h=>⟨F,rfl,b,h⟩;generalize cX F=cs at *;generalize isL F=is' at *;have arS:=Hb;have arT:=Hc;have afS:(prog.info? 96).map (·.size)=OM cs.length:=(by rw[Ql];exact Am);have afT:(prog.info? 36).map (·.size)=OM is'.length:=(by rw[SJ];exact Ao);have SS:wr.drew.rangeAt (w.heap.size+1+1) 0 cs/\wr.drew.rangeAt (w.heap.size+1+1+1) 0 is'/\wr.drew.there w.heap.size 0 512/\wr.drew.there (w.heap.size+1) 0 256:=⟨q0,q4,q5,q6⟩;have e5:wr.drew.there w.heap.size 0 512:=q5;have e6:wr.drew.there (w.heap.size+1) 0 256:=q6;have e7:(wr.drew.setCells w.heap.size 0 cs).there (w.heap.size+1) 0 256:=NU e6 _ _ _;have SS2:(wr.drew.setCells w.heap.size 0 cs).rangeAt (w.heap.size+1+1) 0 cs/\(wr.drew.setCells w.heap.size 0 cs).rangeAt (w.heap.size+1+1+1) 0 is'/\(wr.drew.setCells w.heap.size 0 cs).there w.heap.size 0 512/\(wr.drew.setCells w.heap.size 0 cs).there (w.heap.size+1) 0 256 :=
     ⟨NL SS.1 _ _ _ (MG (by omega)),NL SS.2.1 _ _ _ (MG (by omega)),NU e5 _ _ _,e7⟩
    have SS3:((wr.drew.setCells w.heap.size 0 cs).setCells (w.heap.size+1) 0 is').rangeAt (w.heap.size+1+1) 0 cs/\((wr.drew.setCells w.heap.size 0 cs).setCells (w.heap.size+1) 0 is').rangeAt (w.heap.size+1+1+1) 0 is'/\((wr.drew.setCells w.heap.size 0 cs).setCells (w.heap.size+1) 0 is').there w.heap.size 0 512/\((wr.drew.setCells w.heap.size 0 cs).setCells (w.heap.size+1) 0 is').there (w.heap.size+1) 0 256 :=
     ⟨NL SS2.1 _ _ _ (MG (by omega)),NL SS2.2.1 _ _ _ (MG (by omega)),NU SS2.2.2.1 _ _ _,NU SS2.2.2.2 _ _ _⟩
    have RC:((wr.drew.setCells w.heap.size 0 cs).setCells (w.heap.size+1) 0 is').rangeAt w.heap.size 0 cs:=NL (NG _ _ _ _ (by rw[Ql];exact e5)) _ _ _ (MG (by omega));have RI:((wr.drew.setCells w.heap.size 0 cs).setCells (w.heap.size+1) 0 is').rangeAt (w.heap.size+1) 0 is':=NG _ _ _ _ (by rw[SJ];exact e7);have akl:=run_loadVar_mid (P:=prog) _ _ 0 96 cs _ RC Hb rfl afS;have akm:=run_loadVar_mid (P:=prog) _ _ 0 36 is' _ RI Hc rfl afT;have hBd:PI w.heap.size w ((wr.drew.setCells w.heap.size 0 cs).setCells (w.heap.size+1) 0 is'):=bW _ (by omega) _ _ (bW _ aj _ _ hB.drew);clear S q0 q4 q5 q6 hB;go_wp2;refine wp_region_held_drew (S:=fun w'=>w'.rangeAt (w.heap.size+1+1) 0 cs/\w'.rangeAt (w.heap.size+1+1+1) 0 is'/\w'.there w.heap.size 0 512/\w'.there (w.heap.size+1) 0 256) (by kernel_rfl) SS (fun P4=>?_);refine wpAnyH_take (i:=0) (v:=.agg cs.toArray) rfl (by kernel_rfl) (by kernel_rfl) (by kernel_rfl) (fun _ _ _ h=>h) (yieldsIf_load_mid (by rfl) 96 (.tmp 6) rfl (w.heap.size+1+1) 0 rfl cs _ (fun _ h=>h.1) Hb rfl afS) P4 ?_;simp only[Act.put];refine wpAnyH_take (i:=1) (v:=.agg is'.toArray) rfl (by kernel_rfl) (by kernel_rfl) (by kernel_rfl) (fun _ _ _ h=>h) (yieldsIf_load_mid (by rfl) 36 (.tmp 7) rfl (w.heap.size+1+1+1) 0 rfl is' _ (fun _ h=>h.2.1) Hc rfl afT) P4 ?_;simp only[Act.put];refine wpAnyH_ready (rs:=[2]) (by kernel_rfl) (by simp) ?_;refine AllReadyH.cons rfl (fun K hK=>?_) AllReadyH.nil;rw[if_pos (by rfl)];refine wp_store_mid 96 (.tmp 4) (.tmp 82) rfl w.heap.size 0 cs.toArray rfl rfl (by simpa [Ql]using e5) (by simpa [Ql]using Am) (all_oneCell_toArray o1) ?_;refine hK.out _ _ SS2 (fun UL=>?_);refine wpAnyH_ready (rs:=[3]) (by kernel_rfl) (by simp) ?_;refine AllReadyH.cons rfl (fun K2 hK2=>?_) AllReadyH.nil;rw[if_pos (by rfl)];refine wp_store_mid 36 (.tmp 5) (.tmp 83) rfl (w.heap.size+1) 0 is'.toArray rfl rfl (by simpa [SJ]using e7) (by simpa [SJ]using Ao) (all_oneCell_toArray o2) ?_;refine hK2.out _ _ SS3 (fun akn=>?_);refine wpAnyH_done (by kernel_rfl) ?_ _;clear hK hK2 K K2;go_wp2;exact bodyPost_ret (v:=.tuple #[.agg cs.toArray,.agg is'.toArray]) (x9 results39 rfl rfl akl akm) rfl (akk _ B hBd)
end
section
open Go.RowKit
def Row (w:PG) (v:PH) (n:Nat) (it:Nat->br):Prop :=
 ∃xs,w.ownsRow 0 263 3 v n xs/\∀i,i<n->xs[i*3]? = OM (PE PF (it i).id)/\xs[i*3+1]? = OM (PE PF (it i).s)/\xs[i*3+2]? = OM (PE PF (it i).d)
theorem Row.keep {F:Nat->Prop}{it:Nat->br}(h:Row w v n it)(hk:ai F w w')(hn:∀g,v.ownBlock=OM g->¬F g):Row w' v n it:=by
 obtain⟨xs,ho,hx⟩:=h;refine⟨xs,⟨ho.1,?_⟩,hx⟩;rcases ho.2 with hl|⟨g,cap,cur,rfl,hb,Tb,rest⟩
 ·exact .inl hl
 ·refine .inr ⟨g,cap,cur,rfl,hb,?_,rest⟩;rw[hk.block g (Na.1 Tb).1 (hn g rfl)];exact Tb
theorem Row.pos {it:Nat->br}(h:Row w v n it)(hn:0<n):∃g cap,v=.slice (OM ⟨g,0,Pk⟩) n cap/\n<=cap/\cap<=maxLen/\g<w.heap.size:=by
 obtain⟨xs,ho,hx⟩:=h;rcases ho.2 with⟨_,h0⟩|⟨g,cap,cur,rfl,hb,Tb,h1,h2,_⟩
 ·omega
 ·exact⟨g,cap,rfl,h1,h2,(Na.1 Tb).1⟩
theorem Row.cells {it:Nat->br}(h:Row w (.slice (OM ⟨g,0,Pk⟩) n cap) n it){i:Nat}(hi:i<n) :
  w.cell? ⟨g,i*3,Pk⟩=OM (PE PF (it i).id)/\w.cell? ⟨g,i*3+1,Pk⟩=OM (PE PF (it i).s)/\w.cell? ⟨g,i*3+2,Pk⟩=OM (PE PF (it i).d):=by
 obtain⟨xs,ho,hx⟩:=h;obtain⟨h1,h2,h3⟩:=hx i hi;exact⟨(ho.cellAt _ (by omega)).trans h1,(ho.cellAt _ (by omega)).trans h2,(ho.cellAt _ (by omega)).trans h3⟩
theorem Row.free {it:Nat->br}(h:Row w (.slice (OM ⟨g,0,Pk⟩) n cap) n it)(j:Nat):w.frozen? ⟨g,j,Pk⟩=false:=by
 obtain⟨xs,ho,hx⟩:=h;exact ho.frozenAt j
theorem Row.set {it:Nat->br}(h:Row w (.slice (OM ⟨g,0,Pk⟩) n cap) n it){i:Nat}(hi:i<n)(x:br) :
  Row (((w.setCell ⟨g,i*3,Pk⟩ (PE PF x.id)).setCell ⟨g,i*3+1,Pk⟩ (PE PF x.s)).setCell ⟨g,i*3+2,Pk⟩ (PE PF x.d)) (.slice (OM ⟨g,0,Pk⟩) n cap) n (dB it i x):=by
 obtain⟨xs,ho,hx⟩:=h;have h1:=(ho.stored (i*3) (PE PF x.id)).1;have h2:=(h1.stored (i*3+1) (PE PF x.s)).1;have h3:=(h2.stored (i*3+2) (PE PF x.d)).1;refine⟨_,h3,fun k hk=>?_⟩;have hl:xs.length=n*3:=ho.1;by_cases e:k=i
 ·subst e;rw[cZ];simp[List.getElem?_set,hl];omega
 ·rw[bY it x e];obtain⟨a1,a2,a3⟩:=hx k hk;refine⟨?_,?_,?_⟩
  ·rw[N4 (by omega),N4 (by omega),N4 (by omega)];exact a1
  ·rw[N4 (by omega),N4 (by omega),N4 (by omega)];exact a2
  ·rw[N4 (by omega),N4 (by omega),N4 (by omega)];exact a3
structure Rep (w:PG) (b mb:Nat) (v:PH) (n:Nat) (it:Nat->br) (f:Int->Option PH) (m:Nat):Prop where
 c0:w.cell? ⟨b,0,Pk⟩=OM v
 c1:w.cell? ⟨b,1,Pk⟩=OM (.map (OM mb))
 f0:w.frozen? ⟨b,0,Pk⟩=PB
 row:Row w v n it
 map:aZ prog 3 w mb f m
 nb:v.ownBlock≠OM b
theorem Tryz.under51:Tryz.prog.underlying 129=OM (.map 3 3):=by kernel_rfl
theorem kP (w:PG):(zeroValue 3).run prog w=.ok (PE PF 0) w:=by kernel_rfl
theorem Rep.blocks {it:Nat->br}(R:Rep w b mb v n it f m):b<w.heap.size/\mb<w.heap.size/\b≠mb/\∀g,v.ownBlock=OM g->g<w.heap.size/\g≠b/\g≠mb:=by
 have hb:b<w.heap.size:=MK w _ R.c0;refine⟨hb,R.map.lt,?_,fun g hg=>⟨?_,?_,?_⟩⟩
 ·intro e;have h:=R.map.cell 0;rw[<- e,R.c0]at h;cases h
 ·obtain⟨xs,ho,_⟩:=R.row;exact(ho.lt g hg).2
 ·intro e;exact R.nb (by rw[hg,e])
 ·intro e;obtain⟨xs,ho,_⟩:=R.row;obtain⟨D,⟨es,clock,h1,_⟩,_⟩:=R.map;rcases ho.2 with⟨rfl,_⟩|⟨g',cap,cur,rfl,_,Tb,_⟩
  ·cases hg
  ·simp only[NA,Option.some.injEq]at hg;rw[hg,e,h1]at Tb;cases Tb
theorem Rep.keep {F:Nat->Prop}{it:Nat->br}(R:Rep w b mb v n it f m)(hk:ai F w w')(h1:¬F b)(h2:¬F mb)(h3:∀g,v.ownBlock=OM g->¬F g):Rep w' b mb v n it f m:=by
 have hb:=R.blocks.1;exact⟨(hk.cell (p:=⟨b,0,Pk⟩) hb h1).trans R.c0,(hk.cell (p:=⟨b,1,Pk⟩) hb h1).trans R.c1,(hk.frozen (p:=⟨b,0,Pk⟩) hb h1).trans R.f0,R.row.keep hk h3,R.map.keep hk h2,R.nb⟩
theorem Rep.below {it:Nat->br}(R:Rep w b mb v n it f m)(hb:PI w.heap.size w w'):Rep w' b mb v n it f m :=
 R.keep (F:=fun _=>False) (ai.of_below hb) id id (fun _ _=>id)
theorem nV {it:Nat->br}(i:Nat)(a s d:Int)(w:PG)(R:Rep w b mb (.slice (OM ⟨g,0,Pk⟩) n cap) n it f m)(hi:i<n)(hm:m<=1000000)(ha:(Lit.int .i64 a).wf=Pm) :
  PK prog 174 #[.pointer (OM ⟨b,0,Pk⟩),PE PF i,.agg #[PE PF a,PE PF s,PE PF d]] w fun e w'=>e=PM (.tuple #[])/\Rep w' b mb (.slice (OM ⟨g,0,Pk⟩) n cap) n (dB it i ⟨a,s,d⟩) (bL f a (PE PF i)) (if (f a).isSome then m else m+1)/\ai (fun k=>k=g\/k=mb) w w':=by
 obtain⟨hb,hmb,Vl,TT⟩:=R.blocks;obtain⟨hg,Uk,hgm⟩:=TT g rfl;obtain⟨c0,c1,f0,row,map,nb⟩:=R;obtain⟨q1,q2,q3⟩:=row.cells hi;have r1:=row.free (i*3);have r2:=row.free (i*3+1);have r3:=row.free (i*3+2);have hj:(i:Int)<(n:Int):=by omega
 have HW:∃W1:PG,W1=((((w.setCell ⟨g,i*3,Pk⟩ (PE PF a)).setCell ⟨g,i*3+1,Pk⟩ (PE PF s)).setCell ⟨g,i*3+2,Pk⟩ (PE PF d)).alloc (PN #[PE PF a,PE PF s,PE PF d] 263)).drew /\
   ai (fun k=>k=g) w W1/\Row W1 (.slice (OM ⟨g,0,Pk⟩) n cap) n (dB it i ⟨a,s,d⟩)/\W1.cell? ⟨w.heap.size,0,Pk⟩=OM (PE PF a)/\W1.heap.size=w.heap.size+1:=by
  have K0:ai (fun k=>k=g) w (((w.setCell ⟨g,i*3,Pk⟩ (PE PF a)).setCell ⟨g,i*3+1,Pk⟩ (PE PF s)).setCell ⟨g,i*3+2,Pk⟩ (PE PF d)) :=
   (((ai.refl (fun k=>k=g) w).setCell (p:=⟨g,i*3,Pk⟩) (fun _=>rfl) _).setCell (p:=⟨g,i*3+1,Pk⟩) (fun _=>rfl) _).setCell (p:=⟨g,i*3+2,Pk⟩) (fun _=>rfl) _
  refine⟨_,rfl,(K0.alloc _).drew,?_,?_,?_⟩
  ·exact(row.set hi ⟨a,s,d⟩).keep (F:=fun _=>False) ((ai.refl _ _).alloc _).drew (fun _ _=>id)
  ·exact ME #[PE PF a,PE PF s,PE PF d] 263 w.heap.size 0 (by simp)
  ·simp
 obtain⟨W1,eW,K1,QR,q0,Rx⟩:=HW;have d1:W1.cell? ⟨b,1,Pk⟩=OM (.map (OM mb)):=(K1.cell (p:=⟨b,1,Pk⟩) hb (fun e=>Uk e.symm)).trans c1;have YS:aZ prog 3 W1.drew mb f m:=(map.keep K1 (fun e=>hgm e.symm)).kept rfl;obtain⟨w2,Qs,M2,T2⟩:=YS.store aY Tryz.under51 (by unfold maxLen;omega) ha (PE PF i);have K2:=aA T2;have RR:Rep w2 b mb (.slice (OM ⟨g,0,Pk⟩) n cap) n (dB it i ⟨a,s,d⟩) (bL f a (PE PF i)) (if (f a).isSome then m else m+1):=by
  refine⟨?_,?_,?_,(QR.keep (F:=fun _=>False) (ai.refl _ W1).drew (fun _ _=>id)).keep K2 (fun x hx=>?_),M2,nb⟩
  ·exact(K2.cell (p:=⟨b,0,Pk⟩) (by show b<W1.heap.size;omega) Vl).trans ((K1.cell (p:=⟨b,0,Pk⟩) hb (fun e=>Uk e.symm)).trans c0)
  ·exact(K2.cell (p:=⟨b,1,Pk⟩) (by show b<W1.heap.size;omega) Vl).trans d1
  ·exact(K2.frozen (p:=⟨b,0,Pk⟩) (by show b<W1.heap.size;omega) Vl).trans ((K1.frozen (p:=⟨b,0,Pk⟩) hb (fun e=>Uk e.symm)).trans f0)
  ·simp only[NA,Option.some.injEq]at hx;rw[<- hx];exact hgm
 have KK:ai (fun k=>k=g\/k=mb) w w2:=(K1.mono (fun _ _ h=>MG h)).trans ((ai.refl (fun k=>k=mb) W1).drew.trans K2 (fun _ _ h=>h)) (fun _ _ h=>MF h);clear K1 QR YS M2 T2 K2 map row nb;go_enter func174,ntmps174;go_wp2;go_region;go_wp2;rw[<- eW];clear eW q1 q2 q3 r1 r2 r3 c0 c1 f0;go_region;go_end0;exact⟨rfl,RR,KK⟩
end
section
open Go.RowKit
theorem Jy (n:Int)(w:PG)(h1:-8388608<=n)(h2:n<=8388608) :
  PK prog 237 #[PE PF n] w fun e w'=>e=PM (PE PF (sqs n))/\w'=w:=by
 obtain⟨b1,b2⟩:=iJ n h1 h2;have e1:-n*n=-(n*n):=Of n n;have b3:-70368744177664<=-n*n:=by omega
 have b4:-n*n<=0:=by omega
 clear e1;by_cases h:n<0
 ·have e:sqs n=-n*n:=by unfold sqs;rw[if_pos h]
  rw[e];clear e;go_enter func237,ntmps237;go_wp2;go_ret;exact⟨rfl,rfl⟩
 ·have e:sqs n=n*n:=by unfold sqs;rw[if_neg h]
  rw[e];clear e;go_enter func237,ntmps237;go_wp2;go_ret;exact⟨rfl,rfl⟩
theorem oZ (n:Int)(w:PG) :
  PK prog 256 #[PE PF n] w fun e w'=>e=PM (.bool PB)/\w'=w:=by
 go_enter func256,ntmps256;go_wp2;go_ret;exact⟨rfl,rfl⟩
theorem Hg (a b:Int)(w:PG) :
  PK prog 236 #[PE PF a,PE PF b] w fun e w'=>e=PM (PE PF (fy a b))/\w'=w:=by
 by_cases h:a<b
 ·have e:fy a b=-1:=by unfold fy;rw[if_pos h]
  rw[e];clear e;go_enter func236,ntmps236;go_wp2_with (go_at_call 256;refine(oZ _ _).mono ?_;rintro e w' ⟨rfl,rfl⟩);go_ret;exact⟨rfl,rfl⟩
 ·by_cases h2:b<a
  ·have e:fy a b=1:=(by unfold fy;rw[if_neg h,if_pos h2]);rw[e];clear e;go_enter func236,ntmps236;go_wp2_with (go_at_call 256;refine(oZ _ _).mono ?_;rintro e w' ⟨rfl,rfl⟩);go_ret;exact⟨rfl,rfl⟩
  ·have e:fy a b=0:=(by unfold fy;rw[if_neg h,if_neg h2]);rw[e];clear e;go_enter func236,ntmps236;go_wp2_with (go_at_call 256;refine(oZ _ _).mono ?_;rintro e w' ⟨rfl,rfl⟩);go_ret;exact⟨rfl,rfl⟩
theorem pI (s d t u:Int)(w:PG)(h:okC s d)(k:okC t u) :
  PK prog 205 #[.agg #[PE PF s,PE PF d],.agg #[PE PF t,PE PF u]] w fun e w'=>e=PM (PE PF (iU s d t u))/\PI w.heap.size w w':=by
 obtain⟨h1,h2,h3,h4⟩:=h;obtain⟨k1,k2,k3,k4⟩:=k;have b:=J9 (u-d) (by omega) (by omega);go_enter func205,ntmps205;go_wp2_with (first|(go_at_call 237;refine(Jy _ _ ?_ ?_).mono ?_;(omega);(omega);rintro e w' ⟨rfl,rfl⟩)|(go_at_call 236;refine(Hg _ _ _).mono ?_;rintro e w' ⟨rfl,rfl⟩));go_ret;exact⟨rfl,(al.alloc aj _).alloc (by simp) _⟩
theorem Hi (s d t u:Int)(w:PG)(h:okC s d)(k:okC t u) :
  PK prog 178 #[.agg #[PE PF s,PE PF d],.agg #[PE PF t,PE PF u]] w fun e w'=>e=PM (.bool (decide (iU s d t u<0)))/\PI w.heap.size w w':=by
 go_enter func178,ntmps178;go_wp2_with (go_at_call 205;refine(pI s d t u _ h k).mono ?_;rintro e w' ⟨rfl,hb⟩);go_ret;exact⟨rfl,(al.alloc aj _).alloc (by simp) _ |>.trans (hb.mono (by simp;omega))⟩
theorem jU (hr:ltB s d t u=r)(w:PG)(h:okC s d)(k:okC t u) :
  PK prog 178 #[.agg #[PE PF s,PE PF d],.agg #[PE PF t,PE PF u]] w fun e w'=>e=PM (.bool r)/\PI w.heap.size w w':=hr▸Hi s d t u w h k
theorem Ej {r:Int}(hr:iU s d t u=r)(w:PG)(h:okC s d)(k:okC t u) :
  PK prog 205 #[.agg #[PE PF s,PE PF d],.agg #[PE PF t,PE PF u]] w fun e w'=>e=PM (PE PF r)/\PI w.heap.size w w':=hr▸pI s d t u w h k
end
section
open Go.RowKit
def mG (x y:br):Bool:=decide (x.v<y.v) || (decide (x.v=y.v)&&decide (x.id<y.id))
theorem rG (x y:br):mG x y=Pm↔bef x y:=by
 unfold mG bef;simp
theorem tK {x y:br}(h:bef x y):mG x y=true:=(rG x y).mpr h
theorem Ap {x y:br}(h:¬bef x y):mG x y=false:=by
 cases e:mG x y with
 |false=>rfl
 |true=>exact absurd ((rG x y).mp e) h
theorem Ch {x y:br}(h:mG x y=Pm):bef x y:=(rG x y).mp h
theorem l7 {x y:br}(h:mG x y=PB):¬bef x y:=fun k=>by rw[tK k]at h;cases h
theorem Hj (i:Nat)(w:PG)(h:0<i)(h2:i<=1000000):PK prog 255 #[PE PF i] w fun e w'=>e=PM (PE PF (upN i))/\w'=w:=by
 have e:((upN i:Nat):Int)=((i:Int)-1)/2:=by unfold upN;omega
 have h3:(1:Int)<=(i:Int):=by omega
 have h4:(i:Int)<=1000000:=by omega
 rw[e];go_enter func255,ntmps255;go_wp2;go_ret;exact⟨rfl,rfl⟩
theorem Aq {it:Nat->br}(i j:Nat)(w:PG)(R:Rep w b mb (.slice (OM ⟨g,0,Pk⟩) n cap) n it f m)(hi:i<n)(hj:j<n)(ki:okC (it i).s (it i).d)(kj:okC (it j).s (it j).d) :
  PK prog 235 #[.pointer (OM ⟨b,0,Pk⟩),PE PF i,PE PF j] w fun e w'=>e=PM (.bool (mG (it i) (it j)))/\PI w.heap.size w w':=by
 obtain⟨hb,hmb,Vl,TT⟩:=R.blocks;obtain⟨hg,Uk,hgm⟩:=TT g rfl;obtain⟨c0,c1,f0,row,map,nb⟩:=R;obtain⟨q1,q2,q3⟩:=row.cells hi;obtain⟨p1,p2,p3⟩:=row.cells hj;have h1:(i:Int)<(n:Int):=by omega
 have h2:(j:Int)<(n:Int):=by omega
 have hc:=iV (it i).s (it i).d (it j).s (it j).d ki kj;have QS:(iU (it i).s (it i).d (it j).s (it j).d=-1/\mG (it i) (it j)=Pm)\/(iU (it i).s (it i).d (it j).s (it j).d=1/\mG (it i) (it j)=PB) \/
   (iU (it i).s (it i).d (it j).s (it j).d=0/\mG (it i) (it j)=decide ((it i).id<(it j).id)):=by
  have W9:iU (it i).s (it i).d (it j).s (it j).d=if (it i).v<(it j).v then -1 else if (it j).v<(it i).v then 1 else 0:=hc
  rw[W9];by_cases e1:(it i).v<(it j).v
  ·left;exact⟨if_pos e1,tK (MG e1)⟩
  ·by_cases e2:(it j).v<(it i).v
   ·right;left;exact⟨by rw[if_neg e1,if_pos e2],Ap (by unfold bef;omega)⟩
   ·right;right;refine⟨by rw[if_neg e1,if_neg e2],?_⟩;have e3:(it i).v=(it j).v:=(by omega);unfold mG;simp[e3]
 clear map row nb hc TT;generalize (it i).id=ia at *;generalize (it i).s=sa at *;generalize (it i).d=da at *;generalize (it j).id=ib at *;generalize (it j).s=sb at *;generalize (it j).d=db at *;rcases QS with⟨hr,hB⟩|⟨hr,hB⟩|⟨hr,hB⟩
 all_goals
  rw[hB];clear hB;go_enter func235,ntmps235;go_wp2;go_region
  all_goals
   go_wp2_with (go_at_call 205;refine(Ej hr _ ki kj).mono ?_;rintro e w' ⟨rfl,hb1⟩;obtain⟨hq1,hq2⟩:=EK hb1);go_ret;exact⟨rfl,Below.trans (((al.drew).alloc aj _).alloc (by simp) _) (hb1.mono (by simp;omega))⟩
end
section
open Go.RowKit
theorem Hk {b mb g cap n m:Nat}{it:Nat->br}{f:Int->Option PH}(i j:Nat)(w:PG)(R:Rep w b mb (.slice (OM ⟨g,0,Pk⟩) n cap) n it f m)(hi:i<n)(hj:j<n)(hm:m<=1000000)
  (ki:(Lit.int .i64 (it i).id).wf=Pm) (kj:(Lit.int .i64 (it j).id).wf=Pm) (fi:(f (it i).id).isSome=Pm) (fj:(f (it j).id).isSome=Pm) :
  PK prog 204 #[.pointer (OM ⟨b,0,Pk⟩),PE PF i,PE PF j] w fun e w'=>e=PM (.tuple #[])/\Rep w' b mb (.slice (OM ⟨g,0,Pk⟩) n cap) n (swI it i j) (bL (bL f (it j).id (PE PF i)) (it i).id (PE PF j)) m/\ai (fun k=>k=g\/k=mb) w w':=by
 obtain⟨hb,hmb,Vl,TT⟩:=R.blocks;obtain⟨hg,Uk,hgm⟩:=TT g rfl;have R0:=R;obtain⟨c0,c1,f0,row,map,nb⟩:=R;obtain⟨q1,q2,q3⟩:=row.cells hi;obtain⟨p1,p2,p3⟩:=row.cells hj;have h1:(i:Int)<(n:Int):=by omega
 have h2:(j:Int)<(n:Int):=by omega
 have hs:=Ju it i j;rw[hs];have e1:(if (f (it j).id).isSome then m else m+1)=m:=if_pos fj;have fi2:(bL f (it j).id (PE PF i) (it i).id).isSome=true:=by
  unfold bL;split
  ·rfl
  ·exact fi
 have e2:(if (bL f (it j).id (PE PF i) (it i).id).isSome then m else m+1)=m:=if_pos fi2;have P1:=fun w R=>nV (b:=b) (mb:=mb) (g:=g) (cap:=cap) (n:=n) (m:=m) (it:=it) (f:=f) i (it j).id (it j).s (it j).d w R hi hm kj;have P2:=fun w R=>nV (b:=b) (mb:=mb) (g:=g) (cap:=cap) (n:=n) (m:=m) (it:=dB it i (it j)) (f:=bL f (it j).id (PE PF i)) j (it i).id (it i).s (it i).d w R hj hm ki;rw[e1]at P1;rw[e2]at P2;have hR:∀w',PI w.heap.size w w'->Rep w' b mb (.slice (OM ⟨g,0,Pk⟩) n cap) n it f m:=fun w' h=>R0.below h;clear map row nb TT fi fj fi2 e1 e2 hs R0;have ako:dB it i ⟨(it j).id,(it j).s,(it j).d⟩=dB it i (it j):=rfl;have akp:dB (dB it i (it j)) j ⟨(it i).id,(it i).s,(it i).d⟩=dB (dB it i (it j)) j (it i):=rfl;rw[ako]at P1;rw[akp]at P2;generalize dB (dB it i (it j)) j (it i)=it2 at *;generalize dB it i (it j)=it1 at *;generalize (it i).id=ia at *;generalize (it i).s=sa at *;generalize (it i).d=da at *;generalize (it j).id=ib at *;generalize (it j).s=sb at *;generalize (it j).d=db at *;generalize bL (bL f ib (PE PF i)) ia (PE PF j)=f2 at *;generalize bL f ib (PE PF i)=f1 at *;go_enter func204,ntmps204;go_wp2;go_region
 all_goals
  go_wp2_with (go_at_call 174;fail);have HB:PI w.heap.size w (((w.alloc (PN #[PE PF ia,PE PF sa,PE PF da] 263)).alloc (PN #[PE PF ib,PE PF sb,PE PF db] 263)).drew):=((al.alloc aj _).alloc (by simp) _).drew;have Xa:PI w.heap.size w (((w.alloc (PN #[PE PF ib,PE PF sb,PE PF db] 263)).alloc (PN #[PE PF ia,PE PF sa,PE PF da] 263)).drew):=((al.alloc aj _).alloc (by simp) _).drew;refine(P1 _ (hR _ (by first|exact HB|exact Xa))).mono ?_;rintro e w1 ⟨rfl,R1,K1⟩;obtain⟨k1,k2⟩:=K1.two w.heap.size (by simp) (fun k hk=>by omega);have KA:=(ai.of_below (F:=fun k=>k=g\/k=mb) (show PI w.heap.size w _ by first|exact HB|exact Xa)).trans K1 (fun _ _ h=>h);clear K1 HB Xa hR P1;go_wp2_with (go_at_call 174;fail);refine(P2 _ R1).mono ?_;rintro e w2 ⟨rfl,R2,K2⟩;have KB:=KA.trans K2 (fun _ _ h=>h);clear KA K2 R1 P2 k1 k2;go_wp2;go_end0;exact⟨rfl,R2,KB⟩
end
section
open Go.RowKit
structure AtF (it:Nat->br) (n:Nat) (f:Int->Option PH):Prop where
 at':∀i,i<n->f (it i).id=OM (PE PF i)
 of:∀a v,f a=OM v->∃i,i<n/\(it i).id=a/\v=PE PF i
theorem AtF.apart {it:Nat->br}(h:AtF it n f):GK it n:=by
 intro i j hi hj e;have a:=h.at' i hi;have b:=h.at' j hj;rw[e,b]at a;simp only[Option.some.injEq,Value.int.injEq,true_and]at a;omega
theorem AtF.sw {it:Nat->br}(h:AtF it n f)(hi:i<n)(hj:j<n):AtF (swI it i j) n (bL (bL f (it j).id (PE PF i)) (it i).id (PE PF j)):=by
 have hp:=h.apart;refine⟨fun k hk=>?_,fun a v hv=>?_⟩
 ·by_cases e1:k=j
  ·subst e1;rw[pG,ck]
  ·by_cases e2:k=i
   ·subst e2;rw[jZ,cT _ _ (fun e=>e1 (hp k j hk hj e.symm)),ck]
   ·rw[jf it e2 e1,cT _ _ (fun e=>e2 (hp k i hk hi e)),cT _ _ (fun e=>e1 (hp k j hk hj e))];exact h.at' k hk
 ·unfold bL at hv;split at hv
  ·rename_i e;cases hv;exact⟨j,hj,by rw[pG];exact e.symm,rfl⟩
  ·rename_i e
   split at hv
   ·rename_i e2;cases hv;exact⟨i,hi,by rw[jZ];exact e2.symm,rfl⟩
   ·rename_i e2
    obtain⟨k,hk,ea,ev⟩:=h.of a v hv;refine⟨k,hk,?_,ev⟩;rw[jf it (fun q=>e (by rw[<- ea,q])) (fun q=>e2 (by rw[<- ea,q]))];exact ea
structure HS (w:PG) (b mb:Nat) (v:PH) (n:Nat) (it:Nat->br) (f:Int->Option PH) (H:Int->Option (Int×Int)):Prop where
 rep:Rep w b mb v n it f n
 atf:AtF it n f
 wf:∀i,i<n->(Lit.int .i64 (it i).id).wf=Pm
 ok:∀i,i<n->okC (it i).s (it i).d
 holds:Holds it n H
 bd:n<=1000000
theorem HS.sw {it:Nat->br}{H:Int->Option (Int×Int)}(S:HS w b mb v n it f H)(hi:i<n)(hj:j<n)
  (R:Rep w' b mb v n (swI it i j) (bL (bL f (it j).id (PE PF i)) (it i).id (PE PF j)) n):HS w' b mb v n (swI it i j) (bL (bL f (it j).id (PE PF i)) (it i).id (PE PF j)) H:=by
 have key:∀k,k<n->∃m,m<n/\swI it i j k=it m:=by
  intro k hk;by_cases e1:k=i
  ·subst e1;exact⟨j,hj,jZ it k j⟩
  ·by_cases e2:k=j
   ·subst e2;exact⟨i,hi,pG it i k⟩
   ·exact⟨k,hk,jf it e1 e2⟩
 refine⟨R,S.atf.sw hi hj,fun k hk=>?_,fun k hk=>?_,S.holds.sw hi hj,S.bd⟩
 ·obtain⟨m,hm,e⟩:=key k hk;rw[e];exact S.wf m hm
 ·obtain⟨m,hm,e⟩:=key k hk;rw[e];exact S.ok m hm
theorem HS.below {it:Nat->br}{H:Int->Option (Int×Int)}(S:HS w b mb v n it f H)(hb:PI w.heap.size w w'):HS w' b mb v n it f H :=
 ⟨S.rep.below hb,S.atf,S.wf,S.ok,S.holds,S.bd⟩
theorem nW {it:Nat->br}(hr:mG (it i) (it j)=r)(w:PG)(R:Rep w b mb (.slice (OM ⟨g,0,Pk⟩) n cap) n it f m)(hi:i<n)(hj:j<n)(ki:okC (it i).s (it i).d)(kj:okC (it j).s (it j).d) :
  PK prog 235 #[.pointer (OM ⟨b,0,Pk⟩),PE PF i,PE PF j] w fun e w'=>e=PM (.bool r)/\PI w.heap.size w w':=hr▸Aq i j w R hi hj ki kj
theorem HS.swap {it:Nat->br}{H:Int->Option (Int×Int)}(w:PG)(S:HS w b mb (.slice (OM ⟨g,0,Pk⟩) n cap) n it f H)(hi:i<n)(hj:j<n) :
  PK prog 204 #[.pointer (OM ⟨b,0,Pk⟩),PE PF i,PE PF j] w fun e w'=>e=PM (.tuple #[])/\(∃f',HS w' b mb (.slice (OM ⟨g,0,Pk⟩) n cap) n (swI it i j) f' H)/\ai (fun k=>k=g\/k=mb) w w' :=
 (Hk i j w S.rep hi hj S.bd (S.wf i hi) (S.wf j hj) (by rw[S.atf.at' i hi];rfl) (by rw[S.atf.at' j hj];rfl)).mono fun _ _ ⟨he,R,K⟩=>⟨he,⟨_,S.sw hi hj R⟩,K⟩
theorem yb {it:Nat->br}{H:Int->Option (Int×Int)}(w:PG)(S:HS w b mb (.slice (OM ⟨g,0,Pk⟩) n cap) n it f H)(hr:fh it n i) :
  PK prog 234 #[.pointer (OM ⟨b,0,Pk⟩),PE PF i] w fun e w'=>e=PM (.tuple #[])/\(∃Tc f',HS w' b mb (.slice (OM ⟨g,0,Pk⟩) n cap) n Tc f' H/\Ord Tc n)/\ai (fun k=>k=g\/k=mb) w w':=by
 go_enter func234,ntmps234;go_wp2;go_loopw [1] (fun x wr=>∃(k:Nat) (Tc:Nat->br) (f':Int->Option PH),x=PE PF k/\HS wr b mb (.slice (OM ⟨g,0,Pk⟩) n cap) n Tc f' H/\fh Tc n k/\ai (fun k=>k=g\/k=mb) w wr) (fun x _=>(intOf x).toNat)
 case atStart=>exact⟨i,it,f,rfl,S,hr,ai.refl _ _⟩
 case round =>
  obtain⟨k,Tc,f',rfl,S',hr',K⟩:=hrel;have hk:=hr'.lt;have TL:=S'.bd;by_cases h0:k=0
  ·subst h0;have hO:=hr'.done (MG rfl);go_wp2;go_end0;exact⟨rfl,⟨Tc,f',S',hO⟩,K⟩
  ·have hu:upN k<n:=(by unfold upN;omega);have huk:upN k<k:=(by unfold upN;omega);have hk1:(1:Int)<=(k:Int):=(by omega);have hk0:0<k:=(by omega);cases hB:mG (Tc k) (Tc (upN k)) with
   |false =>
    have hO:=hr'.done (MF (l7 hB));go_wp2_with (first|(go_at_call 255;refine(Hj k _ hk0 (by omega)).mono ?_;rintro e w' ⟨rfl,rfl⟩)|(go_at_call 235;refine(nW hB _ S'.rep hk hu (S'.ok k hk) (S'.ok _ hu)).mono ?_;rintro e w1 ⟨rfl,hb1⟩));go_end0;exact⟨rfl,⟨Tc,f',S'.below hb1,hO⟩,K.below hb1⟩
   |true =>
    have hr2:=hr'.step hk0 (Ch hB);go_wp2_with (first|(go_at_call 255;refine(Hj k _ hk0 (by omega)).mono ?_;rintro e w' ⟨rfl,rfl⟩)|(go_at_call 235;refine(nW hB _ S'.rep hk hu (S'.ok k hk) (S'.ok _ hu)).mono ?_;rintro e w1 ⟨rfl,hb1⟩)|(go_at_call 204;refine((S'.below hb1).swap _ hk hu).mono ?_;rintro e w2 ⟨rfl,⟨f2,S2⟩,K2⟩));have KK:=(K.below hb1).trans K2 (fun _ _ h=>h);go_roundw
    case rel=>exact⟨upN k,_,f2,rfl,S2,hr2,KK⟩
    case measure=>simp[intOf];omega
end
section
open Go.RowKit
theorem rH {it:Nat->br}{H:Int->Option (Int×Int)}(w:PG)(S:HS w b mb (.slice (OM ⟨g,0,Pk⟩) n cap) n it f H)(hi:i<n) :
  PK prog 203 #[.pointer (OM ⟨b,0,Pk⟩),PE PF i] w fun e w'=>(∃m,e=PM (PE PF (m:Nat))/\nN it n i m)/\PI w.heap.size w w':=by
 have TL:=S.bd;go_enter func203,ntmps203;go_wp2;go_loopw [5,6] (fun x y wr=>∃m k:Nat,x=PE PF m/\y=PE PF k/\2*i+1<=k/\k<=2*i+3/\m<n/\(m=i\/(2*i+1<=m/\m<k))/\¬bef (it i) (it m)/\(∀j,2*i+1<=j->j<k->j<n->¬bef (it j) (it m))/\PI w.heap.size w wr) (fun _ y _=>2*i+3-(intOf y).toNat)
 case atStart=>exact⟨i,2*i+1,rfl,by go_num,by omega,by omega,hi,MG rfl,mB _,fun j _ _ _=>by omega,al⟩
 case round =>
  obtain⟨m,k,rfl,rfl,k1,k2,hm,hw,hs,Qz,hb⟩:=hrel;have S':=S.below hb;have c0:=S'.rep.c0;by_cases hk:k<=2*i+2
  ·have hk':(k:Int)<=2*(i:Int)+2:=(by omega);by_cases hn:k<n
   ·have Xe:(k:Int)<(n:Int):=(by omega);cases hB:mG (it k) (it m) with
    |false =>
     go_wp2_with (go_at_call 235;refine(nW hB _ S'.rep hn hm (S'.ok k hn) (S'.ok m hm)).mono ?_;rintro e w1 ⟨rfl,hb1⟩);have HB:=ak hb hb1;go_roundw
     case rel =>
      refine⟨m,k+1,rfl,by go_num,by omega,by omega,hm,?_,hs,fun j j1 j2 j3=>?_,HB⟩
      ·omega
      ·by_cases e:j=k
       ·subst e;exact l7 hB
       ·exact Qz j j1 (by omega) j3
     case measure=>simp[intOf];omega
    |true =>
     have Q7:=oW (Ch hB);go_wp2_with (go_at_call 235;refine(nW hB _ S'.rep hn hm (S'.ok k hn) (S'.ok m hm)).mono ?_;rintro e w1 ⟨rfl,hb1⟩);have HB:=ak hb hb1;go_roundw
     case rel =>
      refine⟨k,k+1,rfl,by go_num,by omega,by omega,hn,MF ⟨k1,by omega⟩,fP Q7 hs,fun j j1 j2 j3=>?_,HB⟩;by_cases e:j=k
      ·subst e;exact mB _
      ·exact fP Q7 (Qz j j1 (by omega) j3)
     case measure=>simp[intOf];omega
   ·have Xe:¬(k:Int)<(n:Int):=(by omega);have F:nN it n i m:=⟨hm,by omega,hs,fun j j0 jn ju=>Qz j (by unfold upN at ju;omega) (by omega) jn⟩;go_wp2;go_ret;exact⟨⟨m,rfl,F⟩,hb⟩
  ·have hk':¬(k:Int)<=2*(i:Int)+2:=(by omega);have F:nN it n i m:=⟨hm,by omega,hs,fun j j0 jn ju=>Qz j (by unfold upN at ju;omega) (by unfold upN at ju;omega) jn⟩;go_wp2;go_ret;exact⟨⟨m,rfl,F⟩,hb⟩
theorem Hl {it:Nat->br}{H:Int->Option (Int×Int)}(w:PG)(S:HS w b mb (.slice (OM ⟨g,0,Pk⟩) n cap) n it f H)(hi:i<n)(hr:fG it n i) :
  PK prog 175 #[.pointer (OM ⟨b,0,Pk⟩),PE PF i] w fun e w'=>e=PM (.tuple #[])/\(∃Tc f',HS w' b mb (.slice (OM ⟨g,0,Pk⟩) n cap) n Tc f' H/\Ord Tc n)/\ai (fun k=>k=g\/k=mb) w w':=by
 go_enter func175,ntmps175;go_wp2;go_loopw [1] (fun x wr=>∃(k:Nat) (Tc:Nat->br) (f':Int->Option PH),x=PE PF k/\k<n/\HS wr b mb (.slice (OM ⟨g,0,Pk⟩) n cap) n Tc f' H/\fG Tc n k/\ai (fun k=>k=g\/k=mb) w wr) (fun x _=>n-(intOf x).toNat)
 case atStart=>exact⟨i,it,f,rfl,hi,S,hr,ai.refl _ _⟩
 case round =>
  obtain⟨k,Tc,f',rfl,hk,S',hr',K⟩:=hrel;go_wp2_with fail;refine(rH _ S' hk).mono ?_;rintro e w1 ⟨⟨m,rfl,F⟩,hb1⟩;have hm:=F.lt;have S1:=S'.below hb1;have K1:=K.below hb1;clear S S' K;by_cases e:m=k
  ·subst e;have hO:=hr'.done F;go_wp2;exact bodyPost_ret (v:=.tuple #[]) (by simp[results,results175,go_sem]) rfl ⟨rfl,⟨Tc,f',S1,hO⟩,K1⟩
  ·have hr2:=hr'.step F e;have Vx:k<m:=(by have:=F.who;omega);have e':((m:Int)==(k:Int))=false:=(by simp;omega);go_wp2_with (go_at_call 204;refine(S1.swap _ hk hm).mono ?_;rintro e w2 ⟨rfl,⟨f2,S2⟩,K2⟩);have KK:=K1.trans K2 (fun _ _ h=>h);go_roundw
   case rel=>exact⟨m,_,f2,rfl,hm,S2,hr2,KK⟩
   case measure=>simp[intOf];omega
end
section
open Go.RowKit
structure bS (w:PG) (b mb:Nat) (v:PH) (n:Nat) (H:Int->Option (Int×Int)):Prop where
 ex:∃it f,HS w b mb v n it f H/\Ord it n
theorem bS.below {H:Int->Option (Int×Int)}(h:bS w b mb v n H)(hb:PI w.heap.size w w'):bS w' b mb v n H:=by
 obtain⟨it,f,S,O⟩:=h.ex;exact⟨it,f,S.below hb,O⟩
theorem bS.keep {F:Nat->Prop}{H:Int->Option (Int×Int)}(h:bS w b mb v n H)(hk:ai F w w')(h1:¬F b)(h2:¬F mb)(h3:∀g,v.ownBlock=OM g->¬F g):bS w' b mb v n H:=by
 obtain⟨it,f,S,O⟩:=h.ex;exact⟨it,f,⟨S.rep.keep hk h1 h2 h3,S.atf,S.wf,S.ok,S.holds,S.bd⟩,O⟩
theorem bS.blocks {H:Int->Option (Int×Int)}(h:bS w b mb v n H):b<w.heap.size/\mb<w.heap.size/\∀g,v.ownBlock=OM g->g<w.heap.size:=by
 obtain⟨it,f,S,O⟩:=h.ex;have:=S.rep.blocks;exact⟨this.1,this.2.1,fun g hg=>(this.2.2.2 g hg).1⟩
theorem bS.empty {H:Int->Option (Int×Int)}(h:bS w b mb v 0 H)(a:Int):H a=none:=by
 obtain⟨it,f,S,O⟩:=h.ex;cases e:H a with
 |none=>rfl
 |some c =>
  obtain⟨s,d⟩:=c;obtain⟨i,hi,_⟩:=(S.holds a s d).mp e;omega
theorem bS.fits {H:Int->Option (Int×Int)}(h:bS w b mb v n H){a s d:Int}(ha:H a=OM (s,d)):okC s d/\(Lit.int .i64 a).wf=Pm/\0<n:=by
 obtain⟨it,f,S,O⟩:=h.ex;obtain⟨i,hi,e⟩:=(S.holds a s d).mp ha;have h1:=S.ok i hi;have h2:=S.wf i hi;rw[e]at h1 h2;exact⟨h1,h2,by omega⟩
theorem Row.nil (w:PG)(it:Nat->br):Row w (.slice Pk 0 0) 0 it:=⟨[],Nj w 0 263 3,fun i hi=>by omega⟩
theorem Ci (w:PG):PK prog 170 #[] w fun e w'=>e=PM (.pointer (OM ⟨w.heap.size+1,0,Pk⟩))/\bS w' (w.heap.size+1) w.heap.size (.slice Pk 0 0) 0 (fun _=>Pk)/\PI w.heap.size w w'/\w'.heap.size=w.heap.size+2:=by
 have Tl:=@run_makeMap prog;go_enter func170,ntmps170;go_wp2;go_ret;have HB:PI w.heap.size w ((w.alloc (.map #[] 0)).alloc (PN #[.slice Pk 0 0,.map (OM w.heap.size)] 261)):=(al.alloc aj _).alloc (by simp) _;refine⟨rfl,⟨fun _=>⟨0,0,0⟩,fun _=>Pk,⟨⟨?_,?_,?_,Row.nil _ _,?_,by simp[NA]⟩,⟨fun i hi=>by omega,fun a v h=>(by cases h)⟩,fun i hi=>by omega,fun i hi=>by omega,fun a s d=>⟨fun h=>(by cases h),fun ⟨i,hi,_⟩=>(by omega)⟩,by omega⟩,fun j _ hj=>by omega⟩,HB,by simp⟩
 ·exact ME #[.slice Pk 0 0,.map (OM w.heap.size)] 261 (w.heap.size+1) 0 (by simp)
 ·exact ME #[.slice Pk 0 0,.map (OM w.heap.size)] 261 (w.heap.size+1) 1 (by simp)
 ·rw[frozen?_alloc_cells];simp[OU]
 ·exact(aZ.made w prog 3).keep (F:=fun _=>False) ((ai.refl _ _).alloc _) id
end
section
open Go.RowKit
theorem HS.mem {it:Nat->br}{H:Int->Option (Int×Int)}(S:HS w b mb v n it f H){a:Int}(ha:H a=Pk):f a=none:=by
 cases e:f a with
 |none=>rfl
 |some v =>
  obtain⟨i,hi,ea,_⟩:=S.atf.of a v e;exact absurd ea (S.holds.gone ha i hi)
theorem AtF.last {it:Nat->br}(h:AtF it n f){x:br}(hx:f x.id=Pk):AtF (dB it n x) (n+1) (bL f x.id (PE PF n)):=by
 refine⟨fun k hk=>?_,fun a v hv=>?_⟩
 ·by_cases e1:k=n
  ·subst e1;rw[cZ,ck]
  ·rw[bY it x e1,cT _ _ (fun e=>by rw[<- e,h.at' k (by omega)]at hx;cases hx)];exact h.at' k (by omega)
 ·unfold bL at hv;split at hv
  ·rename_i e;cases hv;exact⟨n,by omega,by rw[cZ];exact e.symm,rfl⟩
  ·obtain⟨k,hk,ea,ev⟩:=h.of a v hv;exact⟨k,by omega,by rw[bY it x (by omega)];exact ea,ev⟩
theorem AtF.same {it:Nat->br}(h:AtF it n f)(hi:i<n){x:br}(hx:(it i).id=x.id):AtF (dB it i x) n (bL f x.id (PE PF i)):=by
 have hp:=h.apart;refine⟨fun k hk=>?_,fun a v hv=>?_⟩
 ·by_cases e1:k=i
  ·subst e1;rw[cZ,ck]
  ·rw[bY it x e1,cT _ _ (fun e=>e1 (hp k i hk hi (by rw[hx];exact e)))];exact h.at' k hk
 ·unfold bL at hv;split at hv
  ·rename_i e;cases hv;exact⟨i,hi,by rw[cZ];exact e.symm,rfl⟩
  ·rename_i e
   obtain⟨k,hk,ea,ev⟩:=h.of a v hv;refine⟨k,hk,?_,ev⟩;rw[bY it x (fun q=>e (by rw[<- ea,q,hx]))];exact ea
theorem ew (h:okC s d)(k:okC t u):ltB s d t u=Pm↔val s d<val t u:=by
 unfold ltB;rw[iV s d t u h k,decide_eq_true_iff];exact mQ _ _
theorem Ek (h:okC s d)(k:okC t u)(hn:¬val s d<val t u):ltB s d t u=false:=by
 cases e:ltB s d t u with
 |false=>rfl
 |true=>exact absurd ((ew h k).mp e) hn
theorem Jz {H:Int->Option (Int×Int)}(a s d t u:Int)(w:PG)(h:bS w b mb v n H)(ha:H a=OM (t,u))(hc:okC s d)(hn:¬val s d<val t u) :
  PK prog 202 #[.pointer (OM ⟨b,0,Pk⟩),PE PF a,.agg #[PE PF s,PE PF d]] w fun e w'=>e=PM (.bool PB)/\PI w.heap.size w w':=by
 obtain⟨it,f,S,O⟩:=h.ex;obtain⟨i,hi,e⟩:=(S.holds a t u).mp ha;obtain⟨g,cap,rfl,_,_,hg⟩:=S.rep.row.pos (by omega);obtain⟨q1,q2,q3⟩:=S.rep.row.cells hi;have hk:=S.ok i hi;rw[e]at q1 q2 q3 hk;have PO:=Ek hc hk hn;have c0:=S.rep.c0;have c1:=S.rep.c1;have hb:=S.rep.blocks.1;have VJ:=S.wf i hi;rw[e]at VJ;have hf:=S.atf.at' i hi;rw[e]at hf;have TO:PI w.heap.size w (w.alloc (PN #[PE PF s,PE PF d] 53)):=(Below.refl _ w).alloc aj _;have hl:=((S.rep.below TO).map).look_some aY Tryz.under51 (kP _) VJ hf Pm;have h1:(i:Int)<(n:Int):=by omega
 have s0:∀x:bU (w.alloc (PN #[PE PF s,PE PF d] 53)),x.u.cell? ⟨w.heap.size,0,Pk⟩=OM (PE PF s):=fun x=>(x.cell _ _ (by simp)).trans (ME #[PE PF s,PE PF d] 53 w.heap.size 0 rfl);have s1:∀x:bU (w.alloc (PN #[PE PF s,PE PF d] 53)),x.u.cell? ⟨w.heap.size,1,Pk⟩=OM (PE PF d):=fun x=>(x.cell _ _ (by simp)).trans (ME #[PE PF s,PE PF d] 53 w.heap.size 1 rfl);have s2:∀x:bU (w.alloc (PN #[PE PF s,PE PF d] 53)),x.u.cell? ⟨b,0,Pk⟩=OM (.slice (OM ⟨g,0,Pk⟩) n cap):=fun x=>(x.cell _ _ (by simp;omega)).trans ((TO.cell (p:=⟨b,0,Pk⟩) hb).trans c0);have s3:∀x:bU (w.alloc (PN #[PE PF s,PE PF d] 53)),x.u.cell? ⟨g,i*3+1,Pk⟩=OM (PE PF t):=fun x=>(x.cell _ _ (by simp;omega)).trans ((TO.cell (p:=⟨g,i*3+1,Pk⟩) hg).trans q2);have s4:∀x:bU (w.alloc (PN #[PE PF s,PE PF d] 53)),x.u.cell? ⟨g,i*3+2,Pk⟩=OM (PE PF u):=fun x=>(x.cell _ _ (by simp;omega)).trans ((TO.cell (p:=⟨g,i*3+2,Pk⟩) hg).trans q3);have PW:=qg (w.alloc (PN #[PE PF s,PE PF d] 53));clear S O h e ha q1 q2 q3;go_enter func202,ntmps202;go_wp2;refine bM (by kernel_rfl) (by kernel_rfl) ?_
 repeat (go_big_quiet_step ((go_at_call 178;exact Calls.since_of (jU PO _ hc hk))))
 refine wpQuiet_nil ?_;rintro _ ⟨x,rfl⟩;go_wp2;go_ret;exact⟨rfl,TO.trans (x.h.mono (by simp))⟩
end
section
open Go.RowKit
def hb3 (b mb:Nat) (v:PH) (k:Nat):Prop:=k=b\/k=mb\/v.ownBlock=OM k
theorem El {b mb n:Nat}{H:Int->Option (Int×Int)}(a s d t u:Int)(w:PG)(h:bS w b mb v n H)(ha:H a=OM (t,u))(hc:okC s d)(hn:val s d<val t u) :
  PK prog 202 #[.pointer (OM ⟨b,0,Pk⟩),PE PF a,.agg #[PE PF s,PE PF d]] w fun e w'=>e=PM (.bool Pm)/\bS w' b mb v n (aB H a s d)/\ai (hb3 b mb v) w w':=by
 obtain⟨it,f,S,O⟩:=h.ex;obtain⟨i,hi,e⟩:=(S.holds a t u).mp ha;obtain⟨g,cap,rfl,_,_,hg⟩:=S.rep.row.pos (by omega);obtain⟨q1,q2,q3⟩:=S.rep.row.cells hi;have hk:=S.ok i hi;have Rv:fh (dB it i ⟨a,s,d⟩) n i:=fh.less O hi ⟨a,s,d⟩ (by rw[e];unfold bef br.v;simp only;omega);rw[e]at q1 q2 q3 hk;have PO:=(ew hc hk).mpr hn;have c0:=S.rep.c0;have c1:=S.rep.c1;have hb:=S.rep.blocks.1;have VJ:=S.wf i hi;rw[e]at VJ;have hf:=S.atf.at' i hi;rw[e]at hf;have TO:PI w.heap.size w (w.alloc (PN #[PE PF s,PE PF d] 53)):=(Below.refl _ w).alloc aj _;have hl:=((S.rep.below TO).map).look_some aY Tryz.under51 (kP _) VJ hf Pm;have h1:(i:Int)<(n:Int):=by omega
 have s0:∀x:bU (w.alloc (PN #[PE PF s,PE PF d] 53)),x.u.cell? ⟨w.heap.size,0,Pk⟩=OM (PE PF s):=fun x=>(x.cell _ _ (by simp)).trans (ME #[PE PF s,PE PF d] 53 w.heap.size 0 rfl);have s1:∀x:bU (w.alloc (PN #[PE PF s,PE PF d] 53)),x.u.cell? ⟨w.heap.size,1,Pk⟩=OM (PE PF d):=fun x=>(x.cell _ _ (by simp)).trans (ME #[PE PF s,PE PF d] 53 w.heap.size 1 rfl);have s2:∀x:bU (w.alloc (PN #[PE PF s,PE PF d] 53)),x.u.cell? ⟨b,0,Pk⟩=OM (.slice (OM ⟨g,0,Pk⟩) n cap):=fun x=>(x.cell _ _ (by simp;omega)).trans ((TO.cell (p:=⟨b,0,Pk⟩) hb).trans c0);have s3:∀x:bU (w.alloc (PN #[PE PF s,PE PF d] 53)),x.u.cell? ⟨g,i*3+1,Pk⟩=OM (PE PF t):=fun x=>(x.cell _ _ (by simp;omega)).trans ((TO.cell (p:=⟨g,i*3+1,Pk⟩) hg).trans q2);have s4:∀x:bU (w.alloc (PN #[PE PF s,PE PF d] 53)),x.u.cell? ⟨g,i*3+2,Pk⟩=OM (PE PF u):=fun x=>(x.cell _ _ (by simp;omega)).trans ((TO.cell (p:=⟨g,i*3+2,Pk⟩) hg).trans q3);have PW:=qg (w.alloc (PN #[PE PF s,PE PF d] 53));have em:(if (f a).isSome then n else n+1)=n:=by rw[hf];rfl
 have P1:=fun w R=>nV (b:=b) (mb:=mb) (g:=g) (cap:=cap) (n:=n) (m:=n) (it:=it) (f:=f) i a s d w R hi S.bd VJ;rw[em]at P1;have WC:∀w',Rep w' b mb (.slice (OM ⟨g,0,Pk⟩) n cap) n (dB it i ⟨a,s,d⟩) (bL f a (PE PF i)) n->HS w' b mb (.slice (OM ⟨g,0,Pk⟩) n cap) n (dB it i ⟨a,s,d⟩) (bL f a (PE PF i)) (aB H a s d):=by
  intro w' R;have ea:(it i).id=a:=by rw[e]
  refine⟨R,S.atf.same hi (x:=⟨a,s,d⟩) ea,fun k hk=>?_,fun k hk=>?_,S.holds.same S.atf.apart hi ea,S.bd⟩
  ·by_cases ek:k=i
   ·subst ek;rw[cZ];exact VJ
   ·rw[bY it _ ek];exact S.wf k hk
  ·by_cases ek:k=i
   ·subst ek;rw[cZ];exact hc
   ·rw[bY it _ ek];exact S.ok k hk
 have RB:∀w',PI w.heap.size w w'->Rep w' b mb (.slice (OM ⟨g,0,Pk⟩) n cap) n it f n:=fun w' h=>S.rep.below h;clear S O h e ha q1 q2 q3 hf em;go_enter func202,ntmps202;go_wp2;refine bM (by kernel_rfl) (by kernel_rfl) ?_
 repeat (go_big_quiet_step ((go_at_call 178;exact Calls.since_of (jU PO _ hc hk))))
 refine wpQuiet_nil ?_;rintro _ ⟨x,rfl⟩;have TP:PI w.heap.size w x.u:=TO.trans (x.h.mono (by simp));have t0:=s0 x;have t1:=s1 x;clear s0 s1 s2 s3 s4 PW;go_wp2_with fail;refine(P1 _ (RB _ TP)).mono ?_;rintro e w1 ⟨rfl,R1,K1⟩;have S1:=WC _ R1;go_wp2_with fail;refine(yb _ S1 Rv).mono ?_;rintro e w2 ⟨rfl,⟨Tc,f',S2,O2⟩,K2⟩;have KK:ai (hb3 b mb (.slice (OM ⟨g,0,Pk⟩) n cap)) w w2:=by
  have k1:=(ai.of_below (F:=fun k=>k=g\/k=mb) TP).trans K1 (fun _ _ h=>h);have k2:=k1.trans K2 (fun _ _ h=>h);refine k2.mono (fun i _ h=>?_);rcases h with rfl|rfl
  ·exact MF (MF rfl)
  ·exact MF (MG rfl)
 clear K1 K2 R1 S1 TP TO P1 RB WC;go_wp2;go_ret;exact⟨rfl,⟨Tc,f',S2,O2⟩,KK⟩
end
section
open Go.RowKit
theorem Tryz.info56:(Tryz.prog.info? 263).map (fun i=>(i.zero,i.size,i.bytes))=OM (OM (.agg #[PE PF 0,PE PF 0,PE PF 0]),3,24):=by kernel_rfl
theorem Tryz.under52:Tryz.prog.underlying 259=OM (.slice 263):=by kernel_rfl
theorem rJ (w:PG)(x y z:PH)(t:TypeId):∀j u,[x,y,z][j]? = OM u->(w.alloc (PN #[x,y,z] t)).cell? ((⟨w.heap.size,0,Pk⟩:Addr).add j)=OM u:=by
 intro j u hj
 match j,hj with
 |0,hj=>simp at hj;subst hj;simp[Addr.add]
 |1,hj=>simp at hj;subst hj;simp[Addr.add]
 |2,hj=>simp at hj;subst hj;simp[Addr.add]
theorem Em {v':PH}{it:Nat->br}(h1:w.ownsRow 0 263 3 v n xs)(hx:∀i,i<n->xs[i*3]? = OM (PE PF (it i).id)/\xs[i*3+1]? = OM (PE PF (it i).s)/\xs[i*3+2]? = OM (PE PF (it i).d))
  (h2:w'.ownsRow 0 263 3 v' (n+1) (xs++[PE PF 0,PE PF 0,PE PF 0])):Row w' v' (n+1) (dB it n ⟨0,0,0⟩):=by
 have hl:xs.length=n*3:=h1.1;refine⟨_,h2,fun i hi=>?_⟩;by_cases e:i=n
 ·subst e;rw[cZ];refine⟨?_,?_,?_⟩
  ·rw[Ni (by omega)];simp[hl]
  ·rw[Ni (by omega)];simp[hl]
  ·rw[Ni (by omega)];simp[hl]
 ·rw[bY it _ e];obtain⟨a1,a2,a3⟩:=hx i (by omega);refine⟨?_,?_,?_⟩
  ·rw[Nd (by omega)];exact a1
  ·rw[Nd (by omega)];exact a2
  ·rw[Nd (by omega)];exact a3
theorem Ar (it:Nat->br)(i:Nat)(x y:br):dB (dB it i x) i y=dB it i y:=by
 funext k;unfold dB;split<;>rfl
theorem yd {b mb n:Nat}{H:Int->Option (Int×Int)}(a s d:Int)(w:PG)(h:bS w b mb v n H)(ha:H a=Pk)(hc:okC s d)(VJ:(Lit.int .i64 a).wf=Pm)(hn:n<1000000) :
  PK prog 202 #[.pointer (OM ⟨b,0,Pk⟩),PE PF a,.agg #[PE PF s,PE PF d]] w fun e w'=>e=PM (.bool Pm)/\(∃v',bS w' b mb v' (n+1) (aB H a s d)/\(v'.ownBlock=v.ownBlock\/∃g,v'.ownBlock=OM g/\w.heap.size<=g))/\ai (hb3 b mb v) w w':=by
 obtain⟨i0,Ws,P0,P3,Qd⟩:=info_parts Tryz.info56;obtain⟨it,f,S,O⟩:=h.ex;obtain⟨hb,hmb,Vl,TT⟩:=S.rep.blocks;have c0:=S.rep.c0;have c1:=S.rep.c1;have f0:=S.rep.f0;have hf:=S.mem ha;obtain⟨xs,hown,YA⟩:=S.rep.row;have hv:∃A cap,v=.slice A n cap:=by
  rcases hown.2 with⟨rfl,rfl⟩|⟨g,cap,cur,rfl,_⟩
  ·exact⟨_,_,rfl⟩
  ·exact⟨_,_,rfl⟩
 obtain⟨A,cap,rfl⟩:=hv;have TO:PI w.heap.size w (w.alloc (PN #[PE PF s,PE PF d] 53)):=(Below.refl _ w).alloc aj _;have hl:=((S.rep.below TO).map).look_none aY Tryz.under51 (kP _) VJ hf Pm;have PW:=qg (w.alloc (PN #[PE PF s,PE PF d] 53));go_enter func202,ntmps202;go_wp2;refine bM (by kernel_rfl) (by kernel_rfl) ?_
 repeat (go_big_quiet_step (fail))
 refine wpQuiet_nil ?_;rintro _ ⟨x,rfl⟩;have TP:PI w.heap.size w x.u:=TO.trans (x.h.mono (by simp));have t0:x.u.cell? ⟨w.heap.size,0,Pk⟩=OM (PE PF s):=(x.cell _ _ (by simp)).trans (ME #[PE PF s,PE PF d] 53 w.heap.size 0 rfl);have t1:x.u.cell? ⟨w.heap.size,1,Pk⟩=OM (PE PF d):=(x.cell _ _ (by simp)).trans (ME #[PE PF s,PE PF d] 53 w.heap.size 1 rfl);have Yj:w.heap.size<x.u.heap.size:=by have:=x.h.size;simp at this;omega
 have c0':=(TP.cell (p:=⟨b,0,Pk⟩) hb).trans c0;have YL:=(TP.frozen (p:=⟨b,0,Pk⟩) hb).trans f0;have QM:x.u.ownsRow 0 263 3 (.slice A n cap) n xs:=hown.kept (row:=Pk) ⟨TP.os,TP.tape,TP.output,TP.size,fun k hk _=>TP.block k hk⟩ (by cases hq:(Ny A n cap).ownBlock<;>simp);go_wp2_with (at_builtin;refine wpList_append_own_at _ rfl _ _ 259 rfl 0 263 i0 (.agg #[PE PF 0,PE PF 0,PE PF 0]) 3 24 Tryz.under52 Ws P0 P3 Qd rfl (by decide) _ _ _ rfl (QM.alloc _) ⟨x.u.heap.size,0,Pk⟩ 1 1 [PE PF 0,PE PF 0,PE PF 0] rfl rfl (rJ _ _ _ _ _) (by intro u hu;simp at hu;subst hu;rfl) (by unfold maxLen;omega) (by omega) (by omega) ?_);intro v' w1 ho hgr _ SQ;have K1:ai (fun k=>(Ny A n cap).ownBlock=OM k) w w1:=((ai.of_below TP).alloc _).grown hgr (fun k hk _=>hk);have YT:=Em QM YA ho;obtain⟨g',cap',rfl,Vd,Xb,hg'⟩:=YT.pos (by omega);have Uh:∀k,(Ny A n cap).ownBlock=OM k->k<w.heap.size/\k≠b/\k≠mb:=TT;have XV:g'≠b/\((Ny A n cap).ownBlock=OM g'\/w.heap.size<=g'):=by
  rcases SQ with SQ|SQ
  ·have e:(Ny A n cap).ownBlock=OM g':=SQ.symm;exact⟨(Uh g' e).2.1,MG e⟩
  ·simp only[NA,Option.some.injEq]at SQ;exact⟨by omega,MF (by omega)⟩
 have c0w:w1.cell? ⟨b,0,Pk⟩=OM (.slice A n cap):=(K1.cell (p:=⟨b,0,Pk⟩) hb (fun e=>(Uh b e).2.1 rfl)).trans c0;have c1w:w1.cell? ⟨b,1,Pk⟩=OM (.map (OM mb)):=(K1.cell (p:=⟨b,1,Pk⟩) hb (fun e=>(Uh b e).2.1 rfl)).trans c1;have f0w:w1.frozen? ⟨b,0,Pk⟩=false:=(K1.frozen (p:=⟨b,0,Pk⟩) hb (fun e=>(Uh b e).2.1 rfl)).trans f0;have afV:aZ prog 3 w1 mb f n:=S.rep.map.keep K1 (fun e=>(Uh mb e).2.2 rfl);have KX:ai (fun k=>(Ny A n cap).ownBlock=OM k) x.u w1:=((ai.refl _ x.u).alloc _).grown hgr (fun k hk _=>hk);have t0w:w1.cell? ⟨w.heap.size,0,Pk⟩=OM (PE PF s):=(KX.cell (p:=⟨w.heap.size,0,Pk⟩) Yj (fun e=>NJ _ (Uh w.heap.size e).1)).trans t0;have t1w:w1.cell? ⟨w.heap.size,1,Pk⟩=OM (PE PF d):=(KX.cell (p:=⟨w.heap.size,1,Pk⟩) Yj (fun e=>NJ _ (Uh w.heap.size e).1)).trans t1;have R2:Rep (w1.setCell ⟨b,0,Pk⟩ (.slice (OM ⟨g',0,Pk⟩) (n+1) cap')) b mb (.slice (OM ⟨g',0,Pk⟩) (n+1) cap') (n+1) (dB it n ⟨0,0,0⟩) f n:=by
  have kb:ai (fun k=>k=b) w1 (w1.setCell ⟨b,0,Pk⟩ (.slice (OM ⟨g',0,Pk⟩) (n+1) cap')):=(ai.refl (fun k=>k=b) w1).setCell (p:=⟨b,0,Pk⟩) (fun _=>rfl) _;refine⟨MO _ _ _ c0w,?_,?_,YT.keep kb (fun q hq=>?_),afV.keep kb (fun e=>Vl e.symm),fun e=>?_⟩
  ·rw[MH _ _ _ _ (by intro e;cases e)];exact c1w
  ·rw[NY];exact f0w
  ·simp only[NA,Option.some.injEq]at hq;rw[<- hq];exact XV.1
  ·simp only[NA,Option.some.injEq]at e;exact XV.1 e
 have K2:ai (hb3 b mb (.slice A n cap)) w (w1.setCell ⟨b,0,Pk⟩ (.slice (OM ⟨g',0,Pk⟩) (n+1) cap')):=(K1.mono (G:=hb3 b mb (.slice A n cap)) (fun _ _ h=>MF (MF h))).setCell (p:=⟨b,0,Pk⟩) (fun _=>MG rfl) _;have em:(if (f a).isSome then n else n+1)=n+1:=by rw[hf];rfl
 have P1:=fun w R=>nV (b:=b) (mb:=mb) (g:=g') (cap:=cap') (n:=n+1) (m:=n) (it:=dB it n ⟨0,0,0⟩) (f:=f) n a s d w R (by omega) (by omega) VJ;rw[em,Ar]at P1;have WC:∀w',Rep w' b mb (.slice (OM ⟨g',0,Pk⟩) (n+1) cap') (n+1) (dB it n ⟨a,s,d⟩) (bL f a (PE PF n)) (n+1)->HS w' b mb (.slice (OM ⟨g',0,Pk⟩) (n+1) cap') (n+1) (dB it n ⟨a,s,d⟩) (bL f a (PE PF n)) (aB H a s d):=by
  intro w' R;refine⟨R,S.atf.last (x:=⟨a,s,d⟩) hf,fun k hk=>?_,fun k hk=>?_,S.holds.last ha,by omega⟩
  ·by_cases ek:k=n
   ·subst ek;rw[cZ];exact VJ
   ·rw[bY it _ ek];exact S.wf k (by omega)
  ·by_cases ek:k=n
   ·subst ek;rw[cZ];exact hc
   ·rw[bY it _ ek];exact S.ok k (by omega)
 have Rv:fh (dB it n ⟨a,s,d⟩) (n+1) n:=fh.last O _;have afW:(Ny (OM ⟨g',0,Pk⟩) (n+1) cap').ownBlock=(Ny A n cap).ownBlock\/∃g,(Ny (OM ⟨g',0,Pk⟩) (n+1) cap').ownBlock=OM g/\w.heap.size<=g:=by
  rcases XV.2 with e|e
  ·exact MG e.symm
  ·exact MF ⟨g',rfl,e⟩
 clear S O h K1 KX YT afV QM hown hgr ho YA TO TP hl PW c0' YL t0 t1 TT em SQ;go_wp2_with fail;refine(P1 _ R2).mono ?_;rintro e w3 ⟨rfl,R3,K3⟩;have S3:=WC _ R3;go_wp2_with fail;refine(yb _ S3 Rv).mono ?_;rintro e w4 ⟨rfl,⟨Tc,f',S4,O4⟩,K4⟩;have KK:ai (hb3 b mb (.slice A n cap)) w w4:=by
  have hs:∀k,k<w.heap.size->(k=g'\/k=mb)->hb3 b mb (.slice A n cap) k:=by
   rintro k hk (rfl|rfl)
   ·rcases XV.2 with e|e
    ·exact MF (MF e)
    ·omega
   ·exact MF (MG rfl)
  exact(K2.trans K3 hs).trans K4 hs
 clear K2 K3 K4 R3 S3 P1 WC R2;go_wp2;go_ret;exact⟨rfl,⟨_,⟨Tc,f',S4,O4⟩,afW⟩,KK⟩
end
section
open Go.RowKit
theorem ye {v:PH}{H:Int->Option (Int×Int)}(w:PG)(h:bS w b mb v 0 H) :
  PK prog 132 #[.pointer (OM ⟨b,0,Pk⟩)] w fun e w'=>e=PM (.tuple #[PE PF 0,.agg #[PE PF 0,PE PF 0],.bool PB])/\PI w.heap.size w w':=by
 obtain⟨it,f,S,O⟩:=h.ex;have c0:=S.rep.c0;have hb:=S.rep.blocks.1;have hv:∃A cap,v=.slice A 0 cap:=by
  obtain⟨xs,ho,_⟩:=S.rep.row;rcases ho.2 with⟨rfl,_⟩|⟨g,cap,cur,rfl,_⟩
  ·exact⟨_,_,rfl⟩
  ·exact⟨_,_,rfl⟩
 obtain⟨A,cap,rfl⟩:=hv;clear S O h;go_enter func132,ntmps132;go_wp2;exact bodyPost_ret (v:=.tuple #[PE PF 0,.agg #[PE PF 0,PE PF 0],.bool PB]) (by simp[results,results132,go_sem]) rfl ⟨rfl,al.alloc aj _⟩
theorem Row.shrink {it:Nat->br}(h:Row w (.slice (OM ⟨g,0,Pk⟩) (m+1) cap) (m+1) it):Row w (.slice (OM ⟨g,0,Pk⟩) m cap) m it:=by
 obtain⟨xs,ho,hx⟩:=h;have hl:xs.length=(m+1)*3:=ho.1;rcases ho.2 with⟨h',_⟩|⟨g',cap',cur,h',hb,hg,YO,SU,Qp,WM⟩
 ·cases h'
 ·cases h';refine⟨xs.take (m*3),⟨by rw[List.length_take];omega,.inr ⟨g,cap,cur,rfl,hb,hg,by omega,SU,Qp,?_⟩⟩,fun i hi=>?_⟩
  ·rw[<- WM,List.take_take];congr 1;omega
  ·obtain⟨a1,a2,a3⟩:=hx i (by omega);refine⟨?_,?_,?_⟩
   ·rw[Pj,if_pos (by omega)];exact a1
   ·rw[Pj,if_pos (by omega)];exact a2
   ·rw[Pj,if_pos (by omega)];exact a3
theorem AtF.pop {it:Nat->br}(h:AtF it (m+1) f)(hm:0<m):AtF (dB it 0 (it m)) m (bL (lX f (it 0).id) (it m).id (PE PF (0:Nat))):=by
 have hp:=h.apart;refine⟨fun k hk=>?_,fun a v hv=>?_⟩
 ·by_cases e1:k=0
  ·subst e1;rw[cZ,ck]
  ·rw[bY it _ e1,cT _ _ (fun e=>by have:=hp k m (by omega) (by omega) e;omega),jP _ (fun e=>e1 (hp k 0 (by omega) (by omega) e))];exact h.at' k (by omega)
 ·unfold bL at hv;split at hv
  ·rename_i e;cases hv;exact⟨0,hm,by rw[cZ];exact e.symm,rfl⟩
  ·rename_i e
   unfold lX at hv;split at hv
   ·cases hv
   ·rename_i e2
    obtain⟨k,hk,ea,ev⟩:=h.of a v hv;have k0:k≠0:=fun q=>e2 (by rw[<- ea,q]);have km:k≠m:=fun q=>e (by rw[<- ea,q]);exact⟨k,by omega,by rw[bY it _ k0];exact ea,ev⟩
structure Fr (w:PG) (N:Nat) (x y:br):Prop where
 a0:w.cell? ⟨N,0,Pk⟩=OM (PE PF 0)
 a1:w.cell? ⟨N,1,Pk⟩=OM (PE PF 0)
 f0:w.frozen? ⟨N,0,Pk⟩=PB
 f1:w.frozen? ⟨N,1,Pk⟩=PB
 b0:w.cell? ⟨N+1,0,Pk⟩=OM (PE PF x.id)
 b1:w.cell? ⟨N+1,1,Pk⟩=OM (PE PF x.s)
 b2:w.cell? ⟨N+1,2,Pk⟩=OM (PE PF x.d)
 c0:w.cell? ⟨N+1+1,0,Pk⟩=OM (PE PF y.id)
 c1:w.cell? ⟨N+1+1,1,Pk⟩=OM (PE PF y.s)
 c2:w.cell? ⟨N+1+1,2,Pk⟩=OM (PE PF y.d)
theorem Fr.keep {F:Nat->Prop}{N:Nat}{x y:br}(h:Fr w N x y)(K:ai F w w')(hN:N+3<=w.heap.size)(hF:∀k,N<=k->¬F k):Fr w' N x y:=by
 have g0:∀o,w'.cell? ⟨N,o,Pk⟩=w.cell? ⟨N,o,Pk⟩:=fun o=>K.cell (p:=⟨N,o,Pk⟩) (by show N<_;omega) (hF N (by omega));have g1:∀o,w'.cell? ⟨N+1,o,Pk⟩=w.cell? ⟨N+1,o,Pk⟩:=fun o=>K.cell (p:=⟨N+1,o,Pk⟩) (by show N+1<_;omega) (hF (N+1) (by omega));have g2:∀o,w'.cell? ⟨N+1+1,o,Pk⟩=w.cell? ⟨N+1+1,o,Pk⟩:=fun o=>K.cell (p:=⟨N+1+1,o,Pk⟩) (by show N+1+1<_;omega) (hF (N+1+1) (by omega));have g3:∀o,w'.frozen? ⟨N,o,Pk⟩=w.frozen? ⟨N,o,Pk⟩:=fun o=>K.frozen (p:=⟨N,o,Pk⟩) (by show N<_;omega) (hF N (by omega));exact⟨(g0 0).trans h.a0,(g0 1).trans h.a1,(g3 0).trans h.f0,(g3 1).trans h.f1,(g1 0).trans h.b0,(g1 1).trans h.b1,(g1 2).trans h.b2,(g2 0).trans h.c0,(g2 1).trans h.c1,(g2 2).trans h.c2⟩
theorem Hm (w:PG)(x y:br){v:PH}(hb:b<w.heap.size)(c0:w.cell? ⟨b,0,Pk⟩=OM v)(c1:w.cell? ⟨b,1,Pk⟩=OM (.map (OM mb)))(f0:w.frozen? ⟨b,0,Pk⟩=PB) :
  ∃W1:PG,W1=((((w.alloc (PN #[PE PF 0,PE PF 0] 53)).alloc (PN #[PE PF x.id,PE PF x.s,PE PF x.d] 263)).alloc (PN #[PE PF y.id,PE PF y.s,PE PF y.d] 263)).setCell ⟨b,0,Pk⟩ (.slice (OM ⟨g,0,Pk⟩) m cap)) /\
   ai (fun k=>k=b) w W1/\W1.heap.size=w.heap.size+3/\W1.cell? ⟨b,0,Pk⟩=OM (.slice (OM ⟨g,0,Pk⟩) m cap)/\W1.cell? ⟨b,1,Pk⟩=OM (.map (OM mb))/\W1.frozen? ⟨b,0,Pk⟩=PB/\Fr W1 w.heap.size x y:=by
 have z1:(w.alloc (PN #[PE PF 0,PE PF 0] 53)).heap.size=w.heap.size+1:=by simp
 have z2:((w.alloc (PN #[PE PF 0,PE PF 0] 53)).alloc (PN #[PE PF x.id,PE PF x.s,PE PF x.d] 263)).heap.size=w.heap.size+1+1:=by simp
 have k3:PI w.heap.size w (((w.alloc (PN #[PE PF 0,PE PF 0] 53)).alloc (PN #[PE PF x.id,PE PF x.s,PE PF x.d] 263)).alloc (PN #[PE PF y.id,PE PF y.s,PE PF y.d] 263)):=((al.alloc aj _).alloc (by simp) _).alloc (by simp;omega) _;have F3:Fr (((w.alloc (PN #[PE PF 0,PE PF 0] 53)).alloc (PN #[PE PF x.id,PE PF x.s,PE PF x.d] 263)).alloc (PN #[PE PF y.id,PE PF y.s,PE PF y.d] 263)) w.heap.size x y:=by
  have p0:∀o,(((w.alloc (PN #[PE PF 0,PE PF 0] 53)).alloc (PN #[PE PF x.id,PE PF x.s,PE PF x.d] 263)).alloc (PN #[PE PF y.id,PE PF y.s,PE PF y.d] 263)).cell? ⟨w.heap.size,o,Pk⟩=(w.alloc (PN #[PE PF 0,PE PF 0] 53)).cell? ⟨w.heap.size,o,Pk⟩:=fun o=>by
   rw[((Below.refl _ ((w.alloc (PN #[PE PF 0,PE PF 0] 53)).alloc (PN #[PE PF x.id,PE PF x.s,PE PF x.d] 263))).alloc aj _).cell (p:=⟨w.heap.size,o,Pk⟩) (by rw[z2];show w.heap.size<_;omega),((Below.refl _ (w.alloc (PN #[PE PF 0,PE PF 0] 53))).alloc aj _).cell (p:=⟨w.heap.size,o,Pk⟩) (by rw[z1];show w.heap.size<_;omega)]
  have p1:∀o,(((w.alloc (PN #[PE PF 0,PE PF 0] 53)).alloc (PN #[PE PF x.id,PE PF x.s,PE PF x.d] 263)).alloc (PN #[PE PF y.id,PE PF y.s,PE PF y.d] 263)).cell? ⟨w.heap.size+1,o,Pk⟩=((w.alloc (PN #[PE PF 0,PE PF 0] 53)).alloc (PN #[PE PF x.id,PE PF x.s,PE PF x.d] 263)).cell? ⟨w.heap.size+1,o,Pk⟩:=fun o=>by
   rw[((Below.refl _ ((w.alloc (PN #[PE PF 0,PE PF 0] 53)).alloc (PN #[PE PF x.id,PE PF x.s,PE PF x.d] 263))).alloc aj _).cell (p:=⟨w.heap.size+1,o,Pk⟩) (by rw[z2];show w.heap.size+1<_;omega)]
  refine⟨?_,?_,?_,?_,?_,?_,?_,?_,?_,?_⟩
  ·rw[p0];exact ME _ _ _ 0 rfl
  ·rw[p0];exact ME _ _ _ 1 rfl
  ·rw[frozen?_alloc_cells,frozen?_alloc_cells,frozen?_alloc_cells];unfold OU;rw[Oz aj]
  ·rw[frozen?_alloc_cells,frozen?_alloc_cells,frozen?_alloc_cells];unfold OU;rw[Oz aj]
  ·rw[p1];exact ME _ _ _ 0 z1.symm
  ·rw[p1];exact ME _ _ _ 1 z1.symm
  ·rw[p1];exact ME _ _ _ 2 z1.symm
  ·exact ME _ _ _ 0 z2.symm
  ·exact ME _ _ _ 1 z2.symm
  ·exact ME _ _ _ 2 z2.symm
 have K0:=ai.of_below (F:=fun k=>k=b) k3;have Kb:ai (fun k=>k=b) _ _:=(ai.refl (fun k=>k=b) (((w.alloc (PN #[PE PF 0,PE PF 0] 53)).alloc (PN #[PE PF x.id,PE PF x.s,PE PF x.d] 263)).alloc (PN #[PE PF y.id,PE PF y.s,PE PF y.d] 263))).setCell (p:=⟨b,0,Pk⟩) (fun _=>rfl) (.slice (OM ⟨g,0,Pk⟩) m cap);refine⟨_,rfl,K0.trans Kb (fun _ _ h=>h),by simp,MO _ _ _ ((k3.cell (p:=⟨b,0,Pk⟩) hb).trans c0),?_,?_,F3.keep Kb (by simp) (fun k hk e=>by omega)⟩
 ·rw[MH _ _ _ _ (by intro e;cases e)];exact(k3.cell (p:=⟨b,1,Pk⟩) hb).trans c1
 ·rw[NY];exact(k3.frozen (p:=⟨b,0,Pk⟩) hb).trans f0
theorem rK (W:PG)(N:Nat)(s d:Int)(a0:W.cell? ⟨N,0,Pk⟩=OM (PE PF 0))(a1:W.cell? ⟨N,1,Pk⟩=OM (PE PF 0)) :
  ((W.setCell ⟨N,0,Pk⟩ (PE PF s)).setCell ⟨N,1,Pk⟩ (PE PF d)).cell? ⟨N,0,Pk⟩=OM (PE PF s)/\((W.setCell ⟨N,0,Pk⟩ (PE PF s)).setCell ⟨N,1,Pk⟩ (PE PF d)).cell? ⟨N,1,Pk⟩=OM (PE PF d):=by
 constructor
 ·rw[MH _ _ _ _ (by intro e;cases e)];exact MO _ _ _ a0
 ·refine MO _ _ _ (u:=PE PF 0) ?_;rw[MH _ _ _ _ (by intro e;cases e)];exact a1
theorem uU {b mb m:Nat}{v:PH}{H:Int->Option (Int×Int)}(w:PG)(h:bS w b mb v (m+1) H) :
  PK prog 132 #[.pointer (OM ⟨b,0,Pk⟩)] w fun e w'=>∃a s d,e=PM (.tuple #[PE PF a,.agg #[PE PF s,PE PF d],.bool Pm])/\H a=OM (s,d)/\(∀a' s' d',H a'=OM (s',d')->¬bef ⟨a',s',d'⟩ ⟨a,s,d⟩)/\(∃v',bS w' b mb v' m (jO H a)/\v'.ownBlock=v.ownBlock)/\ai (hb3 b mb v) w w':=by
 obtain⟨it,f,S,O⟩:=h.ex;obtain⟨g,cap,rfl,Vd,Xb,hg⟩:=S.rep.row.pos (by omega);obtain⟨hb,hmb,Vl,TT⟩:=S.rep.blocks;obtain⟨_,Uk,hgm⟩:=TT g rfl;obtain⟨q1,q2,q3⟩:=S.rep.row.cells (show 0<m+1 by omega);obtain⟨p1,p2,p3⟩:=S.rep.row.cells (show m<m+1 by omega);have TL:=S.bd;have c0:=S.rep.c0;have c1:=S.rep.c1;have f0:=S.rep.f0;have h0:H (it 0).id=OM ((it 0).s,(it 0).d):=S.holds.at (by omega);have Vm:∀a' s' d',H a'=OM (s',d')->¬bef ⟨a',s',d'⟩ (it 0):=fun a' s' d' h=>S.holds.least O h;have anV:((m:Nat):Int)<=(cap:Int):=by omega
 unfold maxLen at Xb;simp only[Nat.zero_mul]at q1 q2 q3;have k3:∀A B C:Obj,PI w.heap.size w (((w.alloc A).alloc B).alloc C):=fun A B C=>((al.alloc aj _).alloc (by simp) _).alloc (by simp;omega) _;have e3:∀A B C:Obj,(((w.alloc A).alloc B).alloc C).cell? ⟨b,0,Pk⟩=OM (.slice (OM ⟨g,0,Pk⟩) (m+1) cap):=fun A B C=>((k3 A B C).cell (p:=⟨b,0,Pk⟩) hb).trans c0;have e4:∀A B C:Obj,(((w.alloc A).alloc B).alloc C).frozen? ⟨b,0,Pk⟩=false:=fun A B C=>((k3 A B C).frozen (p:=⟨b,0,Pk⟩) hb).trans f0;clear k3;have HW:=Hm (g:=g) (m:=m) (cap:=cap) w (it 0) (it m) hb c0 c1 f0;obtain⟨W1,eW,K1,z1,d0,d1,df,fr⟩:=HW;have QR:Row W1 (.slice (OM ⟨g,0,Pk⟩) m cap) m it:=S.rep.row.shrink.keep K1 (fun q hq=>by simp only[NA,Option.some.injEq]at hq;rw[<- hq];exact Uk);have YS:aZ prog 3 W1.drew mb f (m+1):=(S.rep.map.keep K1 (fun e=>Vl e.symm)).kept rfl;have akr:=S.wf 0 (by omega);have afX:=S.wf m (by omega);have hf0:=S.atf.at' 0 (by omega);obtain⟨W2,Qs,M2,T2⟩:=YS.drop (t:=129) aY Tryz.under51 akr 0;have em:(if (f (it 0).id).isSome then m+1-1 else m+1)=m:=by rw[hf0];rfl
 rw[em]at M2;have K2:ai (fun k=>k=mb) W1 W2:=(ai.refl (fun k=>k=mb) W1).drew.trans (aA T2) (fun _ _ h=>h);have z2:w.heap.size+3<=W2.heap.size:=by have:=K2.size;omega
 have KA:ai (hb3 b mb (.slice (OM ⟨g,0,Pk⟩) (m+1) cap)) w W2:=(K1.mono (G:=hb3 b mb (.slice (OM ⟨g,0,Pk⟩) (m+1) cap)) (fun _ _ h=>MG h)).trans K2 (fun _ _ h=>MF (MG h));have fr2:=fr.keep K2 (by omega) (fun k hk e=>by omega);have R2:Rep W2 b mb (.slice (OM ⟨g,0,Pk⟩) m cap) m it (lX f (it 0).id) m:=by
  refine⟨(K2.cell (p:=⟨b,0,Pk⟩) (by show b<_;omega) Vl).trans d0,(K2.cell (p:=⟨b,1,Pk⟩) (by show b<_;omega) Vl).trans d1,(K2.frozen (p:=⟨b,0,Pk⟩) (by show b<_;omega) Vl).trans df,QR.keep K2 (fun q hq=>?_),M2,S.rep.nb⟩;simp only[NA,Option.some.injEq]at hq;rw[<- hq];exact hgm
 have b0:=fr.b0;clear YS M2 T2 K1 K2 QR df;go_enter func132,ntmps132;go_wp2;rw[<- eW];clear eW e3 e4 c0 c1 f0 q1 q2 q3 p1 p2 p3;go_region;clear Qs b0 d0 d1;by_cases hm:m=0
 ·subst hm;obtain⟨a0,a1,g0,g1,b0,b1,b2,l0,l1,l2⟩:=fr2;have HF:bS ((W2.setCell ⟨w.heap.size,0,Pk⟩ (PE PF (it 0).s)).setCell ⟨w.heap.size,1,Pk⟩ (PE PF (it 0).d)).drew b mb (.slice (OM ⟨g,0,Pk⟩) 0 cap) 0 (jO H (it 0).id)/\ai (hb3 b mb (.slice (OM ⟨g,0,Pk⟩) (0+1) cap)) w ((W2.setCell ⟨w.heap.size,0,Pk⟩ (PE PF (it 0).s)).setCell ⟨w.heap.size,1,Pk⟩ (PE PF (it 0).d)).drew:=by
   have kk:ai (fun k=>k=w.heap.size) W2 ((W2.setCell ⟨w.heap.size,0,Pk⟩ (PE PF (it 0).s)).setCell ⟨w.heap.size,1,Pk⟩ (PE PF (it 0).d)).drew:=(((ai.refl (fun k=>k=w.heap.size) W2).setCell (p:=⟨w.heap.size,0,Pk⟩) (fun _=>rfl) _).setCell (p:=⟨w.heap.size,1,Pk⟩) (fun _=>rfl) _).drew;refine⟨⟨it,lX f (it 0).id,⟨R2.keep kk (by omega) (by omega) (fun q hq=>?_),⟨fun i hi=>by omega,fun a v hv=>?_⟩,fun i hi=>by omega,fun i hi=>by omega,fun a s d=>⟨fun hh=>?_,fun ⟨i,hi,_⟩=>by omega⟩,by omega⟩,fun j _ hj=>by omega⟩,KA.trans kk (fun i hi e=>by omega)⟩
   ·simp only[NA,Option.some.injEq]at hq;omega
   ·unfold lX at hv;split at hv
    ·cases hv
    ·rename_i e
     obtain⟨i,hi,ea,_⟩:=S.atf.of a v hv;have:i=0:=(by omega);subst this;exact absurd ea.symm e
   ·unfold jO at hh;split at hh
    ·cases hh
    ·rename_i e
     obtain⟨i,hi,ea⟩:=(S.holds a s d).mp hh;have:i=0:=(by omega);subst this;exact absurd (by rw[ea]) (fun q:(it 0).id=a=>e q.symm)
  clear KA R2 S O h TT;have r0:=rK W2 w.heap.size (it 0).s (it 0).d a0 a1;go_wp2;go_region;go_wp2;exact bodyPost_ret (v:=.tuple #[PE PF (it 0).id,.agg #[PE PF (it 0).s,PE PF (it 0).d],.bool Pm]) (by simp[results,results132,go_sem,r0.1,r0.2]) rfl ⟨_,_,_,rfl,h0,Vm,⟨_,HF.1,rfl⟩,HF.2⟩
 ·have hm0:0<m:=by omega
  have Vt:(0:Int)<(m:Int):=by omega
  have afY:(it m).id≠(it 0).id:=fun e=>hm (S.atf.apart m 0 (by omega) (by omega) e);have em2:(if (lX f (it 0).id (it m).id).isSome then m else m+1)=m:=by rw[jP _ afY,S.atf.at' m (by omega)];rfl
  have P1:=fun w R=>nV (b:=b) (mb:=mb) (g:=g) (cap:=cap) (n:=m) (m:=m) (it:=it) (f:=lX f (it 0).id) 0 (it m).id (it m).s (it m).d w R hm0 (by omega) afX;rw[em2]at P1;have WC:∀w',Rep w' b mb (.slice (OM ⟨g,0,Pk⟩) m cap) m (dB it 0 (it m)) (bL (lX f (it 0).id) (it m).id (PE PF (0:Nat))) m->HS w' b mb (.slice (OM ⟨g,0,Pk⟩) m cap) m (dB it 0 (it m)) (bL (lX f (it 0).id) (it m).id (PE PF (0:Nat))) (jO H (it 0).id):=by
   intro w' R;refine⟨R,S.atf.pop hm0,fun k hk=>?_,fun k hk=>?_,S.holds.pop S.atf.apart,by omega⟩
   ·by_cases ek:k=0
    ·subst ek;rw[cZ];exact afX
    ·rw[bY it _ ek];exact S.wf k (by omega)
   ·by_cases ek:k=0
    ·subst ek;rw[cZ];exact S.ok m (by omega)
    ·rw[bY it _ ek];exact S.ok k (by omega)
  have afZ:fG (dB it 0 (it m)) m 0:=fG.first O _
  obtain⟨a0,a1,g0,g1,b0,b1,b2,l0,l1,l2⟩:=fr2;clear S O h TT em em2 hf0 fr;go_wp2_with fail;refine(P1 _ R2).mono ?_;rintro e W3 ⟨rfl,R3,K3⟩;have S3:=WC _ R3;go_wp2_with fail;refine(Hl _ S3 hm0 afZ).mono ?_;rintro e W4 ⟨rfl,⟨Tc,f',S4,O4⟩,K4⟩;have K5:ai (fun k=>k=g\/k=mb) W2 W4:=K3.trans K4 (fun _ _ h=>h);obtain⟨a0,a1,g0,g1,b0,b1,b2,l0,l1,l2⟩:=(Fr.mk a0 a1 g0 g1 b0 b1 b2 l0 l1 l2:Fr W2 w.heap.size (it 0) (it m)).keep K5 z2 (fun k hk e=>by omega);have z4:w.heap.size+3<=W4.heap.size:=by have:=K5.size;omega
  have KB:ai (hb3 b mb (.slice (OM ⟨g,0,Pk⟩) (m+1) cap)) w W4:=KA.trans K5 (fun k _ e=>by
   rcases e with rfl|rfl
   ·exact MF (MF rfl)
   ·exact MF (MG rfl))
  have HF:bS ((W4.setCell ⟨w.heap.size,0,Pk⟩ (PE PF (it 0).s)).setCell ⟨w.heap.size,1,Pk⟩ (PE PF (it 0).d)).drew b mb (.slice (OM ⟨g,0,Pk⟩) m cap) m (jO H (it 0).id)/\ai (hb3 b mb (.slice (OM ⟨g,0,Pk⟩) (m+1) cap)) w ((W4.setCell ⟨w.heap.size,0,Pk⟩ (PE PF (it 0).s)).setCell ⟨w.heap.size,1,Pk⟩ (PE PF (it 0).d)).drew:=by
   have kk:ai (fun k=>k=w.heap.size) W4 ((W4.setCell ⟨w.heap.size,0,Pk⟩ (PE PF (it 0).s)).setCell ⟨w.heap.size,1,Pk⟩ (PE PF (it 0).d)).drew:=(((ai.refl (fun k=>k=w.heap.size) W4).setCell (p:=⟨w.heap.size,0,Pk⟩) (fun _=>rfl) _).setCell (p:=⟨w.heap.size,1,Pk⟩) (fun _=>rfl) _).drew;have hh:bS W4 b mb (.slice (OM ⟨g,0,Pk⟩) m cap) m (jO H (it 0).id):=⟨Tc,f',S4,O4⟩;exact⟨hh.keep kk (by omega) (by omega) (fun q hq=>by simp only[NA,Option.some.injEq]at hq;omega),KB.trans kk (fun i hi e=>by omega)⟩
  have r0:=rK W4 w.heap.size (it 0).s (it 0).d a0 a1;clear KA KB K3 K4 K5 R2 R3 S3 S4 P1 WC;go_wp2;go_region;go_wp2;exact bodyPost_ret (v:=.tuple #[PE PF (it 0).id,.agg #[PE PF (it 0).s,PE PF (it 0).d],.bool Pm]) (by simp[results,results132,go_sem,r0.1,r0.2]) rfl ⟨_,_,_,rfl,h0,Vm,⟨_,HF.1,rfl⟩,HF.2⟩
end
section
open Go.RowKit
def bF (H:Int->Option (Int×Int)) (a s d:Int):Bool:=match H a with|none=>Pm|some c=>decide (val s d<val c.1 c.2)
def pushH (H:Int->Option (Int×Int)) (a s d:Int):Int->Option (Int×Int):=if bF H a s d then aB H a s d else H
theorem Ld (H:Int->Option (Int×Int))(a s d:Int):oX H a s d (pushH H a s d):=by
 unfold oX pushH bF;cases ha:H a with
 |none=>left;exact⟨rfl,fun h=>(by cases h)⟩
 |some c =>
  obtain⟨t,u⟩:=c;by_cases hv:val s d<val t u
  ·left;refine⟨by simp[hv],fun h=>?_⟩;cases h;exact hv
  ·right;exact⟨by simp[hv],t,u,rfl,by omega⟩
def Le (w w':PG) (b mb:Nat) (v:PH) (n:Nat) (H:Int->Option (Int×Int)):Prop :=
 ∃v' n',bS w' b mb v' n' H/\n'<=n+1/\∀g,v'.ownBlock=OM g->v.ownBlock=OM g\/w.heap.size<=g
theorem yf {H:Int->Option (Int×Int)}(a s d:Int)(w:PG)(h:bS w b mb v n H)(hc:okC s d)(VJ:(Lit.int .i64 a).wf=Pm)(hn:n<1000000) :
  PK prog 202 #[.pointer (OM ⟨b,0,Pk⟩),PE PF a,.agg #[PE PF s,PE PF d]] w fun e w'=>e=PM (.bool (bF H a s d))/\Le w w' b mb v n (pushH H a s d)/\ai (hb3 b mb v) w w':=by
 cases ha:H a with
 |none =>
  have e1:bF H a s d=true:=by unfold bF;rw[ha]
  have e2:pushH H a s d=aB H a s d:=by unfold pushH;rw[e1];rfl
  rw[e1,e2];exact(yd a s d w h ha hc VJ hn).mono fun e w' ⟨he,⟨v',h',hl⟩,K⟩=>⟨he,⟨v',n+1,h',aj,fun g hg=>by
   rcases hl with hl|⟨g',hl,hg'⟩
   ·exact MG (by rw[<- hl];exact hg)
   ·rw[hl]at hg;cases hg;exact MF hg'⟩,K⟩
 |some c =>
  obtain⟨t,u⟩:=c;by_cases hv:val s d<val t u
  ·have e1:bF H a s d=true:=(by unfold bF;rw[ha];exact decide_eq_true hv);have e2:pushH H a s d=aB H a s d:=(by unfold pushH;rw[e1];rfl);rw[e1,e2];exact(El a s d t u w h ha hc hv).mono fun e w' ⟨he,h',K⟩=>⟨he,⟨v,n,h',Nat.le_succ _,fun g hg=>MG hg⟩,K⟩
  ·have e1:bF H a s d=false:=(by unfold bF;rw[ha];exact decide_eq_false hv);have e2:pushH H a s d=H:=(by unfold pushH;rw[e1];rfl);rw[e1,e2];exact(Jz a s d t u w h ha hc hv).mono fun e w' ⟨he,hb⟩=>⟨he,⟨v,n,h.below hb,Nat.le_succ _,fun g hg=>MG hg⟩,ai.of_below hb⟩
theorem As {H:Int->Option (Int×Int)}(h:bS w b mb v n H){k:Nat}(hk:hb3 b mb v k):k<w.heap.size:=by
 obtain⟨h1,h2,h3⟩:=h.blocks;rcases hk with rfl|rfl|hk
 ·exact h1
 ·exact h2
 ·exact h3 k hk
end
section
open Go.RowKit
theorem yh (w:PG)(g:aw w b W H V bl) :
  PK prog 58 #[.pointer (OM ⟨b,0,Pk⟩)] w fun e w'=>e=PM (PE PF V)/\w'=w:=by
 have c2:=g.c2;go_enter func58,ntmps58;go_wp2;go_ret;exact⟨rfl,rfl⟩
theorem yj (w:PG)(g:aw w b W H V bl) :
  PK prog 92 #[.pointer (OM ⟨b,0,Pk⟩)] w fun e w'=>e=PM (.tuple #[PE PF W,PE PF H])/\∃m,w'=w.drewN m:=by
 have c0:=g.c0;have c1:=g.c1;go_enter func92,ntmps92;go_wp2;go_quiet (fail);go_wp2;go_ret2;exact⟨rfl,_,rfl⟩
theorem uV (x y:Int)(w:PG)(g:aw w b W H V bl)(hr:atB W H x y=Pm) :
  PK prog 152 #[.pointer (OM ⟨b,0,Pk⟩),PE PF x,PE PF y] w fun e w'=>e=PM (.tuple #[PE PF (y*W+x),.nilIface])/\w'=w:=by
 have h:0<=x/\x<W/\0<=y/\y<H:=of_decide_eq_true hr;have hp:∀w:PG,aw w b W H V bl->PK prog 139 #[.pointer (OM ⟨b,0,Pk⟩),PE PF x,PE PF y] w fun e w'=>e=PM (.bool Pm)/\w'=w:=fun w g=>hr▸gO x y w g;have gw:=g.w2;have gh:=g.h2;have hn:=mw x y w g (by omega) (by omega) (by omega) (by omega);go_enter func152,ntmps152;go_wp2_with (first|(go_at_call 139;refine(hp _ g).mono ?_;rintro e w' ⟨rfl,rfl⟩)|(go_at_call 140;refine hn.mono ?_;rintro e w' ⟨rfl,rfl⟩));go_ret2;exact⟨rfl,rfl⟩
theorem rL (x y:Int)(w:PG)(g:aw w b W H V bl)(hr:atB W H x y=PB) :
  PK prog 152 #[.pointer (OM ⟨b,0,Pk⟩),PE PF x,PE PF y] w fun e w'=>e=PM (.tuple #[PE PF 0,.iface 54 (PE PF 1)])/\w'=w:=by
 have hp:∀w:PG,aw w b W H V bl->PK prog 139 #[.pointer (OM ⟨b,0,Pk⟩),PE PF x,PE PF y] w fun e w'=>e=PM (.bool PB)/\w'=w:=fun w g=>hr▸gO x y w g;go_enter func152,ntmps152;go_wp2_with (go_at_call 139;refine(hp _ g).mono ?_;rintro e w' ⟨rfl,rfl⟩);go_ret2;exact⟨rfl,rfl⟩
end
section
open Go.RowKit
theorem tL (w:PG)(m k:Nat):(w.drewN m).drewN k=w.drewN (m+k):=by simp
def rcB (W H:Int) (bl:Nat->Bool) (x y:Int) (i j:Nat):Bool:=!aM W H bl (x+(2*(i:Int)-1)) (y+(2*(j:Int)-1))&&(aM W H bl (x+(2*(i:Int)-1)) y&&aM W H bl x (y+(2*(j:Int)-1)))
theorem Ho (W H:Int)(bl:Nat->Bool)(x y:Int):rcB W H bl x y 1 0=crB W H bl x y 1/\rcB W H bl x y 1 1=crB W H bl x y 3/\rcB W H bl x y 0 1=crB W H bl x y 5/\rcB W H bl x y 0 0=crB W H bl x y 7:=by
 unfold rcB crB;refine⟨?_,?_,?_,?_⟩<;>exact Bool.and_comm _ _
theorem Au {j:Nat}(hi:i<2)(hj:j<2)(h:rcB W H bl x y i j=Pm):gJ W H bl x y=true:=by
 obtain⟨h1,h2,h3,h4⟩:=Ho W H bl x y;have:(i=0\/i=1)/\(j=0\/j=1):=by omega
 obtain⟨rfl|rfl,rfl|rfl⟩:=this
 ·exact fO (j:=3) (by omega) (by rw[<- h4];exact h)
 ·exact fO (j:=2) (by omega) (by rw[<- h3];exact h)
 ·exact fO (j:=0) (by omega) (by rw[<- h1];exact h)
 ·exact fO (j:=1) (by omega) (by rw[<- h2];exact h)
theorem sE (h:∀i j,i<2->j<2->rcB W H bl x y i j=PB):gJ W H bl x y=false:=by
 obtain⟨h1,h2,h3,h4⟩:=Ho W H bl x y;refine pF fun j hj=>?_;have:j=0\/j=1\/j=2\/j=3:=by omega
 rcases this with rfl|rfl|rfl|rfl
 ·rw[<- h1];exact h 1 0 (by omega) (by omega)
 ·rw[<- h2];exact h 1 1 (by omega) (by omega)
 ·rw[<- h3];exact h 0 1 (by omega) (by omega)
 ·rw[<- h4];exact h 0 0 (by omega) (by omega)
theorem Hp (w:PG)(g:bg w b W H V bl)(hx:Int.tmod c W=x)(hy:Int.tdiv c W=y)(hr:(aM W H bl x y&&gJ W H bl x y)=r)(x1:0<=x)(x2:x<16)(y1:0<=y)(y2:y<16) :
  PK prog 144 #[.pointer (OM ⟨b,0,Pk⟩),PE PF c] w fun e w'=>e=PM (.bool r)/\∃m,w'=w.drewN m:=by
 have c0:=g.c0;have Qa:=g.w1;have PW:W≠0:=by omega
 have hwy:IntKind.i64.wrap y=y:=by unfold IntKind.wrap;simp[IntKind.bits,IntKind.signed];omega
 cases hA:aM W H bl x y with
 |false =>
  rw[hA]at hr;simp only[Bool.false_and]at hr;subst hr;go_enter func144,ntmps144;go_wp2_with (go_at_call 91;refine(fX (by assumption) _ g).mono ?_;rintro e w' ⟨rfl,m,rfl⟩);go_ret;exact⟨rfl,_,rfl⟩
 |true =>
  rw[hA]at hr;simp only[Bool.true_and]at hr;have HR:=ae hr;clear hr;go_enter func144,ntmps144;go_wp2_with (go_at_call 91;refine(fX (by assumption) _ g).mono ?_;rintro e w' ⟨rfl,m,rfl⟩);go_loopg [7] (2:Nat) (fun gk dv wr=>∃i:Nat,i<=2/\gk=2-i/\dv=PE PF (2*(i:Int)-1)/\Hid (∀i' j',i'<i->j'<2->rcB W H bl x y i' j'=PB)/\∃m,wr=w.drewN m)
  case atStart=>exact⟨0,MQ _,rfl,rfl,fun i' _ hj=>absurd hj (by omega),m,rfl⟩
  case round =>
   obtain⟨i,hi,QD,rfl,Qe,m,rfl⟩:=hrel;by_cases PO:i<2
   ·have QZ:2*(i:Int)-1<2:=(by omega);go_wp2;go_loopg [8] (2:Nat) (fun gk dv wr=>∃j:Nat,j<=2/\gk=2-j/\dv=PE PF (2*(j:Int)-1)/\Hid (∀j',j'<j->rcB W H bl x y i j'=PB)/\∃m,wr=w.drewN m)
    case atStart=>exact⟨0,MQ _,rfl,rfl,fun j' hj=>absurd hj (by omega),m,rfl⟩
    case round =>
     obtain⟨j,hj,hgj,rfl,PY,m2,rfl⟩:=hrel;by_cases VN:j<2
     ·have arZ:2*(j:Int)-1<2:=(by omega);have hrc:rcB W H bl x y i j=(!aM W H bl (x+(2*(i:Int)-1)) (y+(2*(j:Int)-1))&&(aM W H bl (x+(2*(i:Int)-1)) y&&aM W H bl x (y+(2*(j:Int)-1)))):=rfl;have go_on:rcB W H bl x y i j=PB->Hid (∀j',j'<j+1->rcB W H bl x y i j'=PB):=fun h j' Zk=>by
       by_cases e:j'=j
       ·rw[e];exact h
       ·exact PY.out j' (by omega)
      cases hP:aM W H bl (x+(2*(i:Int)-1)) (y+(2*(j:Int)-1)) with
      |true =>
       rw[hP]at hrc;have HN:=go_on (by rw[hrc];rfl);clear hrc go_on;cases hQ:aM W H bl (x+(2*(i:Int)-1)) y<;>cases hS:aM W H bl x (y+(2*(j:Int)-1))
       all_goals
        go_wp2_with (go_at_call 91;refine(fX (by assumption) _ (g.drewN _)).mono ?_;rintro e w' ⟨rfl,m3,rfl⟩);go_roundg (2-(j+1))
       all_goals first|omega|exact⟨j+1,by omega,rfl,by go_num,HN,_,rfl⟩
      |false =>
       cases hQ:aM W H bl (x+(2*(i:Int)-1)) y<;>cases hS:aM W H bl x (y+(2*(j:Int)-1))
       case true.true =>
        rw[hP,hQ,hS]at hrc;have HT:Hid (gJ W H bl x y=Pm):=Au PO VN hrc;clear hrc go_on;go_wp2_with (go_at_call 91;refine(fX (by assumption) _ (g.drewN _)).mono ?_;rintro e w' ⟨rfl,m3,rfl⟩);go_ret;exact⟨by rw[<- HR.out,HT.out];rfl,_,rfl⟩
       all_goals
        rw[hP,hQ,hS]at hrc;have HN:=go_on (by rw[hrc];rfl);clear hrc go_on;go_wp2_with (go_at_call 91;refine(fX (by assumption) _ (g.drewN _)).mono ?_;rintro e w' ⟨rfl,m3,rfl⟩);go_roundg (2-(j+1))
       all_goals first|omega|exact⟨j+1,by omega,rfl,by go_num,HN,_,rfl⟩
     ·have e:j=2:=(by omega);subst e;go_wp2;go_roundg (2-(i+1))
      case measure=>omega
      case rel =>
       refine⟨i+1,by omega,rfl,by go_num,fun i' j' VP Zk=>?_,_,rfl⟩;by_cases e:i'=i
       ·rw[e];exact PY.out j' Zk
       ·exact Qe.out i' j' (by omega) Zk
   ·have e:i=2:=(by omega);subst e;have HT:Hid (gJ W H bl x y=PB):=sE Qe.out;go_wp2;go_ret;exact⟨by rw[<- HR.out,HT.out];rfl,_,rfl⟩
theorem tM (hc:bj W H bl c=r)(w:PG)(g:bg w b W H V bl)(hr:inB W H c=Pm) :
  PK prog 144 #[.pointer (OM ⟨b,0,Pk⟩),PE PF c] w fun e w'=>e=PM (.bool r)/\∃m,w'=w.drewN m:=by
 obtain⟨x1,x2,y1,y2⟩:=dA g.w1 hr;have hq:0<=c/\c<W*H:=of_decide_eq_true hr;have gw:=g.w2;have gh:=g.h2;exact Hp w g (OA hq.1) (Int.tdiv_eq_ediv_of_nonneg hq.1) hc x1 (by omega) y1 (by omega)
theorem uW (w:PG)(g:bg w b W H V bl)(hb:b<w.heap.size) :
  PK prog 103 #[.pointer (OM ⟨b,0,Pk⟩)] w fun e w'=>∃v,e=PM v /\
   w'.ownsRow w.heap.size 3 1 v (crs W H bl (W*H).toNat).length (aH (crs W H bl (W*H).toNat))/\PI w.heap.size w w':=by
 obtain⟨i0,hi,P0,P3,Qd⟩:=info_parts Tryz.info3;obtain⟨k1,k2⟩:=bP g.w1 g.w2 g.h1 g.h2;go_enter func103,ntmps103;go_wp2;go_loopw [3,4] (fun v i wr=>∃k:Nat,(k:Int)<=W*H/\i=PE PF k/\wr.ownsRow w.heap.size 3 1 v (crs W H bl k).length (aH (crs W H bl k))/\PI w.heap.size w wr)
  (fun _ i _=>1000-(intOf i).toNat)
 case atStart=>exact⟨0,by omega,rfl,Nj _ _ _ _,al⟩
 case round =>
  obtain⟨k,hk,rfl,hown,Qu⟩:=hrel;have hl:=fF W H bl k;have gr:=g.below Qu hb;have c0:=gr.c0;have c1:=gr.c1;have QC:=Qu.size;by_cases PO:(k:Int)<W*H
  ·have Q3:=xG W H bl k;have PY:inB W H (k:Nat)=true:=decide_eq_true ⟨by omega,PO⟩;cases hM:bj W H bl (k:Nat) with
   |false =>
    rw[hM]at Q3;have h0:crs W H bl (k+1)=crs W H bl k:=by simpa using Q3
    have HS:=ae h0;clear h0 Q3;go_wp2;go_quiet (fail);go_wp2_with (go_at_call 144;refine(tM hM _ (gr.drewN _) PY).mono ?_;rintro e w' ⟨rfl,m,rfl⟩);go_roundw
    case rel=>exact⟨k+1,by omega,by go_num,by rw[HS.out];exact hown,below_drewN Qu _⟩
    case measure=>simp[intOf];omega
   |true =>
    rw[hM]at Q3;have h0:crs W H bl (k+1)=crs W H bl k++[k]:=by simpa using Q3
    have HS:=ae h0;clear h0 Q3;go_wp2;go_quiet (fail);go_wp2_with (first|(go_at_call 144;refine(tM hM _ (gr.drewN _) PY).mono ?_;rintro e w' ⟨rfl,m,hm'⟩;rw[tL]at hm';subst hm')|(at_builtin;refine wpList_append_own _ rfl _ _ 51 rfl w.heap.size 3 i0 (PE PF 0) 1 8 underlying51 hi P0 P3 Qd rfl (by decide) _ _ _ rfl (World.ownsRow.alloc hown _) ⟨wr.heap.size,0,Pk⟩ 1 1 [PE PF k] rfl rfl ?c1 ?c2 ?c3 ?c4 ?c5 ?_))
    case c1 =>
     intro j u hj
     match j,hj with
     |0,hj =>
      simp at hj;subst hj;simp only[Addr.add];exact ME (w:=wr.drewN (nq+m)) #[PE PF k] 3 wr.heap.size 0 rfl
    case c2=>intro u hu;simp at hu;subst hu;rfl
    case c3=>unfold maxLen;omega
    case c4=>omega
    case c5=>simp;omega
    intro v' w1 PS PR _;have PX:=fun q hq=>(hown.lt q hq).1;have B1:PI w.heap.size w w1:=((below_drewN Qu (nq+m)).alloc QC _).grown PR (by simp;omega) PX;have O1:w1.ownsRow w.heap.size 3 1 v' (crs W H bl (k+1)).length (aH (crs W H bl (k+1))):=by
     rw[HS.out]
     simpa [aH]using PS
    clear PS PR hown Qu gr c0 c1;go_wp2;go_roundw
    case rel=>exact⟨k+1,by omega,by go_num,O1,B1⟩
    case measure=>simp[intOf];omega
  ·have e:(W*H).toNat=k:=(by omega);have HE:=ae e;clear e;go_wp2;go_quiet (fail);go_wp2;go_ret;exact⟨_,rfl,by rw[HE.out];exact hown,below_drewN Qu _⟩
end
section
open Go.RowKit
theorem Av (hl:crs W H bl (W*H).toNat=l)(w:PG)(g:bg w b W H V bl)(hb:b<w.heap.size) :
  PK prog 103 #[.pointer (OM ⟨b,0,Pk⟩)] w fun e w'=>∃A cap,e=PM (.slice A l.length cap)/\bu w' A l.length (fun i=>(l.getD i 0:Nat))/\PI w.heap.size w w'/\∀b o,A=OM ⟨b,o,Pk⟩->w.heap.size<=b :=
 (uW w g hb).mono fun e w' ⟨v,he,hown,Qz⟩=>by
  rw[hl]at hown;obtain⟨A,cap,rfl,PT⟩:=iw hown;refine⟨A,cap,he,PT,Qz,fun b o e=>?_⟩;subst e;rcases hown.2 with⟨h,_⟩|⟨g,cap2,cur,h,h5,_⟩
  ·cases h
  ·cases h;exact h5
end
end Go.Proofs.YtmaefimaeelkbaaGreatDoor
