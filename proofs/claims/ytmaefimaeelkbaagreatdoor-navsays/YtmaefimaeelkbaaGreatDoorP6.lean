/- Texts laid together. -/
import Derived.Test.YtmaefimaeelkbaaGreatDoorP5
namespace Go.Proofs.YtmaefimaeelkbaaGreatDoor
open _root_.Int renaming zero_add→Oq,emod_nonneg→Px,emod_lt_of_pos→Pe,ediv_nonneg→Py,ediv_lt_of_lt_mul→OP,mul_comm→Oy,add_zero→NN,mul_nonneg→Ou,toNat_of_nonneg→Nl,add_comm→NI
open _root_.List renaming mem_filter→Ns,mem_range→NR,mem_singleton→MU,take_succ_eq_append_getElem→OC,filter_append→NQ,take_length→M9,getElem_mem→ND,size_toArray→Oi,replicate→N8,length_replicate→OE
open _root_.Bool renaming and_eq_true→MW
open _root_.Or renaming inr→MF,inl→MG
open Go.World renaming grownBy_alloc→Nu,ownsRow_nil→Nj,cell?_alloc_at→ME,block_lt_of_cell?→MK,rangeAt_setCells_same→NG,frozen?_setCells→OL
open _root_.Nat renaming lt_of_lt_of_le→MN,le_trans→M5,zero_le→MQ
open Go.Value renaming int→PE
open Go.IntKind renaming i64→PF
open Go.Proofs.Tryz
open _root_.Option renaming some→OM,none→Pk
open _root_.Bool renaming true→Pm,false→PB
open Go renaming World→PG,Value→PH,Calls→PK
open Go.RowKit renaming Below→PI,Hid→PJ
open Go.Ending renaming returned→PM
open Go.Obj renaming cells→PN
variable {s d a r t W u x y H V c X Y v:Int}{p:Int->Bool}{k b j n rb pb mb:Nat}{bl:Nat->Bool}{w:PG}{xs:List PH}{L:List Nat}
set_option maxHeartbeats 8000000
set_option maxRecDepth 1000000
section
variable {W H : Int} {bl : Nat → Bool}
def cU (W a b:Int):Int:=val (aO W a b) (aK W a b)
theorem nX (a b:Int):dst a b=dst b a:=by unfold dst;split<;>split<;>omega
theorem aV (W a b:Int):aO W a b=aO W b a:=by unfold aO;rw[nX (a%W),nX (a/W)]
theorem aW (W a b:Int):aK W a b=aK W b a:=by unfold aK;rw[nX (a%W),nX (a/W)]
theorem eu (W a b:Int):cU W a b=cU W b a:=by unfold cU;rw[aV,aW]
theorem nY (a:Int):dst a a=0:=by unfold dst;split<;>omega
theorem fu (W a:Int):aO W a a=0:=by unfold aO;rw[nY,nY];rfl
theorem fw (W a:Int):aK W a a=0:=by unfold aK;rw[nY,nY];rfl
theorem mH (a b:Int):0<=dst a b:=by unfold dst;split<;>omega
theorem aG (W a b:Int):0<=aO W a b:=mH _ _
theorem aD (W a b:Int):0<=aK W a b:=by
 unfold aK les;have:=mH (a%W) (b%W);have:=mH (a/W) (b/W);split<;>omega
theorem iE (h:0<=s)(k:0<=d):0<=val s d:=by unfold val;omega
theorem uX (X Y:Int):38613965*X+15994428*Y<=val (dst X Y) (les X Y)/\38613965*Y+15994428*X<=val (dst X Y) (les X Y)/\(val (dst X Y) (les X Y)=38613965*X+15994428*Y\/val (dst X Y) (les X Y)=38613965*Y+15994428*X):=by
 unfold val dst les;split<;>omega
theorem Cj (a b c:Int):dst a c<=dst a b+dst b c:=by unfold dst;split<;>split<;>split<;>omega
theorem lL (W a b c:Int):cU W a c<=cU W a b+cU W b c:=by
 unfold cU aO aK;have h1:=Cj (a%W) (b%W) (c%W);have h2:=Cj (a/W) (b/W) (c/W);generalize dst (a%W) (c%W)=X at *;generalize dst (a/W) (c/W)=Y at *;generalize dst (a%W) (b%W)=X1 at *;generalize dst (a/W) (b/W)=Y1 at *;generalize dst (b%W) (c%W)=X2 at *;generalize dst (b/W) (c/W)=Y2 at *;obtain⟨a1,a2,a3⟩:=uX X Y;obtain⟨b1,b2,b3⟩:=uX X1 Y1;obtain⟨c1,c2,c3⟩:=uX X2 Y2;clear b3 c3;rcases a3 with a3|a3<;>omega
theorem eG {o:Int}(w1:1<=W)(h:Wk (aF W H bl) o a s d):cU W o a<=val s d:=Cf w1 h
theorem uY {p:Int}(e:aF W H bl p k r):Wk (aF W H bl) p r (stS k) (stD k):=by
 have:=(Wk.nil (E:=aF W H bl) (o:=p)).step e
 rwa [Oq,Oq]at this
theorem dD (w1:1<=W){p r t:Int}{k:Nat}(e:aF W H bl p k r):fl (p%W) (p/W) (t%W) (t/W) k↔aO W r t+stS k=aO W p t/\aK W r t+stD k=aK W p t:=by
 obtain⟨h1,h2⟩:=e.place w1;unfold fl aO aK;rw[h1,h2]
def Tw (W H:Int) (bl:Nat->Bool) (a t p:Int):Prop :=
 ∀R:Int->Prop,R a->(∀p k r,R p->aF W H bl p k r->fl (p%W) (p/W) (t%W) (t/W) k->R r)->R p
theorem Tw.nil :Tw W H bl a t a:=fun _ h _=>h
theorem Tw.step {p:Int}(h:Tw W H bl a t p)(e:aF W H bl p k r)(g:fl (p%W) (p/W) (t%W) (t/W) k):Tw W H bl a t r:=fun R h0 hs=>hs _ _ _ (h R h0 hs) e g
theorem Tw.walk (w1:1<=W){a t p:Int}(h:Tw W H bl a t p):∃s d,Wk (aF W H bl) a p s d/\s+aO W p t=aO W a t/\d+aK W p t=aK W a t:=by
 refine h (fun p=>∃s d,Wk (aF W H bl) a p s d/\s+aO W p t=aO W a t/\d+aK W p t=aK W a t) ⟨0,0,Wk.nil,Oq _,Oq _⟩ ?_;rintro p k r ⟨s,d,hw,h1,h2⟩ e g;obtain⟨g1,g2⟩:=(dD w1 e).1 g;exact⟨_,_,hw.step e,by omega,by omega⟩
theorem Ck {b:Int}:aK W a b*54608393<=cU W a b:=by
 have:=aG W a b;have:=aD W a b;unfold cU val;omega
theorem Tw.of_walk (w1:1<=W){a t p s d:Int}(hb:aK W a t<=1000)(hs:aO W a t<=1000)(h:Wk (aF W H bl) a p s d)(hv:val s d+cU W p t<=cU W a t):Tw W H bl a t p:=by
 refine h.ind (R:=fun p s d=>val s d+cU W p t<=cU W a t->Tw W H bl a t p) (fun _=>Tw.nil) ?_ hv;intro p s d k r hw ih e hv;have e1:=eG w1 (uY e);have e2:=lL W p r t;have e3:=lL W a p t;have e4:=eG w1 hw;rw[cC]at hv;have hp:val s d+cU W p t<=cU W a t:=by omega
 have heq:cU W r t+val (stS k) (stD k)=cU W p t:=by omega
 have hle:cU W p t<=cU W a t:=by
  obtain⟨n1,n2⟩:=hw.nonneg;have:=iE n1 n2;omega
 have m1:=Ck (W:=W) (a:=p) (b:=t);have m2:=Ck (W:=W) (a:=r) (b:=t);have m3:=aD W p t;have m4:=aD W r t;have m5:cU W a t<=93222358000:=by unfold cU val;omega
 have m6:=iE (aG W r t) m4;have m7:=(kC k).1;have c3:=iz k;have q:val (aO W r t+stS k) (aK W r t+stD k)=val (aO W p t) (aK W p t):=by rw[cC];exact heq
 obtain⟨q1,q2⟩:=gL _ _ _ _ (by omega) (by omega) q;exact(ih hp).step e ((dD w1 e).2 ⟨q1,q2⟩)
def On (W H:Int) (bl:Nat->Bool) (a b k:Int):Prop:=Tw W H bl a b k/\Tw W H bl b a k
theorem bV {b:Int}(w1:1<=W)(w2:W<=16)(h1:1<=H)(h2:H<=16)(ha:inB W H a=Pm)(hb:inB W H b=Pm):aO W a b<=16/\aK W a b<=16:=by
 have ha:0<=a/\a<W*H:=of_decide_eq_true ha;have hb:0<=b/\b<W*H:=of_decide_eq_true hb;have p1:=Px a (show W≠0 by omega);have p2:=Pe a (show 0<W by omega);have p3:=Px b (show W≠0 by omega);have p4:=Pe b (show 0<W by omega);have q1:0<=a/W:=Py ha.1 (by omega);have q2:0<=b/W:=Py hb.1 (by omega);have q3:a/W<H:=OP (by omega) (by rw[Oy];exact ha.2);have q4:b/W<H:=OP (by omega) (by rw[Oy];exact hb.2);unfold aO aK;generalize a%W=ax at *;generalize a/W=ay at *;generalize b%W=bx at *;generalize b/W=by' at *
 have r1:dst ax bx<=16/\0<=dst ax bx:=by unfold dst;split<;>omega
 have r2:dst ay by'<=16/\0<=dst ay by':=by unfold dst;split<;>omega
 generalize dst ax bx=X at *;generalize dst ay by'=Y at *
 unfold dst les;constructor<;>split<;>omega
theorem p7 (h1:0<=d)(h2:0<=s)(h3:0<=u)(h4:u<=1000)(h:val s d=val t u)(ht:t<=1000):s=t/\d=u:=by
 have h5:val t u<=93222358000:=by unfold val;omega
 have h6:54608393*d<=val s d:=by unfold val;omega
 have h7:d<=2000:=by
  rw[h]at h6;clear h;generalize val t u=x at *;omega
 exact gL s d t u (by omega) (by omega) h
theorem On.walks (w1:1<=W){a b k:Int}(hS:aO W a b<=1000)(hD:aK W a b<=1000)(h:On W H bl a b k) :
  Wk (aF W H bl) a k (aO W a k) (aK W a k)/\Wk (aF W H bl) b k (aO W b k) (aK W b k)/\aO W a k+aO W b k=aO W a b/\aK W a k+aK W b k=aK W a b:=by
 obtain⟨s,d,hw,e1,e2⟩:=h.1.walk w1;obtain⟨t,u,hx,f1,f2⟩:=h.2.walk w1;have a1:=eG w1 hw;have a2:=eG w1 hx;have a3:=lL W a k b;have e3:val s d+cU W k b=cU W a b:=by unfold cU;rw[<- cC,e1,e2]
 have f3:val t u+cU W k a=cU W b a:=by unfold cU;rw[<- cC,f1,f2]
 rw[eu W b a]at f3;rw[eu W k b]at e3;rw[eu W k a]at f3;rw[eu W k b]at a3;have v1:val s d=cU W a k:=by omega
 have v2:val t u=cU W b k:=by omega
 obtain⟨n1,n2⟩:=hw.nonneg;obtain⟨n3,n4⟩:=hx.nonneg;have o1:=aG W k b;have o2:=aD W k b;have o3:=aG W k a;have o4:=aD W k a;rw[aV W b a]at f1;rw[aW W b a]at f2;have p1:=p7 (aD W a k) (aG W a k) n2 (by omega) v1.symm (by omega);have p2:=p7 (aD W b k) (aG W b k) n4 (by omega) v2.symm (by omega);rw[aV W k b]at e1;rw[aW W k b]at e2;rw[p1.1,p1.2];refine⟨hw,by rw[p2.1,p2.2];exact hx,by omega,by omega⟩
theorem On.of_walks (w1:1<=W){a b k s d t u:Int}(hS:aO W a b<=1000)(hD:aK W a b<=1000)(hw:Wk (aF W H bl) a k s d)(hx:Wk (aF W H bl) b k t u)(h1:s+t=aO W a b)(h2:d+u=aK W a b):On W H bl a b k:=by
 have a1:=eG w1 hw;have a2:=eG w1 hx;have a3:=lL W a k b;have e3:val s d+val t u=cU W a b:=by unfold cU;rw[<- cC,h1,h2]
 refine⟨Tw.of_walk w1 hD hS hw ?_,Tw.of_walk w1 (by rw[aW];exact hD) (by rw[aV];exact hS) hx ?_⟩
 ·rw[eu W k b];omega
 ·rw[eu W b a,eu W k a];rw[eu W k b]at a3;omega
section
variable {F G : Int → Option (Int × Int)} {a b : Int}
theorem rM (w1:1<=W)(BA:ct (aF W H bl) a F){k:Int}(h:Wk (aF W H bl) a k (aO W a k) (aK W a k)):F k=OM (aO W a k,aK W a k):=by
 obtain⟨s,d,h1,h2⟩:=BA.least h;have h3:=eG w1 (BA.sound h1);obtain⟨b1,b2,b3⟩:=BA.small h1;have c2:=cE b1 b2 b3;have v:val (aO W a k) (aK W a k)=val s d:=by unfold cU at h3;omega
 obtain⟨e1,e2⟩:=p7 (aD W a k) (aG W a k) b2 (by omega) v (by omega);rw[h1,e1,e2]
theorem Aw (w1:1<=W)(hS:aO W a b<=1000)(hD:aK W a b<=1000)(BA:ct (aF W H bl) a F)(BB:ct (aF W H bl) b G)(k:Int) :
  On W H bl a b k↔∃s d t u,F k=OM (s,d)/\G k=OM (t,u)/\s+t=aO W a b/\d+u=aK W a b:=by
 constructor
 ·intro h;obtain⟨h1,h2,h3,h4⟩:=h.walks w1 hS hD;exact⟨_,_,_,_,rM w1 BA h1,rM w1 BB h2,h3,h4⟩
 ·rintro⟨s,d,t,u,h1,h2,h3,h4⟩;exact On.of_walks w1 hS hD (BA.sound h1) (BB.sound h2) h3 h4
end
section
variable {a b : Int}
theorem On.ends (w1:1<=W){k:Int}(hS:aO W a b<=1000)(hD:aK W a b<=1000)(h:On W H bl a b k):On W H bl a b a/\On W H bl a b b/\Wk (aF W H bl) a b (aO W a b) (aK W a b):=by
 obtain⟨h1,h2,h3,h4⟩:=h.walks w1 hS hD;have hj:=Wk.join h1 (h2.back (aF.back w1));rw[h3,h4]at hj;exact⟨On.of_walks w1 hS hD Wk.nil (hj.back (aF.back w1)) (Oq _) (Oq _),On.of_walks w1 hS hD hj Wk.nil (NN _) (NN _),hj⟩
theorem On.of_near (w1:1<=W)(hS:aO W a b<=1000)(hD:aK W a b<=1000)(h:Wk (aF W H bl) a b (aO W a b) (aK W a b)):On W H bl a b b :=
 On.of_walks w1 hS hD h Wk.nil (NN _) (NN _)
theorem On.next (w1:1<=W){k:Int}(hS:aO W a b<=1000)(hD:aK W a b<=1000)(h:On W H bl a b k)(PW:k≠b):∃j r,aF W H bl k j r/\fl (k%W) (k/W) (b%W) (b/W) j/\On W H bl a b r:=by
 obtain⟨h1,h2,h3,h4⟩:=h.walks w1 hS hD;rcases h2.inv with⟨e,_⟩|⟨r,t',u',j,hr,er,e1,e2⟩
 ·exact absurd e PW
 ·obtain⟨j',er',f1,f2⟩:=aF.back w1 _ _ _ er;have QK:=On.of_walks w1 hS hD (h1.step er') hr (by omega) (by omega);obtain⟨g1,g2,g3,g4⟩:=QK.walks w1 hS hD;refine⟨j',r,er',(dD w1 er').2 ?_,QK⟩;have q:=eG w1 hr;have q2:=eG w1 (h1.step er');have q3:val (aO W a k+stS j') (aK W a k+stD j')+val t' u'=cU W a r+cU W b r:=by
   unfold cU;rw[<- cC,<- cC]
   congr 1<;>omega
  have q4:val (aO W b r) (aK W b r)=val t' u':=by unfold cU at q q2 q3;omega
  obtain⟨n1,n2⟩:=hr.nonneg;have:=aG W a k;have:=aD W a k;have:=iz j;obtain⟨z1,z2⟩:=p7 (aD W b r) (aG W b r) n2 (by omega) q4 (by omega);rw[aV W r b,aW W r b,aV W k b,aW W k b];omega
theorem rN (hk:k<8):¬fl x y x y k:=by
 intro g;obtain⟨a1,a2⟩:=kH hk g;by_cases q:k%2=1
 ·have:=(a1 q).1;omega
 ·have:=a2 (by omega);omega
end
def Mg (W H:Int) (bl:Nat->Bool) (a b p:Int) (k:Nat) (r:Int):Prop:=aF W H bl p k r/\fl (p%W) (p/W) (b%W) (b/W) k/\On W H bl a b r
def Ax (W H:Int) (bl:Nat->Bool) (a b p:Int) (k:Nat) (r:Int):Prop:=Mg W H bl a b p k r/\(k%2=0->∀j q,j%2=1->¬Mg W H bl a b p j q)
def WSt (W H:Int) (bl:Nat->Bool) (a b p r:Int):Prop:=∃k,Ax W H bl a b p k r
theorem Chn.snoc {P:Int->Int->Prop}:∀{l:List Int}{a c r:Int},Chn P a l c->P c r->Chn P a (l++[r]) r
 |[],a,c,r,h,k=>by
  have e:a=c:=h;subst e;exact⟨k,rfl⟩
 |x::l,a,c,r,⟨h1,h2⟩,k=>⟨h1,Chn.snoc h2 k⟩
end
section
open Go.RowKit
def ffv (W H:Int) (bl:Nat->Bool) (c:Int):Int:=if inB W H c then (if bl c.toNat then 4 else 0) else 1
def Ay (n:Int):Value:=if n=0 then .nilIface else .iface 54 (PE PF n)
theorem jw (c:Int)(w:PG)(g:aw w b W H V bl) :
  PK prog 123 #[.pointer (OM ⟨b,0,Pk⟩),PE PF c] w fun e w'=>e=PM (Ay (ffv W H bl c))/\PI w.heap.size w w':=by
 have q:∀{v:PH},(PK prog 123 #[.pointer (OM ⟨b,0,Pk⟩),PE PF c] w fun e w'=>e=PM v/\∃m,w'=w.drewN m)->PK prog 123 #[.pointer (OM ⟨b,0,Pk⟩),PE PF c] w fun e w'=>e=PM v/\PI w.heap.size w w':=fun h=>h.mono fun _ _ ⟨he,m,hm⟩=>⟨he,by subst hm;exact below_drewN al m⟩;cases hr:inB W H c with
 |false =>
  have e:ffv W H bl c=1:=by unfold ffv;rw[hr];rfl
  rw[e];exact q (D4 c w g hr)
 |true =>
  have hc:0<=c/\c<W*H:=of_decide_eq_true hr;obtain⟨n,rfl⟩:∃n:Nat,c=n:=⟨c.toNat,by omega⟩;have e:ffv W H bl n=if bl n then 4 else 0:=by unfold ffv;rw[hr];rfl
  rw[e];cases hb:bl n with
  |true=>exact q (GQ n w g hr hb)
  |false=>exact q (GS n w g hr hb)
end
section
open Go.RowKit
variable {W H : Int} {bl : Nat → Bool}
theorem On.sym {b k:Int}(h:On W H bl a b k):On W H bl b a k:=⟨h.2,h.1⟩
theorem oe {b:Int}{F:Int->Option (Int×Int)}(w1:1<=W)(hS:aO W a b<=1000)(hD:aK W a b<=1000)(BA:ct (aF W H bl) a F):(∃z,On W H bl a b z)↔F b=OM (aO W a b,aK W a b):=by
 constructor
 ·rintro⟨z,h⟩;exact rM w1 BA (h.ends w1 hS hD).2.2
 ·intro h;exact⟨b,On.of_near w1 hS hD (BA.sound h)⟩
theorem On.near_a {b k:Int}(w1:1<=W)(hS:aO W a b<=1000)(hD:aK W a b<=1000)(kS:aO W a k<=1000)(kD:aK W a k<=1000)(h:On W H bl a b k):∃z,On W H bl a k z :=
 ⟨k,On.of_near w1 kS kD (h.walks w1 hS hD).1⟩
theorem On.free {b k:Int}(w1:1<=W)(hS:aO W a b<=1000)(hD:aK W a b<=1000)(ha:bl a.toNat=PB)(h:On W H bl a b k):bl k.toNat=false:=Cg ha (h.walks w1 hS hD).1
theorem jz (h1:inB W H c=Pm)(h2:bl c.toNat=PB):ffv W H bl c=0:=by unfold ffv;rw[h1,h2];rfl
end
theorem cR {c:Nat}:c∈crs W H bl k↔c<k/\bj W H bl (c:Nat)=true:=by
 unfold crs;rw[Ns,NR]
theorem aE :bj W H bl c=Pm↔dC W H bl c:=by
 unfold bj dC rk;rw[MW];constructor
 ·rintro⟨h1,h2⟩;refine⟨h1,?_⟩;unfold gJ at h2;obtain⟨j,hj,h3⟩:=List.any_eq_true.1 h2;have hj:=NR.1 hj;unfold crB at h3;rw[MW,MW]at h3;exact⟨2*j+1,by omega,by omega,by simpa using h3.2,h3.1.1,h3.1.2⟩
 ·rintro⟨h1,k,k1,k2,k3,k4,k5⟩;refine⟨h1,?_⟩;obtain⟨j,rfl⟩:∃j,k=2*j+1:=⟨k/2,by omega⟩;refine fO (j:=j) (by omega) ?_;unfold crB;rw[k3,k4,k5];rfl
theorem aT (w1:1<=W)(h:dC W H bl c):inB W H c=true:=by
 obtain⟨a1,a2,a3,a4⟩:=jM h.1;have e:=fe W c;have h1:=Ou a3 (show 0<=W by omega);have h2:c/W*W+W<=H*W:=by
  have:=Int.mul_le_mul_of_nonneg_right (show c/W+1<=H by omega) (show 0<=W by omega);rw[Int.add_mul]at this;omega
 have h3:H*W=W*H:=Oy H W;exact decide_eq_true ⟨by omega,by omega⟩
section
theorem gH (h:(s=1/\x<u)\/(s=-1/\u<x)):dst (x+s) u=dst x u-1/\1<=dst x u:=by
 unfold dst
 (repeat' split)<;>omega
theorem lM (h:(s=1/\x<u)\/(s=-1/\u<x))(h2:2<=dst x u):(s=1/\x+s<u)\/(s=-1/\u<x+s):=by
 unfold dst at h2;split at h2<;>omega
theorem JA :dst (X-1) (Y-1)+0=dst X Y/\les (X-1) (Y-1)+1=les X Y:=by
 unfold dst les
 (repeat' split)<;>omega
theorem MB (h:Y<X):dst (X-1) Y+1=dst X Y/\les (X-1) Y+0=les X Y:=by
 unfold dst les
 (repeat' split)<;>omega
theorem MC (h:X<Y):dst X (Y-1)+1=dst X Y/\les X (Y-1)+0=les X Y:=by
 unfold dst les
 (repeat' split)<;>omega
theorem tO (hk:k<8)(hp:k%2=1)(hx:(ah k=1/\x<u)\/(ah k=-1/\u<x))(hy:(af k=1/\y<v)\/(af k=-1/\v<y)):fl x y u v k:=by
 obtain⟨_,_,_,_,u5⟩:=gU k hk;unfold fl;rw[(u5 hp).1,(u5 hp).2,(gH hx).1,(gH hy).1];exact JA
theorem Lf (hk:k<8)(hp:k%2=0)(hx:(ah k=1/\x<u)\/(ah k=-1/\u<x))(hy:af k=0)(PO:dst y v<dst x u):fl x y u v k:=by
 obtain⟨_,_,_,u4,_⟩:=gU k hk;unfold fl;rw[(u4 hp).1,(u4 hp).2,(gH hx).1,hy,NN];exact MB PO
theorem Lg (hk:k<8)(hp:k%2=0)(hy:(af k=1/\y<v)\/(af k=-1/\v<y))(hx:ah k=0)(PO:dst x u<dst y v):fl x y u v k:=by
 obtain⟨_,_,_,u4,_⟩:=gU k hk;unfold fl;rw[(u4 hp).1,(u4 hp).2,(gH hy).1,hx,NN];exact MC PO
theorem J1 (hj:j<8)(hk:k<8)(hp:k%2=1)(hy:af j=0)(hx:ah j=ah k):(k=(j+1)%8\/k=(j+7)%8)/\(j=(k+1)%8\/j=(k+7)%8):=by
 rcases k8 hk with rfl|rfl|rfl|rfl|rfl|rfl|rfl|rfl<;>rcases k8 hj with rfl|rfl|rfl|rfl|rfl|rfl|rfl|rfl<;>revert hp hy hx<;>decide
theorem J2 (hj:j<8)(hk:k<8)(hp:k%2=1)(hx:ah j=0)(hy:af j=af k):(k=(j+1)%8\/k=(j+7)%8)/\(j=(k+1)%8\/j=(k+7)%8):=by
 rcases k8 hk with rfl|rfl|rfl|rfl|rfl|rfl|rfl|rfl<;>rcases k8 hj with rfl|rfl|rfl|rfl|rfl|rfl|rfl|rfl<;>revert hp hy hx<;>decide
theorem Hq (hj:j<8)(hk:k<8)(PW:k≠j)(gj:fl x y u v j)(gk:fl x y u v k) :
  (k=(j+1)%8\/k=(j+7)%8)/\fl (x+ah j) (y+af j) u v k:=by
 obtain⟨a1,a2⟩:=kH hj gj;obtain⟨b1,b2⟩:=kH hk gk;by_cases p:j%2=1
 ·by_cases q:k%2=1
  ·exact absurd (xO hk hj (by omega) gk gj) PW
  ·obtain⟨jx,jy⟩:=a1 p;rcases b2 (by omega) with⟨z,kx,PO⟩|⟨z,ky,PO⟩
   ·refine⟨(J1 hk hj p z (by omega)).2,Lf hk (by omega) ?_ z ?_⟩
    ·rw[show ah j=ah k by omega];exact lM kx (by have:=(gH jy).2;omega)
    ·rw[(gH jx).1,(gH jy).1];omega
   ·refine⟨(J2 hk hj p z (by omega)).2,Lg hk (by omega) ?_ z ?_⟩
    ·rw[show af j=af k by omega];exact lM ky (by have:=(gH jx).2;omega)
    ·rw[(gH jx).1,(gH jy).1];omega
 ·by_cases q:k%2=1
  ·obtain⟨kx,ky⟩:=b1 q;rcases a2 (by omega) with⟨z,jx,PO⟩|⟨z,jy,PO⟩
   ·refine⟨(J1 hj hk q z (by omega)).1,tO hk q ?_ (by rw[z,NN];exact ky)⟩;rw[show ah j=ah k by omega];exact lM kx (by have:=(gH ky).2;omega)
   ·refine⟨(J2 hj hk q z (by omega)).1,tO hk q (by rw[z,NN];exact kx) ?_⟩;rw[show af j=af k by omega];exact lM ky (by have:=(gH kx).2;omega)
  ·exact absurd (xO hk hj (by omega) gk gj) PW
def Dir (W H:Int) (bl:Nat->Bool) (a b:Int):Prop:=(∃z,On W H bl a b z)/\∀k,On W H bl a b k->dC W H bl k->k=a\/k=b
section
variable {W H : Int} {bl : Nat → Bool} {a b : Int}
theorem Hr (w1:1<=W)(ha:inB W H a=Pm)(h:Wk (aF W H bl) a b s d):inB W H b=true:=by
 rcases h.inv with⟨e,_⟩|⟨_,_,_,_,_,e,_⟩
 ·rw[e];exact ha
 ·exact e.in' w1
theorem On.trans (w1:1<=W)(hS:aO W a b<=1000)(hD:aK W a b<=1000){k z:Int}(h:On W H bl a b k)(g:On W H bl a k z):On W H bl a b z:=by
 obtain⟨h1,h2,h3,h4⟩:=h.walks w1 hS hD;have n1:=aG W b k;have n2:=aD W b k;obtain⟨g1,g2,g3,g4⟩:=g.walks w1 (by omega) (by omega);exact On.of_walks w1 hS hD g1 (Wk.join h2 g2) (by omega) (by omega)
theorem rO (h:dst x y=0):x=y:=by
 unfold dst at h;split at h<;>omega
theorem Hs (h:les x y=0)(e:x=y):x=0:=by
 unfold les at h;split at h<;>omega
theorem jA (hS:aO W a b=0)(hD:aK W a b=0):a=b:=by
 have h1:=rO hS;have h2:=Hs hD h1;have e1:a%W=b%W:=rO h2;have e2:a/W=b/W:=rO (h1.symm.trans h2);rw[<- Int.emod_add_mul_ediv a W,<- Int.emod_add_mul_ediv b W,e1,e2]
theorem Dir.full (w1:1<=W)(hS:aO W a b<=1000)(hD:aK W a b<=1000)(hd:Dir W H bl a b) :
  ∀(n:Nat) (p:Int),On W H bl a b p->aO W p b+aK W p b<=n->∀k,k<8->fl (p%W) (p/W) (b%W) (b/W) k->∃r,aF W H bl p k r/\On W H bl a b r:=by
 intro n
 induction n with
 |zero =>
  intro p hp hn k hk g;have n1:=aG W p b;have n2:=aD W p b;have:=jA (W:=W) (a:=p) (b:=b) (by omega) (by omega);rw[this]at g;exact absurd g (rN hk)
 |succ n ih =>
  intro p hp hn k hk g;have Z6:p≠b:=fun e=>by rw[e]at g;exact rN hk g
  obtain⟨j,q,ej,gj,hq⟩:=On.next w1 hS hD hp Z6
  by_cases hkj:k=j
  ·exact⟨q,hkj▸ej,hq⟩
  ·have hj:=ej.1;obtain⟨adj,gk⟩:=Hq hj hk hkj gj g;obtain⟨q1,q2⟩:=ej.place w1;rw[<- q1,<- q2]at gk;obtain⟨i1,i2⟩:=(dD w1 ej).1 gj;have sj:=iz j;obtain⟨s,es,hs⟩:=ih q hq (by omega) k hk gk;obtain⟨p1,p2,p3,p4⟩:=hp.walks w1 hS hD;have YO:¬dC W H bl q:=fun hc=>by
    rcases hd.2 q hq hc with e|e
    ·rw[e]at i1 i2;have:=aG W a p;have:=aD W a p;rw[aV W p b]at i1;rw[aW W p b]at i2;omega
    ·rw[e]at gk;exact rN hk gk
   have m1:=ej.2.2.1;have m2:=es.2.2.1;rw[q1,q2]at m2;rcases JZ hj adj m1 m2 with hc|⟨m3,m4⟩
   ·exact absurd (by unfold dC;rw[q1,q2];exact hc) YO
   ·have er:aF W H bl p k (p+(af k*W+ah k)):=⟨hk,ej.2.1,m3,rfl⟩;obtain⟨r1,r2⟩:=er.place w1;have PY:=er.in' w1
    have Zq:s=p+(af k*W+ah k)+(af j*W+ah j):=by
     rw[es.2.2.2,ej.2.2.2];generalize af k*W=A;generalize af j*W=B;omega
    have e2:aF W H bl (p+(af k*W+ah k)) j s:=⟨hj,PY,by rw[r1,r2];exact m4,Zq⟩;obtain⟨j',eb,b1,b2⟩:=aF.back w1 _ _ _ e2;obtain⟨s1,s2,s3,s4⟩:=hs.walks w1 hS hD;obtain⟨k1,k2⟩:=(dD w1 es).1 gk;refine⟨_,er,On.of_walks w1 hS hD (p1.step er) (s2.step eb) ?_ ?_⟩
    ·rw[b1,aV W b s];rw[aV W p b]at i1;omega
    ·rw[b2,aW W b s];rw[aW W p b]at i2;omega
theorem Dir.sub (w1:1<=W)(hS:aO W a b<=1000)(hD:aK W a b<=1000)(hd:Dir W H bl a b){k:Int}(h:On W H bl a b k):Dir W H bl k a:=by
 obtain⟨h1,h2,h3,h4⟩:=h.walks w1 hS hD;have n1:=aG W b k;have n2:=aD W b k;obtain⟨z,hz⟩:=On.near_a w1 hS hD (by omega) (by omega) h;refine⟨⟨z,hz.sym⟩,fun y hy hc=>?_⟩;rcases hd.2 y (On.trans w1 hS hD h hy.sym) hc with e|e
 ·exact MF e
 ·left;rw[e]at hy ⊢;obtain⟨g1,g2,g3,g4⟩:=hy.sym.walks w1 (by omega) (by omega);have m1:=aG W k b;have m2:=aD W k b;exact jA (W:=W) (by rw[aV W b k];omega) (by rw[aW W b k];omega)
theorem Dir.sym (h:Dir W H bl a b):Dir W H bl b a :=
 ⟨h.1.elim fun z hz=>⟨z,hz.sym⟩,fun k hk hc=>(h.2 k hk.sym hc).symm⟩
theorem Dir.self (w1:1<=W):Dir W H bl a a:=by
 have z1:aO W a a<=1000:=by rw[fu];omega
 have z2:aK W a a<=1000:=by rw[fw];omega
 refine⟨⟨a,Tw.nil,Tw.nil⟩,fun k hk _=>?_⟩;obtain⟨g1,g2,g3,g4⟩:=hk.walks w1 z1 z2;rw[fu]at g3;rw[fw]at g4;have m1:=aG W a k;have m2:=aD W a k;exact MG (jA (W:=W) (by omega) (by omega)).symm
end
def Blk (W c p:Int):Prop:=p%W-1<=c%W/\c%W<=p%W+1/\p/W-1<=c/W/\c/W<=p/W+1
section
variable {W H c0 : Int} {bl Qt : Nat → Bool}
theorem yk (Qz:∀n:Nat,(n:Int)≠c0->bl n=Qt n){x y:Int}(h:¬(x=c0%W/\y=c0/W)):aM W H bl x y=aM W H Qt x y:=by
 unfold aM;cases ha:atB W H x y with
 |false=>rfl
 |true =>
  have q:0<=x/\x<W/\0<=y/\y<H:=of_decide_eq_true ha;have hm:0<=y*W:=Ou q.2.2.1 (by omega);have e:bl (y*W+x).toNat=Qt (y*W+x).toNat:=Qz _ (fun e=>h (by
   rw[Nl (by omega)]at e;rw[<- e];constructor
   ·rw[NI,Int.add_mul_emod_self_right];exact(Int.emod_eq_of_lt q.1 q.2.1).symm
   ·rw[NI,Int.add_mul_ediv_right _ _ (by omega),Int.ediv_eq_zero_of_lt q.1 q.2.1];omega))
  rw[e]
theorem Cl (Qz:∀n:Nat,(n:Int)≠c0->bl n=Qt n){p:Int}(h:¬Blk W c0 p){k:Nat}(hk:k<8):bC W H bl (p%W) (p/W) k=bC W H Qt (p%W) (p/W) k:=by
 obtain⟨u1,u2,_⟩:=gU k hk;have f:∀s t:Int,(s=-1\/s=0\/s=1)->(t=-1\/t=0\/t=1)->aM W H bl (p%W+s) (p/W+t)=aM W H Qt (p%W+s) (p/W+t):=fun s t hs ht=>yk Qz (fun ⟨e1,e2⟩=>h (by unfold Blk;omega));have f0:=f 0 0 (by omega) (by omega);have f1:=f (ah k) 0 u1 (by omega);have f2:=f 0 (af k) (by omega) u2;have f3:=f _ _ u1 u2;rw[NN]at f1 f2;rw[NN,NN]at f0;unfold bC;rw[f0,f1,f2,f3]
theorem rP (Qz:∀n:Nat,(n:Int)≠c0->bl n=Qt n){p:Int}(h:¬Blk W c0 p):dC W H bl p->dC W H Qt p:=by
 have f:∀s t:Int,(s=-1\/s=0\/s=1)->(t=-1\/t=0\/t=1)->aM W H bl (p%W+s) (p/W+t)=aM W H Qt (p%W+s) (p/W+t):=fun s t hs ht=>yk Qz (fun ⟨e1,e2⟩=>h (by unfold Blk;omega));rintro⟨h0,k,hk,hp,h1,h2,h3⟩;obtain⟨u1,u2,_⟩:=gU k hk;have f0:=f 0 0 (by omega) (by omega);have f1:=f (ah k) 0 u1 (by omega);have f2:=f 0 (af k) (by omega) u2;have f3:=f _ _ u1 u2;rw[NN]at f1 f2;rw[NN,NN]at f0;exact⟨f0▸h0,k,hk,hp,f3▸h1,f1▸h2,f2▸h3⟩
theorem En (Qz:∀n:Nat,(n:Int)≠c0->bl n=Qt n)(w1:1<=W){c d:Int}(hS:aO W c d<=1000)(hD:aK W c d<=1000)(hc:inB W H c=Pm)(hf:bl c.toNat=PB)(hd:dC W H bl d)(h:Dir W H bl c d)
  (Qc:∀p,inB W H p=Pm->bl p.toNat=PB->Blk W c0 p->¬Dir W H bl p c):dC W H Qt d/\Dir W H Qt c d:=by
 have far:∀p,On W H bl c d p->¬Blk W c0 p:=fun p hp hB=>Qc p (Hr w1 hc (hp.walks w1 hS hD).1) (hp.free w1 hS hD hf) hB (h.sub w1 hS hD hp);have mv:∀p k r,On W H bl c d p->aF W H bl p k r->aF W H Qt p k r:=fun p k r hp e=>⟨e.1,e.2.1,by rw[<- Cl Qz (far p hp) e.1];exact e.2.2.1,e.2.2.2⟩;have vm:∀p k r,On W H bl c d p->aF W H Qt p k r->aF W H bl p k r:=fun p k r hp e=>⟨e.1,e.2.1,by rw[Cl Qz (far p hp) e.1];exact e.2.2.1,e.2.2.2⟩;obtain⟨z,hz⟩:=h.1;obtain⟨oc,od,_⟩:=hz.ends w1 hS hD
 -- forth: by the steps that bring one nearer, all of which may be gone
 have hS':aO W d c<=1000:=by rw[aV];exact hS
 have hD':aK W d c<=1000:=by rw[aW];exact hD
 have fwd:∀p,Tw W H Qt c d p->On W H bl c d p:=fun p hp=>hp (fun p=>On W H bl c d p) oc (fun p k r hp e g=>by
  obtain⟨r',e',hr⟩:=h.full w1 hS hD (aO W p d+aK W p d).toNat p hp (by omega) k e.1 g;rw[e.2.2.2,<- e'.2.2.2];exact hr)
 have thr:∀p,On W H bl c d p->Tw W H Qt c d p:=by
  intro p hp
  -- walk back to the beginning
  have key:∀(n:Nat) (p:Int),On W H bl c d p->aO W c p+aK W c p<=n->Tw W H Qt c d p:=by
   intro n
   induction n with
   |zero =>
    intro p hp hn;have n1:=aG W c p;have n2:=aD W c p;rw[<- jA (W:=W) (a:=c) (b:=p) (by omega) (by omega)];exact Tw.nil
   |succ n ih =>
    intro p hp hn;by_cases e:p=c
    ·rw[e];exact Tw.nil
    ·obtain⟨j,q,ej,gj,hq⟩:=On.next w1 hS' hD' hp.sym e
     have hq:=hq.sym;obtain⟨i1,i2⟩:=(dD w1 ej).1 gj;have sj:=iz j;rw[aV W q c,aV W p c]at i1;rw[aW W q c,aW W p c]at i2;obtain⟨j',eb,b1,b2⟩:=aF.back w1 _ _ _ ej;have tq:=ih q hq (by omega);obtain⟨q1,q2,q3,q4⟩:=hq.walks w1 hS hD;obtain⟨p1,p2,p3,p4⟩:=hp.walks w1 hS hD;refine tq.step (mv q j' p hq eb) ((dD w1 eb).2 ?_);rw[b1,b2,aV W p d,aV W q d,aW W p d,aW W q d];omega
  exact key (aO W c p+aK W c p).toNat p hp (by omega)
 have rht:∀p,On W H bl c d p->Tw W H Qt d c p:=by
  have key:∀(n:Nat) (p:Int),On W H bl c d p->aO W p d+aK W p d<=n->Tw W H Qt d c p:=by
   intro n
   induction n with
   |zero =>
    intro p hp hn;have n1:=aG W p d;have n2:=aD W p d;rw[jA (W:=W) (a:=p) (b:=d) (by omega) (by omega)];exact Tw.nil
   |succ n ih =>
    intro p hp hn;by_cases e:p=d
    ·rw[e];exact Tw.nil
    ·obtain⟨j,q,ej,gj,hq⟩:=On.next w1 hS hD hp e
     obtain⟨i1,i2⟩:=(dD w1 ej).1 gj;have sj:=iz j;obtain⟨j',eb,b1,b2⟩:=aF.back w1 _ _ _ ej;have tq:=ih q hq (by omega);obtain⟨q1,q2,q3,q4⟩:=hq.walks w1 hS hD;obtain⟨p1,p2,p3,p4⟩:=hp.walks w1 hS hD;refine tq.step (mv q j' p hq eb) ((dD w1 eb).2 ?_);rw[b1,b2,aV W p c,aV W q c,aW W p c,aW W q c];rw[aV W q d,aV W p d]at i1;rw[aW W q d,aW W p d]at i2;omega
  exact fun p hp=>key (aO W p d+aK W p d).toNat p hp (by omega)
 refine⟨rP Qz (far d od) hd,⟨z,thr z hz,rht z hz⟩,fun k hk Rj=>?_⟩;have hk':=fwd k hk.1;exact h.2 k hk' (rP (fun n hn=>(Qz n hn).symm) (far k hk') Rj)
end
end
section
def cH (W a b:Int):Int:=aO W a b+aK W a b
theorem dQ (W a b:Int):0<=cH W a b:=by
 have:=aG W a b;have:=aD W a b;unfold cH;omega
theorem o7 (W a:Int):cH W a a=0:=by unfold cH;rw[fu,fw];rfl
theorem JB (h:k<8):opp (opp k)=k:=by unfold opp;omega
section
variable {W H : Int} {bl : Nat → Bool} {a : Int}
theorem aF.opp (w1:1<=W)(e:aF W H bl c k r):aF W H bl r (opp k) c:=by
 obtain⟨p1,p2⟩:=e.place w1;have PY:=e.in' w1
 obtain⟨h1,h2,h3,h4⟩:=e;refine⟨uM k,PY,?_,?_⟩
 ·rw[p1,p2];exact xF h1 h3
 ·rw[h4];exact(tF h1).symm
def Nr (W H:Int) (bl:Nat->Bool) (a b:Int):Prop:=Wk (aF W H bl) a b (aO W a b) (aK W a b)
theorem Nr.self:Nr W H bl a a:=by unfold Nr;rw[fu,fw];exact Wk.nil
theorem Nr.of_on (w1:1<=W){b z:Int}(hS:aO W a b<=1000)(hD:aK W a b<=1000)(h:On W H bl a b z):Nr W H bl a b:=(h.ends w1 hS hD).2.2
theorem Nr.on (w1:1<=W){b:Int}(hS:aO W a b<=1000)(hD:aK W a b<=1000)(h:Nr W H bl a b):On W H bl a b b:=On.of_near w1 hS hD h
theorem Og.far (w1:1<=W)(h:Og W H bl a c k r):aO W a c+stS k=aO W a r/\aK W a c+stD k=aK W a r:=by
 obtain⟨g1,g2⟩:=(dD w1 (h.1.opp w1)).1 h.2;obtain⟨s1,s2⟩:=Aj k;rw[s1,aV W c a,aV W r a]at g1;rw[s2,aW W c a,aW W r a]at g2;exact⟨g1,g2⟩
theorem Og.next (w1:1<=W)(h:Og W H bl a c k r):cH W a c+1=cH W a r:=by
 obtain⟨g1,g2⟩:=h.far w1;have:=iz k;unfold cH;omega
theorem Nr.out (w1:1<=W)(h:Nr W H bl a c)(o:Og W H bl a c k r):Nr W H bl a r:=by
 obtain⟨g1,g2⟩:=o.far w1;have:=h.step o.1;rw[g1,g2]at this;exact this
theorem Og.on (w1:1<=W)(hS:aO W a r<=1000)(hD:aK W a r<=1000)(h:Nr W H bl a c)(o:Og W H bl a c k r):On W H bl a r c:=by
 obtain⟨g1,g2⟩:=o.far w1;obtain⟨s1,s2⟩:=Aj k;have hb:=uY (o.1.opp w1);rw[s1,s2]at hb;exact On.of_walks w1 hS hD h hb g1 g2
theorem Og.prev {q:Int}(w1:1<=W)(hS:aO W a r<=1000)(hD:aK W a r<=1000)(h:On W H bl a r q)(PW:q≠r) :
  ∃c k,Nr W H bl a c/\Og W H bl a c k r/\On W H bl a c q:=by
 have hS':aO W r a<=1000:=by rw[aV];exact hS
 have hD':aK W r a<=1000:=by rw[aW];exact hD
 obtain⟨h1,h2,h3,h4⟩:=h.walks w1 hS hD;have n1:=aG W a q;have n2:=aD W a q;have qS:aO W r q<=1000:=by omega
 have qD:aK W r q<=1000:=by omega
 -- the first step back from r towards q
 have QK:On W H bl r q r:=(On.of_near w1 qS qD h2).ends w1 qS qD |>.1;obtain⟨j,c,ej,gj,hc⟩:=On.next w1 qS qD QK (Ne.symm PW)
 obtain⟨g1,g2⟩:=(dD w1 ej).1 gj;obtain⟨c1,c2,c3,c4⟩:=hc.walks w1 qS qD;rw[aV W c q,aV W r q]at g1;rw[aW W c q,aW W r q]at g2;rw[aV W r q]at c3;rw[aW W r q]at c4;have hra:On W H bl r a c:=On.trans w1 hS' hD' h.sym hc;obtain⟨d1,d2,d3,d4⟩:=hra.walks w1 hS' hD';have hj:=ej.1;refine⟨c,opp j,d2,⟨ej.opp w1,?_⟩,?_⟩
 ·rw[JB hj];refine(dD w1 ej).2 ⟨?_,?_⟩
  ·rw[aV W c a];omega
  ·rw[aW W c a];omega
 ·rw[aV W r q]at h3;rw[aW W r q]at h4;rw[aV W r a]at d3;rw[aW W r a]at d4;have m1:=aG W r c;have m2:=aD W r c;refine On.of_walks w1 (by omega) (by omega) h1 (c2.back (aF.back w1)) ?_ ?_
  ·omega
  ·omega
theorem Nr.prev (w1:1<=W)(hS:aO W a r<=1000)(hD:aK W a r<=1000)(h:Nr W H bl a r)(PW:r≠a):∃c k,Nr W H bl a c/\Og W H bl a c k r:=by
 obtain⟨c,k,h1,h2,_⟩:=Og.prev w1 hS hD ((h.on w1 hS hD).ends w1 hS hD).1 (Ne.symm PW);exact⟨c,k,h1,h2⟩
def Bhd (W H:Int) (bl:Nat->Bool) (a r:Int):Prop:=∃q,On W H bl a r q/\dC W H bl q/\q≠a/\q≠r
theorem Bhd.iff (w1:1<=W)(hS:aO W a r<=1000)(hD:aK W a r<=1000) :
  Bhd W H bl a r↔∃c k,Nr W H bl a c/\Og W H bl a c k r/\(Bhd W H bl a c\/(dC W H bl c/\c≠a)):=by
 constructor
 ·rintro⟨q,hq,hc,h1,h2⟩;obtain⟨c,k,hn,ho,QK⟩:=Og.prev w1 hS hD hq h2;refine⟨c,k,hn,ho,?_⟩;by_cases e:q=c
  ·rw[e]at hc h1;exact MF ⟨hc,h1⟩
  ·exact MG ⟨q,QK,hc,h1,e⟩
 ·rintro⟨c,k,hn,ho,hb⟩;have QK:=ho.on w1 hS hD hn;have PO:=ho.next w1
  rcases hb with⟨q,hq,hc,h1,h2⟩|⟨hc,h1⟩
  ·refine⟨q,On.trans w1 hS hD QK hq,hc,h1,fun e=>?_⟩;obtain⟨g1,g2⟩:=ho.far w1;have:=iz k;obtain⟨_,_,q3,q4⟩:=hq.walks w1 (by omega) (by omega);have n1:=aG W c q;have n2:=aD W c q;rw[e]at q3 q4 n1 n2;unfold cH at PO;omega
  ·exact⟨c,QK,hc,h1,fun e=>by rw[e]at PO;omega⟩
theorem Bhd.not_self (w1:1<=W):¬Bhd W H bl a a:=by
 rintro⟨q,hq,hc,h1,_⟩;rcases (Dir.self (H:=H) (bl:=bl) w1).2 q hq hc with e|e<;>exact h1 e
theorem Dir.iff (w1:1<=W)(hS:aO W a r<=1000)(hD:aK W a r<=1000):Dir W H bl a r↔Nr W H bl a r/\¬Bhd W H bl a r:=by
 constructor
 ·rintro⟨⟨z,hz⟩,h⟩;refine⟨Nr.of_on w1 hS hD hz,?_⟩;rintro⟨q,hq,hc,h1,h2⟩;rcases h q hq hc with e|e
  ·exact h1 e
  ·exact h2 e
 ·rintro⟨hn,hb⟩;refine⟨⟨r,hn.on w1 hS hD⟩,fun q hq hc=>?_⟩;by_cases e1:q=a
  ·exact MG e1
  ·by_cases e2:q=r
   ·exact MF e2
   ·exact absurd ⟨q,hq,hc,e1,e2⟩ hb
theorem Nr.in (w1:1<=W)(ha:inB W H a=Pm){r:Int}(h:Nr W H bl a r):inB W H r=true:=Hr w1 ha h
theorem tP (h:cH W a r=0):r=a:=by
 have n1:=aG W a r;have n2:=aD W a r;unfold cH at h;exact(jA (W:=W) (a:=a) (b:=r) (by omega) (by omega)).symm
theorem Nr.mid (w1:1<=W)(TL:∀r,Nr W H bl a r->aO W a r<=1000/\aK W a r<=1000):∀(n:Nat) (r:Int),Nr W H bl a r->cH W a r=n->∀i:Nat,i<=n->∃z,Nr W H bl a z/\cH W a z=i:=by
 intro n
 induction n with
 |zero=>intro r hr hn i hi;exact⟨r,hr,by omega⟩
 |succ n ih =>
  intro r hr hn i hi;by_cases e:i=n+1
  ·exact⟨r,hr,by omega⟩
  ·have PW:r≠a:=fun e=>by rw[e,o7]at hn;omega
   obtain⟨h1,h2⟩:=TL r hr;obtain⟨c,k,hc,ho⟩:=hr.prev w1 h1 h2 PW;have:=ho.next w1
   exact ih c hc (by omega) i (by omega)
theorem Tw.in {z:Int}(w1:1<=W)(ha:inB W H a=Pm)(h:Tw W H bl a t z):inB W H z=true :=
 h (fun z=>inB W H z=Pm) ha (fun _ _ _ _ e _=>e.in' w1)
theorem On.in_b {b z:Int}(w1:1<=W)(ha:inB W H a=Pm)(h:On W H bl a b z):inB W H b=true:=by
 have q:z=b\/inB W H b=true:=h.2 (fun z=>z=b\/inB W H b=Pm) (MG rfl) (fun p k r hp e _=>by
  rcases hp with rfl|hp
  ·exact MF e.2.1
  ·exact MF hp)
 rcases q with e|e
 ·rw[<- e];exact h.1.in w1 ha
 ·exact e
theorem Dir.in {b:Int}(w1:1<=W)(ha:inB W H a=Pm)(h:Dir W H bl a b):inB W H b=true:=by
 obtain⟨z,hz⟩:=h.1;exact hz.in_b w1 ha
end
end
section
open Go.RowKit
theorem kQ:Ay 0=.nilIface:=rfl
theorem jB {n:Int}(h:n≠0):Ay n=.iface 54 (PE PF n):=by unfold Ay;rw[if_neg h]
theorem Az (a:Int)(w:PG)(g:aw w b W H V bl)(hf:ffv W H bl a≠0) :
  PK prog 168 #[.pointer (OM ⟨b,0,Pk⟩),PE PF a] w fun e w'=>e=PM (.tuple #[.slice Pk 0 0,Ay (ffv W H bl a)])/\PI w.heap.size w w':=by
 have h1:=jw a w g;rw[jB hf]at h1 ⊢;go_enter func168,ntmps168;go_wp2_with fail;refine h1.mono ?_;rintro e w1 ⟨rfl,hb1⟩;clear h1;go_wp2;go_ret2;exact⟨rfl,hb1⟩
theorem lN {P:Program}{kt:TypeId}{r m cnt:Nat}{f:Int->Option PH}{left:Int->Bool}{base e:Nat}{v:PH}(h:w.ownsRow base e k v n xs)(M:fQ P kt w b r f m left cnt):∀g,v.ownBlock=OM g->OM g≠OM r:=by
 intro g hg e;obtain⟨D,lf,⟨es,clock,since,seen,c0,h1,h2,h3,h4,h5,h6⟩,h7⟩:=M;rcases h.2 with⟨rfl,_⟩|⟨g',cap,cur,rfl,_,Tb,_⟩
 ·cases hg
 ·simp only[Value.ownBlock,Option.some.injEq]at hg;rw[hg,Option.some.inj e,h5]at Tb;cases Tb
theorem Eo {W a:Int}(w:PG)(g:aw w b W H V bl)(s:az w)(hb:b<w.heap.size)(ha:inB W H a=Pm)(Qk:bl a.toNat=PB) :
  PK prog 168 #[.pointer (OM ⟨b,0,Pk⟩),PE PF a] w fun e w'=>∃v l,e=PM (.tuple #[v,.nilIface])/\w'.ownsRow w.heap.size 3 1 v l.length (aH l)/\(l.Pairwise (·<·)/\∀n:Nat,n∈l↔Dir W H bl a n)/\PI w.heap.size w w':=by
 have Qa:=g.w1;have Xs:=g.w2;have Yy:=g.h1;have Xt:=g.h2;have Rq:=bP g.w1 g.w2 g.h1 g.h2;have Sg:0<=a/\a<W*H:=of_decide_eq_true ha;have VO:=aC Sg.1 (show a<256 by omega);have Q8:PJ (∀r,Nr W H bl a r->aO W a r<=1000/\aK W a r<=1000):=fun r hr=>by
  have:=bV Qa Xs Yy Xt ha (hr.in Qa ha);omega
 have HDI:PJ (∀n:Int,Dir W H bl a n↔Nr W H bl a n/\¬Bhd W H bl a n):=fun n=>by
  constructor
  ·intro hd;have:=bV Qa Xs Yy Xt ha (hd.in Qa ha);exact(Dir.iff Qa (by omega) (by omega)).1 hd
  ·intro hd;obtain⟨q1,q2⟩:=Q8.out n hd.1;exact(Dir.iff Qa q1 q2).2 hd
 have Sk:PJ (∀n:Int,Nr W H bl a n->0<=n/\n<256/\inB W H n=Pm/\cH W a n<=32):=fun n hn=>by
  have h1:=hn.in Qa ha
  have h2:0<=n/\n<W*H:=of_decide_eq_true h1;have:=bV Qa Xs Yy Xt ha h1;exact⟨h2.1,by omega,h1,by unfold cH;omega⟩
 obtain⟨i0,hi,P0,P3,Qd⟩:=info_parts Tryz.info3;have h1:=jw a w g;rw[jz ha Qk,kQ]at h1;have Tl:=@run_makeMap prog;go_enter func168,ntmps168;go_wp2_with fail;refine h1.mono ?_;rintro e w1 ⟨rfl,hb1⟩;clear h1;have Uy:=(aX.made w1).grown (Nu (w1.alloc (.map #[] 0)) (.map #[] 0) Pk) (by simp);have Ti:=aX.made (w1.alloc (.map #[] 0));have SG:(w1.alloc (.map #[] 0)).heap.size=w1.heap.size+1:=by simp
 have B0:PI w.heap.size w ((w1.alloc (.map #[] 0)).alloc (.map #[] 0)):=(hb1.alloc hb1.size _).alloc (by have:=hb1.size;simp;omega) _;rw[SG]at Ti;go_wp2_with (first|(refine rq rfl _ _ _ 164 rfl 3 217 aY Tryz.underS (w1.heap.size+1) _ _ (by first|rfl|(rw[SG];rfl)) Ti.mp Ti.room a (.agg #[]) rfl rfl VO ?_;intro w2 Uf Wo;go_frame)|go_in);have hF0:=Ti.put Sg.1 (show a<256 by omega) Uf;have XV:=Wo.grown;have Ux:=Uy.grown XV (fun e=>by have:=Option.some.inj e;omega);have B1:PI w.heap.size w w2:=B0.grown XV (by have:=hb1.size;simp;omega) (fun k e=>by cases e;have:=hb1.size;omega);have aks:=hb1.size;clear Uy Ti SG B0 Uf Wo XV Tl;generalize X6:w1.heap.size=bb at *;clear X6 hb1;go_loopg [7,9] 60 (fun gk dv fv wr=>∃(i fb:Nat) (SF SB:Int->Bool) (L:List Nat),gk=60-i/\fv=.map (OM fb)/\bb<fb/\aX wr fb SF/\aX wr bb SB/\PJ (∀z,SF z=Pm↔Nr W H bl a z/\cH W a z=i)/\PJ (∀z,SB z=Pm↔(Nr W H bl a z/\cH W a z<=i)/\Bhd W H bl a z) /\
   wr.ownsRow w.heap.size 3 1 dv L.length (aH L)/\L.Nodup/\PJ (∀n:Nat,n∈L↔Dir W H bl a n/\cH W a n<i)/\PI w.heap.size w wr)
 case atStart =>
  refine⟨0,_,_,_,[],rfl,rfl,Nat.lt_succ_self _,hF0,Ux,fun z=>?_,fun z=>⟨fun h=>(by cases h),?_⟩,Nj _ _ _ _,List.nodup_nil,fun n=>?_,B1⟩
  ·rw[cF];constructor
   ·rintro (rfl|h)
    ·exact⟨Nr.self,by rw[o7];rfl⟩
    ·cases h
   ·rintro⟨h1,h2⟩;exact MG (tP h2)
  ·rintro⟨⟨h1,h2⟩,h3⟩;have:=dQ W a z;have e:=tP (W:=W) (a:=a) (r:=z) (by simp at h2;omega);rw[e]at h3;exact absurd h3 (Bhd.not_self Qa)
  ·have:=dQ W a n;simp;omega
 case round =>
  obtain⟨i,fb,SF,SB,L,QD,rfl,XW,hF,hB,RT,Y9,hown,Ud,hLi,QA⟩:=hrel;have hlen:=fun ty=>hF.mp.len (t:=164) Tryz.underS ty;have PW:=hF.ne_nil;have T8:L.length<=256:=cQ 256 Ud (fun n hn=>by
   have:=Sk.out n ((HDI.out n).1 ((hLi.out n).1 hn).1).1;omega)
  have HND:PJ L.Nodup:=Ud;clear Ud;by_cases Tm:0<cu SF 256
  ·obtain⟨z,hz⟩:=PW.1 Tm;have Ug:=(RT.out z).1 hz;have hzn:=Sk.out z Ug.1;have TV:(0:Int)<((cu SF 256:Nat):Int):=(by omega);have hle:i<=32:=(by omega);clear PW hz Ug hzn;have VM:=QA.size;have RY:=hF.lt;have Qz:=hB.lt;go_wp2_with (first|(at_range;refine cw rfl _ 164 rfl 3 217 aY Tryz.underS fb _ _ rfl hF.mp ?_;intro w3 QP Sf hs3)|go_in);have ZF:=hB.grown Sf (by simp);have QT:=gX hown Sf (by simp);have akt:PI w.heap.size w w3:=QA.grown Sf VM (by simp);generalize hr:wr.heap.size=r at *;clear hown hB QA Sf hlen;go_frame;go_loopg [7] (cu SF 256) (fun gj dv' wq=>∃(left:Int->Bool) (cnt:Nat) (L':List Nat),gj=cnt/\xP wq fb r SF left cnt/\aX wq bb SB/\wq.ownsRow w.heap.size 3 1 dv' L'.length (aH L')/\PJ L'.Nodup/\PJ (∀n:Nat,n∈L'↔n∈L\/((SF n=Pm/\left n=PB)/\SB n=PB))/\PI w.heap.size w wq/\r<wq.heap.size)
   case atStart =>
    refine⟨_,_,L,rfl,QP,ZF,QT,HND.out,fun n=>⟨MG,?_⟩,akt,by omega⟩;rintro (h|⟨⟨h1,h2⟩,_⟩)
    ·exact h
    ·rw[dO,h1]at h2;cases h2
   case round =>
    obtain⟨left,cnt,L',hgj,QN,hBq,hown,Ud,WN,QA,hrq⟩:=hrel;have Xf:=QA.size;have af0:L'.length<=256:=cQ 256 Ud.out (fun n hn=>by
     rcases (WN.out n).1 hn with h|h
     ·have:=Sk.out n ((HDI.out n).1 ((hLi.out n).1 h).1).1;omega
     ·have:=Sk.out n ((RT.out n).1 h.1.1).1;omega)
    go_wp2_with (first|(at_next;refine cM rfl _ rfl 3 aY fb r _ _ _ _ rfl QN ?_ ?_)|go_in)
    ·intro Ue Rf;have hFq:aX wr fb SF:=⟨QN.map,hF.bd⟩;have Zg:=Eg wr (g.below QA hb) (s.below QA (by omega)) (MN hb QA.size) hFq hBq (Nat.ne_of_gt XW) (by have:=s.pos;omega) (by have:=s.pos;omega) (fun z hz=>(Sk.out z ((RT.out z).1 hz).1).2.2.1) ha (fun c k z hc ho=>by
      cases hz:SF z with
      |false=>rfl
      |true =>
       have h1:=(RT.out c).1 hc;have h2:=(RT.out z).1 hz;have:=ho.next Qa
       omega)
     have U1:=bJ hown hBq.mp;clear QN hFq;go_wp2_with fail;refine Zg.mono ?_;rintro e w5 ⟨nb,T,B',rfl,hT,Su,U7,aku,Uh,hK⟩;have Qm:=bq hown hK U1;have B5:PI w.heap.size w w5:=QA.trans (hK.to_below QA.size (fun k e=>by omega));clear Zg hown hK hBq U1;go_wp2;go_roundg (60-(i+1))
     case measure=>omega
     case rel =>
      refine⟨i+1,nb,T,B',L',rfl,rfl,by omega,hT,Su,fun z=>?_,fun z=>?_,Qm,Ud.out,fun n=>?_,B5⟩
      ·rw[U7 z];constructor
       ·rintro⟨c,k,h1,h2⟩;obtain⟨q1,q2⟩:=(RT.out c).1 h1;have:=h2.next Qa
        exact⟨q1.out Qa h2,by omega⟩
       ·rintro⟨h1,h2⟩;obtain⟨q1,q2⟩:=Q8.out z h1;obtain⟨c,k,h3,h4⟩:=h1.prev Qa q1 q2 (fun e=>by rw[e,o7]at h2;omega);have:=h4.next Qa
        exact⟨c,k,(RT.out c).2 ⟨h3,by omega⟩,h4⟩
      ·rw[aku z];constructor
       ·rintro (h|⟨c,k,h1,h2,h3⟩)
        ·obtain⟨⟨q1,q2⟩,q3⟩:=(Y9.out z).1 h;exact⟨⟨q1,by omega⟩,q3⟩
        ·obtain⟨q1,q2⟩:=(RT.out c).1 h1;have:=h2.next Qa
         have hz:=q1.out Qa h2;obtain⟨b1,b2⟩:=Q8.out z hz;refine⟨⟨hz,by omega⟩,(Bhd.iff Qa b1 b2).2 ⟨c,k,q1,h2,?_⟩⟩;rcases h3 with h3|⟨h3,h4⟩
         ·exact MG ((Y9.out c).1 h3).2
         ·exact MF ⟨aE.1 h3,h4⟩
       ·rintro⟨⟨q1,q2⟩,q3⟩;by_cases YI:cH W a z<=i
        ·exact MG ((Y9.out z).2 ⟨⟨q1,YI⟩,q3⟩)
        ·obtain⟨b1,b2⟩:=Q8.out z q1;obtain⟨c,k,h1,h2,h3⟩:=(Bhd.iff Qa b1 b2).1 q3;have:=h2.next Qa
         refine MF ⟨c,k,(RT.out c).2 ⟨h1,by omega⟩,h2,?_⟩;rcases h3 with h3|⟨h3,h4⟩
         ·exact MG ((Y9.out c).2 ⟨⟨h1,by omega⟩,h3⟩)
         ·exact MF ⟨aE.2 h3,h4⟩
      ·rw[WN.out n,hLi.out n,RT.out n,HDI.out n];constructor
       ·rintro (⟨h1,h2⟩|⟨⟨⟨h1,h2⟩,_⟩,h3⟩)
        ·exact⟨h1,by omega⟩
        ·refine⟨⟨h1,fun hb=>?_⟩,by omega⟩;have:=(Y9.out n).2 ⟨⟨h1,by omega⟩,hb⟩;rw[h3]at this;cases this
       ·rintro⟨h1,h2⟩;by_cases PO:cH W a n<i
        ·exact MG ⟨h1,PO⟩
        ·refine MF ⟨⟨⟨h1.1,by omega⟩,Rf n⟩,?_⟩;cases hs:SB n with
         |false=>rfl
         |true=>exact absurd ((Y9.out n).1 hs).2 h1.2
    ·intro x v w4 Qf Tf Se SD QE PO QI Rx TM;obtain⟨U4,rfl⟩:=jq SD;have hx:=hF.bd x U4;have YU:=hBq.grown QI (fun e=>by have:=Option.some.inj e;omega);have Rw:=gX hown QI (lN hown QN);have B4:PI w.heap.size w w4:=QA.grown QI Xf (fun k e=>by cases e;omega);have Zw:=YU.grown (Nu w4 (PN #[] 217) Pk) (by simp);have Rb:=QE.grown (Nu w4 (PN #[] 217) Pk) (by simp) (by simp);have Qm:=Rw.alloc (PN #[] 217);have B5:=B4.alloc B4.size (PN #[] 217);have hr5:r<(w4.alloc (PN #[] 217)).heap.size:=(by simp;omega);cases hSB:SB x with
     |true =>
      have RM:(Instr.lookup 164 (.map (OM bb)) (PE PF x) Pm).run prog w4=.ok (.tuple #[.agg #[],.bool Pm]) w4:=YU.mp.look_some aY Tryz.underS (pH _) Tf (jl hSB) Pm;clear QN QA hBq hown YU Rw B4 QI;go_wp2;go_roundg Qf
      case measure=>omega
      case rel =>
       refine⟨_,Qf,L',rfl,Rb,Zw,Qm,Ud,fun n=>?_,B5,hr5⟩;rw[WN.out n];by_cases e:(n:Int)=x
       ·rw[e];simp[hSB]
       ·simp[e]
     |false =>
      have RM:(Instr.lookup 164 (.map (OM bb)) (PE PF x) Pm).run prog w4=.ok (.tuple #[.agg #[],.bool PB]) w4:=YU.mp.look_none aY Tryz.underS (pH _) Tf (jo hSB) Pm;clear QN QA hBq hown YU Rw B4 QI;have Tp:=B5.size;obtain⟨xn,Zr⟩:∃xn:Nat,x=(xn:Int):=⟨x.toNat,by omega⟩;have HXN:=ae Zr;clear Zr;generalize Ub:w4.alloc (PN #[] 217)=w5 at *;go_wp2_with (at_builtin;refine wpList_append_own _ rfl _ _ 51 rfl w.heap.size 3 i0 (PE PF 0) 1 8 underlying51 hi P0 P3 Qd rfl (by decide) _ _ _ rfl (Qm.alloc _) ⟨w5.heap.size,0,Pk⟩ 1 1 [PE PF x] rfl rfl ?c1 ?c2 ?c3 ?c4 ?c5 ?_)
      case c1 =>
       intro j u hj
       match j,hj with
       |0,hj =>
        simp at hj;subst hj;simp only[Addr.add];exact ME (w:=w5) #[PE PF x] 3 w5.heap.size 0 rfl
      case c2=>intro u hu;simp at hu;subst hu;rfl
      case c3=>unfold maxLen;omega
      case c4=>omega
      case c5=>simp;omega
      intro v' w6 PS PR _;have PX:=fun q hq=>(Qm.lt q hq).1;have B6:PI w.heap.size w w6:=(B5.alloc Tp _).grown PR (by simp;omega) PX;have O6:w6.ownsRow w.heap.size 3 1 v' (L'++[xn]).length (aH (L'++[xn])):=by
       rw[HXN.out]at PS
       simpa [aH]using PS
      have acT:=(Rb.grown (Nu w5 (PN #[PE PF x] 3) Pk) (by simp) (by simp)).grown PR (fun e=>bJ Qm Rb.map _ e.symm rfl) (fun e=>lN Qm Rb _ e.symm rfl);have hB6:=(Zw.grown (Nu w5 (PN #[PE PF x] 3) Pk) (by simp)).grown PR (fun e=>bJ Qm Zw.mp _ e.symm rfl);have hr6:r<w6.heap.size:=MN hr5 (M5 (by simp) PR.size);have HN:PJ (L'++[xn]).Nodup:=by
       have U1:xn∉L':=fun hm=>by
        rcases (WN.out xn).1 hm with h|h
        ·have h1:=(hLi.out xn).1 h;rw[<- HXN.out]at h1;have h2:=(RT.out x).1 U4;omega
        ·rw[<- HXN.out]at h;rw[Se]at h;exact absurd h.1.2 (by decide)
       unfold PJ List.Nodup;rw[List.pairwise_append];exact⟨Ud.out,List.pairwise_singleton _ _,fun p hp q hq e=>by
        rw[MU]at hq;rw[e,hq]at hp;exact U1 hp⟩
      clear PS PR Qm B5 Rb Zw;go_wp2;go_roundg Qf
      case measure=>omega
      case rel =>
       refine⟨_,Qf,L'++[xn],rfl,acT,hB6,O6,HN,fun n=>?_,B6,hr6⟩;rw[List.mem_append,MU,WN.out n];by_cases e:n=xn
       ·subst e;rw[<- HXN.out];simp[hSB,U4]
       ·have e':¬(n:Int)=x:=fun q=>e (by have:=HXN.out;omega);simp[e,e']
  ·have Qc:∀z,SF z=false:=fun z=>by
    cases hz:SF z with
    |false=>rfl
    |true=>exact absurd (PW.2 ⟨z,hz⟩) Tm
   have Ue:cu SF 256=0:=(by omega);have WY:∀n:Nat,n∈L↔Dir W H bl a n:=fun n=>by
    rw[hLi.out n];refine⟨fun h=>h.1,fun h=>⟨h,?_⟩⟩;by_cases q:cH W a n<i
    ·exact q
    ·exfalso;have h1:=((HDI.out n).1 h).1;have h2:=dQ W a n;obtain⟨z',h3,h4⟩:=Nr.mid Qa Q8.out (cH W a n).toNat n h1 (by omega) i (by omega);have:=(RT.out z').2 ⟨h3,h4⟩;rw[Qc z']at this;cases this
   have HF:=ae WY;have aaq:L≠[]:=fun e=>by
    have h1:=(WY a.toNat).2 (by rw[Nl Sg.1];exact Dir.self Qa);rw[e]at h1;cases h1
   obtain⟨l,l1,l2,l3,l4⟩:=Al L HND.out;have HL2:=ae l2;have HL1:=ae l1;have hso:=xU wr hown aaq l3 l4 T8;have VM:=QA.size;have PX:=fun q hq=>(hown.lt q hq).1;rw[Ue]at hlen;clear WY Qc PW Tm RT Y9 l1 l2 l3 l4 aaq hown hB hF hLi;go_wp2_with fail;refine hso.mono ?_;rintro e w5 ⟨rfl,Qm,RU⟩;have B5:PI w.heap.size w w5:=QA.grown RU VM PX;clear hso RU PX;go_wp2;go_ret2;exact⟨_,l,rfl,Qm,⟨HL1.out,fun n=>(HL2.out n).trans (HF.out n)⟩,B5⟩
end
section
open Go.RowKit
def tQ (W a:Int) (n:Nat):List Value:=[PE PF n,PE PF (aO W a n),PE PF (aK W a n),PE PF (-1)]
def bQ (W a:Int) (l:List Nat):List Value:=l.flatMap (tQ W a)
theorem rQ (W a:Int)(l:List Nat)(n:Nat):bQ W a (l++[n])=bQ W a l++tQ W a n:=by
 unfold bQ;rw[List.flatMap_append,List.flatMap_cons,List.flatMap_nil,List.append_nil]
theorem p8 (c:Int)(w:PG)(g:aw w b W H V bl)(s:az w)(hr:inB W H c=Pm) :
  PK prog 129 #[.pointer (OM ⟨b,0,Pk⟩),PE PF c] w fun e w'=>e=PM (.bool (bj W H bl c))/\∃m,w'=w.drewN m:=by
 have h1:=Js rfl w g s hr;generalize bj W H bl c=r at *;go_enter func129,ntmps129;go_wp2_with fail;refine h1.mono ?_;rintro e w1 ⟨rfl,m,rfl⟩;clear h1;go_wp2;go_ret;exact⟨rfl,m,rfl⟩
theorem Mh {v S D:Int}(w:PG)
  (hP:∀w',PI w.heap.size w w'->PK prog 84 #[.pointer (OM ⟨b,0,Pk⟩),PE PF a] w' fun e Q2=>e=PM (.tuple #[PE PF x,PE PF y,.nilIface])/\∃m,Q2=w'.drewN m)
  (hQ:∀w',PI w.heap.size w w'->PK prog 84 #[.pointer (OM ⟨b,0,Pk⟩),PE PF t] w' fun e Q2=>e=PM (.tuple #[PE PF u,PE PF v,.nilIface])/\∃m,Q2=w'.drewN m)
  (ho:∀w,PK prog 86 #[PE PF x,PE PF y,PE PF u,PE PF v] w fun e w'=>e=PM (.agg #[PE PF S,PE PF D])/\PI w.heap.size w w') :
  PK prog 169 #[.pointer (OM ⟨b,0,Pk⟩),PE PF a,PE PF t] w fun e w'=>e=PM (.agg #[PE PF S,PE PF D])/\PI w.heap.size w w':=by
 have sl:=bz.new w 0 0;have B0:=aQ w (PN #[PE PF 0,PE PF 0] 53);go_enter func169,ntmps169;go_wp2_with fail;refine(hP _ B0).mono ?_;rintro e w1 ⟨rfl,m1,RF⟩;have B1:PI w.heap.size w w1:=by rw[RF];exact below_drewN B0 _
 have Xd:bz w1 w.heap.size 0 0:=by rw[RF];exact sl.below (below_drewN al _)
 clear RF sl B0 hP;go_wp2_with fail;refine(hQ _ B1).mono ?_;rintro e w2 ⟨rfl,m2,Vy⟩;have B2:PI w.heap.size w w2:=by rw[Vy];exact below_drewN B1 _
 have Wu:bz w2 w.heap.size 0 0:=by rw[Vy];exact Xd.below (below_drewN al _)
 clear Vy Xd B1 hQ;go_wp2_with fail;refine(ho _).mono ?_;rintro e w3 ⟨rfl,hb3⟩;have B3:=ak B2 hb3;have RO:=Wu.below hb3;have c0:=RO.c0;have c1:=RO.c1;have z0:=RO.z0;have z1:=RO.z1;clear hb3 Wu B2 ho;go_wp2;have q:=kK w3 w.heap.size S D c0 c1;have hd:=q.1;have ht:=q.2;refine bodyPost_ret (v:=.agg #[PE PF S,PE PF D]) (by simp[results,results169,go_sem,hd,ht]) rfl ⟨rfl,?_⟩;exact(B3.setCell (p:=⟨w.heap.size,0,Pk⟩) aj _).setCell (p:=⟨w.heap.size,1,Pk⟩) aj _
theorem Ht (w:PG)(g:aw w b W H V bl)(hb:b<w.heap.size)(ha:inB W H a=Pm)(ht:inB W H t=Pm) :
  PK prog 169 #[.pointer (OM ⟨b,0,Pk⟩),PE PF a,PE PF t] w fun e w'=>e=PM (.agg #[PE PF (aO W a t),PE PF (aK W a t)])/\PI w.heap.size w w':=by
 obtain⟨x1,x2,y1,y2⟩:=dA g.w1 ha;obtain⟨u1,u2,v1,v2⟩:=dA g.w1 ht;have gw:=g.w2;have gh:=g.h2;exact Mh w (fun w' hB=>dZ a w' (g.below hB hb) ha) (fun w' hB=>dZ t w' (g.below hB hb) ht) (fun w=>kY _ _ _ _ w (bG (by omega) (by omega)) (bG (by omega) (by omega)) (bG (by omega) (by omega)) (bG (by omega) (by omega)))
def iI (p:Int->Bool) (L:List Nat) (k:Nat):List Nat:=(L.take k).filter fun n:Nat=>p (n:Int)
theorem JC (h:k<L.length)(hp:p ((L.getD k 0:Nat):Int)=PB):iI p L (k+1)=iI p L k:=by
 unfold iI;rw[OC h,NQ,<- bo _ _ h];generalize L.getD k 0=m at *;simp[hp]
theorem Hu (h:k<L.length)(hp:p ((L.getD k 0:Nat):Int)=Pm):iI p L (k+1)=iI p L k++[L.getD k 0]:=by
 unfold iI;rw[OC h,NQ,<- bo _ _ h];generalize L.getD k 0=m at *;simp[hp]
theorem Hv :(iI p L k).length<=L.length :=
 M5 (List.length_filter_le _ _) (by rw[List.length_take];omega)
theorem Hw :n∈iI p L L.length↔n∈L/\p n=true:=by
 unfold iI;rw[M9,Ns]
theorem Ep (h:L.Pairwise (·<·)):(iI p L L.length).Pairwise (·<·):=by
 unfold iI;rw[M9];exact h.filter _
theorem lO {b1 b2 e1 e2 k1 k2 n1 n2:Nat}{v1 v2:PH}{x1 x2:List PH}(h1:w.ownsRow b1 e1 k1 v1 n1 x1)(h2:w.ownsRow b2 e2 k2 v2 n2 x2)(PW:e1≠e2):∀g,v1.ownBlock=OM g->OM g≠v2.ownBlock:=by
 intro g hg e;rcases h1.2 with⟨rfl,_⟩|⟨g1,c1,ar6,rfl,_,q1,_⟩
 ·cases hg
 ·rcases h2.2 with⟨rfl,_⟩|⟨g2,c2,ar7,rfl,_,q2,_⟩
  ·cases e
  ·simp only[Value.ownBlock,Option.some.injEq]at hg e;rw[hg,e,q2]at q1;simp only[Option.some.injEq,Obj.cells.injEq]at q1;exact PW q1.2.1.symm
theorem Tryz.infoE:(Tryz.prog.info? 204).map (fun i=>(i.zero,i.size,i.bytes))=OM (OM (.agg #[PE PF 0,PE PF 0,PE PF 0,PE PF 0]),4,32):=by kernel_rfl
theorem Tryz.underE:Tryz.prog.underlying 126=OM (.slice 204):=by kernel_rfl
theorem bK (w:PG)(x y z u:PH)(t:TypeId):∀j q,[x,y,z,u][j]? = OM q->(w.alloc (PN #[x,y,z,u] t)).cell? ((⟨w.heap.size,0,Pk⟩:Addr).add j)=OM q:=by
 intro j q hj
 match j,hj with
 |0,hj=>simp at hj;subst hj;simp[Addr.add]
 |1,hj=>simp at hj;subst hj;simp[Addr.add]
 |2,hj=>simp at hj;subst hj;simp[Addr.add]
 |3,hj=>simp at hj;subst hj;simp[Addr.add]
theorem uZ {gf:Nat}{cs:List PH}(w:PG)(g:aw w b W H V bl)(hf:ffv W H bl a≠0) :
  PK prog 127 #[.pointer (OM ⟨b,0,Pk⟩),PE PF a,.func (.func gf) #[] cs.toArray] w fun e w'=>e=PM (.slice Pk 0 0)/\PI w.heap.size w w':=by
 have h1:=Az a w g hf;rw[jB hf]at h1;go_enter func127,ntmps127;go_wp2_with fail;refine h1.mono ?_;rintro e w1 ⟨rfl,hb1⟩;clear h1;go_wp2;go_loopw [7,20] (fun fv iv wr=>fv=.slice Pk 0 0/\iv=PE PF 0/\PI w.heap.size w wr) (fun _ _ _=>0)
 case atStart=>exact⟨rfl,rfl,hb1⟩
 case round =>
  obtain⟨rfl,rfl,hB⟩:=hrel;go_wp2;go_ret;exact⟨rfl,hB⟩
theorem rS {gf:Nat}{cs:List PH}{p:Int->Bool}(w:PG)(g:aw w b W H V bl)(s:az w)(hb:b<w.heap.size)(ha:inB W H a=Pm)(Qk:bl a.toNat=PB)(Zg:∀(args:Array PH) (w:PG),(callFunc gf args).run prog w=.ok (.enter gf args) w)
  (hC:∀(w':PG) (n:Int),PI w.heap.size w w'->inB W H n=Pm->PK prog gf (PE PF n::cs).toArray w' fun e Q2=>e=PM (.bool (p n))/\PI w'.heap.size w' Q2) :
  PK prog 127 #[.pointer (OM ⟨b,0,Pk⟩),PE PF a,.func (.func gf) #[] cs.toArray] w fun e w'=>∃v l,e=PM v/\w'.ownsRow w.heap.size 204 4 v l.length (bQ W a l)/\(l.Pairwise (·<·)/\∀n:Nat,n∈l↔Dir W H bl a n/\p n=Pm)/\PI w.heap.size w w':=by
 obtain⟨i0,hi,P0,P3,Qd⟩:=info_parts Tryz.infoE;have Qa:=g.w1;have Rq:=bP g.w1 g.w2 g.h1 g.h2;have h1:=Eo w g s hb ha Qk;go_enter func127,ntmps127;go_wp2_with fail;refine h1.mono ?_;rintro e w1 ⟨v1,L,rfl,QM,⟨Rv,Rc⟩,hb1⟩;obtain⟨A,cap,rfl,_⟩:=iw QM;have HM:=ae Rc;have HR:=ae Rv;have PY:∀n∈L,inB W H (n:Int)=Pm/\n<256:=fun n hn=>by
  have h:=((HM.out n).1 hn).in Qa ha
  have:0<=(n:Int)/\(n:Int)<W*H:=of_decide_eq_true h;exact⟨h,by omega⟩
 have T8:L.length<=256:=cQ 256 (Rv.imp (fun h e=>by omega)) (fun n hn=>(PY n hn).2);have Sk:=ae PY;have aks:=hb1.size;clear h1 Rc Rv PY;go_wp2;go_loopw [7,20] (fun fv iv wr=>∃k:Nat,k<=L.length/\iv=PE PF k/\wr.ownsRow w.heap.size 204 4 fv (iI p L k).length (bQ W a (iI p L k))/\wr.ownsRow w.heap.size 3 1 (.slice A L.length cap) L.length (aH L)/\PI w.heap.size w wr)
  (fun _ i _=>L.length-(intOf i).toNat)
 case atStart=>exact⟨0,MQ _,rfl,Nj _ _ _ _,QM,hb1⟩
 case round =>
  obtain⟨k,hk,rfl,hown,Qo,hB⟩:=hrel;by_cases PO:k<L.length
  ·obtain⟨ba,hA⟩:∃ba,A=OM ⟨ba,0,Pk⟩:=by
    rcases Qo.2 with⟨_,h0⟩|⟨ba,_,_,hv,_⟩
    ·omega
    ·exact⟨ba,by cases hv;rfl⟩
   subst hA;have QH:wr.cell? ⟨ba,k,Pk⟩=OM (PE PF ((L.getD k 0:Nat):Int)):=iO Qo k PO;have U1:L.getD k 0∈L:=(by rw[bo _ _ PO];exact ND PO);obtain⟨hni,U0⟩:=Sk.out _ U1;have Qc:=fun h=>JC (p:=p) PO h;have hys:=fun h=>Hu (p:=p) PO h;generalize Si:L.getD k 0=n at *;clear Si U1;have i1:(0:Int)<=(k:Int):=(by omega);have i2:(k:Int)<(L.length:Int):=(by omega);have VM:=hB.size;have Ql:=hC wr n hB hni;have RY:(iI p L k).length<=256:=M5 Hv T8;cases hp:p n with
   |false =>
    have HS:PJ (iI p L (k+1)=iI p L k):=Qc hp;rw[hp]at Ql;clear Qc hys hp;go_wp2_with fail;refine Ql.mono ?_;rintro e w2 ⟨rfl,hb2⟩;have Ui:=aq Qo hb2;have Uv:=aq hown hb2;have B2:=ak hB hb2;clear Ql hown Qo hb2;go_wp2;go_roundw
    case rel=>exact⟨k+1,by omega,by go_num,by rw[HS.out];exact Uv,Ui,B2⟩
    case measure=>simp[intOf];omega
   |true =>
    have HS:PJ (iI p L (k+1)=iI p L k++[n]):=hys hp;rw[hp]at Ql;clear Qc hys hp;generalize iI p L k=F at *;go_wp2_with fail;refine Ql.mono ?_;rintro e w2 ⟨rfl,hb2⟩;have Uv:=aq hown hb2;have B2:=ak hB hb2;have hds:=Ht w2 (g.below B2 hb) (MN hb B2.size) ha hni;clear Ql;go_wp2_with fail;refine hds.mono ?_;rintro e w3 ⟨rfl,hb3⟩;have b3:=ak hb2 hb3;have Wq:=aq Qo b3;have QT:=aq Uv hb3;have B3:=ak B2 hb3;have hz3:=B3.size;have Zm:PJ (tQ W a n=[PE PF n,PE PF (aO W a n),PE PF (aK W a n),PE PF (-1)]):=rfl;clear hown Qo hb2 hb3 b3 hds Uv B2;generalize aO W a n=es at *;generalize aK W a n=ed at *;go_wp2_with (at_builtin;refine wpList_append_own _ rfl _ _ 126 rfl w.heap.size 204 i0 (.agg #[PE PF 0,PE PF 0,PE PF 0,PE PF 0]) 4 32 Tryz.underE hi P0 P3 Qd rfl (by decide) _ _ _ rfl (QT.alloc _) ⟨w3.heap.size,0,Pk⟩ 1 1 [PE PF n,PE PF es,PE PF ed,PE PF (-1)] rfl rfl (bK _ _ _ _ _ _) (by intro u hu;simp at hu;rcases hu with rfl|rfl|rfl|rfl<;>rfl) ?c3 ?c4 ?c5 ?_)
    case c3=>unfold maxLen;omega
    case c4=>omega
    case c5=>simp;omega
    intro v' w4 PS PR _;have PX:=fun q hq=>(QT.lt q hq).1;have B4:PI w.heap.size w w4:=(B3.alloc hz3 _).grown PR (by simp;omega) PX;have O4:w4.ownsRow w.heap.size 204 4 v' (F++[n]).length (bQ W a (F++[n])):=by
     rw[rQ,Zm.out]
     simpa using PS
    have Q1:=gX (Wq.alloc (PN #[PE PF n,PE PF es,PE PF ed,PE PF (-1)] 204)) PR (lO Wq QT (by decide));clear PS PR QT B3;go_wp2;go_roundw
    case rel=>exact⟨k+1,by omega,by go_num,by rw[HS.out];exact O4,Q1,B4⟩
    case measure=>simp[intOf];omega
  ·have e:k=L.length:=(by omega);subst e;have Ul:PJ (∀n:Nat,n∈iI p L L.length↔Dir W H bl a n/\p n=Pm):=fun n=>by rw[Hw,HM.out n]
   have HRR:PJ ((iI p L L.length).Pairwise (·<·)):=Ep HR.out;generalize iI p L L.length=F at *;go_wp2;go_ret;exact⟨_,F,rfl,hown,⟨HRR.out,Ul.out⟩,hB⟩
theorem Es {cb:Nat}(w:PG)(g:aw w b W H V bl)(s:az w)(hb:b<w.heap.size)(ha:inB W H a=Pm)(Qk:bl a.toNat=PB)
  (hC:∀(w':PG) (n:Int),PI w.heap.size w w'->inB W H n=Pm->PK prog 150 #[PE PF n,.pointer (OM ⟨cb,0,Pk⟩),.pointer (OM ⟨rb,0,Pk⟩)] w' fun e Q2=>e=PM (.bool (p n))/\PI w'.heap.size w' Q2) :
  PK prog 127 #[.pointer (OM ⟨b,0,Pk⟩),PE PF a,.func (.func 150) #[] #[.pointer (OM ⟨cb,0,Pk⟩),.pointer (OM ⟨rb,0,Pk⟩)]] w fun e w'=>∃v l,e=PM v/\w'.ownsRow w.heap.size 204 4 v l.length (bQ W a l)/\(l.Pairwise (·<·)/\∀n:Nat,n∈l↔Dir W H bl a n/\p n=Pm)/\PI w.heap.size w w' :=
 rS (cs:=[.pointer (OM ⟨cb,0,Pk⟩),.pointer (OM ⟨rb,0,Pk⟩)]) w g s hb ha Qk (fun _ _=>by kernel_rfl) hC
end
section
open Go.RowKit
theorem Tryz.underM:Tryz.prog.underlying 123=OM (.map 3 126):=by kernel_rfl
theorem j6 (w:PG):(zeroValue 126).run prog w=.ok (.slice Pk 0 0) w:=by kernel_rfl
def eB (f:Int->Option PH):Int->Bool:=fun i=>(f i).isSome
theorem jC (f:Int->Option PH)(a:Int)(v:PH):eB (bL f a v)=dK (eB f) a:=by
 funext i
 unfold eB bL dK;by_cases e:i=a
 ·rw[if_pos e,decide_eq_true e];rfl
 ·rw[if_neg e,decide_eq_false e];rfl
def rmS (S:Int->Bool) (a:Int):Int->Bool:=fun i=>S i&&!decide (i=a)
theorem yl (f:Int->Option PH)(a:Int):eB (lX f a)=rmS (eB f) a:=by
 funext i
 unfold eB lX rmS;by_cases e:i=a
 ·rw[if_pos e,decide_eq_true e];simp
 ·rw[if_neg e,decide_eq_false e];simp
theorem JD {S:Int->Bool}(h:S a=Pm):dK (rmS S a) a=S:=by
 funext i
 unfold dK rmS;by_cases e:i=a
 ·rw[decide_eq_true e,e,h];rfl
 ·rw[decide_eq_false e];simp
theorem Hy {S:Int->Bool}(h:S a=PB):rmS S a=S:=by
 funext i
 unfold rmS;by_cases e:i=a
 ·rw[e,h];rfl
 ·rw[decide_eq_false e];simp
theorem JE (S:Int->Bool)(a:Int)(N:Nat)(h0:0<=a)(h:a<N)(hs:S a=Pm):cu (rmS S a) N=cu S N-1:=by
 have:=iC (rmS S a) a N h0 h (by unfold rmS;rw[decide_eq_true rfl];simp);rw[JD hs]at this;omega
structure GSt (w:PG) (rb pb mb:Nat) (W H V:Int) (bl:Nat->Bool) (f:Int->Option PH):Prop where
 p0:w.cell? ⟨rb,0,Pk⟩=OM (.pointer (OM ⟨pb,0,Pk⟩))
 p1:w.cell? ⟨rb,1,Pk⟩=OM (.map (OM mb))
 ga:aw w pb W H V bl
 mp:aZ prog 3 w mb f (cu (eB f) 256)
 bd:∀i,eB f i=Pm->0<=i/\i<256
 fr:gz w pb
 rp:rb≠pb
section
variable {w w' : PG} {rb pb mb : Nat} {W H V : Int} {bl : Nat → Bool} {f : Int → Option PH}
theorem GSt.lts (G:GSt w rb pb mb W H V bl f):rb<w.heap.size/\pb<w.heap.size/\mb<w.heap.size:=⟨MK w _ G.p0,MK w _ G.ga.c0,G.mp.lt⟩
theorem GSt.ne (G:GSt w rb pb mb W H V bl f):rb≠mb/\pb≠mb:=by
 constructor
 ·intro e;have h:=G.mp.cell 0;rw[<- e,G.p0]at h;cases h
 ·intro e;have h:=G.mp.cell 0;rw[<- e,G.ga.c0]at h;cases h
theorem GSt.keep {F:Nat->Prop}(G:GSt w rb pb mb W H V bl f)(K:ai F w w')(h1:¬F rb)(h2:¬F pb)(h3:¬F mb):GSt w' rb pb mb W H V bl f :=
 ⟨K.cellOf G.p0 h1,K.cellOf G.p1 h1,G.ga.keep K h2,G.mp.keep K h3,G.bd,fun o=>(K.frozen (p:=⟨pb,o,Pk⟩) G.lts.2.1 h2).trans (G.fr o),G.rp⟩
theorem GSt.below (G:GSt w rb pb mb W H V bl f)(hb:PI w.heap.size w w'):GSt w' rb pb mb W H V bl f:=G.keep (F:=fun _=>False) (ai.of_below hb) id id id
theorem GSt.room (_G:GSt w rb pb mb W H V bl f):cu (eB f) 256<maxLen:=by
 have:=lF (eB f) 256;unfold maxLen;omega
theorem GSt.put (G:GSt w rb pb mb W H V bl f){a:Int}{v:PH}(h0:0<=a)(h1:a<256)(hm:aZ prog 3 w' mb (bL f a v) (if (f a).isSome then cu (eB f) 256 else cu (eB f) 256+1))(ht:w.mapTurned w' mb):GSt w' rb pb mb W H V bl (bL f a v):=by
 have K:=aA ht;refine⟨K.cellOf G.p0 G.ne.1,K.cellOf G.p1 G.ne.1,G.ga.keep K G.ne.2,?_,fun i hi=>?_,fun o=>(K.frozen (p:=⟨pb,o,Pk⟩) G.lts.2.1 G.ne.2).trans (G.fr o),G.rp⟩
 ·rw[jC];cases hs:eB f a with
  |true=>rw[jr hs];have e:(f a).isSome=true:=hs;rw[e]at hm;exact hm
  |false=>rw[iC (eB f) a 256 h0 h1 hs];have e:(f a).isSome=false:=hs;rw[e]at hm;exact hm
 ·rw[jC]at hi;rcases (cF _ _ _).1 hi with rfl|hi
  ·exact⟨h0,h1⟩
  ·exact G.bd i hi
theorem GSt.del (G:GSt w rb pb mb W H V bl f){a:Int}(h0:0<=a)(h1:a<256)(hm:aZ prog 3 w' mb (lX f a) (if (f a).isSome then cu (eB f) 256-1 else cu (eB f) 256))(ht:w.mapTurned w' mb):GSt w' rb pb mb W H V bl (lX f a):=by
 have K:=aA ht;refine⟨K.cellOf G.p0 G.ne.1,K.cellOf G.p1 G.ne.1,G.ga.keep K G.ne.2,?_,fun i hi=>?_,fun o=>(K.frozen (p:=⟨pb,o,Pk⟩) G.lts.2.1 G.ne.2).trans (G.fr o),G.rp⟩
 ·rw[yl];cases hs:eB f a with
  |true=>rw[JE _ _ _ h0 h1 hs];have e:(f a).isSome=true:=hs;rw[e]at hm;exact hm
  |false=>rw[Hy hs];have e:(f a).isSome=false:=hs;rw[e]at hm;exact hm
 ·rw[yl]at hi;unfold rmS at hi;rw[MW]at hi;exact G.bd i hi.1
end
def j7 (W H:Int) (bl:Nat->Bool) (c:Int) (l:List Nat):Prop:=l.Pairwise (·<·)/\∀n:Nat,n∈l↔Dir W H bl c n/\(decide ((n:Int)≠c)&&bj W H bl n)=Pm
structure EOk (w:PG) (pb:Nat) (W H:Int) (bl:Nat->Bool) (f:Int->Option PH) (c:Int):Prop where
 yes:bj W H bl c=Pm->∃v l,f c=OM v/\w.ownsRow 0 204 4 v l.length (bQ W c l)/\j7 W H bl c l/\∀g,v.ownBlock=OM g->pb<g
 no:bj W H bl c=PB->f c=Pk
theorem Hz {cb xb:Nat}(w:PG)(n:Int)(q1:w.cell? ⟨cb,0,Pk⟩=OM (PE PF c))(q2:w.cell? ⟨xb,0,Pk⟩=OM (.pointer (OM ⟨rb,0,Pk⟩)))(p0:w.cell? ⟨rb,0,Pk⟩=OM (.pointer (OM ⟨pb,0,Pk⟩)))(g:aw w pb W H V bl)(s:az w)(hn:inB W H n=Pm) :
  PK prog 150 #[PE PF n,.pointer (OM ⟨cb,0,Pk⟩),.pointer (OM ⟨xb,0,Pk⟩)] w fun e w'=>e=PM (.bool (decide (n≠c)&&bj W H bl n))/\PI w.heap.size w w':=by
 have h1:=p8 n w g s hn;generalize bj W H bl n=r at *;by_cases e:n=c
 ·subst e;have er:(decide (n≠n)&&r)=false:=by simp
  rw[er];go_enter func150,ntmps150;go_wp2;go_ret;exact⟨rfl,al⟩
 ·have er:(decide (n≠c)&&r)=r:=by simp[e]
  rw[er];clear er;go_enter func150,ntmps150;go_wp2_with fail;refine h1.mono ?_;rintro e1 w1 ⟨rfl,m,rfl⟩;clear h1;go_wp2;go_ret;have en:(n != c)=true:=by simp[e]
  refine⟨?_,below_drewN al _⟩;show Ending.returned (.bool (n != c&&r))=_;rw[en,Bool.true_and]
theorem fT (h:bj W H bl c=Pm):bl c.toNat=false:=by
 have h1:=(aE.1 h).1;unfold aM at h1;rw[MW]at h1;have e:=fe W c;have h2:=h1.2;rw[e]at h2
 simpa using h2
theorem bT {b1 b2 e:Nat}{v:PH}(h:w.ownsRow b1 e k v n xs)(hle:b2<=b1):w.ownsRow b2 e k v n xs:=by
 refine⟨h.1,?_⟩;rcases h.2 with h2|⟨g,cap,cur,hv,PX,hg,h3⟩
 ·exact MG h2
 ·exact MF ⟨g,cap,cur,hv,M5 hle PX,hg,h3⟩
theorem ym {rb:Nat}{f:Int->Option PH}(w:PG)(G:GSt w rb pb mb W H V bl f)(s:az w)(hc:inB W H c=Pm) :
  PK prog 109 #[.pointer (OM ⟨rb,0,Pk⟩),PE PF c] w fun e w'=>e=PM (.tuple #[])/\(∃f',GSt w' rb pb mb W H V bl f'/\(∀i,i≠c->f' i=f i)/\EOk w' pb W H bl f' c/\∀v g,f' c=OM v->v.ownBlock=OM g->w.heap.size<=g)/\ai (fun k=>k=mb) w w':=by
 have Qa:=G.ga.w1;have Rq:=bP G.ga.w1 G.ga.w2 G.ga.h1 G.ga.h2;have Rl:0<=c/\c<W*H:=of_decide_eq_true hc;have hwc:=aC Rl.1 (show c<256 by omega);obtain⟨l1,l2,l3⟩:=G.lts;have HB:PI w.heap.size w ((w.alloc (PN #[.pointer (OM ⟨rb,0,Pk⟩)] 92)).alloc (PN #[PE PF c] 3)):=(al.alloc aj _).alloc (by simp) _;have q1:((w.alloc (PN #[.pointer (OM ⟨rb,0,Pk⟩)] 92)).alloc (PN #[PE PF c] 3)).cell? ⟨w.heap.size,0,Pk⟩=OM (.pointer (OM ⟨rb,0,Pk⟩)):=by
  rw[World.cell?_alloc_old _ _ _ (by simp),World.cell?_alloc_new];rfl
 have q2:((w.alloc (PN #[.pointer (OM ⟨rb,0,Pk⟩)] 92)).alloc (PN #[PE PF c] 3)).cell? ⟨w.heap.size+1,0,Pk⟩=OM (PE PF c) :=
  ME #[PE PF c] 3 (w.heap.size+1) 0 (by simp)
 go_enter func109,ntmps109;go_wp2_with fail;generalize (w.alloc (PN #[.pointer (OM ⟨rb,0,Pk⟩)] 92)).alloc (PN #[PE PF c] 3)=W0 at *;have HB:PI w.heap.size w W0.drew:=⟨HB.os,HB.tape,HB.output,HB.size,HB.block⟩;have q1:=bH q1;have q2:=bH q2;have G0:=G.below HB;have s0:=s.below HB (by omega);have p0:=G0.p0;have RQ:=p8 c W0.drew G0.ga s0 hc;cases Rj:bj W H bl c with
 |false =>
  rw[Rj]at RQ;go_region_held3 (fun w'=>w'.cell? ⟨w.heap.size,0,Pk⟩=OM (.pointer (OM ⟨rb,0,Pk⟩))/\w'.cell? ⟨w.heap.size+1,0,Pk⟩=OM (PE PF c)/\w'.cell? ⟨rb,0,Pk⟩=OM (.pointer (OM ⟨pb,0,Pk⟩))) (first|(exact⟨q1,q2,p0⟩)) (first|(go_at_call 129;refine RQ.mono ?_;rintro e w5 ⟨rfl,m5,Ub⟩;have PV:PI W0.drew.heap.size W0.drew w5:=(by rw[Ub];exact below_drewN al _);clear Ub;have q1:=ar PV q1;have p0:=ar PV p0;have q2:=ar PV q2));go_wp2_with fail;have G5:GSt w5.drew rb pb mb W H V bl f:=(G0.below PV).below al.drew;have K5:ai (fun k=>k=mb) w w5.drew:=((ai.of_below HB).below PV).drew;have q1:=bH q1;have q2:=bH q2;have p1:=G5.p1;obtain⟨w6,Qs,YJ,Zx⟩:=G5.mp.drop aY Tryz.underM hwc 0;have G6:=G5.del Rl.1 (by omega) YJ Zx;have K6:ai (fun k=>k=mb) w w6:=K5.trans (aA Zx) (fun _ _ h=>h);clear G5 G0 PV RQ YJ Zx K5 p0 HB;go_region;go_wp2;refine bodyPost_ret (v:=.tuple #[]) (by simp[results,results109,go_sem]) rfl ?_;exact⟨rfl,⟨_,G6,fun i hi=>jP f hi,⟨fun h=>(by rw[Rj]at h;cases h),fun _=>oY f c⟩,fun v g h=>by rw[oY]at h;cases h⟩,K6⟩
 |true =>
  rw[Rj]at RQ;go_region_held3 (fun w'=>w'.cell? ⟨w.heap.size,0,Pk⟩=OM (.pointer (OM ⟨rb,0,Pk⟩))/\w'.cell? ⟨w.heap.size+1,0,Pk⟩=OM (PE PF c)/\w'.cell? ⟨rb,0,Pk⟩=OM (.pointer (OM ⟨pb,0,Pk⟩))) (first|(exact⟨q1,q2,p0⟩)) (first|(go_at_call 129;refine RQ.mono ?_;rintro e w5 ⟨rfl,m5,Ub⟩;have PV:PI W0.drew.heap.size W0.drew w5:=(by rw[Ub];exact below_drewN al _);clear Ub;have q1:=ar PV q1;have p0:=ar PV p0;have q2:=ar PV q2));go_wp2_with fail;have PV:PI W0.drew.heap.size W0.drew w5.drew:=⟨PV.os,PV.tape,PV.output,PV.size,PV.block⟩;have G5:GSt w5.drew rb pb mb W H V bl f:=G0.below PV;have s5:=s0.below PV (by have:=HB.size;omega);have B5:PI w.heap.size w w5.drew:=ak HB PV;have q1:=bH q1;have q2:=bH q2;have p0:=G5.p0;have p1:=G5.p1;have Tp:=B5.size;have Sm:bl c.toNat=false:=fT Rj;have Qv:=Es (cb:=w.heap.size+1) (rb:=w.heap.size) (p:=fun n=>decide (n≠c)&&bj W H bl n) w5.drew G5.ga s5 (by omega) hc Sm (fun w' n Su hn=>by
   have kk:∀{a:Addr}{v:PH},w5.drew.cell? a=OM v->w'.cell? a=OM v:=fun {a v} h=>(Su.cell (MK w5.drew a h)).trans h;exact Hz w' n (kk q2) (kk q1) (kk p0) (G5.ga.below Su (by omega)) (s5.below Su (by omega)) hn)
  have Za:w.heap.size≠mb:=by omega
  have U0:w.heap.size+1≠mb:=by omega
  clear RQ G0 PV s0;go_region_held3 (fun w'=>w'.cell? ⟨w.heap.size,0,Pk⟩=OM (.pointer (OM ⟨rb,0,Pk⟩))/\w'.cell? ⟨w.heap.size+1,0,Pk⟩=OM (PE PF c)/\w'.cell? ⟨rb,0,Pk⟩=OM (.pointer (OM ⟨pb,0,Pk⟩))/\w'.cell? ⟨rb,1,Pk⟩=OM (.map (OM mb))) (first|(exact⟨q1,q2,p0,p1⟩)|(exact⟨r1,r2,r3,r4⟩)) (first|(go_at_call 127;refine Qv.mono ?_;rintro e w6 ⟨v,l,rfl,Sy,hl6,Qr⟩;have q1:=ar Qr q1;have p0:=ar Qr p0;have q2:=ar Qr q2;have p1:=ar Qr p1;have G6:=G5.below Qr;obtain⟨w7,Wy,hm7,XK⟩:=G6.mp.store aY Tryz.underM G6.room hwc v;have r1:=(aA XK).cellOf q1 Za;have r2:=(aA XK).cellOf q2 U0;have r3:=(aA XK).cellOf p0 G6.ne.1;have r4:=(aA XK).cellOf p1 G6.ne.1))
  all_goals
   have G7:=G6.put Rl.1 (by omega) hm7 XK;have K7:ai (fun k=>k=mb) w w7:=((ai.of_below B5).below Qr).trans (aA XK) (fun _ _ h=>h);have O7:w7.ownsRow 0 204 4 v l.length (bQ W c l):=bq (bT Sy (MQ _)) (aA XK) (bJ Sy G6.mp);have HO:PJ (∀g,v.ownBlock=OM g->pb<g):=fun g hg=>by have:=(Sy.lt g hg).1;omega
   have HO2:PJ (∀g,v.ownBlock=OM g->w.heap.size<=g):=fun g hg=>by have:=(Sy.lt g hg).1;omega
   have HL:=ae hl6;clear hl6 hm7 XK Qr G6 Sy Qv;go_wp2;go_end0;exact⟨rfl,⟨_,G7,fun i hi=>cT f v hi,⟨fun _=>⟨v,l,ck f c v,O7,HL.out,HO.out⟩,fun h=>(by rw[Rj]at h;cases h)⟩,fun v' g h hg=>by rw[ck]at h;cases h;exact HO2.out g hg⟩,K7⟩
end
section
open Go.RowKit Go.Maps Go.Sort Go.Shelf
section
variable {w w' : PG} {rb pb mb : Nat} {W H V c : Int} {bl : Nat → Bool} {f : Int → Option PH}
theorem EOk.keep (E:EOk w pb W H bl f c)(G:GSt w rb pb mb W H V bl f)(K:ai (fun k=>k=mb) w w'){f':Int->Option PH}(hf:f' c=f c):EOk w' pb W H bl f' c:=by
 refine⟨fun h=>?_,fun h=>hf.trans (E.no h)⟩;obtain⟨v,l,h1,h2,h3,h4⟩:=E.yes h;exact⟨v,l,hf.trans h1,bq h2 K (bJ h2 G.mp),h3,h4⟩
theorem EOk.below (E:EOk w pb W H bl f c)(hb:PI w.heap.size w w'):EOk w' pb W H bl f c:=by
 refine⟨fun h=>?_,E.no⟩;obtain⟨v,l,h1,h2,h3,h4⟩:=E.yes h;exact⟨v,l,h1,aq h2 hb,h3,h4⟩
end
def dI (w:PG) (rb pb mb:Nat) (W H V:Int) (bl:Nat->Bool):Prop:=∃f,GSt w rb pb mb W H V bl f/\∀c:Int,EOk w pb W H bl f c
theorem dI.below {w':PG}(G:dI w rb pb mb W H V bl)(hb:PI w.heap.size w w'):dI w' rb pb mb W H V bl:=by
 obtain⟨f,h1,h2⟩:=G;exact⟨f,h1.below hb,fun c=>(h2 c).below hb⟩
def de (w:PG) (rb pb mb:Nat) (W H V:Int) (bl:Nat->Bool) (Q:Nat->Prop):Prop:=∃f,GSt w rb pb mb W H V bl f/\(∀c:Int,EOk w pb W H bl f c)/\∀c v g,f c=OM v->v.ownBlock=OM g->Q g
section
variable {w w' : PG} {rb pb mb : Nat} {W H V : Int} {bl : Nat → Bool} {Q Q' : Nat → Prop}
theorem de.graph (G:de w rb pb mb W H V bl Q):dI w rb pb mb W H V bl:=by
 obtain⟨f,h1,h2,_⟩:=G;exact⟨f,h1,h2⟩
theorem de.below (G:de w rb pb mb W H V bl Q)(hb:PI w.heap.size w w'):de w' rb pb mb W H V bl Q:=by
 obtain⟨f,h1,h2,h3⟩:=G;exact⟨f,h1.below hb,fun c=>(h2 c).below hb,h3⟩
theorem de.mono (G:de w rb pb mb W H V bl Q)(h:∀g,Q g->Q' g):de w rb pb mb W H V bl Q':=by
 obtain⟨f,h1,h2,h3⟩:=G;exact⟨f,h1,h2,fun c v g a b=>h g (h3 c v g a b)⟩
theorem de.lt (G:de w rb pb mb W H V bl Q):de w rb pb mb W H V bl (fun g=>Q g/\g<w.heap.size):=by
 obtain⟨f,h1,h2,h3⟩:=G;refine⟨f,h1,h2,fun c v g a b=>⟨h3 c v g a b,?_⟩⟩;cases hc:bj W H bl c with
 |false=>rw[(h2 c).no hc]at a;cases a
 |true =>
  obtain⟨v',l,e,ho,_⟩:=(h2 c).yes hc;rw[e]at a;cases a;exact(ho.lt g b).2
end
theorem H9 (w:PG):(Instr.makeMap 123 Pk).run prog w=.ok (.map (OM w.heap.size)) (w.alloc (.map #[] 0)):=by kernel_rfl
theorem mI:cu (eB fun _=>Pk) 256=0:=lG 256
theorem og {W H:Int}{bl:Nat->Bool}(w:PG)(g:aw w b W H V bl)(s:az w)(hb:b<w.heap.size) :
  PK prog 64 #[.pointer (OM ⟨b,0,Pk⟩)] w fun e w'=>∃rb pb mb,e=PM (.pointer (OM ⟨rb,0,Pk⟩))/\de w' rb pb mb W H V bl (fun g=>w.heap.size<=g)/\w.heap.size<=rb/\w.heap.size<=pb/\w.heap.size<=mb/\PI w.heap.size w w':=by
 have Rq:=bP g.w1 g.w2 g.h1 g.h2;have Qa:=g.w1;have TV:=kB w g;go_enter func64,ntmps64;go_wp2_with fail;refine TV.mono ?_;rintro e w1 ⟨rfl,hb1,Rx,g1,fr1⟩;clear TV;have WV:=H9 w1;have hM:aZ prog 3 (w1.alloc (.map #[] 0)) w1.heap.size (fun _=>Pk) 0:=aZ.made w1 prog 3;have B2:PI w.heap.size w ((w1.alloc (.map #[] 0)).alloc (PN #[.pointer (OM ⟨w.heap.size,0,Pk⟩),.map (OM w1.heap.size)] 161)):=(hb1.alloc hb1.size _).alloc (by have:=hb1.size;simp;omega) _;have b2:PI w1.heap.size w1 ((w1.alloc (.map #[] 0)).alloc (PN #[.pointer (OM ⟨w.heap.size,0,Pk⟩),.map (OM w1.heap.size)] 161)):=(al.alloc aj _).alloc (by simp) _;have G2:GSt ((w1.alloc (.map #[] 0)).alloc (PN #[.pointer (OM ⟨w.heap.size,0,Pk⟩),.map (OM w1.heap.size)] 161)) (w1.heap.size+1) w.heap.size w1.heap.size W H V bl (fun _=>Pk):=by
  refine⟨ME #[.pointer (OM ⟨w.heap.size,0,Pk⟩),.map (OM w1.heap.size)] 161 (w1.heap.size+1) 0 (by simp),ME #[.pointer (OM ⟨w.heap.size,0,Pk⟩),.map (OM w1.heap.size)] 161 (w1.heap.size+1) 1 (by simp),g1.below b2 Rx,?_,fun i h=>(by cases h),fun o=>(b2.frozen (p:=⟨w.heap.size,o,Pk⟩) Rx).trans (fr1 o),by omega⟩;rw[mI];exact hM.keep (F:=fun _=>False) ((ai.refl _ _).alloc _) id
 go_wp2_with fail;generalize (w1.alloc (.map #[] 0)).alloc (PN #[.pointer (OM ⟨w.heap.size,0,Pk⟩),.map (OM w1.heap.size)] 161)=W2 at *;have P3:=hb1.size;generalize hmb:w1.heap.size=mb at *;clear hM WV b2 g1 fr1 Rx hb1;have s2:=s.below B2 (by omega);have Qd:=B2.size;obtain⟨l1,l2,l3⟩:=G2.lts;refine(Jt W2 G2.ga s2 l2).mono ?_;rintro e w3 ⟨v,rfl,hown,hb3⟩;have Rc:=fun c=>cR (W:=W) (H:=H) (bl:=bl) (k:=(W*H).toNat) (c:=c);have PY:∀n∈crs W H bl (W*H).toNat,inB W H (n:Int)=Pm/\n<256:=fun n hn=>by
  have h1:=(Rc n).1 hn;exact⟨aT Qa (aE.1 h1.2),by omega⟩
 have T8:=fF W H bl (W*H).toNat;have Sk:=ae PY;have HME:PJ (∀c:Int,bj W H bl c=Pm->∃n:Nat,n∈crs W H bl (W*H).toNat/\c=n):=fun c hc=>by
  have h1:=aT Qa (aE.1 hc);have h2:0<=c/\c<W*H:=of_decide_eq_true h1;refine⟨c.toNat,(Rc c.toNat).2 ⟨by omega,?_⟩,by omega⟩;rw[Nl h2.1];exact hc
 obtain⟨A,cap,rfl,_⟩:=iw hown;have G3:=G2.below hb3;have B3:=ak B2 hb3;clear Rc PY G2 hb3;generalize crs W H bl (W*H).toNat=L at *;have hown:=bT hown (MQ _);go_wp2;go_loopw [17] (fun iv wr=>∃(k:Nat) (f:Int->Option PH),k<=L.length/\iv=PE PF k/\GSt wr (mb+1) w.heap.size mb W H V bl f/\PJ (∀c:Int,(∃i,i<k/\c=((L.getD i 0:Nat):Int))->EOk wr w.heap.size W H bl f c)/\PJ (∀c:Int,¬(∃i,i<k/\c=((L.getD i 0:Nat):Int))->f c=Pk)/\PJ (∀(c:Int) v g,f c=OM v->v.ownBlock=OM g->w.heap.size<=g)/\wr.ownsRow 0 3 1 (.slice A L.length cap) L.length (aH L)/\PI w.heap.size w wr)
  (fun i _=>L.length-(intOf i).toNat)
 case atStart=>exact⟨0,_,MQ _,rfl,G3,fun c ⟨i,hi,_⟩=>absurd hi (Nat.not_lt_zero i),fun c _=>rfl,fun c v g h=>(by cases h),hown,B3⟩
 case round =>
  obtain⟨k,f,hk,rfl,Gr,Q4,Qc,PY,PT,hB⟩:=hrel;by_cases PO:k<L.length
  ·obtain⟨ba,hA⟩:∃ba,A=OM ⟨ba,0,Pk⟩:=by
    rcases PT.2 with⟨_,h0⟩|⟨ba,_,_,hv,_⟩
    ·omega
    ·exact⟨ba,by cases hv;rfl⟩
   subst hA;have QH:wr.cell? ⟨ba,k,Pk⟩=OM (PE PF ((L.getD k 0:Nat):Int)):=iO PT k PO;have U1:L.getD k 0∈L:=(by rw[bo _ _ PO];exact ND PO);obtain⟨hni,U0⟩:=Sk.out _ U1;have HK:PJ (∀c:Int,(∃i,i<k+1/\c=((L.getD i 0:Nat):Int))↔(∃i,i<k/\c=((L.getD i 0:Nat):Int))\/c=((L.getD k 0:Nat):Int)):=fun c=>by
    constructor
    ·rintro⟨i,hi,h⟩;by_cases e:i=k
     ·subst e;exact MF h
     ·exact MG ⟨i,by omega,h⟩
    ·rintro (⟨i,hi,h⟩|h)
     ·exact⟨i,by omega,h⟩
     ·exact⟨k,by omega,h⟩
   generalize Si:L.getD k 0=n at *;clear Si U1;have i1:(0:Int)<=(k:Int):=(by omega);have i2:(k:Int)<(L.length:Int):=(by omega);have hz:=hB.size;have RM:=ym wr Gr (s.below hB (by omega)) hni;go_wp2_with fail;refine RM.mono ?_;rintro e w4 ⟨rfl,⟨f',G4,VC,E4,I4⟩,K4⟩;have B4:PI w.heap.size w w4:=hB.trans (K4.to_below hB.size (fun k e=>by omega));have R4:=bq PT K4 (bJ PT Gr.mp);have HY:PJ (∀c:Int,(∃i,i<k+1/\c=((L.getD i 0:Nat):Int))->EOk w4 w.heap.size W H bl f' c):=fun c hc=>by
    by_cases e:c=(n:Int)
    ·rw[e];exact E4
    ·exact(Q4.out c (((HK.out c).1 hc).resolve_right e)).keep Gr K4 (VC c e)
   have HN:PJ (∀c:Int,¬(∃i,i<k+1/\c=((L.getD i 0:Nat):Int))->f' c=Pk):=fun c hc=>by
    have e:c≠(n:Int):=fun e=>hc ((HK.out c).2 (MF e));rw[VC c e];exact Qc.out c (fun h=>hc ((HK.out c).2 (MG h)))
   have HI:PJ (∀(c:Int) v g,f' c=OM v->v.ownBlock=OM g->w.heap.size<=g):=fun c v g h hg=>by
    by_cases e:c=(n:Int)
    ·rw[e]at h;exact M5 hB.size (I4 v g h hg)
    ·rw[VC c e]at h;exact PY.out c v g h hg
   clear RM Q4 Qc PY Gr PT hB E4 I4 K4 VC;go_wp2;go_roundw
   case rel=>exact⟨k+1,f',by omega,by go_num,G4,HY,HN,HI,R4,B4⟩
   case measure=>simp[intOf];omega
  ·have e:k=L.length:=(by omega);subst e;have HE:PJ (∀c:Int,EOk wr w.heap.size W H bl f c):=fun c=>by
    by_cases hc:∃i,i<L.length/\c=((L.getD i 0:Nat):Int)
    ·exact Q4.out c hc
    ·refine⟨fun h=>?_,fun _=>Qc.out c hc⟩;obtain⟨n,hn,rfl⟩:=HME.out c h;obtain⟨i,hi,h⟩:=List.getElem_of_mem hn;exact absurd ⟨i,hi,by rw[bo _ _ hi,h]⟩ hc
   clear Q4 Qc;go_wp2;go_ret;exact⟨_,_,_,rfl,⟨f,Gr,HE.out,PY.out⟩,by omega,aj,by omega,hB⟩
theorem Et (w:PG)(g:aw w b W H V bl)(s:az w)(hb:b<w.heap.size) :
  PK prog 64 #[.pointer (OM ⟨b,0,Pk⟩)] w fun e w'=>∃rb pb mb,e=PM (.pointer (OM ⟨rb,0,Pk⟩))/\dI w' rb pb mb W H V bl/\w.heap.size<=rb/\w.heap.size<=pb/\w.heap.size<=mb/\PI w.heap.size w w' :=
 (og w g s hb).mono fun _ _ ⟨rb,pb,mb,h1,h2,h3⟩=>⟨rb,pb,mb,h1,h2.graph,h3⟩
end
section
open Go.RowKit Go.Maps Go.Sort Go.Shelf
theorem Tryz.sortsA (m:Nat):AnyZI.SortsIn prog Tryz.sortedA_ren Fence.wide m :=
 ⟨fun blk off cap ss W hH akx QC=>callsIn_wide.2 (AnyM.slices_Sort_int Tryz.sortA blk off cap ss W hH akx QC),
  fun p cap W=>callsIn_wide.2 (AnyM.slices_Sort_int_none Tryz.sortA p cap W)⟩
theorem Lh (rb b nn:Nat)(D0:DataW PH)(R:PH->Option (DataW PH×List MemPlace))(w:PG)(p1:w.cell? ⟨rb,1,Pk⟩=OM (.map (OM b)))(hown:w.ownsMap prog 3 R b nn D0)(Xb:Maps.size D0<=maxLen)(acU:Maps.size D0*8<=140737488355328) :
  PK prog 54 #[.pointer (OM ⟨rb,0,Pk⟩)] w fun e w'=>∃(v:PH) (ss:List Int),e=PM v/\ss.Perm (intKeys D0) /\
   w'.ownsRow w.heap.size 3 1 v ss.length ((ss.mergeSort (fun x y=>decide (x<=y))).map encZ)/\PI w.heap.size w w':=by
 refine(callsIn_wide (n:=6)).1 ?_;have Qz:=hown.lt;have aky:SeqGives Fence.wide 2 prog 143 #[.pointer (OM ⟨w.heap.size,0,Pk⟩)] encZ (fun ss=>ss.Perm (intKeys D0)) (Maps.size D0) (w.alloc (PN #[.map (OM b)] 123)) :=
  AnyZI.keys_gives (ρ:=Tryz.keysA_ren) { Tryz.keysA with } Fence.wide _ trivial rfl (by omega) w.heap.size b nn D0 _ (by simp) (by simp) (by
   obtain⟨es,clock,hb,Ft,hs,hD⟩:=hown;exact⟨es,clock,(Below.heap_alloc _ _ b Qz).trans hb,Ft,hs,hD⟩)
 have cK:∀mb W,CallsIn Fence.wide 5 prog 100 #[.map mb] W fun e w'=>e=PM (.func (.func 143) #[] #[.pointer (OM ⟨W.heap.size,0,Pk⟩)])/\w'=W.alloc (PN #[.map mb] 123):=fun mb W=>AnyZI.keys_in Tryz.keysA Fence.wide 5 trivial rfl mb W;have cS:=AnyZI.sorted_in Tryz.sortedA Fence.wide 5 trivial trivial trivial trivial rfl (by omega) (Tryz.sortsA _) (enters_of func142 (by kernel_rfl) rfl) 143 #[.pointer (OM ⟨w.heap.size,0,Pk⟩)] trivial (enters_of func143 (by kernel_rfl) rfl) _ _ Xb acU _ aky;change CallsIn _ _ prog 99 _ _ _ at cS;have hfK:Fence.wide.fn 100:=trivial;have hfS:Fence.wide.fn 99:=trivial;refine callsIn_of_wp func54 rfl trivial ?_ rfl;simp only[ntmps54,Oi,List.length_cons,List.length_nil,Nat.reduceAdd,Nat.reduceSub,Array.replicate_succ,Array.replicate_zero,List.push_toArray,List.append_toArray,List.nil_append,List.cons_append]
 gi_wp2_with (first
  |(gi_at_call 100;refine(cK _ _).mono ?_;rintro e w' ⟨rfl,rfl⟩)
  |(gi_at_call 99;refine cS.mono ?_;rintro e w' ⟨v,ss,rfl,hS,PT,aab,hb⟩))
 go_ret;exact⟨v,ss,rfl,hS,ownsRow_base_a PT (by simp),((Below.refl _ w).alloc aj _).trans (hb.mono (by simp))⟩
theorem gA (W H:Int)(bl:Nat->Bool)(k:Nat):(crs W H bl k).Pairwise (·<·):=by
 unfold crs;exact List.pairwise_lt_range.filter _
theorem o8 (w:PG)(G:dI w rb pb mb W H V bl) :
  PK prog 54 #[.pointer (OM ⟨rb,0,Pk⟩)] w fun e w'=>∃v,e=PM v/\w'.ownsRow w.heap.size 3 1 v (crs W H bl (W*H).toNat).length (aH (crs W H bl (W*H).toNat))/\PI w.heap.size w w':=by
 obtain⟨f,G,E⟩:=G;have Qa:=G.ga.w1;have Uw:=lF (eB f) 256;obtain⟨D,hown,QC,hD⟩:=G.mp;have hc:CollectedI D (fun _=>PB) (cO (crs W H bl (W*H).toNat)):=by
  refine⟨(mF (gA _ _ _ _)).imp (fun h e=>by omega),fun x=>?_⟩;rw[gW,(hD x).1];constructor
  ·rintro⟨n,hn,rfl⟩;obtain⟨v,l,hf,_⟩:=(E n).yes (cR.1 hn).2;exact⟨by rw[hf];rfl,rfl⟩
  ·rintro⟨hs,_⟩;cases hcx:bj W H bl x with
   |false=>rw[(E x).no hcx]at hs;cases hs
   |true =>
    have h2:0<=x/\x<W*H:=of_decide_eq_true (aT Qa (aE.1 hcx));refine⟨x.toNat,cR.2 ⟨by omega,?_⟩,by omega⟩;rw[Nl h2.1];exact hcx
 have hp:=hc.perm hown (int_keyed aY) aY (fun _=>rfl);refine(Lh rb mb _ D ri w G.p1 hown (by rw[QC];unfold maxLen;omega) (by rw[QC];omega)).mono ?_;rintro e w' ⟨v,ss,rfl,hS,PT,hb⟩;have hps:=hS.trans hp.symm;have e1:=mergeSort_of_perm_i hps;obtain⟨l,l1,l2,l3,l4⟩:=Al (crs W H bl (W*H).toNat) ((gA _ _ _ _).imp (fun h e=>by omega));have e2:l=crs W H bl (W*H).toNat:=pY l1 (gA _ _ _ _) l2;have e3:ss.mergeSort (fun x y=>decide (x<=y))=cO (crs W H bl (W*H).toNat):=by
  rw[e2]at l4;exact e1.trans l4
 rw[e3,hps.length_eq]at PT;refine⟨v,rfl,?_,hb⟩;rw[List.length_map,List.map_map]at PT;exact PT
theorem Mi (w:PG)(a:Option Addr)(n c n' c':Nat):(binOp .eql 126 (.slice a n c) (.slice Pk n' c')).run prog w=.ok (.bool a.isNone) w:=Lib.run_eql_slice_nil w _ _ a n c n' c' Tryz.underE
theorem MD (w:PG):Sem.run prog (underlying 126) w=.ok (TypeDesc.slice 204) w:=run_underlying Tryz.underE w
theorem tR (w:PG):PK prog 120 #[.slice Pk 0 0] w fun e w'=>e=PM (.slice Pk 0 0)/\w'=w:=by
 have q:=Mi;go_enter func120,ntmps120;go_wp2;go_ret;exact⟨rfl,rfl⟩
theorem tS {g cap:Nat}(w:PG)(h:w.ownsRow 0 204 4 (.slice (OM ⟨g,0,Pk⟩) n cap) n xs)(h1:∀u∈xs,u.oneCell'=Pm)(hn:n<=256) :
  PK prog 120 #[.slice (OM ⟨g,0,Pk⟩) n cap] w fun e w'=>∃v,e=PM v/\w'.ownsRow w.heap.size 204 4 v n xs/\PI w.heap.size w w':=by
 obtain⟨i0,hi,P0,P3,Qd⟩:=info_parts Tryz.infoE;have hx:xs.length=n*4:=h.1;have hc:PJ (∀j u,xs[j]? = OM u->w.cell? ⟨g,j,Pk⟩=OM u):=fun j u hj=>by
  have Zk:j<xs.length:=(List.getElem?_eq_some_iff.1 hj).1;rw[h.cellAt j (by omega)];exact hj
 have q:=Mi;have u:=MD;clear h;go_enter func120,ntmps120;go_wp2_with (at_builtin;refine wpList_append_own _ rfl _ _ 126 rfl w.heap.size 204 i0 (.agg #[PE PF 0,PE PF 0,PE PF 0,PE PF 0]) 4 32 Tryz.underE hi P0 P3 Qd rfl (by decide) _ _ _ rfl (World.ownsRow_made w #[] 0 aj (MQ _) (by simp)) ⟨g,0,Pk⟩ n cap xs rfl ?qc1 ?qc2 ?qc3 ?qc4 ?qc5 ?qc6 ?_)
 case qc1=>exact hx
 case qc2 =>
  intro j u hj;rw[Addr.add_lit,Nat.zero_add];exact Lib.cell?_alloc_some _ (hc.out j u hj)
 case qc3=>exact h1
 case qc4=>unfold maxLen;omega
 case qc5=>omega
 case qc6=>simp
 intro v' w1 hown PR _;go_wp2;go_ret;refine⟨v',rfl,by simpa using hown,?_⟩;exact((Below.refl _ w).alloc aj _).grown PR (by simp) (by intro k hk;simp[Value.ownBlock]at hk;omega)
theorem AA (W a:Int)(l:List Nat):∀u∈bQ W a l,u.oneCell'=true:=by
 intro u hu;unfold bQ at hu;obtain⟨n,_,hn⟩:=List.mem_flatMap.1 hu;unfold tQ at hn;simp at hn;rcases hn with rfl|rfl|rfl|rfl<;>rfl
theorem j7.len {l:List Nat}(w1:1<=W)(Rq:W*H<=256)(h:j7 W H bl c l):l.length<=256 :=
 cQ 256 (h.1.imp (fun h e=>by omega)) (fun n hn=>by
  have h1:=((h.2 n).1 hn).2;rw[MW]at h1;have h2:0<=(n:Int)/\(n:Int)<W*H:=of_decide_eq_true (aT w1 (aE.1 h1.2));omega)
theorem tT (w:PG)(G:dI w rb pb mb W H V bl)(hc:bj W H bl c=Pm)(hw:(Lit.int .i64 c).wf=Pm) :
  PK prog 75 #[.pointer (OM ⟨rb,0,Pk⟩),PE PF c] w fun e w'=>∃v l,e=PM (.tuple #[v,.nilIface])/\w'.ownsRow w.heap.size 204 4 v l.length (bQ W c l)/\j7 W H bl c l/\PI w.heap.size w w':=by
 obtain⟨f,G,E⟩:=G;have p1:=G.p1;have Rq:=bP G.ga.w1 G.ga.w2 G.ga.h1 G.ga.h2;obtain⟨v,l,hf,hown,hL,_⟩:=(E c).yes hc;have hl:(Instr.lookup 123 (.map (OM mb)) (PE PF c) Pm).run prog w=.ok (.tuple #[v,.bool Pm]) w:=G.mp.look_some aY Tryz.underM (j6 w) hw hf Pm;have hlen:=hL.len G.ga.w1 Rq.2;have HL:=ae hL;clear G E hL hf;rcases hown.2 with⟨rfl,h0⟩|⟨g,cap,cur,rfl,_⟩
 ·have Ql:=tR w;go_enter func75,ntmps75;go_wp2_with fail;refine Ql.mono ?_;rintro e w1 ⟨rfl,rfl⟩;clear Ql;go_wp2;go_ret2;refine⟨_,l,rfl,?_,HL.out,al⟩;have e0:l=[]:=List.length_eq_zero_iff.1 h0;rw[e0];exact Nj _ _ _ _
 ·have Ql:=tS w hown (AA _ _ _) hlen;clear hown;go_enter func75,ntmps75;go_wp2_with fail;refine Ql.mono ?_;rintro e w1 ⟨v',rfl,PS,hb1⟩;clear Ql;go_wp2;go_ret2;exact⟨_,l,rfl,PS,HL.out,hb1⟩
end
section
open Go.RowKit
theorem Ia (w:PG)(F:Int->Option (Int×Int)) :
  ((w.alloc (.cells zC 96)).alloc (.cells zB 36)).there w.heap.size 0 512/\(((w.alloc (.cells zC 96)).alloc (.cells zB 36)).setCells w.heap.size 0 (cX F)).there (w.heap.size+1) 0 256 /\
    dP ((((w.alloc (.cells zC 96)).alloc (.cells zB 36)).setCells w.heap.size 0 (cX F)).setCells (w.heap.size+1) 0 (isL F)) w.heap.size (w.heap.size+1) F /\
    PI w.heap.size w ((((w.alloc (.cells zC 96)).alloc (.cells zB 36)).setCells w.heap.size 0 (cX F)).setCells (w.heap.size+1) 0 (isL F)):=by
 have L:=dP.new w;have hB:PI w.heap.size w ((w.alloc (.cells zC 96)).alloc (.cells zB 36)):=(al.alloc aj _).alloc (by simp) _;have t0:((w.alloc (.cells zC 96)).alloc (.cells zB 36)).there w.heap.size 0 512:=World.there_alloc (gY w (N8 512 (Value.int .i64 0)) 96 512 OE) _;have t1:((w.alloc (.cells zC 96)).alloc (.cells zB 36)).there (w.heap.size+1) 0 256:=by
  have:=gY (w.alloc (.cells zC 96)) (N8 256 (Value.bool PB)) 36 256 OE;rw[show (w.alloc (.cells zC 96)).heap.size=w.heap.size+1 by simp]at this;exact this
 have t2:(((w.alloc (.cells zC 96)).alloc (.cells zB 36)).setCells w.heap.size 0 (cX F)).there (w.heap.size+1) 0 256:=World.there_setCells t1 _ _ _;refine⟨t0,t2,?_,bW _ (by omega) _ _ (bW _ aj _ _ hB)⟩;refine xY ?_ ?_ (fun o=>?_) (fun o=>?_) (by omega)
 ·exact World.rangeAt_setCells_apart (NG _ _ _ _ (by rw[di];exact t0)) _ _ _ (MG (by omega))
 ·exact NG _ _ _ _ (by rw[lJ];exact t2)
 ·rw[OL,OL];exact L.zc o
 ·rw[OL,OL];exact L.zi o
theorem J3 {o:Nat}{l:List PH}(hl:l.length=n)(h:w.there b o n):w.there b o l.toArray.size:=by rw[Oi,hl];exact h
theorem J4 {P:Program}{t:TypeId}{l:List PH}(hl:l.length=n)(h:(P.info? t).map (·.size)=OM n):(P.info? t).map (·.size)=OM l.toArray.size:=by rw[Oi,hl];exact h
theorem Ib {E:Int->Nat->Int->Prop}{o:Int}{F:Int->Option (Int×Int)}(h:ct E o F)(a:Int):okC (js F a) (iT F a):=by
 unfold js iT okC;cases hF:F a with
 |none=>simp
 |some c =>
  obtain⟨s,d⟩:=c;obtain⟨h1,h2,h3⟩:=h.small hF;have:=cE h1 h2 h3;show 0<=s/\s<=8388608/\0<=d/\d<=8388608;omega
end
end Go.Proofs.YtmaefimaeelkbaaGreatDoor
