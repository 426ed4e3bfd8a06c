/- Texts laid together. -/
import Derived.Test.YtmaefimaeelkbaaGreatDoorP5
namespace Go.Proofs.YtmaefimaeelkbaaGreatDoor
open _root_.Or renaming inl→MG,inr→MF
open _root_.Nat renaming eq_zero_or_pos→Ob,ne_of_lt→NO,lt_irrefl→NJ
open _root_.List renaming any_eq_true→Oo,mem_map→NH,mem_cons_self→M4,mem_cons_of_mem→MV,mem_cons→Nh,mem_append→MT,append_nil→Nt,mem_singleton→MU
open _root_.Int renaming add_comm→NI,zero_add→Oq,toNat_natCast→ML,le_refl→Nc
open _root_.Option renaming some→OM,none→Pk
open _root_.Bool renaming true→Pm,false→PB
variable {t k most:Nat}{nr Qx:Nat->Bool}{g:Bool}{L:List Nat}{a b K:Int}
set_option maxHeartbeats 8000000
set_option maxRecDepth 1000000
theorem mJ {es:Nat->List LE}{l:List (Nat×LE)}(hE:Esy es)(hl:∀x∈l,x.1≠x.2.to) :
  Esy (cf es l)/\∀k e,e∈cf es l k->e∈es k\/∃x∈l,(k=x.1/\e=x.2)\/(k=x.2.to/\e=⟨x.1,x.2.s,x.2.d,x.2.mid⟩):=by
 refine iM (P:=fun es'=>Esy es'/\∀k e,e∈es' k->e∈es k\/∃x∈l,(k=x.1/\e=x.2)\/(k=x.2.to/\e=⟨x.1,x.2.s,x.2.d,x.2.mid⟩)) ⟨hE,fun k e he=>MG he⟩ (fun x hx es' ⟨h1,h2⟩=>?_);have hn:=hl x hx;refine⟨h1.lay2 hn,fun k e he=>?_⟩;rcases (jj h1 hn k e).1 he with⟨h3,h4⟩|⟨h3,h4⟩|⟨h3,_⟩
 ·exact MF ⟨x,hx,MG ⟨h3,h4⟩⟩
 ·exact MF ⟨x,hx,MF ⟨h3,h4⟩⟩
 ·exact h2 k e h3
theorem gB {es:Nat->List LE}{l:List (Nat×LE)}(hE:Esy es)(hl:∀x∈l,x.1≠x.2.to){k:Nat}{e:LE}(he:e∈es k)(hn:∀x∈l,¬(k=x.1/\e.to=x.2.to)/\¬(k=x.2.to/\e.to=x.1)):e∈cf es l k :=
 (iM (P:=fun es'=>Esy es'/\e∈es' k) ⟨hE,he⟩ (fun x hx _ ⟨h1,h2⟩=>⟨h1.lay2 (hl x hx),(jj h1 (hl x hx) k e).2 (MF (MF ⟨h2,(hn x hx).1,(hn x hx).2⟩))⟩)).2
structure Lin (t:Nat) (st:LSt) (nr:Nat->Bool):Prop where
 esy:Esy st.es
 pos:0<t
 le:∀n,st.lev n<=t
 no:∀n,nr n=Pm->st.lev n=0
 cut:∀{a e},e∈st.es a->st.lev a=t->st.lev e.to=0->nr e.to=Pm
 apart:∀{a e},e∈st.es a->0<st.lev a->st.lev e.to≠st.lev a
 mid:∀{a e},e∈st.es a->0<=e.mid->0<st.lev e.mid.toNat/\(st.lev a=0\/st.lev e.mid.toNat<st.lev a)
 new:∀{a e},e∈st.es a->0<=e.mid->st.lev e.mid.toNat=t->nr a=Pm
 sum:∀{a e},e∈st.es a->0<=e.mid->∃e1∈st.es a,e1.to=e.mid.toNat/\∃e2∈st.es e.mid.toNat,e2.to=e.to/\e.s=e1.s+e2.s/\e.d=e1.d+e2.d
theorem Lin.turn {n:Nat}{st PQ:LSt}(L:Lin t st nr)(h:ef t n st nr PQ Qx g):Lin t PQ Qx:=by
 rcases h with⟨_,rfl,rfl,_⟩|⟨hn,p,_,h⟩
 ·exact L
 ·rcases h with⟨_,rfl,rfl,_⟩|⟨_,rfl,rfl,_⟩
  ·exact L
  ·have Vu:st.lev n=0:=by
    rcases Ob (st.lev n) with h|h
    ·exact h
    ·exact absurd (MG h) hn
   have Si:nr n≠true:=fun h=>hn (MF h);have Vn:=fun {x:Nat×LE}(hx:x∈cq p n (feF st n))=>eI (fH (L.esy.ord n)) hx;have PW:∀x∈cq p n (feF st n),x.1≠x.2.to:=fun x hx=>by
    obtain⟨a,_,b,_,h3,_,rfl⟩:=Vn hx;exact NO h3
   -- ends of what is laid: of no level, near now, not n
   have ends:∀x∈cq p n (feF st n),(st.lev x.1=0/\x.1≠n/\(feF st n).any (fun e=>e.to==x.1)=Pm)/\(st.lev x.2.to=0/\x.2.to≠n/\(feF st n).any (fun e=>e.to==x.2.to)=Pm):=fun x hx=>by
    obtain⟨a,ha,b,hb,_,_,rfl⟩:=Vn hx;have TI:=ff.1 ha;have hb':=ff.1 hb;exact⟨⟨TI.2,show a.to≠n from L.esy.off TI.1,Oo.2 ⟨a,ha,beq_self_eq_true _⟩⟩,⟨hb'.2,show b.to≠n from L.esy.off hb'.1,Oo.2 ⟨b,hb,beq_self_eq_true _⟩⟩⟩
   obtain⟨hE',Rc⟩:=mJ (l:=cq p n (feF st n)) L.esy PW;have WO:=fun {k:Nat}{e:LE}(he:e∈st.es k) (hk:k=n\/e.to=n\/0<st.lev k\/0<st.lev e.to)=>gB L.esy PW he (fun x hx=>by
    obtain⟨⟨a1,a2,_⟩,⟨b1,b2,_⟩⟩:=ends x hx;constructor
    ·rintro⟨h1,h2⟩;rcases hk with h|h|h|h
     ·exact a2 (h1.symm.trans h)
     ·exact b2 (h2.symm.trans h)
     ·rw[h1,a1]at h;exact NJ _ h
     ·rw[h2,b1]at h;exact NJ _ h
    ·rintro⟨h1,h2⟩;rcases hk with h|h|h|h
     ·exact b2 (h1.symm.trans h)
     ·exact a2 (h2.symm.trans h)
     ·rw[h1,b1]at h;exact NJ _ h
     ·rw[h2,a1]at h;exact NJ _ h)
   -- an edge is an elder one, or its ends are of no level, near, and it leads over n
   have split:∀k e,e∈cf st.es (cq p n (feF st n)) k->e∈st.es k\/(k≠n/\st.lev k=0/\e.to≠n/\st.lev e.to=0/\(feF st n).any (fun e=>e.to==k)=Pm/\e.mid=n/\∃e1∈st.es n,e1.to=k/\∃e2∈st.es n,e2.to=e.to/\e.s=e1.s+e2.s/\e.d=e1.d+e2.d):=fun k e he=>by
    rcases Rc k e he with h|⟨x,hx,h⟩
    ·exact MG h
    ·obtain⟨⟨a1,a2,a3⟩,⟨b1,b2,b3⟩⟩:=ends x hx;obtain⟨a,ha,b,hb,_,_,rfl⟩:=Vn hx;have TI:=(ff.1 ha).1;have hb':=(ff.1 hb).1;rcases h with⟨rfl,rfl⟩|⟨rfl,rfl⟩
     ·exact MF ⟨a2,a1,b2,b1,a3,rfl,a,TI,rfl,b,hb',rfl,rfl,rfl⟩
     ·exact MF ⟨b2,b1,a2,a1,b3,rfl,b,hb',rfl,a,TI,rfl,NI _ _,NI _ _⟩
   have lv:∀k,k≠n->(if k=n then t else st.lev k)=st.lev k:=fun k hk=>if_neg hk;have lvn:(if n=n then t else st.lev n)=t:=if_pos rfl;have Tm:=L.pos;refine⟨hE',L.pos,fun k=>?_,fun k hk=>?_,fun {a e} he h1 h2=>?_,fun {a e} he h1=>?_,fun {a e} he h1=>?_,fun {a e} he h1 h2=>?_,fun {a e} he h1=>?_⟩
   ·show (if k=n then t else st.lev k)<=t;split
    ·exact aj
    ·exact L.le k
   ·show (if k=n then t else st.lev k)=0;rcases Bool.or_eq_true .. ▸ hk with hk|hk
    ·rw[lv k (fun e=>Si (e▸hk))];exact L.no k hk
    ·obtain⟨e,he,hek⟩:=Oo.1 hk;have hek:e.to=k:=beq_iff_eq.1 hek;obtain⟨g1,g2⟩:=ff.1 he;rw[lv k (fun e'=>L.esy.off g1 (hek.trans e')),<- hek];exact g2
   ·show (nr e.to || (feF st n).any (fun x=>x.to==e.to))=Pm;have q1:(if a=n then t else st.lev a)=t:=h1;have q2:(if e.to=n then t else st.lev e.to)=0:=h2;have TM:e.to≠n:=fun e'=>by rw[if_pos e']at q2;omega
    rw[lv _ TM]at q2;rcases split a e he with hd|⟨g1,g2,_⟩
    ·by_cases ea:a=n
     ·subst ea;rw[Bool.or_eq_true];exact MF (Oo.2 ⟨e,ff.2 ⟨hd,q2⟩,beq_self_eq_true _⟩)
     ·rw[lv a ea]at q1;rw[L.cut hd q1 q2];rfl
    ·rw[lv a g1,g2]at q1;omega
   ·show (if e.to=n then t else st.lev e.to)≠(if a=n then t else st.lev a);have h1:0<(if a=n then t else st.lev a):=h1;rcases split a e he with hd|⟨g1,g2,_⟩
    ·by_cases ea:a=n
     ·subst ea;rw[lvn,lv _ (L.esy.off hd)];intro h3;exact Si (L.cut (L.esy.back hd) h3 Vu)
     ·rw[lv a ea]at h1 ⊢;by_cases eb:e.to=n
      ·rw[if_pos eb];intro h3;have:=L.cut hd h3.symm (by rw[eb];exact Vu);rw[eb]at this;exact Si this
      ·rw[lv _ eb];exact L.apart hd h1
    ·rw[lv a g1,g2]at h1;omega
   ·show 0<(if e.mid.toNat=n then t else st.lev e.mid.toNat)/\((if a=n then t else st.lev a)=0\/(if e.mid.toNat=n then t else st.lev e.mid.toNat)<(if a=n then t else st.lev a));rcases split a e he with hd|⟨g1,g2,_,_,_,g3,_⟩
    ·obtain⟨m1,m2⟩:=L.mid hd h1;have VK:e.mid.toNat≠n:=fun e'=>by rw[e',Vu]at m1;omega
     rw[lv _ VK];refine⟨m1,?_⟩;by_cases ea:a=n
     ·subst ea;rw[lvn];right;have h3:=L.le e.mid.toNat;have h4:st.lev e.mid.toNat≠t:=fun h=>Si (L.new hd h1 h);omega
     ·rw[lv a ea];exact m2
    ·have VK:e.mid.toNat=n:=(by rw[g3];rfl);rw[if_pos VK,lv a g1];exact⟨L.pos,MG g2⟩
   ·show (nr a || (feF st n).any (fun x=>x.to==a))=Pm;have h2:(if e.mid.toNat=n then t else st.lev e.mid.toNat)=t:=h2;rcases split a e he with hd|⟨_,_,_,_,g3,_⟩
    ·obtain⟨m1,_⟩:=L.mid hd h1;have VK:e.mid.toNat≠n:=fun e'=>by rw[e',Vu]at m1;omega
     rw[lv _ VK]at h2;rw[L.new hd h1 h2];rfl
    ·rw[g3];exact Bool.or_true _
   ·rcases split a e he with hd|⟨g1,g2,_,_,_,g3,e1,f1,f2,e2,f3,f4,f5,f6⟩
    ·obtain⟨m1,_⟩:=L.mid hd h1;obtain⟨e1,f1,f2,e2,f3,f4,f5,f6⟩:=L.sum hd h1;exact⟨e1,WO f1 (MF (MF (MF (by rw[f2];exact m1)))),f2,e2,WO f3 (MF (MF (MG m1))),f4,f5,f6⟩
    ·have VK:e.mid.toNat=n:=(by rw[g3];rfl);rw[VK];have hb:=L.esy.back f1;rw[f2]at hb;exact⟨_,WO hb (MF (MG rfl)),rfl,e2,WO f3 (MG rfl),f4,f5,f6⟩
section
structure Lrd (k:Nat) (st:LSt):Prop where
 esy:Esy st.es
 le:∀n,st.lev n<=k
 apart:∀{a e},e∈st.es a->0<st.lev a->st.lev e.to≠st.lev a
 mid:∀{a e},e∈st.es a->0<=e.mid->0<st.lev e.mid.toNat/\(st.lev a=0\/st.lev e.mid.toNat<st.lev a)
 sum:∀{a e},e∈st.es a->0<=e.mid->∃e1∈st.es a,e1.to=e.mid.toNat/\∃e2∈st.es e.mid.toNat,e2.to=e.to/\e.s=e1.s+e2.s/\e.d=e1.d+e2.d
theorem Lrd.lin {st:LSt}(h:Lrd k st):Lin (k+1) st (fun _=>PB) :=
 ⟨h.esy,Nat.succ_pos k,fun n=>Nat.le_succ_of_le (h.le n),fun _ h=>(by cases h),fun {a e} _ h1 _=>absurd h1 (by have:=h.le a;omega),h.apart,h.mid,fun {a e} _ _ h1=>absurd h1 (by have:=h.le e.mid.toNat;omega),h.sum⟩
theorem Lin.lrd {st:LSt}(h:Lin t st nr):Lrd t st:=⟨h.esy,h.le,h.apart,h.mid,h.sum⟩
theorem Lin.rnd :∀{L:List Nat}{st PQ:LSt}{nr Qx:Nat->Bool}{g:Bool},Lin t st nr->Rnd t L st nr PQ Qx g->Lin t PQ Qx
 |[],_,_,_,_,_,h,⟨h1,h2,_⟩=>by rw[h1,h2];exact h
 |_::_,_,_,_,_,_,h,⟨_,_,_,_,h1,h2,_⟩=>(h.turn h1).rnd h2
theorem ef.none {n:Nat}{st PQ:LSt}(h:ef t n st nr PQ Qx PB):PQ=st:=by
 rcases h with⟨_,h,_⟩|⟨_,_,_,⟨_,h,_⟩|⟨_,_,_,h⟩⟩
 ·exact h
 ·exact h
 ·cases h
theorem Rnd.none :∀{L:List Nat}{st PQ:LSt}{nr Qx:Nat->Bool},Rnd t L st nr PQ Qx PB->PQ=st
 |[],_,_,_,_,⟨h,_⟩=>h
 |_::_,_,_,_,_,⟨_,_,g1,g2,h1,h2,h3⟩=>by
  cases g1 with
  |true=>cases h3
  |false =>
   cases g2 with
   |true=>cases h3
   |false=>exact h2.none.trans h1.none
theorem Lrd.rds {QO:LSt}(h0:Lrd 0 QO):∀{k:Nat}{st:LSt},Rds most L QO k st->Lrd k st
 |0,st,h=>by
  have e:st=QO:=h;rw[e];exact h0
 |_+1,_,⟨_,_,h1,_,h2⟩=>((Lrd.rds h0 h1).lin.rnd h2).lrd
theorem Lrd.start {st:LSt}(hE:Esy st.es)(h0:∀n,st.lev n=0)(hm:∀{a e},e∈st.es a->e.mid<0):Lrd 0 st :=
 ⟨hE,fun n=>Nat.le_of_eq (h0 n),fun {a e} _ h=>absurd h (by rw[h0];omega),fun he h=>absurd h (by have:=hm he;omega),fun he h=>absurd h (by have:=hm he;omega)⟩
def dr (T:Nat) (st:LSt) (n:Nat):Nat:=if st.lev n=0 then T else st.lev n
section
variable {k : Nat} {st : LSt}
theorem Lrd.end_le (h:Lrd k st)(n:Nat):1<=dr (k+1) st n/\dr (k+1) st n<=k+1:=by
 unfold dr;have:=h.le n;split<;>omega
theorem Lrd.end_mid (h:Lrd k st){a:Nat}{e:LE}(he:e∈st.es a)(h0:0<=e.mid):dr (k+1) st e.mid.toNat<dr (k+1) st a/\dr (k+1) st e.mid.toNat<dr (k+1) st e.to:=by
 have key:∀{a:Nat}{e:LE},e∈st.es a->0<=e.mid->dr (k+1) st e.mid.toNat<dr (k+1) st a:=fun {a e} he h0=>by
  obtain⟨m1,m2⟩:=h.mid he h0;have hm:=h.le e.mid.toNat;unfold dr;rw[if_neg (show ¬st.lev e.mid.toNat=0 by omega)];by_cases e1:st.lev a=0
  ·rw[if_pos e1];omega
  ·rw[if_neg e1];omega
 exact⟨key he h0,key (e:=⟨a,e.s,e.d,e.mid⟩) (h.esy.back he) h0⟩
end
end
theorem ef.own {top n:Nat}{st PQ:LSt}(h:ef top n st nr PQ Qx g)(hE:Esy st.es){a:Nat}{e:LE}(he:e∈PQ.es a)(hm:e.mid<0):e∈st.es a:=by
 rcases h with⟨_,rfl,_⟩|⟨_,p,_,⟨_,rfl,_⟩|⟨_,rfl,_⟩⟩
 ·exact he
 ·exact he
 ·have Vn:=fun {x:Nat×LE}(hx:x∈cq p n (feF st n))=>eI (fH (hE.ord n)) hx;have PW:∀x∈cq p n (feF st n),x.1≠x.2.to:=fun x hx=>by
   obtain⟨a,_,b,_,h3,_,rfl⟩:=Vn hx;exact NO h3
  rcases (mJ hE PW).2 a e he with h|⟨x,hx,h⟩
  ·exact h
  ·obtain⟨u,_,v,_,_,_,rfl⟩:=Vn hx;rcases h with⟨_,rfl⟩|⟨_,rfl⟩
   ·exact absurd hm (show ¬((n:Nat):Int)<0 by omega)
   ·exact absurd hm (show ¬((n:Nat):Int)<0 by omega)
theorem Rnd.own :∀{L:List Nat}{st PQ:LSt}{nr Qx:Nat->Bool}{g:Bool},Rnd t L st nr PQ Qx g->Esy st.es->∀{a:Nat}{e:LE},e∈PQ.es a->e.mid<0->e∈st.es a
 |[],_,_,_,_,_,⟨h,_⟩,_,_,_,he,_=>by rw[<- h];exact he
 |_::_,_,_,_,_,_,⟨_,_,_,_,h1,h2,_⟩,hE,_,_,he,hm=>h1.own hE (h2.own (h1.esy hE) he hm) hm
theorem Rds.own {QO:LSt}(h0:Lrd 0 QO):∀{k:Nat}{st:LSt},Rds most L QO k st->∀{a:Nat}{e:LE},e∈st.es a->e.mid<0->e∈QO.es a
 |0,st,h,_,_,he,_=>by
  have e:st=QO:=h;rw[<- e];exact he
 |_+1,_,⟨_,_,h1,_,h2⟩,_,_,he,hm=>Rds.own h0 h1 (h2.own (Lrd.rds h0 h1).esy he hm) hm
def Unp (es:Nat->List LE):Nat->Nat->Nat->List Nat->Prop
 |0,_,_,_=>False
 |f+1,a,b,way=>∃e∈es a,e.to=b/\((e.mid<0/\way=[a,b])\/(0<=e.mid/\∃w1 w2,Unp es f a e.mid.toNat w1/\Unp es f e.mid.toNat b w2/\way=w1++w2.tail))
theorem Unp.one {es:Nat->List LE}(h:Esy es):∀{f g a b:Nat}{w w':List Nat},Unp es f a b w->Unp es g a b w'->w=w'
 |0,_,_,_,_,_,h1,_=>h1.elim
 |_+1,0,_,_,_,_,_,h2=>h2.elim
 |f+1,g+1,a,b,w,w',⟨e,he,ht,h1⟩,⟨e',UE,ht',h2⟩=>by
  have ee:e=e':=(h.ord a).one he UE (ht.trans ht'.symm);subst ee;rcases h1 with⟨_,h1⟩|⟨m1,u1,u2,p1,p2,p3⟩
  ·rcases h2 with⟨_,h2⟩|⟨m2,_⟩
   ·exact h1.trans h2.symm
   ·omega
  ·rcases h2 with⟨m2,_⟩|⟨_,v1,v2,q1,q2,q3⟩
   ·omega
   ·rw[p3,q3,Unp.one h p1 q1,Unp.one h p2 q2]
def Prc (es:Nat->List LE):List Nat->Int->Int->Prop
 |[],_,_=>False
 |[_],s,d=>s=0/\d=0
 |x::y::l,s,d=>∃e∈es x,e.to=y/\Prc es (y::l) (s-e.s) (d-e.d)
theorem Prc.join {es:Nat->List LE}{m:Nat}{l2:List Nat}{s2 d2:Int}(h2:Prc es (m::l2) s2 d2):∀{x:Nat}{l1:List Nat}{s1 d1:Int},Prc es (x::l1) s1 d1->(x::l1).getLast? = OM m->Prc es ((x::l1)++l2) (s1+s2) (d1+d2)
 |x,[],s1,d1,⟨h1,h3⟩,hl=>by
  have e:x=m:=by simpa using hl
  subst e;rw[h1,h3,Oq,Oq];exact h2
 |x,y::l1,s1,d1,⟨e,he,ht,h1⟩,hl=>by
  have ih:=Prc.join h2 h1 (by simpa using hl);refine⟨e,he,ht,?_⟩;rw[show s1+s2-e.s=s1-e.s+s2 by omega,show d1+d2-e.d=d1-e.d+d2 by omega];exact ih
theorem AB {st:LSt}{Zh:Nat->List LE}(h:Lrd k st)(hown:∀{a e},e∈st.es a->e.mid<0->e∈Zh a):∀(f a:Nat) (e:LE),e∈st.es a->min (dr (k+1) st a) (dr (k+1) st e.to)<=f ->
  ∃way l,Unp st.es f a e.to way/\way=a::l/\l≠[]/\way.getLast? = OM e.to/\Prc Zh way e.s e.d
 |0,a,e,_,hf=>by
  have h1:=(h.end_le a).1;have h2:=(h.end_le e.to).1;omega
 |f+1,a,e,he,hf=>by
  by_cases hm:e.mid<0
  ·exact⟨[a,e.to],[e.to],⟨e,he,rfl,MG ⟨hm,rfl⟩⟩,rfl,by simp,rfl,⟨e,hown he hm,rfl,by omega,by omega⟩⟩
  ·have hm:0<=e.mid:=(by omega);obtain⟨g1,g2⟩:=h.end_mid he hm;obtain⟨e1,f1,f2,e2,f3,f4,f5,f6⟩:=h.sum he hm;obtain⟨w1,l1,a1,a2,a3,a4,a5⟩:=AB h hown f a e1 f1 (by rw[f2];omega);obtain⟨w2,l2,b1,b2,b3,b4,b5⟩:=AB h hown f e.mid.toNat e2 f3 (by rw[f4];omega);rw[f2]at a1 a4;rw[f4]at b1 b4;subst a2 b2;refine⟨(a::l1)++l2,l1++l2,⟨e,he,rfl,MF ⟨hm,_,_,a1,b1,rfl⟩⟩,rfl,fun h=>a3 (List.append_eq_nil_iff.1 h).1,?_,?_⟩
   ·rw[List.getLast?_append];cases l2 with
    |nil=>exact absurd rfl b3
    |cons y l2 =>
     have:(y::l2).getLast? = OM e.to:=by simpa using b4
     rw[this];rfl
   ·rw[f5,f6];exact Prc.join b5 a5 a4
def Dif (x y:Nat×LE):Prop:=¬(x.1=y.1/\x.2.to=y.2.to)/\¬(x.1=y.2.to/\x.2.to=y.1)
theorem o9 {p:LE->LE->Bool}{n:Nat}:∀{l:List LE},Rsg l->(cq p n l).Pairwise Dif
 |[],_=>List.Pairwise.nil
 |a::l,hl=>by
  unfold cq;rw[List.pairwise_append];refine⟨?_,o9 hl.tail,fun x hx y hy=>?_⟩
  ·rw[List.pairwise_map];refine(hl.tail.filter _).imp (fun {b c} XG=>⟨fun h=>?_,fun h=>?_⟩)
   ·have h2:b.to=c.to:=h.2;omega
   ·have h1:a.to=c.to:=h.1;have h2:b.to=a.to:=h.2;omega
  ·obtain⟨b,hb,rfl⟩:=NH.1 hx;obtain⟨u,hu,v,hv,huv,_,rfl⟩:=eI hl.tail hy;have k1:=hl.head u hu;have k2:=hl.head v hv;exact⟨fun h=>by have h1:a.to=u.to:=h.1;omega,fun h=>by have h1:a.to=v.to:=h.1;omega⟩
theorem mK:∀{l:List (Nat×LE)}{es:Nat->List LE},Esy es->(∀x∈l,x.1≠x.2.to)->l.Pairwise Dif->∀x∈l,x.2∈cf es l x.1/\(⟨x.1,x.2.s,x.2.d,x.2.mid⟩:LE)∈cf es l x.2.to
 |[],_,_,_,_,x,hx=>by cases hx
 |y::l,es,hE,hn,hd,x,hx=>by
  have hy:=hn y (M4 ..);have hE1:Esy (lay2 es y):=hE.lay2 hy;have Za:∀x∈l,x.1≠x.2.to:=fun x hx=>hn x (MV _ hx);obtain⟨hd1,hd2⟩:=List.pairwise_cons.1 hd;rcases Nh.1 hx with rfl|hx
  ·refine⟨gB hE1 Za ((jj hE hy _ _).2 (MG ⟨rfl,rfl⟩)) (fun z hz=>?_),gB hE1 Za ((jj hE hy _ _).2 (MF (MG ⟨rfl,rfl⟩))) (fun z hz=>?_)⟩
   ·exact⟨(hd1 z hz).1,(hd1 z hz).2⟩
   ·exact⟨fun h=>(hd1 z hz).2 ⟨h.2,h.1⟩,fun h=>(hd1 z hz).1 ⟨h.2,h.1⟩⟩
  ·exact mK hE1 Za hd2 x hx
theorem pa {p:LE->LE->Bool}{n:Nat}:∀{l:List LE}{a b:LE},a∈l->b∈l->a.to<b.to->Rsg l->p a b=Pm->(a.to,(⟨b.to,a.s+b.s,a.d+b.d,(n:Int)⟩:LE))∈cq p n l
 |[],_,_,h,_,_,_,_=>by cases h
 |x::l,a,b,ha,hb,PO,hl,hp=>by
  unfold cq;rw[MT];rcases Nh.1 ha with rfl|TI
  ·rcases Nh.1 hb with rfl|hb'
   ·omega
   ·exact MG (NH.2 ⟨b,List.mem_filter.2 ⟨hb',hp⟩,rfl⟩)
  ·rcases Nh.1 hb with rfl|hb'
   ·have:=hl.head a TI;omega
   ·exact MF (pa TI hb' PO hl.tail hp)
theorem EdR.turn {st:LSt}{n:Nat}{a b:Nat}{s d:Int}(hE:Esy st.es)(h:Wg (EdR st n) (a:Int) (b:Int) s d)(h0:st.lev a=0)(hn:a≠n):Wg (EdR st n) (b:Int) (a:Int) s d:=by
 have key:=h (fun x s d=>∃m:Nat,x=(m:Int)/\st.lev m=0/\m≠n/\Wg (EdR st n) x (a:Int) s d) ⟨a,rfl,h0,hn,Wg.nil⟩ (fun x s d y t u ⟨m,hm,m0,mn,hx⟩ ⟨e,he,e1,e2,e3,e4,e5⟩=>by
  subst hm;rw[ML]at he;refine⟨e.to,e1,e4,e5,?_⟩;have hb:=hE.back he;have e6:EdR st n y (m:Int) t u:=⟨⟨m,e.s,e.d,e.mid⟩,by rw[e1,ML];exact hb,rfl,e2,e3,m0,mn⟩;have:=(Wg.one e6).trans hx
  rwa [NI t,NI u]at this)
 obtain⟨_,_,_,_,h⟩:=key;exact h
def Fre (st:LSt) (a b t u:Int):Prop:=∃e∈st.es a.toNat,b=(e.to:Int)/\t=e.s/\u=e.d/\st.lev e.to=0
def Cst (es:Nat->List LE):Prop:=∀{a e},e∈es a->0<=e.s/\0<=e.d
theorem ef.edge {top n:Nat}{st PQ:LSt}(h:ef top n st nr PQ Qx Pm)(hE:Esy st.es){a:Nat}{e:LE}(he:e∈st.es a)(h0:st.lev a=0)(h1:st.lev e.to=0)(ha:a≠n)(hb:e.to≠n):∃e'∈PQ.es a,e'.to=e.to/\val e'.s e'.d<=val e.s e.d:=by
 rcases h with⟨_,_,_,h⟩|⟨_,p,hp,⟨_,_,_,h⟩|⟨_,rfl,_⟩⟩
 ·cases h
 ·cases h
 ·have Vn:=fun {x:Nat×LE}(hx:x∈cq p n (feF st n))=>eI (fH (hE.ord n)) hx;have PW:∀x∈cq p n (feF st n),x.1≠x.2.to:=fun x hx=>by
   obtain⟨a,_,b,_,h3,_,rfl⟩:=Vn hx;exact NO h3
  have QU:=mK hE PW (o9 (fH (hE.ord n)))
  -- a needed one between them is cheaper than what was there
  have less:∀{u v:LE},p u v=Pm->∀{x:Nat}{q:LE},q∈st.es x->x=u.to->q.to=v.to->st.lev q.to=0->q.to≠n->val (u.s+v.s) (u.d+v.d)<=val q.s q.d:=fun {u v} Zy {x q} hq hx hq2 hq3 hq4=>by
   have Ud:=(hp u v).1 Zy;by_cases hle:val q.s q.d<=val (u.s+v.s) (u.d+v.d)
   ·exfalso;refine Ud ⟨q.s,q.d,?_,hle⟩;have e1:EdR st n (u.to:Int) (v.to:Int) q.s q.d:=⟨q,by rw[ML,<- hx];exact hq,by rw[hq2],rfl,rfl,hq3,hq4⟩;exact Wg.one e1
   ·omega
  by_cases hx:∃x∈cq p n (feF st n),(a=x.1/\e.to=x.2.to)\/(a=x.2.to/\e.to=x.1)
  ·obtain⟨x,hx,hc⟩:=hx;obtain⟨n1,n2⟩:=QU x hx;obtain⟨u,hu,v,hv,huv,Zy,rfl⟩:=Vn hx;rcases hc with⟨rfl,c2⟩|⟨rfl,c2⟩
   ·exact⟨_,n1,c2.symm,less Zy he rfl c2 h1 hb⟩
   ·have Q7:=hE.back he;rw[c2]at Q7;exact⟨_,n2,c2.symm,less (q:=⟨v.to,e.s,e.d,e.mid⟩) Zy Q7 rfl rfl h0 ha⟩
  ·refine⟨e,gB hE PW he (fun x hx'=>⟨fun h=>hx ⟨x,hx',MG h⟩,fun h=>hx ⟨x,hx',MF h⟩⟩),rfl,Nc _⟩
theorem ef.over {top n:Nat}{st PQ:LSt}(h:ef top n st nr PQ Qx Pm)(hE:Esy st.es)(hC:Cst st.es){a b:LE}(ha:a∈st.es n)(hb:b∈st.es n)(ha0:st.lev a.to=0)(TQ:st.lev b.to=0) :
  (∃p q,Wg (EdR st n) (a.to:Int) (b.to:Int) p q/\val p q<=val (a.s+b.s) (a.d+b.d))\/∃e∈PQ.es a.to,e.to=b.to/\val e.s e.d<=val (a.s+b.s) (a.d+b.d):=by
 have Rh:=ff.2 ⟨ha,ha0⟩;have XW:=ff.2 ⟨hb,TQ⟩;rcases h with⟨_,_,_,h⟩|⟨_,p,hp,⟨_,_,_,h⟩|⟨_,rfl,_⟩⟩
 ·cases h
 ·cases h
 ·have Vn:=fun {x:Nat×LE}(hx:x∈cq p n (feF st n))=>eI (fH (hE.ord n)) hx;have PW:∀x∈cq p n (feF st n),x.1≠x.2.to:=fun x hx=>by
   obtain⟨a,_,b,_,h3,_,rfl⟩:=Vn hx;exact NO h3
  have QU:=mK hE PW (o9 (fH (hE.ord n)));rcases Nat.lt_trichotomy a.to b.to with PO|heq|PO
  ·cases Zy:p a b with
   |true=>exact MF ⟨_,(QU _ (pa Rh XW PO (fH (hE.ord n)) Zy)).1,rfl,Nc _⟩
   |false =>
    refine MG (Classical.byContradiction fun Qc=>?_);have:=(hp a b).2 Qc;rw[Zy]at this;cases this
  ·left;obtain⟨c1,c2⟩:=hC ha;obtain⟨c3,c4⟩:=hC hb;exact⟨0,0,by rw[heq];exact Wg.nil,by unfold val;omega⟩
  ·cases Zy:p b a with
   |true=>exact MF ⟨_,(QU _ (pa XW Rh PO (fH (hE.ord n)) Zy)).2,rfl,by rw[NI a.s,NI a.d];exact Nc _⟩
   |false =>
    have hex:∃p q,Wg (EdR st n) (b.to:Int) (a.to:Int) p q/\val p q<=val (b.s+a.s) (b.d+a.d):=Classical.byContradiction fun Qc=>by
     have:=(hp b a).2 Qc;rw[Zy]at this;cases this
    obtain⟨s,d,h1,h2⟩:=hex;refine MG ⟨s,d,?_,by rw[NI a.s,NI a.d];exact h2⟩;exact EdR.turn hE h1 TQ (hE.off hb)
section
theorem aI (s d t u:Int):val (s+t) (d+u)=val s d+val t u:=by unfold val;omega
theorem ef.levQ {top n:Nat}{st PQ:LSt}(h:ef top n st nr PQ Qx Pm){k:Nat}(hk:k≠n):PQ.lev k=st.lev k:=by
 rcases h with⟨_,_,_,h⟩|⟨_,p,hp,⟨_,_,_,h⟩|⟨_,rfl,_⟩⟩
 ·cases h
 ·cases h
 ·exact if_neg hk
section
variable {top n : Nat} {st PQ : LSt} {nr Qx : Nat → Bool}
theorem EdR.next (h:ef top n st nr PQ Qx Pm)(hE:Esy st.es){a b:Nat}{s d:Int}(h0:st.lev a=0)(hn:a≠n)(hw:Wg (EdR st n) (a:Int) (b:Int) s d):∃s' d',Wg (Fre PQ) (a:Int) (b:Int) s' d'/\val s' d'<=val s d:=by
 have key:=hw (fun x s d=>∃m:Nat,x=(m:Int)/\st.lev m=0/\m≠n/\∃s' d',Wg (Fre PQ) (a:Int) x s' d'/\val s' d'<=val s d) ⟨a,rfl,h0,hn,0,0,Wg.nil,Nc _⟩ (fun x s d y t u ⟨m,hm,m0,mn,s',d',hx,hv⟩ ⟨e,he,e1,e2,e3,e4,e5⟩=>by
  subst hm;rw[ML]at he;obtain⟨e',f1,f2,f3⟩:=h.edge hE he m0 e4 mn e5;refine⟨e.to,e1,e4,e5,s'+e'.s,d'+e'.d,hx.step ⟨e',by rw[ML];exact f1,by rw[e1,f2],rfl,rfl,by rw[f2,h.levQ e5];exact e4⟩,?_⟩;rw[aI,aI,e2,e3];omega)
 obtain⟨_,_,_,_,k⟩:=key;exact k
theorem ef.way (h:ef top n st nr PQ Qx Pm)(hE:Esy st.es)(hC:Cst st.es){o b:Nat}{s d:Int}(ho:st.lev o=0)(QK:o≠n)(hbn:b≠n)(hw:Wg (Fre st) (o:Int) (b:Int) s d):∃s' d',Wg (Fre PQ) (o:Int) (b:Int) s' d'/\val s' d'<=val s d:=by
 have key:=hw (fun x s d=>∃m:Nat,x=(m:Int)/\st.lev m=0/\((m≠n/\∃s' d',Wg (Fre PQ) (o:Int) (m:Int) s' d'/\val s' d'<=val s d)\/(m=n/\∃y∈st.es n,st.lev y.to=0/\∃s' d',Wg (Fre PQ) (o:Int) (y.to:Int) s' d'/\val s' d'+val y.s y.d<=val s d)))
  ⟨o,rfl,ho,MG ⟨QK,0,0,Wg.nil,Nc _⟩⟩ (fun x s d z t u ⟨m,hm,m0,hx⟩ ⟨e,he,e1,e2,e3,e4⟩=>by
   subst hm;rw[ML]at he;refine⟨e.to,e1,e4,?_⟩;rcases hx with⟨mn,s',d',hx,hv⟩|⟨mn,y,hy,Xh,s',d',hx,hv⟩
   ·by_cases en:e.to=n
    ·right;have hb:=hE.back he;rw[en]at hb;refine⟨en,⟨m,e.s,e.d,e.mid⟩,hb,m0,s',d',hx,?_⟩;rw[aI,e2,e3];show val s' d'+val e.s e.d<=_;omega
    ·left;obtain⟨e',f1,f2,f3⟩:=h.edge hE he m0 e4 mn en;refine⟨en,s'+e'.s,d'+e'.d,hx.step ⟨e',by rw[ML];exact f1,by rw[f2],rfl,rfl,by rw[f2,h.levQ en];exact e4⟩,?_⟩;rw[aI,aI,e2,e3];omega
   ·left;subst mn;have en:=hE.off he;have yn:=hE.off hy;refine⟨en,?_⟩;rcases h.over hE hC hy he Xh e4 with⟨p,q,h1,h2⟩|⟨e',f1,f2,f3⟩
    ·obtain⟨p',q',h3,h4⟩:=EdR.next h hE Xh yn h1
     refine⟨s'+p',d'+q',hx.trans h3,?_⟩;rw[aI]at h2;rw[aI,aI,e2,e3];omega
    ·refine⟨s'+e'.s,d'+e'.d,hx.step ⟨e',by rw[ML];exact f1,by rw[f2],rfl,rfl,by rw[f2,h.levQ en];exact e4⟩,?_⟩;rw[aI]at f3;rw[aI,aI,e2,e3];omega)
 obtain⟨m,hm,_,hx⟩:=key;have e:b=m:=by omega
 subst e;rcases hx with⟨_,k⟩|⟨k,_⟩
 ·exact k
 ·exact absurd k hbn
end
end
section
structure Cor (L:List Nat) (st:LSt):Prop where
 ends:∀{a e},e∈st.es a->a∈L/\e.to∈L
 lev:∀{n},0<st.lev n->n∈L
structure Bdd (t:Nat) (K:Int) (st:LSt):Prop where
 pos:∀{a e},e∈st.es a->0<=e.s/\0<=e.d
 old:∀{a e},e∈st.es a->(e.mid<0\/st.lev e.mid.toNat≠t)->e.s<=K/\e.d<=K
 new:∀{a e},e∈st.es a->e.s<=2*K/\e.d<=2*K
section
variable {t n : Nat} {K : Int} {L : List Nat} {st PQ : LSt} {nr Qx : Nat → Bool} {g : Bool}
theorem ef.split (hE:Esy st.es)(h:ef t n st nr PQ Qx g){k:Nat}{e:LE}(he:e∈PQ.es k) :
  e∈st.es k\/(st.lev n=0/\nr n=PB/\PQ.lev n=t/\e.mid=n/\∃e1∈st.es n,e1.to=k/\∃e2∈st.es n,e2.to=e.to/\e.s=e1.s+e2.s/\e.d=e1.d+e2.d):=by
 rcases h with⟨_,rfl,_⟩|⟨hn,p,_,⟨_,rfl,_⟩|⟨_,rfl,_⟩⟩
 ·exact MG he
 ·exact MG he
 ·have Vn:=fun {x:Nat×LE}(hx:x∈cq p n (feF st n))=>eI (fH (hE.ord n)) hx;have PW:∀x∈cq p n (feF st n),x.1≠x.2.to:=fun x hx=>by
   obtain⟨a,_,b,_,h3,_,rfl⟩:=Vn hx;exact NO h3
  have Vu:st.lev n=0:=by
   rcases Ob (st.lev n) with h|h
   ·exact h
   ·exact absurd (MG h) hn
  have Si:nr n=false:=by
   cases h:nr n with
   |false=>rfl
   |true=>exact absurd (MF h) hn
  rcases (mJ hE PW).2 k e he with h|⟨x,hx,h⟩
  ·exact MG h
  ·obtain⟨a,ha,b,hb,_,_,rfl⟩:=Vn hx;have TI:=(ff.1 ha).1;have hb':=(ff.1 hb).1;right;rcases h with⟨rfl,rfl⟩|⟨rfl,rfl⟩
   ·exact⟨Vu,Si,if_pos rfl,rfl,a,TI,rfl,b,hb',rfl,rfl,rfl⟩
   ·exact⟨Vu,Si,if_pos rfl,rfl,b,hb',rfl,a,TI,rfl,NI _ _,NI _ _⟩
theorem ef.lev (h:ef t n st nr PQ Qx g)(k:Nat):PQ.lev k=st.lev k\/(k=n/\PQ.lev k=t):=by
 rcases h with⟨_,rfl,_⟩|⟨hn,p,_,⟨_,rfl,_⟩|⟨_,rfl,_⟩⟩
 ·exact MG rfl
 ·exact MG rfl
 ·by_cases e:k=n
  ·exact MF ⟨e,if_pos e⟩
  ·exact MG (if_neg e)
theorem Cor.turn (hE:Esy st.es)(C:Cor L st)(hn:n∈L)(h:ef t n st nr PQ Qx g):Cor L PQ:=by
 refine⟨fun {a e} he=>?_,fun {k} hk=>?_⟩
 ·rcases h.split hE he with h1|⟨_,_,_,_,e1,f1,f2,e2,f3,f4,_⟩
  ·exact C.ends h1
  ·exact⟨by rw[<- f2];exact(C.ends f1).2,by rw[<- f4];exact(C.ends f3).2⟩
 ·rcases h.lev k with h1|⟨rfl,_⟩
  ·rw[h1]at hk;exact C.lev hk
  ·exact hn
theorem Bdd.turn (I:Lin t st nr)(_h0:0<=K)(B:Bdd t K st)(h:ef t n st nr PQ Qx g):Bdd t K PQ:=by
 have Xr:∀{k e},e∈PQ.es k->e∈st.es k\/(PQ.lev n=t/\e.mid=n/\0<=e.s/\0<=e.d/\e.s<=2*K/\e.d<=2*K):=fun {k e} he=>by
  rcases h.split I.esy he with h1|⟨h2,h3,h4,h5,e1,f1,_,e2,f3,_,f5,f6⟩
  ·exact MG h1
  ·have key:∀{x:LE},x∈st.es n->0<=x.s/\0<=x.d/\x.s<=K/\x.d<=K:=fun {x} hx=>by
    obtain⟨p1,p2⟩:=B.pos hx;have hold:x.mid<0\/st.lev x.mid.toNat≠t:=by
     by_cases hm:x.mid<0
     ·exact MG hm
     ·right;intro hl;have:=I.new hx (by omega) hl;rw[h3]at this;cases this
    obtain⟨q1,q2⟩:=B.old hx hold;exact⟨p1,p2,q1,q2⟩
   have k1:=key f1;have k2:=key f3;exact MF ⟨h4,h5,by omega,by omega,by omega,by omega⟩
 refine⟨fun {a e} he=>?_,fun {a e} he hm=>?_,fun {a e} he=>?_⟩
 ·rcases Xr he with h1|⟨_,_,h2,h3,_⟩
  ·exact B.pos h1
  ·exact⟨h2,h3⟩
 ·rcases Xr he with h1|⟨h2,h3,_⟩
  ·refine B.old h1 ?_;rcases hm with hm|hm
   ·exact MG hm
   ·by_cases h0:e.mid<0
    ·exact MG h0
    ·right;rcases h.lev e.mid.toNat with h4|⟨h4,h5⟩
     ·rw[<- h4];exact hm
     ·exact absurd h5 hm
  ·rcases hm with hm|hm
   ·omega
   ·have e1:e.mid.toNat=n:=(by omega);rw[e1]at hm;exact absurd h2 hm
 ·rcases Xr he with h1|⟨_,_,_,_,h2,h3⟩
  ·exact B.new h1
  ·exact⟨h2,h3⟩
end
structure All (L:List Nat) (t:Nat) (K:Int) (st:LSt) (nr:Nat->Bool):Prop where
 lin:Lin t st nr
 cor:Cor L st
 bdd:Bdd t K st
theorem All.turn {n:Nat}{st PQ:LSt}(A:All L t K st nr)(h0:0<=K)(hn:n∈L)(h:ef t n st nr PQ Qx g):All L t K PQ Qx :=
 ⟨A.lin.turn h,A.cor.turn A.lin.esy hn h,A.bdd.turn A.lin h0 h⟩
theorem All.rnd (h0:0<=K):∀{M:List Nat}{st PQ:LSt}{nr Qx:Nat->Bool}{g:Bool},(∀n∈M,n∈L)->All L t K st nr->Rnd t M st nr PQ Qx g->All L t K PQ Qx
 |[],_,_,_,_,_,_,A,⟨h1,h2,_⟩=>by rw[h1,h2];exact A
 |n::_,_,_,_,_,_,hM,A,⟨_,_,_,_,h1,h2,_⟩=>(A.turn h0 (hM n (M4 ..)) h1).rnd h0 (fun m hm=>hM m (MV _ hm)) h2
structure Btw (L:List Nat) (k:Nat) (K:Int) (st:LSt):Prop where
 lrd:Lrd k st
 cor:Cor L st
 bd:∀{a e},e∈st.es a->0<=e.s/\0<=e.d/\e.s<=K/\e.d<=K
theorem Btw.all {st:LSt}(_h0:0<=K)(B:Btw L k K st):All L (k+1) K st (fun _=>PB) :=
 ⟨B.lrd.lin,B.cor,fun he=>⟨(B.bd he).1,(B.bd he).2.1⟩,fun he _=>⟨(B.bd he).2.2.1,(B.bd he).2.2.2⟩,fun he=>by have:=B.bd he;omega⟩
theorem All.btw {st:LSt}(A:All L t K st nr):Btw L t (2*K) st :=
 ⟨A.lin.lrd,A.cor,fun he=>⟨(A.bdd.pos he).1,(A.bdd.pos he).2,A.bdd.new he⟩⟩
def dbl (K:Int):Nat->Int
 |0=>K
 |k+1=>2*dbl K k
theorem fo (h:0<=K):∀k,0<=dbl K k
 |0=>h
 |k+1=>by have:=fo h k;show 0<=2*dbl K k;omega
theorem Btw.rds {QO:LSt}(hK:0<=K)(h0:Btw L 0 K QO):∀{k:Nat}{st:LSt},Rds most L QO k st->Btw L k (dbl K k) st
 |0,st,h=>by
  have e:st=QO:=h;rw[e];exact h0
 |k+1,_,⟨_,_,h1,_,h2⟩=>(((Btw.rds hK h0 h1).all (fo hK k)).rnd (fo hK k) (fun _ h=>h) h2).btw
end
section
section
variable {Ed Ed' : Int → Int → Int → Int → Prop} {o a b s d t u : Int}
theorem Wg.hd (h:Wg Ed o a s d):(a=o/\s=0/\d=0)\/∃x t u p q,Ed o x t u/\Wg Ed x a p q/\s=t+p/\d=u+q :=
 h (fun a s d=>(a=o/\s=0/\d=0)\/∃x t u p q,Ed o x t u/\Wg Ed x a p q/\s=t+p/\d=u+q) (MG ⟨rfl,rfl,rfl⟩) (fun a s d b t u hx e=>by
  rcases hx with⟨rfl,rfl,rfl⟩|⟨x,t',u',p,q,h1,h2,h3,h4⟩
  ·exact MF ⟨b,t,u,0,0,e,Wg.nil,by omega,by omega⟩
  ·exact MF ⟨x,t',u',p+t,q+u,h1,h2.step e,by omega,by omega⟩)
end
def UpE (st:LSt) (a b t u:Int):Prop:=∃e∈st.es a.toNat,b=(e.to:Int)/\t=e.s/\u=e.d/\0<st.lev a.toNat/\(st.lev e.to=0\/st.lev a.toNat<st.lev e.to)
def Cov (st:LSt) (x y:Nat) (v:Int):Prop :=
 (∃(m:Nat) (s d s' d':Int),Wg (UpE st) (x:Int) (m:Int) s d/\Wg (UpE st) (y:Int) (m:Int) s' d'/\val s d+val s' d'<=v) \/
 (∃(a b:Nat) (s d s' d' p q:Int),st.lev a=0/\st.lev b=0/\Wg (UpE st) (x:Int) (a:Int) s d/\Wg (UpE st) (y:Int) (b:Int) s' d'/\Wg (Fre st) (a:Int) (b:Int) p q/\val s d+val p q+val s' d'<=v)
section
variable {t n : Nat} {st PQ : LSt} {nr Qx : Nat → Bool}
theorem ef.stay (h:ef t n st nr PQ Qx Pm)(hE:Esy st.es){k:Nat}{e:LE}(he:e∈st.es k)(hk:k=n\/e.to=n\/0<st.lev k\/0<st.lev e.to):e∈PQ.es k:=by
 rcases h with⟨_,_,_,h⟩|⟨_,p,_,⟨_,_,_,h⟩|⟨_,rfl,_⟩⟩
 ·cases h
 ·cases h
 ·have Vn:=fun {x:Nat×LE}(hx:x∈cq p n (feF st n))=>eI (fH (hE.ord n)) hx;have PW:∀x∈cq p n (feF st n),x.1≠x.2.to:=fun x hx=>by
   obtain⟨a,_,b,_,h3,_,rfl⟩:=Vn hx;exact NO h3
  have ends:∀x∈cq p n (feF st n),(st.lev x.1=0/\x.1≠n)/\(st.lev x.2.to=0/\x.2.to≠n):=fun x hx=>by
   obtain⟨a,ha,b,hb,_,_,rfl⟩:=Vn hx;have TI:=ff.1 ha;have hb':=ff.1 hb;exact⟨⟨TI.2,show a.to≠n from hE.off TI.1⟩,⟨hb'.2,show b.to≠n from hE.off hb'.1⟩⟩
  refine gB hE PW he (fun x hx=>?_);obtain⟨⟨a1,a2⟩,⟨b1,b2⟩⟩:=ends x hx;constructor
  ·rintro⟨h1,h2⟩;rcases hk with h|h|h|h
   ·exact a2 (h1.symm.trans h)
   ·exact b2 (h2.symm.trans h)
   ·rw[h1,a1]at h;exact NJ _ h
   ·rw[h2,b1]at h;exact NJ _ h
  ·rintro⟨h1,h2⟩;rcases hk with h|h|h|h
   ·exact b2 (h1.symm.trans h)
   ·exact a2 (h2.symm.trans h)
   ·rw[h1,b1]at h;exact NJ _ h
   ·rw[h2,a1]at h;exact NJ _ h
theorem ef.got (h:ef t n st nr PQ Qx Pm):st.lev n=0/\nr n=PB/\PQ.lev n=t:=by
 rcases h with⟨_,_,_,h⟩|⟨hn,p,_,⟨_,_,_,h⟩|⟨_,rfl,_⟩⟩
 ·cases h
 ·cases h
 ·refine⟨?_,?_,if_pos rfl⟩
  ·rcases Ob (st.lev n) with h|h
   ·exact h
   ·exact absurd (MG h) hn
  ·cases h:nr n with
   |false=>rfl
   |true=>exact absurd (MF h) hn
theorem ef.levO (h:ef t n st nr PQ Qx Pm){k:Nat}(hk:k≠n):PQ.lev k=st.lev k:=by
 rcases h with⟨_,_,_,h⟩|⟨_,p,hp,⟨_,_,_,h⟩|⟨_,rfl,_⟩⟩
 ·cases h
 ·cases h
 ·exact if_neg hk
theorem UpE.turn (I:Lin t st nr)(h:ef t n st nr PQ Qx Pm){a b p q:Int}(e:UpE st a b p q):UpE PQ a b p q:=by
 obtain⟨e,he,h1,h2,h3,h4,h5⟩:=e;obtain⟨g1,g2,g3⟩:=h.got;have han:a.toNat≠n:=fun q=>by rw[q,g1]at h4;omega
 refine⟨e,h.stay I.esy he (MF (MF (MG h4))),h1,h2,h3,by rw[h.levO han];exact h4,?_⟩;rw[h.levO han];by_cases TM:e.to=n
 ·right;rw[TM,g3];have h6:=I.le a.toNat;have h7:st.lev a.toNat≠t:=fun q=>by
   have:=I.cut he q (by rw[TM];exact g1);rw[TM,g2]at this;cases this
  omega
 ·rw[h.levO TM];exact h5
theorem Fre.val_pos (hC:Cst st.es){a b s d:Int}(h:Wg (Fre st) a b s d):0<=s/\0<=d :=
 h (fun _ s d=>0<=s/\0<=d) ⟨Nc _,Nc _⟩ (fun a s d b t u hx ⟨e,he,_,h2,h3,_⟩=>by
  have:=hC he;omega)
theorem Fre.end0 {a:Nat}{s d:Int}(h0:st.lev a=0)(h:Wg (Fre st) (a:Int) b s d):∃m:Nat,b=(m:Int)/\st.lev m=0 :=
 h (fun b _ _=>∃m:Nat,b=(m:Int)/\st.lev m=0) ⟨a,rfl,h0⟩ (fun _ _ _ _ _ _ _ ⟨e,_,h1,_,_,h4⟩=>⟨e.to,h1,h4⟩)
theorem Cov.turn (I:Lin t st nr)(hC:Cst st.es)(h:ef t n st nr PQ Qx Pm){x y:Nat}{v:Int}(c:Cov st x y v):Cov PQ x y v:=by
 have up:∀{a b s d:Int},Wg (UpE st) a b s d->Wg (UpE PQ) a b s d:=fun hw=>hw.mono (fun _ _ _ _ e=>UpE.turn I h e);obtain⟨g1,g2,g3⟩:=h.got
 -- from the one that gets its level an edge to one that has Pk leads up
 have upn:∀{e:LE},e∈st.es n->st.lev e.to=0->UpE PQ (n:Int) (e.to:Int) e.s e.d:=fun {e} he h0 =>
  ⟨e,by rw[ML];exact h.stay I.esy he (MG rfl),rfl,rfl,rfl,by rw[ML,g3];exact I.pos,MG (by rw[h.levO (I.esy.off he)];exact h0)⟩
 rcases c with⟨m,s,d,s',d',h1,h2,h3⟩|⟨a,b,s,d,s',d',p,q,ha,hb,h1,h2,h3,h4⟩
 ·exact MG ⟨m,s,d,s',d',up h1,up h2,h3⟩
 ·by_cases XS:a=n
  ·subst XS;by_cases ebn:b=a
   ·subst ebn;obtain⟨p0,q0⟩:=Fre.val_pos hC h3;exact MG ⟨b,s,d,s',d',up h1,up h2,by unfold val at *;omega⟩
   ·rcases h3.hd with⟨e1,_⟩|⟨z,t1,u1,p1,q1,⟨e,he,k1,k2,k3,k4⟩,h5,h6,h7⟩
    ·exact absurd (by omega) ebn
    ·rw[ML]at he;subst k1 k2 k3;obtain⟨p2,q2,h8,h9⟩:=h.way I.esy hC k4 (I.esy.off he) ebn h5;refine MF ⟨e.to,b,s+e.s,d+e.d,s',d',p2,q2,by rw[h.levO (I.esy.off he)];exact k4,by rw[h.levO ebn];exact hb,(up h1).step (upn he k4),up h2,h8,?_⟩;rw[h6,h7,aI]at h4;rw[aI];omega
  ·by_cases ebn:b=n
   ·subst ebn;rcases h3.inv with⟨e1,_⟩|⟨z,p1,q1,t1,u1,h5,⟨e,he,k1,k2,k3,k4⟩,h6,h7⟩
    ·exact absurd (by omega) XS
    ·obtain⟨m,rfl,hm⟩:=Fre.end0 ha h5;rw[ML]at he;have k1:b=e.to:=(by omega);subst k2 k3;have Q7:=I.esy.back he;rw[<- k1]at Q7;have VK:m≠b:=I.esy.off Q7;obtain⟨p2,q2,h8,h9⟩:=h.way I.esy hC ha XS VK h5;refine MF ⟨a,m,s,d,s'+e.s,d'+e.d,p2,q2,by rw[h.levO XS];exact ha,by rw[h.levO VK];exact hm,up h1,(up h2).step (upn Q7 hm),h8,?_⟩;rw[h6,h7,aI]at h4;rw[aI];omega
   ·obtain⟨p2,q2,h8,h9⟩:=h.way I.esy hC ha XS ebn h3;exact MF ⟨a,b,s,d,s',d',p2,q2,by rw[h.levO XS];exact ha,by rw[h.levO ebn];exact hb,up h1,up h2,h8,by omega⟩
end
theorem Cov.rnd (h0:0<=K){x y:Nat}{v:Int}:∀{M:List Nat}{st PQ:LSt}{nr Qx:Nat->Bool}{g:Bool},(∀n∈M,n∈L)->All L t K st nr->Rnd t M st nr PQ Qx g->Cov st x y v->Cov PQ x y v
 |[],_,_,_,_,_,_,_,⟨h1,_,_⟩,c=>by rw[h1];exact c
 |n::_,st,_,_,_,_,hM,A,⟨TH,_,g1,_,h1,h2,_⟩,c=>by
  have c1:Cov TH x y v:=by
   cases g1 with
   |false=>rw[h1.none];exact c
   |true=>exact c.turn A.lin (fun he=>A.bdd.pos he) h1
  exact Cov.rnd h0 (fun m hm=>hM m (MV _ hm)) (A.turn h0 (hM n (M4 ..)) h1) h2 c1
theorem Cov.rds {QO:LSt}(hK:0<=K)(h0:Btw L 0 K QO){x y:Nat}{v:Int}(c:Cov QO x y v):∀{k:Nat}{st:LSt},Rds most L QO k st->Cov st x y v
 |0,st,h=>by
  have e:st=QO:=h;rw[e];exact c
 |k+1,_,⟨_,_,h1,_,h2⟩=>(Cov.rds hK h0 c h1).rnd (fo hK k) (fun _ h=>h) ((Btw.rds hK h0 h1).all (fo hK k)) h2
def LvE (lv:LSt) (r:Nat) (a b t u:Int):Prop:=∃e∈lv.es a.toNat,b=(e.to:Int)/\t=e.s/\u=e.d/\lv.lev a.toNat+r<=lv.lev e.to
def GrE (es:Nat->List LE) (a b t u:Int):Prop:=∃e∈es a.toNat,b=(e.to:Int)/\t=e.s/\u=e.d
theorem LvE.gr {lv:LSt}{r:Nat}{t u:Int}(h:LvE lv r a b t u):GrE lv.es a b t u:=by
 obtain⟨e,h1,h2,h3,h4,_⟩:=h;exact⟨e,h1,h2,h3,h4⟩
theorem JG {QO st:LSt}(hK:0<=K)(h0:Btw L 0 K QO)(hz:∀n,QO.lev n=0)(h:Rds most L QO k st){x y:Nat}{s d:Int}(hw:Wg (GrE QO.es) (x:Int) (y:Int) s d) :
  ∃(m:Nat) (s1 d1 s2 d2:Int),Wg (LvE ⟨dr (k+1) st,st.es⟩ 0) (x:Int) (m:Int) s1 d1/\Wg (LvE ⟨dr (k+1) st,st.es⟩ 1) (y:Int) (m:Int) s2 d2/\val s1 d1+val s2 d2<=val s d:=by
 have hF:Wg (Fre QO) (x:Int) (y:Int) s d:=hw.mono (fun a b t u ⟨e,h1,h2,h3,h4⟩=>⟨e,h1,h2,h3,h4,hz _⟩);have c0:Cov QO x y (val s d):=MF ⟨x,y,0,0,0,0,s,d,hz _,hz _,Wg.nil,Wg.nil,hF,by unfold val;omega⟩;have c:=Cov.rds hK h0 c0 h;have I:=(Btw.rds hK h0 h).lrd;have up:∀{a b t u:Int},UpE st a b t u->LvE ⟨dr (k+1) st,st.es⟩ 1 a b t u:=fun {a b t u} ⟨e,h1,h2,h3,h4,h5,h6⟩=>by
  refine⟨e,h1,h2,h3,h4,?_⟩;show dr (k+1) st a.toNat+1<=dr (k+1) st e.to;have:=I.le a.toNat;unfold dr;rw[if_neg (show ¬st.lev a.toNat=0 by omega)];split<;>omega
 have up0:∀{a b t u:Int},LvE ⟨dr (k+1) st,st.es⟩ 1 a b t u->LvE ⟨dr (k+1) st,st.es⟩ 0 a b t u:=fun ⟨e,h1,h2,h3,h4,h5⟩=>⟨e,h1,h2,h3,h4,by omega⟩;rcases c with⟨m,p,q,p',q',h1,h2,h3⟩|⟨a,b,p,q,p',q',p1,q1,ha,hb,h1,h2,h3,h4⟩
 ·exact⟨m,p,q,p',q',h1.mono (fun _ _ _ _ e=>up0 (up e)),h2.mono (fun _ _ _ _ e=>up e),h3⟩
 ·have key:=h3 (fun z s d=>∃m:Nat,z=(m:Int)/\st.lev m=0/\Wg (LvE ⟨dr (k+1) st,st.es⟩ 0) (a:Int) z s d) ⟨a,rfl,ha,Wg.nil⟩ (fun z s d z' t u ⟨m,hm,m0,hx⟩ ⟨e,he,e1,e2,e3,e4⟩=>by
   subst hm;refine⟨e.to,e1,e4,hx.step ⟨e,he,e1,e2,e3,?_⟩⟩;show dr (k+1) st (m:Int).toNat+0<=dr (k+1) st e.to;rw[ML];unfold dr;rw[if_pos m0,if_pos e4];omega)
  obtain⟨_,_,_,hk⟩:=key;refine⟨b,p+p1,q+q1,p',q',(h1.mono (fun _ _ _ _ e=>up0 (up e))).trans hk,h2.mono (fun _ _ _ _ e=>up e),?_⟩;rw[aI];omega
theorem Prc.way {es:Nat->List LE}:∀{x:Nat}{l:List Nat}{s d:Int}{y:Nat},Prc es (x::l) s d->(x::l).getLast? = OM y->Wg (GrE es) (x:Int) (y:Int) s d
 |x,[],s,d,y,⟨h1,h2⟩,hl=>by
  have e:x=y:=by simpa using hl
  subst e;rw[h1,h2];exact Wg.nil
 |x,z::l,s,d,y,⟨e,he,ht,h⟩,hl=>by
  have ih:=Prc.way h (by simpa using hl);have e1:GrE es (x:Int) (z:Int) e.s e.d:=⟨e,by rw[ML];exact he,by rw[ht],rfl,rfl⟩;have:=(Wg.one e1).trans ih
  rwa [show e.s+(s-e.s)=s by omega,show e.d+(d-e.d)=d by omega]at this
end
section
structure SS where
 F:Int->Option (Int×Int)
 A:Int->Option Int
 H:Int->Option (Int×Int)
def Ie:SS:=⟨fun _=>Pk,fun _=>Pk,fun _=>Pk⟩
def eN (g:Int->Int×Int) (x:SS) (n s d:Int):SS:=if bF x.F n s d=Pm then ⟨aB x.F n s d,x.A,pushH x.H n (s+(g n).1) (d+(g n).2)⟩ else x
def lZ (A:Int->Option Int) (a n:Int):Int->Option Int:=fun i=>if i=a then OM n else A i
def eO (x:SS) (a n:Int):SS:=⟨x.F,lZ x.A a n,x.H⟩
def gC (x:SS) (n:Int):SS:=⟨x.F,x.A,jO x.H n⟩
def cJ (lv:LSt) (r:Nat) (g:Int->Int×Int) (n:Nat) (x:SS) (e:LE):SS :=
 if lv.lev n+r<=lv.lev e.to/\bF x.F (e.to:Int) (((x.F (n:Int)).getD (0,0)).1+e.s) (((x.F (n:Int)).getD (0,0)).2+e.d)=Pm then
  eO (eN g x (e.to:Int) (((x.F (n:Int)).getD (0,0)).1+e.s) (((x.F (n:Int)).getD (0,0)).2+e.d)) (e.to:Int) (n:Int) else x
def goS (lv:LSt) (r:Nat) (g:Int->Int×Int) (n:Nat) (x:SS):SS:=(lv.es n).foldl (cJ lv r g n) x
structure eT (L:List Nat) (lv:LSt):Prop where
 esy:Esy lv.es
 ends:∀{a e},e∈lv.es a->a∈L/\e.to∈L
 bd:∀{a e},e∈lv.es a->0<=e.s/\0<=e.d/\e.s<=512/\e.d<=512/\0<e.s+e.d
 small:∀n∈L,n<256
structure SI (L:List Nat) (lv:LSt) (r:Nat) (g:Int->Int×Int) (src:Int->Int->Int->Prop) (P:Int->Int->Prop) (x:SS):Prop where
 lab:∀{a s d},x.F a=OM (s,d)->0<=a/\a.toNat∈L/\0<=s/\0<=d/\val s d<=97750727262208+(cnt x.F 256:Int)*47729847296
 snd:∀{a s d},x.F a=OM (s,d)->∃o s0 d0 p q,src o s0 d0/\Wg (LvE lv r) o a p q/\s=s0+p/\d=d0+q
 ptr:∀{a n},x.A a=OM n->∃s d s' d' t u,x.F n=OM (s,d)/\x.F a=OM (s',d')/\LvE lv r n a t u/\val s d+val t u<=val s' d'
 top:∀{a s d},x.F a=OM (s,d)->x.A a=Pk->src a s d
 hom:∀{o s d},src o s d->∃s' d',x.F o=OM (s',d')/\val s' d'<=val s d
 key:∀{a s d},x.H a=OM (s,d)->∃s' d',x.F a=OM (s',d')/\s=s'+(g a).1/\d=d'+(g a).2
 don:∀{a b s d t u},x.F a=OM (s,d)->x.H a=Pk->P a b->LvE lv r a b t u->∃s' d',x.F b=OM (s',d')/\val s' d'<=val s d+val t u
theorem SI.big {lv:LSt}{r:Nat}{g:Int->Int×Int}{src:Int->Int->Int->Prop}{P:Int->Int->Prop}{x:SS}(h:SI L lv r g src P x){a s d:Int}(hF:x.F a=OM (s,d)):0<=s/\0<=d/\s<=2847923/\d<=2847923/\val s d<=109969568169984:=by
 obtain⟨_,_,h1,h2,h3⟩:=h.lab hF;have hc:=iA x.F 256;have h4:val s d<=109969568169984:=by omega
 unfold val at h4 ⊢;omega
theorem eJ {F:Int->Option (Int×Int)}{s d:Int}:bF F a s d=Pm↔∀s' d',F a=OM (s',d')->val s d<val s' d':=by
 unfold bF;cases h:F a with
 |none=>exact⟨fun _ _ _ e=>(by cases e),fun _=>rfl⟩
 |some c =>
  constructor
  ·intro h1 s' d' e;cases e;exact of_decide_eq_true h1
  ·intro h1;exact decide_eq_true (h1 c.1 c.2 rfl)
theorem kR {F:Int->Option (Int×Int)}{s d:Int}(h:bF F a s d=PB):∃s' d',F a=OM (s',d')/\val s' d'<=val s d:=by
 unfold bF at h;cases h1:F a with
 |none=>rw[h1]at h;cases h
 |some c =>
  rw[h1]at h;have:=of_decide_eq_false h;exact⟨c.1,c.2,rfl,by omega⟩
section
variable {L : List Nat} {lv : LSt} {r : Nat} {g : Int → Int × Int} {src asf : Int → Int → Int → Prop} {P : Int → Int → Prop} {D : Int → Prop} {x : SS}
theorem SI.pushH (h:SI L lv r g src P x){b s d:Int}(hb:bF x.F b s d=Pm):pushH x.H b (s+(g b).1) (d+(g b).2)=aB x.H b (s+(g b).1) (d+(g b).2):=by
 have hp:bF x.H b (s+(g b).1) (d+(g b).2)=true:=by
  rw[eJ];intro s' d' e;obtain⟨s2,d2,h1,h2,h3⟩:=h.key e;have:=eJ.1 hb _ _ h1;subst h2 h3;unfold val at *;omega
 unfold YtmaefimaeelkbaaGreatDoor.pushH;rw[if_pos hp]
theorem oh (F:Int->Option (Int×Int)){b s d:Int}(h0:0<=b)(h1:b<256):cnt F 256<=cnt (aB F b s d) 256/\(F b=Pk->cnt (aB F b s d) 256=cnt F 256+1):=by
 constructor
 ·cases e:F b with
  |none=>rw[fY F b s d 256 h0 h1 e];omega
  |some c=>rw[iB F b s d 256 (by rw[e];rfl)];exact aj
 ·exact fY F b s d 256 h0 h1
theorem SI.low (O:eT L lv){n:Nat}(h:SI L lv r g src (fun a b=>a≠(n:Int)\/D b) x){s d:Int}(hn:x.F (n:Int)=OM (s,d))(_hH:x.H (n:Int)=Pk){e:LE}(he:e∈lv.es n)(hl:lv.lev n+r<=lv.lev e.to)(hb:bF x.F (e.to:Int) (s+e.s) (d+e.d)=Pm) :
  SI L lv r g src (fun a b=>a≠(n:Int)\/D b\/b=(e.to:Int)) (eO (eN g x (e.to:Int) (s+e.s) (d+e.d)) (e.to:Int) (n:Int)) /\
  (eO (eN g x (e.to:Int) (s+e.s) (d+e.d)) (e.to:Int) (n:Int))=⟨aB x.F (e.to:Int) (s+e.s) (d+e.d),lZ x.A (e.to:Int) (n:Int),aB x.H (e.to:Int) (s+e.s+(g e.to).1) (d+e.d+(g e.to).2)⟩ /\
  fR 109969568169985 (aB x.F (e.to:Int) (s+e.s) (d+e.d)) 256<fR 109969568169985 x.F 256:=by
 have hx:(eO (eN g x (e.to:Int) (s+e.s) (d+e.d)) (e.to:Int) (n:Int))=⟨aB x.F (e.to:Int) (s+e.s) (d+e.d),lZ x.A (e.to:Int) (n:Int),aB x.H (e.to:Int) (s+e.s+(g e.to).1) (d+e.d+(g e.to).2)⟩:=by
  unfold eN;rw[if_pos hb,h.pushH hb];rfl
 rw[hx];have PO:=eJ.1 hb;have aar:¬(e.to:Int)=(n:Int):=fun q=>O.esy.off he (by omega);obtain⟨_,Qw,n1,n2,n3⟩:=h.lab hn;obtain⟨b1,b2,b3,b4,b5⟩:=O.bd he;have Ri:=(O.ends he).2;have U8:=O.small _ Ri;obtain⟨c1,c2⟩:=oh x.F (b:=(e.to:Int)) (s:=s+e.s) (d:=d+e.d) (by omega) (by omega);have ed:LvE lv r (n:Int) (e.to:Int) e.s e.d:=⟨e,by rw[ML];exact he,rfl,rfl,rfl,by rw[ML];exact hl⟩;have U3:val (s+e.s) (d+e.d)=val s d+val e.s e.d:=aI ..;have hve:0<=val e.s e.d/\val e.s e.d<=47729847296:=by unfold val;omega
 have QU:val (s+e.s) (d+e.d)<=97750727262208+(cnt (aB x.F (e.to:Int) (s+e.s) (d+e.d)) 256:Int)*47729847296:=by
  cases hq:x.F (e.to:Int) with
  |none =>
   rw[c2 hq];omega
  |some c =>
   have k1:=PO c.1 c.2 hq;obtain⟨_,_,_,_,k2⟩:=h.lab (s:=c.1) (d:=c.2) hq;omega
 have TJ:∀{a p q},x.F a=OM (p,q)->∃p' q',aB x.F (e.to:Int) (s+e.s) (d+e.d) a=OM (p',q')/\val p' q'<=val p q:=fun {a p q} ha=>by
  by_cases ea:a=(e.to:Int)
  ·subst ea;exact⟨_,_,bt _ _ _ _,by have:=PO _ _ ha;omega⟩
  ·exact⟨p,q,by rw[aS _ _ _ ea];exact ha,Nc _⟩
 refine⟨⟨fun {a p q} ha=>?_,fun {a p q} ha=>?_,fun {a m} ha=>?_,fun {a p q} ha hA=>?_,fun {o p q} ho=>?_,fun {a p q} ha=>?_,fun {a b p q t u} ha Vo hP hE=>?_⟩,rfl,?_⟩
 ·show 0<=a/\a.toNat∈L/\0<=p/\0<=q/\_;by_cases ea:a=(e.to:Int)
  ·subst ea
   replace ha:aB x.F (e.to:Int) (s+e.s) (d+e.d) (e.to:Int)=OM (p,q):=ha
   rw[bt]at ha;cases ha;exact⟨by omega,by rw[ML];exact Ri,by omega,by omega,QU⟩
  ·replace ha:aB x.F (e.to:Int) (s+e.s) (d+e.d) a=OM (p,q):=ha
   rw[aS _ _ _ ea]at ha;obtain⟨k1,k2,k3,k4,k5⟩:=h.lab ha;exact⟨k1,k2,k3,k4,by show _<=97750727262208+(cnt (aB x.F (e.to:Int) (s+e.s) (d+e.d)) 256:Int)*47729847296;omega⟩
 ·by_cases ea:a=(e.to:Int)
  ·subst ea
   replace ha:aB x.F (e.to:Int) (s+e.s) (d+e.d) (e.to:Int)=OM (p,q):=ha
   rw[bt]at ha;cases ha;obtain⟨o,s0,d0,p,q,k1,k2,k3,k4⟩:=h.snd hn;exact⟨o,s0,d0,p+e.s,q+e.d,k1,k2.step ed,by omega,by omega⟩
  ·replace ha:aB x.F (e.to:Int) (s+e.s) (d+e.d) a=OM (p,q):=ha
   rw[aS _ _ _ ea]at ha;exact h.snd ha
 ·show ∃p q p' q' t u,aB x.F (e.to:Int) (s+e.s) (d+e.d) m=OM (p,q)/\aB x.F (e.to:Int) (s+e.s) (d+e.d) a=OM (p',q')/\_;by_cases ea:a=(e.to:Int)
  ·subst ea;have hm:(n:Int)=m:=by
    have:lZ x.A (e.to:Int) (n:Int) (e.to:Int)=OM m:=ha;unfold lZ at this;rw[if_pos rfl]at this;exact Option.some.inj this
   subst hm;exact⟨s,d,s+e.s,d+e.d,e.s,e.d,by rw[aS _ _ _ (fun q=>aar q.symm)];exact hn,bt _ _ _ _,ed,by omega⟩
  ·have TI:x.A a=OM m:=by
    have:lZ x.A (e.to:Int) (n:Int) a=OM m:=ha;unfold lZ at this;rw[if_neg ea]at this;exact this
   obtain⟨p,q,p',q',t,u,k1,k2,k3,k4⟩:=h.ptr TI;obtain⟨p2,q2,k5,k6⟩:=TJ k1;exact⟨p2,q2,p',q',t,u,k5,by rw[aS _ _ _ ea];exact k2,k3,by omega⟩
 ·have Z4:lZ x.A (e.to:Int) (n:Int) a=none:=hA;unfold lZ at Z4;by_cases ea:a=(e.to:Int)
  ·rw[if_pos ea]at Z4;cases Z4
  ·rw[if_neg ea]at Z4
   replace ha:aB x.F (e.to:Int) (s+e.s) (d+e.d) a=OM (p,q):=ha
   rw[aS _ _ _ ea]at ha;exact h.top ha Z4
 ·obtain⟨p1,q1,k1,k2⟩:=h.hom ho;obtain⟨p2,q2,k3,k4⟩:=TJ k1;exact⟨p2,q2,k3,by omega⟩
 ·show ∃p' q',aB x.F (e.to:Int) (s+e.s) (d+e.d) a=OM (p',q')/\_;by_cases ea:a=(e.to:Int)
  ·subst ea
   replace ha:aB x.H (e.to:Int) (s+e.s+(g e.to).1) (d+e.d+(g e.to).2) (e.to:Int)=OM (p,q):=ha
   rw[bt]at ha;cases ha;exact⟨_,_,bt _ _ _ _,rfl,rfl⟩
  ·replace ha:aB x.H (e.to:Int) (s+e.s+(g e.to).1) (d+e.d+(g e.to).2) a=OM (p,q):=ha
   rw[aS _ _ _ ea]at ha;obtain⟨p',q',k1,k2,k3⟩:=h.key ha;exact⟨p',q',by rw[aS _ _ _ ea];exact k1,k2,k3⟩
 ·show ∃p' q',aB x.F (e.to:Int) (s+e.s) (d+e.d) b=OM (p',q')/\_;have ea:a≠(e.to:Int):=fun q=>by
   subst q;have:aB x.H (e.to:Int) (s+e.s+(g e.to).1) (d+e.d+(g e.to).2) (e.to:Int)=none:=Vo;rw[bt]at this;cases this
  replace ha:aB x.F (e.to:Int) (s+e.s) (d+e.d) a=OM (p,q):=ha
  replace Vo:aB x.H (e.to:Int) (s+e.s+(g e.to).1) (d+e.d+(g e.to).2) a=none:=Vo
  rw[aS _ _ _ ea]at ha Vo;by_cases hP':a≠(n:Int)\/D b
  ·obtain⟨p',q',k1,k2⟩:=h.don ha Vo hP' hE;obtain⟨p2,q2,k3,k4⟩:=TJ k1;exact⟨p2,q2,k3,by omega⟩
  ·have XS:a=(n:Int):=Classical.byContradiction fun q=>hP' (MG q);have ebe:b=(e.to:Int):=by
    rcases hP with q|q|q
    ·exact absurd XS q
    ·exact absurd (MF q) hP'
    ·exact q
   subst XS ebe;rw[hn]at ha;cases ha;obtain⟨e',g1,g2,g3,g4,_⟩:=hE;rw[ML]at g1;have:=(O.esy.ord n).one g1 he (by omega);subst this g3 g4;exact⟨_,_,bt _ _ _ _,by omega⟩
 ·refine xL (e.to:Int) _ _ 256 (by omega) (by omega) (by unfold val at *;omega) (fun _=>?_) PO;have:=iA (aB x.F (e.to:Int) (s+e.s) (d+e.d)) 256;have h0:0<=val (s+e.s) (d+e.d):=by unfold val at *;omega
  omega
theorem SI.step (O:eT L lv){n:Nat}(h:SI L lv r g src (fun a b=>a≠(n:Int)\/D b) x){s d:Int}(hn:x.F (n:Int)=OM (s,d))(hH:x.H (n:Int)=Pk){e:LE}(he:e∈lv.es n) :
  SI L lv r g src (fun a b=>a≠(n:Int)\/D b\/b=(e.to:Int)) (cJ lv r g n x e)/\(cJ lv r g n x e).F (n:Int)=OM (s,d)/\(cJ lv r g n x e).H (n:Int)=none:=by
 have aar:¬(n:Int)=(e.to:Int):=fun q=>O.esy.off he (by omega);unfold cJ;rw[hn];show SI L lv r g src _ (if lv.lev n+r<=lv.lev e.to/\bF x.F (e.to:Int) (s+e.s) (d+e.d)=Pm then _ else x)/\_;by_cases hc:lv.lev n+r<=lv.lev e.to/\bF x.F (e.to:Int) (s+e.s) (d+e.d)=Pm
 ·obtain⟨h1,h2,h3⟩:=h.low O hn hH he hc.1 hc.2;have e0:(if lv.lev n+r<=lv.lev e.to/\bF x.F (e.to:Int) (s+e.s) (d+e.d)=Pm then eO (eN g x (e.to:Int) (s+e.s) (d+e.d)) (e.to:Int) (n:Int) else x)=eO (eN g x (e.to:Int) (s+e.s) (d+e.d)) (e.to:Int) (n:Int):=if_pos hc;show SI L lv r g src _ (if lv.lev n+r<=lv.lev e.to/\bF x.F (e.to:Int) (s+e.s) (d+e.d)=Pm then eO (eN g x (e.to:Int) (s+e.s) (d+e.d)) (e.to:Int) (n:Int) else x)/\(if lv.lev n+r<=lv.lev e.to/\bF x.F (e.to:Int) (s+e.s) (d+e.d)=Pm then eO (eN g x (e.to:Int) (s+e.s) (d+e.d)) (e.to:Int) (n:Int) else x).F _=_/\(if lv.lev n+r<=lv.lev e.to/\bF x.F (e.to:Int) (s+e.s) (d+e.d)=Pm then eO (eN g x (e.to:Int) (s+e.s) (d+e.d)) (e.to:Int) (n:Int) else x).H _=_;rw[e0];refine⟨h1,?_,?_⟩
  ·rw[h2];show aB x.F (e.to:Int) (s+e.s) (d+e.d) (n:Int)=_;rw[aS _ _ _ aar];exact hn
  ·rw[h2];show aB x.H (e.to:Int) _ _ (n:Int)=_;rw[aS _ _ _ aar];exact hH
 ·have e0:(if lv.lev n+r<=lv.lev e.to/\bF x.F (e.to:Int) (s+e.s) (d+e.d)=Pm then eO (eN g x (e.to:Int) (s+e.s) (d+e.d)) (e.to:Int) (n:Int) else x)=x:=if_neg hc;show SI L lv r g src _ (if lv.lev n+r<=lv.lev e.to/\bF x.F (e.to:Int) (s+e.s) (d+e.d)=Pm then eO (eN g x (e.to:Int) (s+e.s) (d+e.d)) (e.to:Int) (n:Int) else x)/\(if lv.lev n+r<=lv.lev e.to/\bF x.F (e.to:Int) (s+e.s) (d+e.d)=Pm then eO (eN g x (e.to:Int) (s+e.s) (d+e.d)) (e.to:Int) (n:Int) else x).F _=_/\(if lv.lev n+r<=lv.lev e.to/\bF x.F (e.to:Int) (s+e.s) (d+e.d)=Pm then eO (eN g x (e.to:Int) (s+e.s) (d+e.d)) (e.to:Int) (n:Int) else x).H _=_;rw[e0];refine⟨⟨h.lab,h.snd,h.ptr,h.top,h.hom,h.key,fun {a b p q t u} ha Vo hP hE=>?_⟩,hn,hH⟩;by_cases hP':a≠(n:Int)\/D b
  ·exact h.don ha Vo hP' hE
  ·have XS:a=(n:Int):=Classical.byContradiction fun q=>hP' (MG q);have ebe:b=(e.to:Int):=by
    rcases hP with q|q|q
    ·exact absurd XS q
    ·exact absurd (MF q) hP'
    ·exact q
   subst XS ebe;rw[hn]at ha;cases ha;obtain⟨e',g1,g2,g3,g4,g5⟩:=hE;rw[ML]at g1 g5;have:=(O.esy.ord n).one g1 he (by omega);subst this g3 g4;cases hb:bF x.F (e'.to:Int) (s+e'.s) (d+e'.d) with
   |true=>exact absurd ⟨g5,hb⟩ hc
   |false =>
    obtain⟨s',d',k1,k2⟩:=kR hb;exact⟨s',d',k1,by rw[aI]at k2;exact k2⟩
theorem SI.mono (h:SI L lv r g src P x){P':Int->Int->Prop}(hp:∀{a b s d t u},x.F a=OM (s,d)->x.H a=Pk->P' a b->LvE lv r a b t u->P a b):SI L lv r g src P' x :=
 ⟨h.lab,h.snd,h.ptr,h.top,h.hom,h.key,fun ha hH hP hE=>h.don ha hH (hp ha hH hP hE) hE⟩
theorem SI.fold (O:eT L lv){n:Nat}{s d:Int}:∀{l:List LE}{D:Int->Prop}{x:SS},(∀e∈l,e∈lv.es n)->SI L lv r g src (fun a b=>a≠(n:Int)\/D b) x->x.F (n:Int)=OM (s,d)->x.H (n:Int)=Pk ->
  SI L lv r g src (fun a b=>a≠(n:Int)\/D b\/∃e∈l,b=(e.to:Int)) (l.foldl (cJ lv r g n) x)/\(l.foldl (cJ lv r g n) x).F (n:Int)=OM (s,d)/\(l.foldl (cJ lv r g n) x).H (n:Int)=Pk
 |[],D,x,_,h,hn,hH=>⟨h.mono (fun _ _ hP _=>by
   rcases hP with q|q|⟨e,he,_⟩
   ·exact MG q
   ·exact MF q
   ·cases he),hn,hH⟩
 |e::l,D,x,hl,h,hn,hH=>by
  obtain⟨h1,h2,h3⟩:=h.step O hn hH (hl e (M4 ..));obtain⟨k1,k2,k3⟩:=SI.fold O (fun e' UE=>hl e' (MV _ UE)) h1 h2 h3;refine⟨k1.mono (fun _ _ hP _=>?_),k2,k3⟩;rcases hP with q|q|⟨e',UE,q⟩
  ·exact MG q
  ·exact MF (MG (MG q))
  ·rcases Nh.1 UE with rfl|UE
   ·exact MF (MG (MF q))
   ·exact MF (MF ⟨e',UE,q⟩)
theorem SI.pop {P:Int->Int->Prop}(h:SI L lv r g src P x)(n:Int):SI L lv r g src (fun a b=>a≠n/\P a b) (gC x n):=by
 refine⟨h.lab,h.snd,h.ptr,h.top,h.hom,fun {a s d} ha=>?_,fun {a b s d t u} ha hH hP hE=>?_⟩
 ·have TI:jO x.H n a=OM (s,d):=ha;by_cases e:a=n
  ·rw[e,fZ]at TI;cases TI
  ·rw[eR _ e]at TI;exact h.key TI
 ·have hH':jO x.H n a=none:=hH;rw[eR _ hP.1]at hH';exact h.don ha hH' hP.2 hE
theorem SI.go (O:eT L lv)(h:SI L lv r g src (fun _ _=>True) x){n:Nat}{s d:Int}(hn:x.F (n:Int)=OM (s,d)):SI L lv r g src (fun _ _=>True) (goS lv r g n (gC x (n:Int)))/\(goS lv r g n (gC x (n:Int))).F (n:Int)=OM (s,d)/\(goS lv r g n (gC x (n:Int))).H (n:Int)=none:=by
 have h1:=(h.pop (n:Int)).mono (P':=fun a b=>a≠(n:Int)\/False) (fun _ _ hP _=>⟨by rcases hP with q|q;exact q;exact q.elim,trivial⟩);obtain⟨k1,k2,k3⟩:=SI.fold O (l:=lv.es n) (fun _ h=>h) h1 hn (fZ _ _);refine⟨k1.mono (fun {a b s d t u} ha hH _ hE=>?_),k2,k3⟩;by_cases e:a=(n:Int)
 ·subst e;obtain⟨e',g1,g2,_⟩:=hE;rw[ML]at g1;exact MF (MF ⟨e',g1,g2⟩)
 ·exact MG e
end
end
section
def yq (H:Int->Option (Int×Int)) (n s d:Int):Prop:=H n=OM (s,d)/\∀b t u,H b=OM (t,u)->¬bef ⟨b,t,u⟩ ⟨n,s,d⟩
theorem yq.least {H:Int->Option (Int×Int)}{n s d t u:Int}(h:yq H n s d)(hb:H b=OM (t,u)):val s d<=val t u:=by
 have h1:=h.2 b t u hb;unfold bef br.v at h1;simp only at h1;omega
def sG (lv:LSt) (r:Nat) (g:Int->Int×Int):Nat->SS->SS->Prop
 |0,x,x'=>(∀a,x.H a=Pk)/\x'=x
 |k+1,x,x'=>∃(n:Nat) (s d:Int),yq x.H (n:Int) s d/\sG lv r g k (goS lv r g n (gC x (n:Int))) x'
structure Mt where
 n:Int
 s:Int
 d:Int
 f:Bool
def mtS (E:Int->Option (Int×Int)) (x:SS) (n:Nat) (m:Mt):Mt :=
 match E (n:Int) with
 |none=>m
 |some e=>if m.f=PB\/val (((x.F (n:Int)).getD (0,0)).1+e.1) (((x.F (n:Int)).getD (0,0)).2+e.2)<val m.s m.d then ⟨n,((x.F (n:Int)).getD (0,0)).1+e.1,((x.F (n:Int)).getD (0,0)).2+e.2,Pm⟩ else m
def kT (lv:LSt) (g:Int->Int×Int) (E:Int->Option (Int×Int)):Nat->SS->Mt->SS->Mt->Prop
 |0,x,m,x',m'=>m'=m/\(((∀a,x.H a=Pk)/\x'=x)\/∃(n:Nat) (s d:Int),yq x.H (n:Int) s d/\m.f=Pm/\¬val s d<val m.s m.d/\x'=gC x (n:Int))
 |k+1,x,m,x',m'=>∃(n:Nat) (s d:Int),yq x.H (n:Int) s d/\(m.f=PB\/val s d<val m.s m.d)/\kT lv g E k (goS lv 0 g n (gC x (n:Int))) (mtS E x n m) x' m'
section
variable {L : List Nat} {lv : LSt} {r : Nat} {g : Int → Int × Int} {src To : Int → Int → Int → Prop} {x x' : SS}
theorem SI.ends (O:eT L lv):∀{k:Nat}{x:SS},SI L lv r g src (fun _ _=>True) x->sG lv r g k x x'->SI L lv r g src (fun _ _=>True) x'/\∀a,x'.H a=Pk
 |0,x,h,⟨h1,h2⟩=>by subst h2;exact⟨h,h1⟩
 |_+1,x,h,⟨n,s,d,h1,h2⟩=>by
  obtain⟨s',d',k1,_⟩:=h.key h1.1;exact SI.ends O (h.go O k1).1 h2
theorem AD (H:Int->Option (Int×Int))(a s d:Int):pushH H a s d a≠none:=by
 unfold pushH;cases h:bF H a s d with
 |true=>rw[if_pos rfl,bt];exact fun e=>(by cases e)
 |false =>
  obtain⟨s',d',h1,_⟩:=kR h;rw[if_neg (by decide),h1];exact fun e=>(by cases e)
theorem Eu (H:Int->Option (Int×Int)){a b:Int}(s d:Int)(h:b≠a):pushH H a s d b=H b:=by
 unfold pushH;split
 ·exact aS _ _ _ h
 ·rfl
theorem AE {n:Nat}{e:LE}(h:(cJ lv r g n x e).H a=Pk):x.H a=Pk/\(cJ lv r g n x e).F a=x.F a:=by
 unfold cJ at h ⊢;split
 ·rename_i hc
  rw[if_pos hc]at h;unfold eN at h ⊢;rw[if_pos hc.2]at h ⊢
  replace h:pushH x.H (e.to:Int) _ _ a=none:=h
  by_cases ea:a=(e.to:Int)
  ·subst ea;exact absurd h (AD _ _ _ _)
  ·rw[Eu _ _ _ ea]at h;refine⟨h,?_⟩;show aB x.F (e.to:Int) _ _ a=_;exact aS _ _ _ ea
 ·rename_i hc
  rw[if_neg hc]at h;exact⟨h,rfl⟩
theorem rT {n:Nat}:∀{l:List LE}{x:SS},(l.foldl (cJ lv r g n) x).H a=Pk->x.H a=Pk/\(l.foldl (cJ lv r g n) x).F a=x.F a
 |[],_,h=>⟨h,rfl⟩
 |e::l,x,h=>by
  obtain⟨h1,h2⟩:=rT (l:=l) (x:=cJ lv r g n x e) h;obtain⟨h3,h4⟩:=AE h1;exact⟨h3,h2.trans h4⟩
structure MI (L:List Nat) (lv:LSt) (g:Int->Int×Int) (src:Int->Int->Int->Prop) (E:Int->Option (Int×Int)) (x:SS) (m:Mt):Prop where
 si:SI L lv 0 g src (fun _ _=>True) x
 fnd:m.f=Pm->∃fs fd es ed VX VY,E m.n=OM (es,ed)/\x.F m.n=OM (VX,VY)/\val VX VY<=val fs fd/\m.s=fs+es/\m.d=fd+ed/\0<=fs/\0<=fd/\fs<=2847923/\fd<=2847923
 see:∀{a s d t u},x.F a=OM (s,d)->x.H a=Pk->E a=OM (t,u)->m.f=Pm/\val m.s m.d<=val s d+val t u
theorem SI.fgo (O:eT L lv)(h:SI L lv r g src (fun _ _=>True) x){n:Nat}{s d:Int}(hn:x.F (n:Int)=OM (s,d)):∀{a s d},x.F a=OM (s,d)->∃s' d',(goS lv r g n (gC x (n:Int))).F a=OM (s',d')/\val s' d'<=val s d:=by
 have key:∀{l:List LE}{D:Int->Prop}{x:SS},(∀e∈l,e∈lv.es n)->SI L lv r g src (fun a b=>a≠(n:Int)\/D b) x->x.F (n:Int)=OM (s,d)->x.H (n:Int)=Pk->∀{a s d},x.F a=OM (s,d)->∃s' d',(l.foldl (cJ lv r g n) x).F a=OM (s',d')/\val s' d'<=val s d:=by
  intro l
  induction l with
  |nil=>exact fun {_ _} _ _ _ _ {_ s d} ha=>⟨s,d,ha,Nc _⟩
  |cons e l ih =>
   intro D x hl h hn hH a s1 d1 ha;have he:=hl e (M4 ..);obtain⟨h1,h2,h3⟩:=h.step O hn hH he;have Qq:∃s' d',(cJ lv r g n x e).F a=OM (s',d')/\val s' d'<=val s1 d1:=by
    unfold cJ;split
    ·rename_i hc
     unfold eN;rw[if_pos hc.2];show ∃s' d',aB x.F (e.to:Int) _ _ a=OM (s',d')/\_;by_cases ea:a=(e.to:Int)
     ·subst ea;exact⟨_,_,bt _ _ _ _,by have:=eJ.1 hc.2 _ _ ha;omega⟩
     ·exact⟨s1,d1,by rw[aS _ _ _ ea];exact ha,Nc _⟩
    ·exact⟨s1,d1,ha,Nc _⟩
   obtain⟨s2,d2,k1,k2⟩:=Qq;obtain⟨s3,d3,k3,k4⟩:=ih (fun e' UE=>hl e' (MV _ UE)) h1 h2 h3 k1;exact⟨s3,d3,k3,by omega⟩
 have h1:=(h.pop (n:Int)).mono (P':=fun a b=>a≠(n:Int)\/False) (fun _ _ hP _=>⟨by rcases hP with q|q;exact q;exact q.elim,trivial⟩);exact fun {_ _ _} ha=>key (fun _ h=>h) h1 hn (fZ _ _) ha
variable {E : Int → Option (Int × Int)} {m m' : Mt}
theorem Li (n:Nat)(h:m.f=Pm):(mtS E x n m).f=Pm/\val (mtS E x n m).s (mtS E x n m).d<=val m.s m.d:=by
 unfold mtS;split
 ·exact⟨h,Nc _⟩
 ·split
  ·rename_i hc
   refine⟨rfl,?_⟩;rcases hc with hc|hc
   ·rw[h]at hc;cases hc
   ·exact Int.le_of_lt hc
  ·exact⟨h,Nc _⟩
theorem MI.go (O:eT L lv)(h:MI L lv g src E x m){n:Nat}{s d:Int}(hn:x.F (n:Int)=OM (s,d)):MI L lv g src E (goS lv 0 g n (gC x (n:Int))) (mtS E x n m):=by
 obtain⟨k1,k2,k3⟩:=h.si.go O hn;have UI:=fun {a s d}(ha:x.F a=OM (s,d))=>h.si.fgo O hn ha;have Tn:(x.F (n:Int)).getD (0,0)=(s,d):=by rw[hn];rfl
 have hb:=h.si.big hn;refine⟨k1,fun hf=>?_,fun {a p q t u} ha hH hE=>?_⟩
 ·have elder:m.f=Pm->(∃fs fd es ed VX VY,E m.n=OM (es,ed)/\(goS lv 0 g n (gC x (n:Int))).F m.n=OM (VX,VY)/\val VX VY<=val fs fd/\m.s=fs+es/\m.d=fd+ed/\0<=fs/\0<=fd/\fs<=2847923/\fd<=2847923):=fun hf=>by
   obtain⟨fs,fd,es,ed,VX,VY,q1,q2,q3,q4⟩:=h.fnd hf;obtain⟨a1,a2,a3,a4⟩:=UI q2;exact⟨fs,fd,es,ed,a1,a2,q1,a3,by omega,q4⟩
  unfold mtS at hf ⊢;cases hE:E (n:Int) with
  |none =>
   rw[hE]at hf;exact elder hf
  |some e =>
   rw[hE]at hf;show ∃fs fd es ed VX VY,E (if m.f=PB\/val (((x.F (n:Int)).getD (0,0)).1+e.1) (((x.F (n:Int)).getD (0,0)).2+e.2)<val m.s m.d then (⟨n,((x.F (n:Int)).getD (0,0)).1+e.1,((x.F (n:Int)).getD (0,0)).2+e.2,Pm⟩:Mt) else m).n=OM (es,ed)/\(goS lv 0 g n (gC x (n:Int))).F (if m.f=PB\/val (((x.F (n:Int)).getD (0,0)).1+e.1) (((x.F (n:Int)).getD (0,0)).2+e.2)<val m.s m.d then (⟨n,((x.F (n:Int)).getD (0,0)).1+e.1,((x.F (n:Int)).getD (0,0)).2+e.2,Pm⟩:Mt) else m).n=OM (VX,VY)/\val VX VY<=val fs fd/\(if m.f=PB\/val (((x.F (n:Int)).getD (0,0)).1+e.1) (((x.F (n:Int)).getD (0,0)).2+e.2)<val m.s m.d then (⟨n,((x.F (n:Int)).getD (0,0)).1+e.1,((x.F (n:Int)).getD (0,0)).2+e.2,Pm⟩:Mt) else m).s=fs+es/\(if m.f=PB\/val (((x.F (n:Int)).getD (0,0)).1+e.1) (((x.F (n:Int)).getD (0,0)).2+e.2)<val m.s m.d then (⟨n,((x.F (n:Int)).getD (0,0)).1+e.1,((x.F (n:Int)).getD (0,0)).2+e.2,Pm⟩:Mt) else m).d=fd+ed/\_;split
   ·rw[Tn];exact⟨s,d,e.1,e.2,s,d,hE,k2,Nc _,rfl,rfl,hb.1,hb.2.1,hb.2.2.1,hb.2.2.2.1⟩
   ·rename_i hc
    refine elder ?_;have VC:(if m.f=PB\/val (((x.F (n:Int)).getD (0,0)).1+e.1) (((x.F (n:Int)).getD (0,0)).2+e.2)<val m.s m.d then (⟨n,((x.F (n:Int)).getD (0,0)).1+e.1,((x.F (n:Int)).getD (0,0)).2+e.2,Pm⟩:Mt) else m).f=true:=hf;rw[if_neg hc]at VC;exact VC
 ·by_cases ea:a=(n:Int)
  ·subst ea;rw[k2]at ha;cases ha;unfold mtS;rw[hE];rw[Tn];by_cases hc:m.f=PB\/val (s+t) (d+u)<val m.s m.d
   ·have e0:(if m.f=PB\/val (s+t) (d+u)<val m.s m.d then (⟨n,s+t,d+u,Pm⟩:Mt) else m)=⟨n,s+t,d+u,Pm⟩:=if_pos hc;show (if m.f=PB\/val (s+t) (d+u)<val m.s m.d then (⟨n,s+t,d+u,Pm⟩:Mt) else m).f=Pm/\val (if m.f=PB\/val (s+t) (d+u)<val m.s m.d then (⟨n,s+t,d+u,Pm⟩:Mt) else m).s (if m.f=PB\/val (s+t) (d+u)<val m.s m.d then (⟨n,s+t,d+u,Pm⟩:Mt) else m).d<=_;rw[e0];exact⟨rfl,by show val (s+t) (d+u)<=_;rw[aI];omega⟩
   ·have e0:(if m.f=PB\/val (s+t) (d+u)<val m.s m.d then (⟨n,s+t,d+u,Pm⟩:Mt) else m)=m:=if_neg hc;show (if m.f=PB\/val (s+t) (d+u)<val m.s m.d then (⟨n,s+t,d+u,Pm⟩:Mt) else m).f=Pm/\val (if m.f=PB\/val (s+t) (d+u)<val m.s m.d then (⟨n,s+t,d+u,Pm⟩:Mt) else m).s (if m.f=PB\/val (s+t) (d+u)<val m.s m.d then (⟨n,s+t,d+u,Pm⟩:Mt) else m).d<=_;rw[e0];refine⟨?_,?_⟩
    ·cases hf:m.f with
     |true=>rfl
     |false=>exact absurd (MG hf) hc
    ·have:¬val (s+t) (d+u)<val m.s m.d:=fun q=>hc (MF q);rw[aI]at this;omega
  ·obtain⟨f1,f2⟩:=rT (l:=lv.es n) (x:=gC x (n:Int)) hH;have hH':x.H a=none:=by
    have:jO x.H (n:Int) a=none:=f1
    rwa [eR _ ea]at this
   have TI:x.F a=OM (p,q):=f2.symm.trans ha;obtain⟨g1,g2⟩:=h.see TI hH' hE;obtain⟨g3,g4⟩:=Li (E:=E) (x:=x) n g1;exact⟨g3,by omega⟩
structure Lj (L:List Nat) (lv:LSt) (g:Int->Int×Int) (src:Int->Int->Int->Prop) (E:Int->Option (Int×Int)) (x:SS) (m:Mt):Prop where
 mi:MI L lv g src E x m
 far:∀{a s d},x.H a=OM (s,d)->m.f=Pm/\val m.s m.d<=val s d
theorem MI.ends (O:eT L lv):∀{k:Nat}{x:SS}{m:Mt},MI L lv g src E x m->kT lv g E k x m x' m'->∃y,Lj L lv g src E y m'/\x'.F=y.F/\x'.A=y.A
 |0,x,m,h,⟨h1,h2⟩=>by
  subst h1;rcases h2 with⟨h2,rfl⟩|⟨n,s,d,h2,h3,h4,rfl⟩
  ·exact⟨x',⟨h,fun ha=>by rw[h2]at ha;cases ha⟩,rfl,rfl⟩
  ·exact⟨x,⟨h,fun ha=>⟨h3,by have:=h2.least ha;omega⟩⟩,rfl,rfl⟩
 |_+1,x,m,h,⟨n,s,d,h1,_,h2⟩=>by
  obtain⟨s',d',k1,_⟩:=h.si.key h1.1;exact MI.ends O (h.go O k1) h2
def Adm (L:List Nat) (es:Nat->List LE) (g:Int->Int×Int) (To:Int->Int->Int->Prop):Prop:=∀{b i s d p q:Int},0<=b->b.toNat∈L->To i s d->Wg (GrE es) b i p q->val (g b).1 (g b).2<=val p q+val s d
theorem GrE.back {es:Nat->List LE}(hE:Esy es){a b t u:Int}(ha:0<=a)(h:GrE es a b t u):GrE es b a t u:=by
 obtain⟨e,h1,h2,h3,h4⟩:=h;refine⟨⟨a.toNat,e.s,e.d,e.mid⟩,?_,by show a=((a.toNat:Nat):Int);omega,h3,h4⟩;rw[h2,ML];exact hE.back h1
theorem GrE.wback {es:Nat->List LE}(hE:Esy es){a b s d:Int}(ha:0<=a)(h:Wg (GrE es) a b s d):Wg (GrE es) b a s d:=by
 have key:=h (fun x p q=>0<=x/\Wg (GrE es) x a p q) ⟨ha,Wg.nil⟩ (fun x p q y t u ⟨h0,hx⟩ e=>by
  obtain⟨e',_,k2,_⟩:=id e;refine⟨by omega,?_⟩;have:=(Wg.one (GrE.back hE h0 e)).trans hx
  rwa [NI t,NI u]at this)
 exact key.2
theorem Lj.best (O:eT L lv){y:SS}(h:Lj L lv g src E x m)(hy:SI L lv 1 (fun _=>(0,0)) To (fun _ _=>True) y)(hyH:∀a,y.H a=Pk)(hEy:E=y.F)(hA:Adm L lv.es g To)
  {o s0 d0 i s1 d1:Int}{k:Nat}{p q p' q':Int}(ho:src o s0 d0) (hi:To i s1 d1) (h1:Wg (LvE lv 0) o (k:Int) p q) (h2:Wg (LvE lv 1) i (k:Int) p' q'):m.f=Pm/\val m.s m.d<=val s0 d0+val p q+val p' q'+val s1 d1:=by
 -- what the end costs
 have akC:∃s d,y.F (k:Int)=OM (s,d)/\val s d<=val s1 d1+val p' q':=by
  obtain⟨s,d,e1,e2⟩:=hy.hom hi;refine h2 (fun a p' q'=>∃s d,y.F a=OM (s,d)/\val s d<=val s1 d1+val p' q') ⟨s,d,e1,by unfold val at *;omega⟩ (fun a p1 q1 b t u ⟨s,d,e1,e2⟩ ed=>?_);obtain⟨s',d',e3,e4⟩:=hy.don e1 (hyH a) trivial ed;exact⟨s',d',e3,by rw[aI];omega⟩
 obtain⟨s,d,e1,e2⟩:=akC
 -- what is left from a corner on the way
 have gr:∀{r a b s d},Wg (LvE lv r) a b s d->Wg (GrE lv.es) a b s d:=fun hw=>hw.mono (fun _ _ _ _ e=>e.gr);have Ws:0<=i:=by
  obtain⟨_,_,e,_⟩:=hy.hom hi;exact(hy.lab e).1
 have hdn:=GrE.wback O.esy Ws (gr h2);have akD:(∃s d,x.F (k:Int)=OM (s,d)/\val s d<=val s0 d0+val p q)\/(m.f=Pm/\val m.s m.d<=val s0 d0+val p q+val p' q'+val s1 d1):=by
  obtain⟨sa,da,f1,f2⟩:=h.mi.si.hom ho;have key:=h1 (fun a p1 q1=>(∃s d,x.F a=OM (s,d)/\val s d<=val s0 d0+val p1 q1)\/(∃b p2 q2,0<=b/\b.toNat∈L/\Wg (LvE lv 0) b a p2 q2/\∃sk dk,x.H b=OM (sk,dk)/\val sk dk-val (g b).1 (g b).2+val p2 q2<=val s0 d0+val p1 q1)) (MG ⟨sa,da,f1,by unfold val at *;omega⟩) (fun a p1 q1 b t u hx ed=>by
   rcases hx with⟨s,d,k1,k2⟩|⟨b',p2,q2,k0,k1,k2,sk,dk,k3,k4⟩
   ·cases hH:x.H a with
    |none =>
     obtain⟨s',d',k3,k4⟩:=h.mi.si.don k1 hH trivial ed;exact MG ⟨s',d',k3,by rw[aI];omega⟩
    |some c =>
     obtain⟨s',d',k3,k4,k5⟩:=h.mi.si.key (s:=c.1) (d:=c.2) hH;rw[k1]at k3;cases k3;obtain⟨l1,l2,_⟩:=h.mi.si.lab k1;refine MF ⟨a,t,u,l1,l2,Wg.one ed,c.1,c.2,hH,?_⟩;rw[k4,k5,aI,aI];omega
   ·exact MF ⟨b',p2+t,q2+u,k0,k1,k2.step ed,sk,dk,k3,by rw[aI,aI];omega⟩)
  rcases key with key|⟨b,p2,q2,k0,k1,k2,sk,dk,k3,k4⟩
  ·exact MG key
  ·right;obtain⟨g1,g2⟩:=h.far k3;have g3:=hA k0 k1 hi ((gr k2).trans hdn);rw[aI]at g3;exact⟨g1,by omega⟩
 rcases akD with⟨s2,d2,k1,k2⟩|k
 ·cases hH:x.H (k:Int) with
  |none =>
   obtain⟨g1,g2⟩:=h.mi.see k1 hH (by rw[hEy];exact e1);exact⟨g1,by omega⟩
  |some c =>
   obtain⟨g1,g2⟩:=h.far (s:=c.1) (d:=c.2) hH;obtain⟨s',d',k3,k4,k5⟩:=h.mi.si.key (s:=c.1) (d:=c.2) hH;rw[k1]at k3;cases k3;obtain⟨l1,l2,_⟩:=h.mi.si.lab k1;have g3:=hA l1 l2 hi hdn;rw[k4,k5,aI]at g2;exact⟨g1,by omega⟩
 ·exact k
end
end
section
def Bk (A:Int->Option Int):List Nat->Prop
 |[]=>False
 |[n]=>A (n:Int)=Pk
 |n::m::l=>A (n:Int)=OM (m:Int)/\Bk A (m::l)
section
variable {L : List Nat} {lv : LSt} {r : Nat} {g : Int → Int × Int} {src To : Int → Int → Int → Prop} {P : Int → Int → Prop} {x : SS}
theorem SI.back (O:eT L lv)(h:SI L lv r g src P x):∀{l:List Nat}{n:Nat}{s d:Int},Bk x.A (n::l)->x.F (n:Int)=OM (s,d)->∃(o:Nat) (s0 d0 p q:Int),(n::l).getLast? = OM o/\src (o:Int) s0 d0/\Prc lv.es (n::l) p q/\val s0 d0+val p q<=val s d
 |[],n,s,d,hb,hF=>⟨n,s,d,0,0,rfl,h.top hF hb,⟨rfl,rfl⟩,by unfold val;omega⟩
 |m::l,n,s,d,hb,hF=>by
  obtain⟨s',d',s2,d2,t,u,k1,k2,⟨e,k3,k4,k5,k6,_⟩,k7⟩:=h.ptr hb.1;rw[hF]at k2;cases k2;obtain⟨o,s0,d0,p,q,j1,j2,j3,j4⟩:=SI.back O h hb.2 k1;rw[ML]at k3;have Q7:=O.esy.back k3;have e1:e.to=n:=by omega
  rw[e1]at Q7;refine⟨o,s0,d0,p+e.s,q+e.d,by simpa using j1,j2,⟨_,Q7,rfl,?_⟩,?_⟩
  ·show Prc lv.es (m::l) (p+e.s-e.s) (q+e.d-e.d);rw[show p+e.s-e.s=p by omega,show q+e.d-e.d=q by omega];exact j3
  ·rw[aI,<- k5,<- k6];omega
theorem Prc.rev (hE:Esy lv.es):∀{l:List Nat}{n:Nat}{s d:Int},Prc lv.es (n::l) s d->Prc lv.es (n::l).reverse s d
 |[],_,_,_,h=>h
 |m::l,n,s,d,⟨e,he,ht,h⟩=>by
  have ih:=Prc.rev hE h;have hb:=hE.back he;rw[ht]at hb;have h2:Prc lv.es (m::[n]) e.s e.d:=⟨_,hb,rfl,by show e.s-e.s=0;omega,by show e.d-e.d=0;omega⟩;obtain⟨z,zs,hz⟩:∃z zs,(m::l).reverse=z::zs:=by
   cases hq:(m::l).reverse with
   |nil=>simp at hq
   |cons z zs=>exact⟨z,zs,rfl⟩
  have hl:(z::zs).getLast? = OM m:=by rw[<- hz];simp
  rw[hz]at ih;have:=Prc.join h2 ih hl;rw[List.reverse_cons,hz,show s=s-e.s+e.s by omega,show d=d-e.d+e.d by omega];exact this
end
def pc (es:Nat->List LE):List Nat->List Nat->Prop
 |[],_=>False
 |[a],w=>w=[a]
 |a::b::l,w=>∃p t,Unp es 6 a b p/\pc es (b::l) (b::t)/\w=p++t
theorem pc.prc {es Zh:Nat->List LE}(hE:Esy es)(hU:∀{a e},e∈es a->∃way l,Unp es 6 a e.to way/\way=a::l/\l≠[]/\way.getLast? = OM e.to/\Prc Zh way e.s e.d):∀{l:List Nat}{a:Nat}{w:List Nat}{s d:Int},Prc es (a::l) s d->pc es (a::l) w->Prc Zh w s d/\(∃t,w=a::t)/\w.getLast? = (a::l).getLast?
 |[],a,w,s,d,⟨h1,h2⟩,hu=>by
  have e:w=[a]:=hu;rw[e];exact⟨⟨h1,h2⟩,⟨[],rfl⟩,rfl⟩
 |b::l,a,w,s,d,⟨e,he,ht,h⟩,⟨p,t,h1,h2,h3⟩=>by
  obtain⟨way,l',u1,u2,u3,u4,u5⟩:=hU he;rw[ht]at u1 u4;have ep:=Unp.one hE h1 u1;subst ep;obtain⟨k1,k2,k3⟩:=pc.prc hE hU h h2;subst u2;have hj:=Prc.join k1 u5 u4;rw[show e.s+(s-e.s)=s by omega,show e.d+(d-e.d)=d by omega]at hj;rw[h3];refine⟨hj,⟨l'++t,rfl⟩,?_⟩;have e1:(a::b::l).getLast? = (b::l).getLast? := by simp
  rw[e1,<- k3];cases t with
  |nil=>rw[Nt,u4];rfl
  |cons z t =>
   have e2:(b::z::t).getLast? = (z::t).getLast? :=(by simp);rw[List.getLast?_append,e2];cases hq:(z::t).getLast? with
   |none=>simp at hq
   |some y=>rfl
structure IE where
 to:Int
 s:Int
 d:Int
 mid:Int
def okE (L:List Nat) (e:IE):Prop:=(0<=e.to/\e.to.toNat∈L)/\0<=e.s/\e.s<=1048576/\0<=e.d/\e.d<=1048576
def JH (L:List Nat) (e:IE):Bool:=decide ((0<=e.to/\e.to.toNat∈L)/\0<=e.s/\e.s<=1048576/\0<=e.d/\e.d<=1048576)
theorem oj {e:IE}:JH L e=Pm↔okE L e:=decide_eq_true_iff
def eg (L:List Nat) (l:List IE) (o s d:Int):Prop:=∃e∈l,okE L e/\o=e.to/\s=e.s/\d=e.d
def kU (L:List Nat) (g:Int->Int×Int) (x:SS) (e:IE):SS:=if JH L e=Pm then eN g x e.to e.s e.d else x
def dR (L:List Nat) (g:Int->Int×Int) (l:List IE):SS:=l.foldl (kU L g) Ie
structure FI (L:List Nat) (lv:LSt) (r:Nat) (g:Int->Int×Int) (l:List IE) (x:SS):Prop where
 si:SI L lv r g (eg L l) (fun _ _=>False) x
 no:∀a,x.A a=Pk
 all:∀{a c},x.F a=OM c->x.H a≠Pk
section
variable {L : List Nat} {lv : LSt} {r : Nat} {g : Int → Int × Int} {l : List IE} {x : SS}
theorem FI.start (L:List Nat)(lv:LSt)(r:Nat)(g:Int->Int×Int):FI L lv r g [] Ie :=
 ⟨⟨fun h=>(by cases h),fun h=>(by cases h),fun h=>(by cases h),fun h=>(by cases h),fun ⟨e,he,_⟩=>(by cases he),fun h=>(by cases h),fun h=>(by cases h)⟩,fun _=>rfl,fun h=>(by cases h)⟩
theorem FI.step (O:eT L lv)(h:FI L lv r g l x)(e:IE):FI L lv r g (l++[e]) (kU L g x e):=by
 have more:∀{o s d},eg L l o s d->eg L (l++[e]) o s d:=fun ⟨e',h1,h2⟩=>⟨e',MT.2 (MG h1),h2⟩;have less:∀{o s d},eg L (l++[e]) o s d->eg L l o s d\/(okE L e/\o=e.to/\s=e.s/\d=e.d):=fun ⟨e',h1,h2⟩=>by
  rcases MT.1 h1 with h1|h1
  ·exact MG ⟨e',h1,h2⟩
  ·rw[MU.1 h1]at h2;exact MF h2
 unfold kU;by_cases XD:JH L e=Pm
 ·rw[if_pos XD];have ok:=oj.1 XD;obtain⟨⟨o1,o2⟩,o3,o4,o5,o6⟩:=id ok;have U8:=O.small _ o2;unfold eN;cases hb:bF x.F e.to e.s e.d with
  |false =>
   rw[if_neg (by decide)];refine⟨⟨h.si.lab,fun ha=>?_,fun ha=>h.si.ptr ha,fun ha hA=>more (h.si.top ha hA),fun {o s d} ho=>?_,h.si.key,fun _ _ hP _=>hP.elim⟩,h.no,h.all⟩
   ·obtain⟨o,s0,d0,p,q,k1,k2⟩:=h.si.snd ha;exact⟨o,s0,d0,p,q,more k1,k2⟩
   ·rcases less ho with ho|⟨_,rfl,rfl,rfl⟩
    ·exact h.si.hom ho
    ·exact kR hb
  |true =>
   rw[if_pos rfl,h.si.pushH hb];have PO:=eJ.1 hb;obtain⟨c1,c2⟩:=oh x.F (b:=e.to) (s:=e.s) (d:=e.d) o1 (by omega);have hme:eg L (l++[e]) e.to e.s e.d:=⟨e,MT.2 (MF (MU.2 rfl)),ok,rfl,rfl,rfl⟩;have TJ:∀{a p q},x.F a=OM (p,q)->∃p' q',aB x.F e.to e.s e.d a=OM (p',q')/\val p' q'<=val p q:=fun {a p q} ha=>by
    by_cases ea:a=e.to
    ·subst ea;exact⟨_,_,bt _ _ _ _,by have:=PO _ _ ha;omega⟩
    ·exact⟨p,q,by rw[aS _ _ _ ea];exact ha,Nc _⟩
   refine⟨⟨fun {a p q} ha=>?_,fun {a p q} ha=>?_,fun {a m} ha=>?_,fun {a p q} ha hA=>?_,fun {o p q} ho=>?_,fun {a p q} ha=>?_,fun _ _ hP _=>hP.elim⟩,h.no,fun {a c} ha=>?_⟩
   ·show 0<=a/\a.toNat∈L/\0<=p/\0<=q/\val p q<=97750727262208+(cnt (aB x.F e.to e.s e.d) 256:Int)*47729847296
    replace ha:aB x.F e.to e.s e.d a=OM (p,q):=ha
    by_cases ea:a=e.to
    ·subst ea;rw[bt]at ha;cases ha;exact⟨o1,o2,o3,o5,by unfold val;omega⟩
    ·rw[aS _ _ _ ea]at ha;obtain⟨k1,k2,k3,k4,k5⟩:=h.si.lab ha;exact⟨k1,k2,k3,k4,by omega⟩
   ·replace ha:aB x.F e.to e.s e.d a=OM (p,q):=ha
    by_cases ea:a=e.to
    ·subst ea;rw[bt]at ha;cases ha;exact⟨_,_,_,0,0,hme,Wg.nil,by omega,by omega⟩
    ·rw[aS _ _ _ ea]at ha;obtain⟨o,s0,d0,p,q,k1,k2⟩:=h.si.snd ha;exact⟨o,s0,d0,p,q,more k1,k2⟩
   ·have:x.A a=OM m:=ha;rw[h.no]at this;cases this
   ·replace ha:aB x.F e.to e.s e.d a=OM (p,q):=ha
    by_cases ea:a=e.to
    ·subst ea;rw[bt]at ha;cases ha;exact hme
    ·rw[aS _ _ _ ea]at ha;exact more (h.si.top ha hA)
   ·show ∃p' q',aB x.F e.to e.s e.d o=OM (p',q')/\_;rcases less ho with ho|⟨_,rfl,rfl,rfl⟩
    ·obtain⟨p1,q1,k1,k2⟩:=h.si.hom ho;obtain⟨p2,q2,k3,k4⟩:=TJ k1;exact⟨p2,q2,k3,by omega⟩
    ·exact⟨_,_,bt _ _ _ _,Nc _⟩
   ·show ∃p' q',aB x.F e.to e.s e.d a=OM (p',q')/\_
    replace ha:aB x.H e.to (e.s+(g e.to).1) (e.d+(g e.to).2) a=OM (p,q):=ha
    by_cases ea:a=e.to
    ·subst ea;rw[bt]at ha;cases ha;exact⟨_,_,bt _ _ _ _,rfl,rfl⟩
    ·rw[aS _ _ _ ea]at ha;obtain⟨p',q',k1,k2,k3⟩:=h.si.key ha;exact⟨p',q',by rw[aS _ _ _ ea];exact k1,k2,k3⟩
   ·show aB x.H e.to (e.s+(g e.to).1) (e.d+(g e.to).2) a≠Pk
    replace ha:aB x.F e.to e.s e.d a=OM c:=ha
    by_cases ea:a=e.to
    ·subst ea;rw[bt];exact fun q=>(by cases q)
    ·rw[aS _ _ _ ea]at ha ⊢;exact h.all ha
 ·rw[if_neg XD];have no:¬okE L e:=fun q=>XD (oj.2 q);refine⟨⟨h.si.lab,fun ha=>?_,fun ha=>h.si.ptr ha,fun ha hA=>more (h.si.top ha hA),fun {o s d} ho=>?_,h.si.key,fun _ _ hP _=>hP.elim⟩,h.no,h.all⟩
  ·obtain⟨o,s0,d0,p,q,k1,k2⟩:=h.si.snd ha;exact⟨o,s0,d0,p,q,more k1,k2⟩
  ·rcases less ho with ho|⟨q,_⟩
   ·exact h.si.hom ho
   ·exact absurd q no
theorem FI.fold (O:eT L lv):∀{l' l:List IE}{x:SS},FI L lv r g l x->FI L lv r g (l++l') (l'.foldl (kU L g) x)
 |[],l,x,h=>by rw[Nt];exact h
 |e::l',l,x,h=>by
  have:=FI.fold O (l':=l') (h.step O e)
  rwa [List.append_assoc]at this
theorem FI.all_in (h:FI L lv r g l x):SI L lv r g (eg L l) (fun _ _=>True) x:=h.si.mono (fun ha hH _ _=>h.all ha hH)
theorem JI (O:eT L lv)(l:List IE):SI L lv r g (eg L l) (fun _ _=>True) (dR L g l):=(FI.fold O (FI.start L lv r g)).all_in
end
def ma (L:List Nat) (lv:LSt) (g:Int->Int×Int) (out RP:List IE) (way:List Nat) (s d:Int) (f:Bool):Prop :=
 ∃k y j x m,sG lv 1 (fun _=>(0,0)) k (dR L (fun _=>(0,0)) RP) y/\kT lv g y.F j (dR L g out) ⟨0,0,0,PB⟩ x m/\f=m.f/\(f=PB->way=[]/\s=0/\d=0) /\
  (f=Pm->s=m.s/\d=m.d/\∃(n:Nat) (lb le:List Nat),m.n=(n:Int)/\Bk x.A (n::lb)/\Bk y.A (n::le)/\pc lv.es ((n::lb).reverse++le) way)
theorem Prc.pos {lv:LSt}(O:eT L lv):∀{l:List Nat}{n:Nat}{s d:Int},Prc lv.es (n::l) s d->0<=s/\0<=d
 |[],_,_,_,⟨h1,h2⟩=>by omega
 |m::l,n,s,d,⟨e,he,_,h⟩=>by
  have h1:=Prc.pos O h;have h2:=O.bd he;omega
theorem six {c e f f' g m t:Int}(h1:a+b<=f')(h2:f'<=f)(h3:c+e<=g)(h4:m=f+g)(h5:t=a+(b+e)+c)(h6:m<=t):t=m:=by omega
theorem Lk {s d fs fd es ed:Int}(hv:val s d=val (fs+es) (fd+ed))(h1:0<=s)(h2:0<=d)(h3:0<=fs)(h4:0<=fd)(h5:fs<=2847923)(h6:fd<=2847923)(h7:0<=es)(h8:0<=ed)(h9:es<=2847923)(UW:ed<=2847923):-38613965<fd+ed-d/\fd+ed-d<38613965:=by
 have h:=Int.le_of_eq hv;clear hv;unfold val at h;omega
theorem ma.best {QO st:LSt}(B0:Btw L 0 16 QO)(hz:∀n,QO.lev n=0)(hR:Rds most L QO k st)(O:eT L ⟨dr (k+1) st,st.es⟩)
  (hU:∀{a e},e∈st.es a->∃way l,Unp st.es 6 a e.to way/\way=a::l/\l≠[]/\way.getLast? = OM e.to/\Prc QO.es way e.s e.d)
  {g:Int->Int×Int}{out RP:List IE}(hA:Adm L st.es g (eg L RP)) {way:List Nat}{s d:Int}{f:Bool}(h:ma L ⟨dr (k+1) st,st.es⟩ g out RP way s d f) :
  (∀{o i s0 d0 s1 d1 p q:Int},eg L out o s0 d0->eg L RP i s1 d1->Wg (GrE QO.es) o i p q->f=Pm/\val s d<=val (s0+p+s1) (d0+q+d1)) /\
  (f=Pm->∃(o i:Nat) (t:List Nat) (s0 d0 s1 d1 p q:Int),eg L out (o:Int) s0 d0/\eg L RP (i:Int) s1 d1/\way=o::t/\way.getLast? = OM i/\Prc QO.es way p q/\s=s0+p+s1/\d=d0+q+d1):=by
 obtain⟨ke,y,j,x,m,h1,h2,h3,h4,h5⟩:=h;obtain⟨Y,Y0⟩:=(JI O RP).ends O h1;have M0:MI L ⟨dr (k+1) st,st.es⟩ g (eg L out) y.F (dR L g out) ⟨0,0,0,PB⟩:=by
  have F:=FI.fold O (l':=out) (FI.start L ⟨dr (k+1) st,st.es⟩ 0 g);exact⟨F.all_in,fun q=>(by cases q),fun ha hH _=>absurd hH (F.all ha)⟩
 obtain⟨z,Z,zF,zA⟩:=M0.ends O h2;have opt:∀{o i s0 d0 s1 d1 p q:Int},eg L out o s0 d0->eg L RP i s1 d1->Wg (GrE QO.es) o i p q->m.f=Pm/\val m.s m.d<=val (s0+p+s1) (d0+q+d1):=fun {o i s0 d0 s1 d1 p q} ho hi hw=>by
  obtain⟨e1,_,⟨⟨o1,o2⟩,_⟩,o3,_⟩:=id ho;obtain⟨e2,_,⟨⟨i1,i2⟩,_⟩,i3,_⟩:=id hi;obtain⟨on,rfl⟩:∃on:Nat,o=(on:Int):=⟨o.toNat,by omega⟩;obtain⟨iN,rfl⟩:∃iN:Nat,i=(iN:Int):=⟨i.toNat,by omega⟩;obtain⟨c,p1,q1,p2,q2,u1,u2,u3⟩:=JG (by omega) B0 hz hR hw;obtain⟨b1,b2⟩:=Z.best O Y Y0 rfl hA ho hi u1 u2;refine⟨b1,?_⟩;rw[aI,aI];omega
 refine⟨fun {o i s0 d0 s1 d1 p q} ho hi hw=>?_,fun hf=>?_⟩
 ·obtain⟨b1,b2⟩:=opt ho hi hw;obtain⟨c1,c2,_⟩:=h5 (h3.trans b1);exact⟨h3.trans b1,by rw[c1,c2];exact b2⟩
 ·obtain⟨c1,c2,n,lb,le,c3,c4,c5,c6⟩:=h5 hf;obtain⟨fs,fd,es,ed,VX,VY,f1,f2,f3,f4,f5,f6,f7,f8,f9⟩:=Z.mi.fnd (h3.symm.trans hf);rw[c3]at f1 f2;rw[zA]at c4;obtain⟨o,s0,d0,p,q,j1,j2,j3,j4⟩:=Z.mi.si.back O c4 f2;obtain⟨i,s1,d1,p',q',l1,l2,l3,l4⟩:=Y.back O c5 f1;have j5:=Prc.rev O.esy j3;obtain⟨z0,zs,P0⟩:∃z0 zs,(n::lb).reverse=z0::zs:=by
   cases hq:(n::lb).reverse with
   |nil=>simp at hq
   |cons z zs=>exact⟨z,zs,rfl⟩
  have P3:(z0::zs).getLast? = OM n:=by rw[<- P0];simp
  have Qd:z0=o:=by
   have:(n::lb).reverse.head? = OM o:=(by rw[List.head?_reverse];exact j1);rw[P0]at this
   simpa using this
  rw[P0]at j5 c6;have J:=Prc.join l3 j5 P3;obtain⟨u1,⟨t,u2⟩,u3⟩:=pc.prc O.esy hU J c6;have u4:way.getLast? = OM i:=by
   rw[u3];cases le with
   |nil =>
    rw[<- l1];show ((z0::zs)++[]).getLast? = _;rw[Nt,P3];rfl
   |cons a le =>
    rw[<- l1];show ((z0::zs)++a::le).getLast? = _;rw[List.getLast?_append];have e2:(n::a::le).getLast? = (a::le).getLast? :=(by simp);rw[e2];cases hq:(a::le).getLast? with
    |none=>simp at hq
    |some b=>rfl
  rw[Qd]at u2;have wq:=Prc.way (x:=o) (l:=t) (y:=i) (by rw[<- u2];exact u1) (by rw[<- u2];exact u4);obtain⟨_,b2⟩:=opt j2 l2 wq;have asi:=Prc.pos O j3;have asj:=Prc.pos O l3;obtain⟨e1,_,⟨_,o1,o2,o3,o4⟩,_,o5,o6⟩:=id j2;obtain⟨e2,_,⟨_,i1,i2,i3,i4⟩,_,i5,i6⟩:=id l2;have big:=Y.big f1;have g1:val m.s m.d=val fs fd+val es ed:=by rw[f4,f5,aI]
  have g2:val (s0+(p+p')+s1) (d0+(q+q')+d1)=val s0 d0+(val p q+val p' q')+val s1 d1:=by rw[aI,aI,aI]
  have hv:val (s0+(p+p')+s1) (d0+(q+q')+d1)=val m.s m.d:=six j4 f3 l4 g1 g2 b2;have hd:-38613965<m.d-(d0+(q+q')+d1)/\m.d-(d0+(q+q')+d1)<38613965:=by
   rw[f4,f5]at hv;rw[f5];exact Lk hv (by clear hv g1 g2 b2 j4 f3 l4;omega) (by clear hv g1 g2 b2 j4 f3 l4;omega) f6 f7 f8 f9 big.1 big.2.1 big.2.2.1 big.2.2.2.1
  obtain⟨v1,v2⟩:=gL _ _ _ _ hd.1 hd.2 hv;exact⟨o,i,t,s0,d0,s1,d1,p+p',q+q',j2,l2,u2,u4,u1,by rw[c1];exact v1.symm,by rw[c2];exact v2.symm⟩
end
end Go.Proofs.YtmaefimaeelkbaaGreatDoor
