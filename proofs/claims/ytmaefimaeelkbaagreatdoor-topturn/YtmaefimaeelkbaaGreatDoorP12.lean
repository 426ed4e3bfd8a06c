/-
  Texts laid together: LevP, LevQ, LevB, SrM, Rep, CostB.
-/
import Derived.Test.YtmaefimaeelkbaaGreatDoorP6
import Derived.Test.YtmaefimaeelkbaaGreatDoorP11
import Derived.Test.YtmaefimaeelkbaaGreatDoorP2
import Derived.Test.YtmaefimaeelkbaaGreatDoorP5
import Derived.Test.YtmaefimaeelkbaaGreatDoorP1
import Derived.Test.YtmaefimaeelkbaaGreatDoorProg
import Derived.RegionTactic
import Derived.BigRegion
import Derived.Laws.OwnMore
namespace Go.Proofs.YtmaefimaeelkbaaGreatDoor
section
def Dif (x y:Nat × LE):Prop:=¬ (x.1=y.1/\x.2.to=y.2.to)/\¬ (x.1=y.2.to/\x.2.to=y.1)
theorem moreF_dif {p:LE->LE->Bool}{n:Nat}:∀ {l:List LE},Rsg l->(moreF p n l).Pairwise Dif
 |[],_=>List.Pairwise.nil
 |a::l,hl=>by
  unfold moreF
  rw [List.pairwise_append]
  refine ⟨?_,moreF_dif hl.tail,fun x hx y hy=>?_⟩
  ·rw [List.pairwise_map]
   refine (hl.tail.filter _).imp (fun {b c} hbc=>⟨fun h=>?_,fun h=>?_⟩)
   ·have h2:b.to=c.to:=h.2
    omega
   ·have h1:a.to=c.to:=h.1
    have h2:b.to=a.to:=h.2
    omega
  ·obtain ⟨b,hb,rfl⟩:=List.mem_map.1 hx
   obtain ⟨u,hu,v,hv,huv,_,rfl⟩:=moreF_mem hl.tail hy
   have k1:=hl.head u hu
   have k2:=hl.head v hv
   exact ⟨fun h=>by have h1:a.to=u.to:=h.1;omega,fun h=>by have h1:a.to=v.to:=h.1;omega⟩
theorem layAll_new:∀ {l:List (Nat × LE)}{es:Nat->List LE},Esy es->(∀ x ∈ l,x.1≠x.2.to)->l.Pairwise Dif->∀ x ∈ l,x.2 ∈ layAll es l x.1/\(⟨x.1,x.2.s,x.2.d,x.2.mid⟩:LE) ∈ layAll es l x.2.to
 |[],_,_,_,_,x,hx=>by cases hx
 |y::l,es,hE,hn,hd,x,hx=>by
  have hy:=hn y (List.mem_cons_self ..)
  have hE1:Esy (lay2 es y):=hE.lay2 hy
  have hn1:∀ x ∈ l,x.1≠x.2.to:=fun x hx=>hn x (List.mem_cons_of_mem _ hx)
  obtain ⟨hd1,hd2⟩:=List.pairwise_cons.1 hd
  rcases List.mem_cons.1 hx with rfl|hx
  ·refine ⟨layAll_stay hE1 hn1 ((lay2_mem hE hy _ _).2 (Or.inl ⟨rfl,rfl⟩)) (fun z hz=>?_),layAll_stay hE1 hn1 ((lay2_mem hE hy _ _).2 (Or.inr (Or.inl ⟨rfl,rfl⟩))) (fun z hz=>?_)⟩
   ·exact ⟨(hd1 z hz).1,(hd1 z hz).2⟩
   ·exact ⟨fun h=>(hd1 z hz).2 ⟨h.2,h.1⟩,fun h=>(hd1 z hz).1 ⟨h.2,h.1⟩⟩
  ·exact layAll_new hE1 hn1 hd2 x hx
theorem moreF_has {p:LE->LE->Bool}{n:Nat}:∀ {l:List LE}{a b:LE},a ∈ l->b ∈ l->a.to<b.to->Rsg l->p a b=true->(a.to,(⟨b.to,a.s+b.s,a.d+b.d,(n:Int)⟩:LE)) ∈ moreF p n l
 |[],_,_,h,_,_,_,_=>by cases h
 |x::l,a,b,ha,hb,hlt,hl,hp=>by
  unfold moreF
  rw [List.mem_append]
  rcases List.mem_cons.1 ha with rfl|ha'
  ·rcases List.mem_cons.1 hb with rfl|hb'
   ·omega
   ·exact Or.inl (List.mem_map.2 ⟨b,List.mem_filter.2 ⟨hb',hp⟩,rfl⟩)
  ·rcases List.mem_cons.1 hb with rfl|hb'
   ·have:=hl.head a ha';omega
   ·exact Or.inr (moreF_has ha' hb' hlt hl.tail hp)
theorem EdR.turn {st:LSt}{n:Nat}{a b:Nat}{s d:Int}(hE:Esy st.es)(h:Wg (EdR st n) (a:Int) (b:Int) s d)(h0:st.lev a=0)(hn:a≠n):Wg (EdR st n) (b:Int) (a:Int) s d:=by
 have key:=h (fun x s d=>∃ m:Nat,x=(m:Int)/\st.lev m=0/\m≠n/\Wg (EdR st n) x (a:Int) s d) ⟨a,rfl,h0,hn,Wg.nil⟩ (fun x s d y t u ⟨m,hm,m0,mn,hx⟩ ⟨e,he,e1,e2,e3,e4,e5⟩=>by
  subst hm
  rw [Int.toNat_natCast] at he
  refine ⟨e.to,e1,e4,e5,?_⟩
  have hb:=hE.back he
  have e6:EdR st n y (m:Int) t u:=⟨⟨m,e.s,e.d,e.mid⟩,by rw [e1,Int.toNat_natCast];exact hb,rfl,e2,e3,m0,mn⟩
  have:=(Wg.one e6).trans hx
  rwa [Int.add_comm t,Int.add_comm u] at this)
 obtain ⟨_,_,_,_,h⟩:=key
 exact h
def Fre (st:LSt) (a b t u:Int):Prop:=∃ e ∈ st.es a.toNat,b=(e.to:Int)/\t=e.s/\u=e.d/\st.lev e.to=0
def Cst (es:Nat->List LE):Prop:=∀ {a e},e ∈ es a->0<=e.s/\0<=e.d
theorem Turn.edge {top n:Nat}{st st':LSt}{nr nr':Nat->Bool}(h:Turn top n st nr st' nr' true)(hE:Esy st.es){a:Nat}{e:LE}(he:e ∈ st.es a)(h0:st.lev a=0)(h1:st.lev e.to=0)(ha:a≠n)(hb:e.to≠n):∃ e' ∈ st'.es a,e'.to=e.to/\val e'.s e'.d<=val e.s e.d:=by
 rcases h with ⟨_,_,_,h⟩|⟨_,p,hp,⟨_,_,_,h⟩|⟨_,rfl,_⟩⟩
 ·cases h
 ·cases h
 ·have hfe:=fun {x:Nat × LE}(hx:x ∈ moreF p n (feF st n))=>moreF_mem (feF_ord (hE.ord n)) hx
  have hne:∀ x ∈ moreF p n (feF st n),x.1≠x.2.to:=fun x hx=>by
   obtain ⟨a,_,b,_,h3,_,rfl⟩:=hfe hx
   exact Nat.ne_of_lt h3
  have hnew:=layAll_new hE hne (moreF_dif (feF_ord (hE.ord n)))
  -- a needed one between them is cheaper than what was there
  have less:∀ {u v:LE},p u v=true->∀ {x:Nat}{q:LE},q ∈ st.es x->x=u.to->q.to=v.to->st.lev q.to=0->q.to≠n->val (u.s+v.s) (u.d+v.d)<=val q.s q.d:=fun {u v} hpv {x q} hq hx hq2 hq3 hq4=>by
   have hnd:=(hp u v).1 hpv
   by_cases hle:val q.s q.d<=val (u.s+v.s) (u.d+v.d)
   ·exfalso
    refine hnd ⟨q.s,q.d,?_,hle⟩
    have e1:EdR st n (u.to:Int) (v.to:Int) q.s q.d:=⟨q,by rw [Int.toNat_natCast,<- hx];exact hq,by rw [hq2],rfl,rfl,hq3,hq4⟩
    exact Wg.one e1
   ·omega
  by_cases hx:∃ x ∈ moreF p n (feF st n),(a=x.1/\e.to=x.2.to)\/(a=x.2.to/\e.to=x.1)
  ·obtain ⟨x,hx,hc⟩:=hx
   obtain ⟨n1,n2⟩:=hnew x hx
   obtain ⟨u,hu,v,hv,huv,hpv,rfl⟩:=hfe hx
   rcases hc with ⟨rfl,c2⟩|⟨rfl,c2⟩
   ·exact ⟨_,n1,c2.symm,less hpv he rfl c2 h1 hb⟩
   ·have hbk:=hE.back he
    rw [c2] at hbk
    exact ⟨_,n2,c2.symm,less (q:=⟨v.to,e.s,e.d,e.mid⟩) hpv hbk rfl rfl h0 ha⟩
  ·refine ⟨e,layAll_stay hE hne he (fun x hx'=>⟨fun h=>hx ⟨x,hx',Or.inl h⟩,fun h=>hx ⟨x,hx',Or.inr h⟩⟩),rfl,Int.le_refl _⟩
theorem Turn.over {top n:Nat}{st st':LSt}{nr nr':Nat->Bool}(h:Turn top n st nr st' nr' true)(hE:Esy st.es)(hC:Cst st.es){a b:LE}(ha:a ∈ st.es n)(hb:b ∈ st.es n)(ha0:st.lev a.to=0)(hb0:st.lev b.to=0) :
  (∃ p q,Wg (EdR st n) (a.to:Int) (b.to:Int) p q/\val p q<=val (a.s+b.s) (a.d+b.d))\/∃ e ∈ st'.es a.to,e.to=b.to/\val e.s e.d<=val (a.s+b.s) (a.d+b.d):=by
 have hfa:=feF_mem.2 ⟨ha,ha0⟩
 have hfb:=feF_mem.2 ⟨hb,hb0⟩
 rcases h with ⟨_,_,_,h⟩|⟨_,p,hp,⟨_,_,_,h⟩|⟨_,rfl,_⟩⟩
 ·cases h
 ·cases h
 ·have hfe:=fun {x:Nat × LE}(hx:x ∈ moreF p n (feF st n))=>moreF_mem (feF_ord (hE.ord n)) hx
  have hne:∀ x ∈ moreF p n (feF st n),x.1≠x.2.to:=fun x hx=>by
   obtain ⟨a,_,b,_,h3,_,rfl⟩:=hfe hx
   exact Nat.ne_of_lt h3
  have hnew:=layAll_new hE hne (moreF_dif (feF_ord (hE.ord n)))
  rcases Nat.lt_trichotomy a.to b.to with hlt|heq|hlt
  ·cases hpv:p a b with
   |true=>exact Or.inr ⟨_,(hnew _ (moreF_has hfa hfb hlt (feF_ord (hE.ord n)) hpv)).1,rfl,Int.le_refl _⟩
   |false =>
    refine Or.inl (Classical.byContradiction fun hno=>?_)
    have:=(hp a b).2 hno
    rw [hpv] at this;cases this
  ·left
   obtain ⟨c1,c2⟩:=hC ha
   obtain ⟨c3,c4⟩:=hC hb
   exact ⟨0,0,by rw [heq];exact Wg.nil,by unfold val;omega⟩
  ·cases hpv:p b a with
   |true=>exact Or.inr ⟨_,(hnew _ (moreF_has hfb hfa hlt (feF_ord (hE.ord n)) hpv)).2,rfl,by rw [Int.add_comm a.s,Int.add_comm a.d];exact Int.le_refl _⟩
   |false =>
    have hex:∃ p q,Wg (EdR st n) (b.to:Int) (a.to:Int) p q/\val p q<=val (b.s+a.s) (b.d+a.d):=Classical.byContradiction fun hno=>by
     have:=(hp b a).2 hno
     rw [hpv] at this;cases this
    obtain ⟨s,d,h1,h2⟩:=hex
    refine Or.inl ⟨s,d,?_,by rw [Int.add_comm a.s,Int.add_comm a.d];exact h2⟩
    exact EdR.turn hE h1 hb0 (hE.off hb)
end
section
theorem val_both (s d t u:Int):val (s+t) (d+u)=val s d+val t u:=by unfold val;omega
theorem Turn.levQ {top n:Nat}{st st':LSt}{nr nr':Nat->Bool}(h:Turn top n st nr st' nr' true){k:Nat}(hk:k≠n):st'.lev k=st.lev k:=by
 rcases h with ⟨_,_,_,h⟩|⟨_,p,hp,⟨_,_,_,h⟩|⟨_,rfl,_⟩⟩
 ·cases h
 ·cases h
 ·exact if_neg hk
section
variable {top n : Nat} {st st' : LSt} {nr nr' : Nat → Bool}
theorem EdR.next (h:Turn top n st nr st' nr' true)(hE:Esy st.es){a b:Nat}{s d:Int}(h0:st.lev a=0)(hn:a≠n)(hw:Wg (EdR st n) (a:Int) (b:Int) s d):∃ s' d',Wg (Fre st') (a:Int) (b:Int) s' d'/\val s' d'<=val s d:=by
 have key:=hw (fun x s d=>∃ m:Nat,x=(m:Int)/\st.lev m=0/\m≠n/\∃ s' d',Wg (Fre st') (a:Int) x s' d'/\val s' d'<=val s d) ⟨a,rfl,h0,hn,0,0,Wg.nil,Int.le_refl _⟩ (fun x s d y t u ⟨m,hm,m0,mn,s',d',hx,hv⟩ ⟨e,he,e1,e2,e3,e4,e5⟩=>by
  subst hm
  rw [Int.toNat_natCast] at he
  obtain ⟨e',f1,f2,f3⟩:=h.edge hE he m0 e4 mn e5
  refine ⟨e.to,e1,e4,e5,s'+e'.s,d'+e'.d,hx.step ⟨e',by rw [Int.toNat_natCast];exact f1,by rw [e1,f2],rfl,rfl,by rw [f2,h.levQ e5];exact e4⟩,?_⟩
  rw [val_both,val_both,e2,e3]
  omega)
 obtain ⟨_,_,_,_,k⟩:=key
 exact k
theorem Turn.way (h:Turn top n st nr st' nr' true)(hE:Esy st.es)(hC:Cst st.es){o b:Nat}{s d:Int}(ho:st.lev o=0)(hon:o≠n)(hbn:b≠n)(hw:Wg (Fre st) (o:Int) (b:Int) s d):∃ s' d',Wg (Fre st') (o:Int) (b:Int) s' d'/\val s' d'<=val s d:=by
 have key:=hw (fun x s d=>∃ m:Nat,x=(m:Int)/\st.lev m=0/\((m≠n/\∃ s' d',Wg (Fre st') (o:Int) (m:Int) s' d'/\val s' d'<=val s d)\/(m=n/\∃ y ∈ st.es n,st.lev y.to=0/\∃ s' d',Wg (Fre st') (o:Int) (y.to:Int) s' d'/\val s' d'+val y.s y.d<=val s d)))
  ⟨o,rfl,ho,Or.inl ⟨hon,0,0,Wg.nil,Int.le_refl _⟩⟩ (fun x s d z t u ⟨m,hm,m0,hx⟩ ⟨e,he,e1,e2,e3,e4⟩=>by
   subst hm
   rw [Int.toNat_natCast] at he
   refine ⟨e.to,e1,e4,?_⟩
   rcases hx with ⟨mn,s',d',hx,hv⟩|⟨mn,y,hy,hy0,s',d',hx,hv⟩
   ·by_cases en:e.to=n
    ·right
     have hb:=hE.back he
     rw [en] at hb
     refine ⟨en,⟨m,e.s,e.d,e.mid⟩,hb,m0,s',d',hx,?_⟩
     rw [val_both,e2,e3]
     show val s' d'+val e.s e.d<=_
     omega
    ·left
     obtain ⟨e',f1,f2,f3⟩:=h.edge hE he m0 e4 mn en
     refine ⟨en,s'+e'.s,d'+e'.d,hx.step ⟨e',by rw [Int.toNat_natCast];exact f1,by rw [f2],rfl,rfl,by rw [f2,h.levQ en];exact e4⟩,?_⟩
     rw [val_both,val_both,e2,e3]
     omega
   ·left
    subst mn
    have en:=hE.off he
    have yn:=hE.off hy
    refine ⟨en,?_⟩
    rcases h.over hE hC hy he hy0 e4 with ⟨p,q,h1,h2⟩|⟨e',f1,f2,f3⟩
    ·obtain ⟨p',q',h3,h4⟩:=EdR.next h hE hy0 yn h1
     refine ⟨s'+p',d'+q',hx.trans h3,?_⟩
     rw [val_both] at h2
     rw [val_both,val_both,e2,e3]
     omega
    ·refine ⟨s'+e'.s,d'+e'.d,hx.step ⟨e',by rw [Int.toNat_natCast];exact f1,by rw [f2],rfl,rfl,by rw [f2,h.levQ en];exact e4⟩,?_⟩
     rw [val_both] at f3
     rw [val_both,val_both,e2,e3]
     omega)
 obtain ⟨m,hm,_,hx⟩:=key
 have e:b=m:=by omega
 subst e
 rcases hx with ⟨_,k⟩|⟨k,_⟩
 ·exact k
 ·exact absurd k hbn
end
end
section
structure Cor (L:List Nat) (st:LSt):Prop where
 ends:∀ {a e},e ∈ st.es a->a ∈ L/\e.to ∈ L
 lev:∀ {n},0<st.lev n->n ∈ L
structure Bdd (t:Nat) (K:Int) (st:LSt):Prop where
 pos:∀ {a e},e ∈ st.es a->0<=e.s/\0<=e.d
 old:∀ {a e},e ∈ st.es a->(e.mid<0\/st.lev e.mid.toNat≠t)->e.s<=K/\e.d<=K
 new:∀ {a e},e ∈ st.es a->e.s<=2*K/\e.d<=2*K
section
variable {t n : Nat} {K : Int} {L : List Nat} {st st' : LSt} {nr nr' : Nat → Bool} {g : Bool}
theorem Turn.split (hE:Esy st.es)(h:Turn t n st nr st' nr' g){k:Nat}{e:LE}(he:e ∈ st'.es k) :
  e ∈ st.es k\/(st.lev n=0/\nr n=false/\st'.lev n=t/\e.mid=n/\∃ e1 ∈ st.es n,e1.to=k/\∃ e2 ∈ st.es n,e2.to=e.to/\e.s=e1.s+e2.s/\e.d=e1.d+e2.d):=by
 rcases h with ⟨_,rfl,_⟩|⟨hn,p,_,⟨_,rfl,_⟩|⟨_,rfl,_⟩⟩
 ·exact Or.inl he
 ·exact Or.inl he
 ·have hfe:=fun {x:Nat × LE}(hx:x ∈ moreF p n (feF st n))=>moreF_mem (feF_ord (hE.ord n)) hx
  have hne:∀ x ∈ moreF p n (feF st n),x.1≠x.2.to:=fun x hx=>by
   obtain ⟨a,_,b,_,h3,_,rfl⟩:=hfe hx
   exact Nat.ne_of_lt h3
  have hn0:st.lev n=0:=by
   rcases Nat.eq_zero_or_pos (st.lev n) with h|h
   ·exact h
   ·exact absurd (Or.inl h) hn
  have hnn:nr n=false:=by
   cases h:nr n with
   |false=>rfl
   |true=>exact absurd (Or.inr h) hn
  rcases (layAll_mem hE hne).2 k e he with h|⟨x,hx,h⟩
  ·exact Or.inl h
  ·obtain ⟨a,ha,b,hb,_,_,rfl⟩:=hfe hx
   have ha':=(feF_mem.1 ha).1
   have hb':=(feF_mem.1 hb).1
   right
   rcases h with ⟨rfl,rfl⟩|⟨rfl,rfl⟩
   ·exact ⟨hn0,hnn,if_pos rfl,rfl,a,ha',rfl,b,hb',rfl,rfl,rfl⟩
   ·exact ⟨hn0,hnn,if_pos rfl,rfl,b,hb',rfl,a,ha',rfl,Int.add_comm _ _,Int.add_comm _ _⟩
theorem Turn.lev (h:Turn t n st nr st' nr' g)(k:Nat):st'.lev k=st.lev k\/(k=n/\st'.lev k=t):=by
 rcases h with ⟨_,rfl,_⟩|⟨hn,p,_,⟨_,rfl,_⟩|⟨_,rfl,_⟩⟩
 ·exact Or.inl rfl
 ·exact Or.inl rfl
 ·by_cases e:k=n
  ·exact Or.inr ⟨e,if_pos e⟩
  ·exact Or.inl (if_neg e)
theorem Cor.turn (hE:Esy st.es)(C:Cor L st)(hn:n ∈ L)(h:Turn t n st nr st' nr' g):Cor L st':=by
 refine ⟨fun {a e} he=>?_,fun {k} hk=>?_⟩
 ·rcases h.split hE he with h1|⟨_,_,_,_,e1,f1,f2,e2,f3,f4,_⟩
  ·exact C.ends h1
  ·exact ⟨by rw [<- f2];exact (C.ends f1).2,by rw [<- f4];exact (C.ends f3).2⟩
 ·rcases h.lev k with h1|⟨rfl,_⟩
  ·rw [h1] at hk;exact C.lev hk
  ·exact hn
theorem Bdd.turn (I:Lin t st nr)(_h0:0<=K)(B:Bdd t K st)(h:Turn t n st nr st' nr' g):Bdd t K st':=by
 have hsum:∀ {k e},e ∈ st'.es k->e ∈ st.es k\/(st'.lev n=t/\e.mid=n/\0<=e.s/\0<=e.d/\e.s<=2*K/\e.d<=2*K):=fun {k e} he=>by
  rcases h.split I.esy he with h1|⟨h2,h3,h4,h5,e1,f1,_,e2,f3,_,f5,f6⟩
  ·exact Or.inl h1
  ·have key:∀ {x:LE},x ∈ st.es n->0<=x.s/\0<=x.d/\x.s<=K/\x.d<=K:=fun {x} hx=>by
    obtain ⟨p1,p2⟩:=B.pos hx
    have hold:x.mid<0\/st.lev x.mid.toNat≠t:=by
     by_cases hm:x.mid<0
     ·exact Or.inl hm
     ·right;intro hl
      have:=I.new hx (by omega) hl
      rw [h3] at this;cases this
    obtain ⟨q1,q2⟩:=B.old hx hold
    exact ⟨p1,p2,q1,q2⟩
   have k1:=key f1
   have k2:=key f3
   exact Or.inr ⟨h4,h5,by omega,by omega,by omega,by omega⟩
 refine ⟨fun {a e} he=>?_,fun {a e} he hm=>?_,fun {a e} he=>?_⟩
 ·rcases hsum he with h1|⟨_,_,h2,h3,_⟩
  ·exact B.pos h1
  ·exact ⟨h2,h3⟩
 ·rcases hsum he with h1|⟨h2,h3,_⟩
  ·refine B.old h1 ?_
   rcases hm with hm|hm
   ·exact Or.inl hm
   ·by_cases h0:e.mid<0
    ·exact Or.inl h0
    ·right
     rcases h.lev e.mid.toNat with h4|⟨h4,h5⟩
     ·rw [<- h4];exact hm
     ·exact absurd h5 hm
  ·rcases hm with hm|hm
   ·omega
   ·have e1:e.mid.toNat=n:=by omega
    rw [e1] at hm
    exact absurd h2 hm
 ·rcases hsum he with h1|⟨_,_,_,_,h2,h3⟩
  ·exact B.new h1
  ·exact ⟨h2,h3⟩
end
structure All (L:List Nat) (t:Nat) (K:Int) (st:LSt) (nr:Nat->Bool):Prop where
 lin:Lin t st nr
 cor:Cor L st
 bdd:Bdd t K st
theorem All.turn {L:List Nat}{t n:Nat}{K:Int}{st st':LSt}{nr nr':Nat->Bool}{g:Bool}(A:All L t K st nr)(h0:0<=K)(hn:n ∈ L)(h:Turn t n st nr st' nr' g):All L t K st' nr' :=
 ⟨A.lin.turn h,A.cor.turn A.lin.esy hn h,A.bdd.turn A.lin h0 h⟩
theorem All.rnd {L:List Nat}{t:Nat}{K:Int}(h0:0<=K):∀ {M:List Nat}{st st':LSt}{nr nr':Nat->Bool}{g:Bool},(∀ n ∈ M,n ∈ L)->All L t K st nr->Rnd t M st nr st' nr' g->All L t K st' nr'
 |[],_,_,_,_,_,_,A,⟨h1,h2,_⟩=>by rw [h1,h2];exact A
 |n::_,_,_,_,_,_,hM,A,⟨_,_,_,_,h1,h2,_⟩=>(A.turn h0 (hM n (List.mem_cons_self ..)) h1).rnd h0 (fun m hm=>hM m (List.mem_cons_of_mem _ hm)) h2
structure Btw (L:List Nat) (k:Nat) (K:Int) (st:LSt):Prop where
 lrd:Lrd k st
 cor:Cor L st
 bd:∀ {a e},e ∈ st.es a->0<=e.s/\0<=e.d/\e.s<=K/\e.d<=K
theorem Btw.all {L:List Nat}{k:Nat}{K:Int}{st:LSt}(_h0:0<=K)(B:Btw L k K st):All L (k+1) K st (fun _=>false) :=
 ⟨B.lrd.lin,B.cor,fun he=>⟨(B.bd he).1,(B.bd he).2.1⟩,fun he _=>⟨(B.bd he).2.2.1,(B.bd he).2.2.2⟩,fun he=>by have:=B.bd he;omega⟩
theorem All.btw {L:List Nat}{t:Nat}{K:Int}{st:LSt}{nr:Nat->Bool}(A:All L t K st nr):Btw L t (2*K) st :=
 ⟨A.lin.lrd,A.cor,fun he=>⟨(A.bdd.pos he).1,(A.bdd.pos he).2,A.bdd.new he⟩⟩
def dbl (K:Int):Nat->Int
 |0=>K
 |k+1=>2*dbl K k
theorem dbl_nonneg {K:Int}(h:0<=K):∀ k,0<=dbl K k
 |0=>h
 |k+1=>by have:=dbl_nonneg h k;show 0<=2*dbl K k;omega
theorem Btw.rds {most:Nat}{L:List Nat}{K:Int}{st0:LSt}(hK:0<=K)(h0:Btw L 0 K st0):∀ {k:Nat}{st:LSt},Rds most L st0 k st->Btw L k (dbl K k) st
 |0,st,h=>by
  have e:st=st0:=h
  rw [e];exact h0
 |k+1,_,⟨_,_,h1,_,h2⟩=>(((Btw.rds hK h0 h1).all (dbl_nonneg hK k)).rnd (dbl_nonneg hK k) (fun _ h=>h) h2).btw
end
section
section
variable {Ed Ed' : Int → Int → Int → Int → Prop} {o a b s d t u : Int}
theorem Wg.hd (h:Wg Ed o a s d):(a=o/\s=0/\d=0)\/∃ x t u p q,Ed o x t u/\Wg Ed x a p q/\s=t+p/\d=u+q :=
 h (fun a s d=>(a=o/\s=0/\d=0)\/∃ x t u p q,Ed o x t u/\Wg Ed x a p q/\s=t+p/\d=u+q) (Or.inl ⟨rfl,rfl,rfl⟩) (fun a s d b t u hx e=>by
  rcases hx with ⟨rfl,rfl,rfl⟩|⟨x,t',u',p,q,h1,h2,h3,h4⟩
  ·exact Or.inr ⟨b,t,u,0,0,e,Wg.nil,by omega,by omega⟩
  ·exact Or.inr ⟨x,t',u',p+t,q+u,h1,h2.step e,by omega,by omega⟩)
end
def UpE (st:LSt) (a b t u:Int):Prop:=∃ e ∈ st.es a.toNat,b=(e.to:Int)/\t=e.s/\u=e.d/\0<st.lev a.toNat/\(st.lev e.to=0\/st.lev a.toNat<st.lev e.to)
def Cov (st:LSt) (x y:Nat) (v:Int):Prop :=
 (∃ (m:Nat) (s d s' d':Int),Wg (UpE st) (x:Int) (m:Int) s d/\Wg (UpE st) (y:Int) (m:Int) s' d'/\val s d+val s' d'<=v) \/
 (∃ (a b:Nat) (s d s' d' p q:Int),st.lev a=0/\st.lev b=0/\Wg (UpE st) (x:Int) (a:Int) s d/\Wg (UpE st) (y:Int) (b:Int) s' d'/\Wg (Fre st) (a:Int) (b:Int) p q/\val s d+val p q+val s' d'<=v)
section
variable {t n : Nat} {st st' : LSt} {nr nr' : Nat → Bool}
theorem Turn.stay (h:Turn t n st nr st' nr' true)(hE:Esy st.es){k:Nat}{e:LE}(he:e ∈ st.es k)(hk:k=n\/e.to=n\/0<st.lev k\/0<st.lev e.to):e ∈ st'.es k:=by
 rcases h with ⟨_,_,_,h⟩|⟨_,p,_,⟨_,_,_,h⟩|⟨_,rfl,_⟩⟩
 ·cases h
 ·cases h
 ·have hfe:=fun {x:Nat × LE}(hx:x ∈ moreF p n (feF st n))=>moreF_mem (feF_ord (hE.ord n)) hx
  have hne:∀ x ∈ moreF p n (feF st n),x.1≠x.2.to:=fun x hx=>by
   obtain ⟨a,_,b,_,h3,_,rfl⟩:=hfe hx
   exact Nat.ne_of_lt h3
  have ends:∀ x ∈ moreF p n (feF st n),(st.lev x.1=0/\x.1≠n)/\(st.lev x.2.to=0/\x.2.to≠n):=fun x hx=>by
   obtain ⟨a,ha,b,hb,_,_,rfl⟩:=hfe hx
   have ha':=feF_mem.1 ha
   have hb':=feF_mem.1 hb
   exact ⟨⟨ha'.2,show a.to≠n from hE.off ha'.1⟩,⟨hb'.2,show b.to≠n from hE.off hb'.1⟩⟩
  refine layAll_stay hE hne he (fun x hx=>?_)
  obtain ⟨⟨a1,a2⟩,⟨b1,b2⟩⟩:=ends x hx
  constructor
  ·rintro ⟨h1,h2⟩
   rcases hk with h|h|h|h
   ·exact a2 (h1.symm.trans h)
   ·exact b2 (h2.symm.trans h)
   ·rw [h1,a1] at h;exact Nat.lt_irrefl _ h
   ·rw [h2,b1] at h;exact Nat.lt_irrefl _ h
  ·rintro ⟨h1,h2⟩
   rcases hk with h|h|h|h
   ·exact b2 (h1.symm.trans h)
   ·exact a2 (h2.symm.trans h)
   ·rw [h1,b1] at h;exact Nat.lt_irrefl _ h
   ·rw [h2,a1] at h;exact Nat.lt_irrefl _ h
theorem Turn.got (h:Turn t n st nr st' nr' true):st.lev n=0/\nr n=false/\st'.lev n=t:=by
 rcases h with ⟨_,_,_,h⟩|⟨hn,p,_,⟨_,_,_,h⟩|⟨_,rfl,_⟩⟩
 ·cases h
 ·cases h
 ·refine ⟨?_,?_,if_pos rfl⟩
  ·rcases Nat.eq_zero_or_pos (st.lev n) with h|h
   ·exact h
   ·exact absurd (Or.inl h) hn
  ·cases h:nr n with
   |false=>rfl
   |true=>exact absurd (Or.inr h) hn
theorem Turn.levO (h:Turn t n st nr st' nr' true){k:Nat}(hk:k≠n):st'.lev k=st.lev k:=by
 rcases h with ⟨_,_,_,h⟩|⟨_,p,hp,⟨_,_,_,h⟩|⟨_,rfl,_⟩⟩
 ·cases h
 ·cases h
 ·exact if_neg hk
theorem UpE.turn (I:Lin t st nr)(h:Turn t n st nr st' nr' true){a b p q:Int}(e:UpE st a b p q):UpE st' a b p q:=by
 obtain ⟨e,he,h1,h2,h3,h4,h5⟩:=e
 obtain ⟨g1,g2,g3⟩:=h.got
 have han:a.toNat≠n:=fun q=>by rw [q,g1] at h4;omega
 refine ⟨e,h.stay I.esy he (Or.inr (Or.inr (Or.inl h4))),h1,h2,h3,by rw [h.levO han];exact h4,?_⟩
 rw [h.levO han]
 by_cases hen:e.to=n
 ·right
  rw [hen,g3]
  have h6:=I.le a.toNat
  have h7:st.lev a.toNat≠t:=fun q=>by
   have:=I.cut he q (by rw [hen];exact g1)
   rw [hen,g2] at this;cases this
  omega
 ·rw [h.levO hen];exact h5
theorem Fre.val_pos (hC:Cst st.es){a b s d:Int}(h:Wg (Fre st) a b s d):0<=s/\0<=d :=
 h (fun _ s d=>0<=s/\0<=d) ⟨Int.le_refl _,Int.le_refl _⟩ (fun a s d b t u hx ⟨e,he,_,h2,h3,_⟩=>by
  have:=hC he
  omega)
theorem Fre.end0 {a:Nat}{b s d:Int}(h0:st.lev a=0)(h:Wg (Fre st) (a:Int) b s d):∃ m:Nat,b=(m:Int)/\st.lev m=0 :=
 h (fun b _ _=>∃ m:Nat,b=(m:Int)/\st.lev m=0) ⟨a,rfl,h0⟩ (fun _ _ _ _ _ _ _ ⟨e,_,h1,_,_,h4⟩=>⟨e.to,h1,h4⟩)
theorem Cov.turn (I:Lin t st nr)(hC:Cst st.es)(h:Turn t n st nr st' nr' true){x y:Nat}{v:Int}(c:Cov st x y v):Cov st' x y v:=by
 have up:∀ {a b s d:Int},Wg (UpE st) a b s d->Wg (UpE st') a b s d:=fun hw=>hw.mono (fun _ _ _ _ e=>UpE.turn I h e)
 obtain ⟨g1,g2,g3⟩:=h.got
 -- from the one that gets its level an edge to one that has none leads up
 have upn:∀ {e:LE},e ∈ st.es n->st.lev e.to=0->UpE st' (n:Int) (e.to:Int) e.s e.d:=fun {e} he h0 =>
  ⟨e,by rw [Int.toNat_natCast];exact h.stay I.esy he (Or.inl rfl),rfl,rfl,rfl,by rw [Int.toNat_natCast,g3];exact I.pos,Or.inl (by rw [h.levO (I.esy.off he)];exact h0)⟩
 rcases c with ⟨m,s,d,s',d',h1,h2,h3⟩|⟨a,b,s,d,s',d',p,q,ha,hb,h1,h2,h3,h4⟩
 ·exact Or.inl ⟨m,s,d,s',d',up h1,up h2,h3⟩
 ·by_cases ean:a=n
  ·subst ean
   by_cases ebn:b=a
   ·subst ebn
    obtain ⟨p0,q0⟩:=Fre.val_pos hC h3
    exact Or.inl ⟨b,s,d,s',d',up h1,up h2,by unfold val at *;omega⟩
   ·rcases h3.hd with ⟨e1,_⟩|⟨z,t1,u1,p1,q1,⟨e,he,k1,k2,k3,k4⟩,h5,h6,h7⟩
    ·exact absurd (by omega) ebn
    ·rw [Int.toNat_natCast] at he
     subst k1 k2 k3
     obtain ⟨p2,q2,h8,h9⟩:=h.way I.esy hC k4 (I.esy.off he) ebn h5
     refine Or.inr ⟨e.to,b,s+e.s,d+e.d,s',d',p2,q2,by rw [h.levO (I.esy.off he)];exact k4,by rw [h.levO ebn];exact hb,(up h1).step (upn he k4),up h2,h8,?_⟩
     rw [h6,h7,val_both] at h4
     rw [val_both]
     omega
  ·by_cases ebn:b=n
   ·subst ebn
    rcases h3.inv with ⟨e1,_⟩|⟨z,p1,q1,t1,u1,h5,⟨e,he,k1,k2,k3,k4⟩,h6,h7⟩
    ·exact absurd (by omega) ean
    ·obtain ⟨m,rfl,hm⟩:=Fre.end0 ha h5
     rw [Int.toNat_natCast] at he
     have k1:b=e.to:=by omega
     subst k2 k3
     have hbk:=I.esy.back he
     rw [<- k1] at hbk
     have hmn:m≠b:=I.esy.off hbk
     obtain ⟨p2,q2,h8,h9⟩:=h.way I.esy hC ha ean hmn h5
     refine Or.inr ⟨a,m,s,d,s'+e.s,d'+e.d,p2,q2,by rw [h.levO ean];exact ha,by rw [h.levO hmn];exact hm,up h1,(up h2).step (upn hbk hm),h8,?_⟩
     rw [h6,h7,val_both] at h4
     rw [val_both]
     omega
   ·obtain ⟨p2,q2,h8,h9⟩:=h.way I.esy hC ha ean ebn h3
    exact Or.inr ⟨a,b,s,d,s',d',p2,q2,by rw [h.levO ean];exact ha,by rw [h.levO ebn];exact hb,up h1,up h2,h8,by omega⟩
end
theorem Cov.rnd {L:List Nat}{t:Nat}{K:Int}(h0:0<=K){x y:Nat}{v:Int}:∀ {M:List Nat}{st st':LSt}{nr nr':Nat->Bool}{g:Bool},(∀ n ∈ M,n ∈ L)->All L t K st nr->Rnd t M st nr st' nr' g->Cov st x y v->Cov st' x y v
 |[],_,_,_,_,_,_,_,⟨h1,_,_⟩,c=>by rw [h1];exact c
 |n::_,st,_,_,_,_,hM,A,⟨st1,_,g1,_,h1,h2,_⟩,c=>by
  have c1:Cov st1 x y v:=by
   cases g1 with
   |false=>rw [h1.none];exact c
   |true=>exact c.turn A.lin (fun he=>A.bdd.pos he) h1
  exact Cov.rnd h0 (fun m hm=>hM m (List.mem_cons_of_mem _ hm)) (A.turn h0 (hM n (List.mem_cons_self ..)) h1) h2 c1
theorem Cov.rds {most:Nat}{L:List Nat}{K:Int}{st0:LSt}(hK:0<=K)(h0:Btw L 0 K st0){x y:Nat}{v:Int}(c:Cov st0 x y v):∀ {k:Nat}{st:LSt},Rds most L st0 k st->Cov st x y v
 |0,st,h=>by
  have e:st=st0:=h
  rw [e];exact c
 |k+1,_,⟨_,_,h1,_,h2⟩=>(Cov.rds hK h0 c h1).rnd (dbl_nonneg hK k) (fun _ h=>h) ((Btw.rds hK h0 h1).all (dbl_nonneg hK k)) h2
def LvE (lv:LSt) (r:Nat) (a b t u:Int):Prop:=∃ e ∈ lv.es a.toNat,b=(e.to:Int)/\t=e.s/\u=e.d/\lv.lev a.toNat+r<=lv.lev e.to
def GrE (es:Nat->List LE) (a b t u:Int):Prop:=∃ e ∈ es a.toNat,b=(e.to:Int)/\t=e.s/\u=e.d
theorem LvE.gr {lv:LSt}{r:Nat}{a b t u:Int}(h:LvE lv r a b t u):GrE lv.es a b t u:=by
 obtain ⟨e,h1,h2,h3,h4,_⟩:=h
 exact ⟨e,h1,h2,h3,h4⟩
theorem up_down {most k:Nat}{L:List Nat}{K:Int}{st0 st:LSt}(hK:0<=K)(h0:Btw L 0 K st0)(hz:∀ n,st0.lev n=0)(h:Rds most L st0 k st){x y:Nat}{s d:Int}(hw:Wg (GrE st0.es) (x:Int) (y:Int) s d) :
  ∃ (m:Nat) (s1 d1 s2 d2:Int),Wg (LvE ⟨endL (k+1) st,st.es⟩ 0) (x:Int) (m:Int) s1 d1/\Wg (LvE ⟨endL (k+1) st,st.es⟩ 1) (y:Int) (m:Int) s2 d2/\val s1 d1+val s2 d2<=val s d:=by
 have hF:Wg (Fre st0) (x:Int) (y:Int) s d:=hw.mono (fun a b t u ⟨e,h1,h2,h3,h4⟩=>⟨e,h1,h2,h3,h4,hz _⟩)
 have c0:Cov st0 x y (val s d):=Or.inr ⟨x,y,0,0,0,0,s,d,hz _,hz _,Wg.nil,Wg.nil,hF,by unfold val;omega⟩
 have c:=Cov.rds hK h0 c0 h
 have I:=(Btw.rds hK h0 h).lrd
 have up:∀ {a b t u:Int},UpE st a b t u->LvE ⟨endL (k+1) st,st.es⟩ 1 a b t u:=fun {a b t u} ⟨e,h1,h2,h3,h4,h5,h6⟩=>by
  refine ⟨e,h1,h2,h3,h4,?_⟩
  show endL (k+1) st a.toNat+1<=endL (k+1) st e.to
  have:=I.le a.toNat
  unfold endL
  rw [if_neg (show ¬ st.lev a.toNat=0 by omega)]
  split <;> omega
 have up0:∀ {a b t u:Int},LvE ⟨endL (k+1) st,st.es⟩ 1 a b t u->LvE ⟨endL (k+1) st,st.es⟩ 0 a b t u:=fun ⟨e,h1,h2,h3,h4,h5⟩=>⟨e,h1,h2,h3,h4,by omega⟩
 rcases c with ⟨m,p,q,p',q',h1,h2,h3⟩|⟨a,b,p,q,p',q',p1,q1,ha,hb,h1,h2,h3,h4⟩
 ·exact ⟨m,p,q,p',q',h1.mono (fun _ _ _ _ e=>up0 (up e)),h2.mono (fun _ _ _ _ e=>up e),h3⟩
 ·have key:=h3 (fun z s d=>∃ m:Nat,z=(m:Int)/\st.lev m=0/\Wg (LvE ⟨endL (k+1) st,st.es⟩ 0) (a:Int) z s d) ⟨a,rfl,ha,Wg.nil⟩ (fun z s d z' t u ⟨m,hm,m0,hx⟩ ⟨e,he,e1,e2,e3,e4⟩=>by
   subst hm
   refine ⟨e.to,e1,e4,hx.step ⟨e,he,e1,e2,e3,?_⟩⟩
   show endL (k+1) st (m:Int).toNat+0<=endL (k+1) st e.to
   rw [Int.toNat_natCast]
   unfold endL
   rw [if_pos m0,if_pos e4]
   omega)
  obtain ⟨_,_,_,hk⟩:=key
  refine ⟨b,p+p1,q+q1,p',q',(h1.mono (fun _ _ _ _ e=>up0 (up e))).trans hk,h2.mono (fun _ _ _ _ e=>up e),?_⟩
  rw [val_both]
  omega
theorem Prc.way {es:Nat->List LE}:∀ {x:Nat}{l:List Nat}{s d:Int}{y:Nat},Prc es (x::l) s d->(x::l).getLast? = some y->Wg (GrE es) (x:Int) (y:Int) s d
 |x,[],s,d,y,⟨h1,h2⟩,hl=>by
  have e:x=y:=by simpa using hl
  subst e
  rw [h1,h2];exact Wg.nil
 |x,z::l,s,d,y,⟨e,he,ht,h⟩,hl=>by
  have ih:=Prc.way h (by simpa using hl)
  have e1:GrE es (x:Int) (z:Int) e.s e.d:=⟨e,by rw [Int.toNat_natCast];exact he,by rw [ht],rfl,rfl⟩
  have:=(Wg.one e1).trans ih
  rwa [show e.s+(s - e.s)=s by omega,show e.d+(d - e.d)=d by omega] at this
end
section
open Go.RowKit
def Row (w:World) (v:Value) (n:Nat) (it:Nat->Item):Prop :=
 ∃ xs,w.ownsRow 0 263 3 v n xs/\∀ i,i<n->xs[i*3]? = some (.int .i64 (it i).id)/\xs[i*3+1]? = some (.int .i64 (it i).s)/\xs[i*3+2]? = some (.int .i64 (it i).d)
theorem Row.keep {F:Nat->Prop}{w w':World}{v:Value}{n:Nat}{it:Nat->Item}(h:Row w v n it)(hk:Keep F w w')(hn:∀ g,v.ownBlock=some g->¬ F g):Row w' v n it:=by
 obtain ⟨xs,ho,hx⟩:=h
 refine ⟨xs,⟨ho.1,?_⟩,hx⟩
 rcases ho.2 with hl|⟨g,cap,cur,rfl,hb,hgg,rest⟩
 ·exact .inl hl
 ·refine .inr ⟨g,cap,cur,rfl,hb,?_,rest⟩
  rw [hk.block g (Array.getElem?_eq_some_iff.1 hgg).1 (hn g rfl)]
  exact hgg
theorem Row.pos {w:World}{v:Value}{n:Nat}{it:Nat->Item}(h:Row w v n it)(hn:0<n):∃ g cap,v=.slice (some ⟨g,0,none⟩) n cap/\n<=cap/\cap<=maxLen/\g<w.heap.size:=by
 obtain ⟨xs,ho,hx⟩:=h
 rcases ho.2 with ⟨_,h0⟩|⟨g,cap,cur,rfl,hb,hgg,h1,h2,_⟩
 ·omega
 ·exact ⟨g,cap,rfl,h1,h2,(Array.getElem?_eq_some_iff.1 hgg).1⟩
theorem Row.cells {w:World}{g n cap:Nat}{it:Nat->Item}(h:Row w (.slice (some ⟨g,0,none⟩) n cap) n it){i:Nat}(hi:i<n) :
  w.cell? ⟨g,i*3,none⟩=some (.int .i64 (it i).id)/\w.cell? ⟨g,i*3+1,none⟩=some (.int .i64 (it i).s)/\w.cell? ⟨g,i*3+2,none⟩=some (.int .i64 (it i).d):=by
 obtain ⟨xs,ho,hx⟩:=h
 obtain ⟨h1,h2,h3⟩:=hx i hi
 exact ⟨(ho.cellAt _ (by omega)).trans h1,(ho.cellAt _ (by omega)).trans h2,(ho.cellAt _ (by omega)).trans h3⟩
theorem Row.free {w:World}{g n cap:Nat}{it:Nat->Item}(h:Row w (.slice (some ⟨g,0,none⟩) n cap) n it)(j:Nat):w.frozen? ⟨g,j,none⟩=false:=by
 obtain ⟨xs,ho,hx⟩:=h
 exact ho.frozenAt j
theorem Row.set {w:World}{g n cap:Nat}{it:Nat->Item}(h:Row w (.slice (some ⟨g,0,none⟩) n cap) n it){i:Nat}(hi:i<n)(x:Item) :
  Row (((w.setCell ⟨g,i*3,none⟩ (.int .i64 x.id)).setCell ⟨g,i*3+1,none⟩ (.int .i64 x.s)).setCell ⟨g,i*3+2,none⟩ (.int .i64 x.d)) (.slice (some ⟨g,0,none⟩) n cap) n (updI it i x):=by
 obtain ⟨xs,ho,hx⟩:=h
 have h1:=(ho.stored (i*3) (.int .i64 x.id)).1
 have h2:=(h1.stored (i*3+1) (.int .i64 x.s)).1
 have h3:=(h2.stored (i*3+2) (.int .i64 x.d)).1
 refine ⟨_,h3,fun k hk=>?_⟩
 have hl:xs.length=n*3:=ho.1
 by_cases e:k=i
 ·subst e
  rw [updI_i]
  simp [List.getElem?_set,hl]
  omega
 ·rw [updI_k it x e]
  obtain ⟨a1,a2,a3⟩:=hx k hk
  refine ⟨?_,?_,?_⟩
  ·rw [List.getElem?_set_ne (by omega),List.getElem?_set_ne (by omega),List.getElem?_set_ne (by omega)];exact a1
  ·rw [List.getElem?_set_ne (by omega),List.getElem?_set_ne (by omega),List.getElem?_set_ne (by omega)];exact a2
  ·rw [List.getElem?_set_ne (by omega),List.getElem?_set_ne (by omega),List.getElem?_set_ne (by omega)];exact a3
structure Rep (w:World) (b mb:Nat) (v:Value) (n:Nat) (it:Nat->Item) (f:Int->Option Value) (m:Nat):Prop where
 c0:w.cell? ⟨b,0,none⟩=some v
 c1:w.cell? ⟨b,1,none⟩=some (.map (some mb))
 f0:w.frozen? ⟨b,0,none⟩=false
 row:Row w v n it
 map:MapF Tryz.prog 3 w mb f m
 nb:v.ownBlock≠some b
theorem Tryz.under51:Tryz.prog.underlying 129=some (.map 3 3):=by kernel_rfl
theorem zero3 (w:World):(zeroValue 3).run Tryz.prog w=.ok (.int .i64 0) w:=by kernel_rfl
theorem Rep.blocks {w:World}{b mb n m:Nat}{v:Value}{it:Nat->Item}{f:Int->Option Value}(R:Rep w b mb v n it f m):b<w.heap.size/\mb<w.heap.size/\b≠mb/\∀ g,v.ownBlock=some g->g<w.heap.size/\g≠b/\g≠mb:=by
 have hb:b<w.heap.size:=World.block_lt_of_cell? w _ R.c0
 refine ⟨hb,R.map.lt,?_,fun g hg=>⟨?_,?_,?_⟩⟩
 ·intro e
  have h:=R.map.cell 0
  rw [<- e,R.c0] at h
  cases h
 ·obtain ⟨xs,ho,_⟩:=R.row
  exact (ho.lt g hg).2
 ·intro e;exact R.nb (by rw [hg,e])
 ·intro e
  obtain ⟨xs,ho,_⟩:=R.row
  obtain ⟨D,⟨es,clock,h1,_⟩,_⟩:=R.map
  rcases ho.2 with ⟨rfl,_⟩|⟨g',cap,cur,rfl,_,hgg,_⟩
  ·cases hg
  ·simp only [Value.ownBlock,Option.some.injEq] at hg
   rw [hg,e,h1] at hgg
   cases hgg
theorem Rep.keep {F:Nat->Prop}{w w':World}{b mb n m:Nat}{v:Value}{it:Nat->Item}{f:Int->Option Value}(R:Rep w b mb v n it f m)(hk:Keep F w w')(h1:¬ F b)(h2:¬ F mb)(h3:∀ g,v.ownBlock=some g->¬ F g):Rep w' b mb v n it f m:=by
 have hb:=R.blocks.1
 exact ⟨(hk.cell (p:=⟨b,0,none⟩) hb h1).trans R.c0,(hk.cell (p:=⟨b,1,none⟩) hb h1).trans R.c1,(hk.frozen (p:=⟨b,0,none⟩) hb h1).trans R.f0,R.row.keep hk h3,R.map.keep hk h2,R.nb⟩
theorem Rep.below {w w':World}{b mb n m:Nat}{v:Value}{it:Nat->Item}{f:Int->Option Value}(R:Rep w b mb v n it f m)(hb:Below w.heap.size w w'):Rep w' b mb v n it f m :=
 R.keep (F:=fun _=>False) (Keep.of_below hb) id id (fun _ _=>id)
set_option maxHeartbeats 1000000 in
theorem put_any {b mb g cap n m:Nat}{it:Nat->Item}{f:Int->Option Value}(i:Nat)(a s d:Int)(w:World)(R:Rep w b mb (.slice (some ⟨g,0,none⟩) n cap) n it f m)(hi:i<n)(hm:m<=1000000)(ha:(Lit.int .i64 a).wf=true) :
  Calls Tryz.prog 174 #[.pointer (some ⟨b,0,none⟩),.int .i64 i,.agg #[.int .i64 a,.int .i64 s,.int .i64 d]] w fun e w'=>e=.returned (.tuple #[])/\Rep w' b mb (.slice (some ⟨g,0,none⟩) n cap) n (updI it i ⟨a,s,d⟩) (putF f a (.int .i64 i)) (if (f a).isSome then m else m+1)/\Keep (fun k=>k=g\/k=mb) w w':=by
 obtain ⟨hb,hmb,hbm,hgs⟩:=R.blocks
 obtain ⟨hg,hgb,hgm⟩:=hgs g rfl
 obtain ⟨c0,c1,f0,row,map,nb⟩:=R
 obtain ⟨q1,q2,q3⟩:=row.cells hi
 have r1:=row.free (i*3)
 have r2:=row.free (i*3+1)
 have r3:=row.free (i*3+2)
 have hj:(i:Int)<(n:Int):=by omega
 have HW:∃ W1:World,W1=((((w.setCell ⟨g,i*3,none⟩ (.int .i64 a)).setCell ⟨g,i*3+1,none⟩ (.int .i64 s)).setCell ⟨g,i*3+2,none⟩ (.int .i64 d)).alloc (.cells #[.int .i64 a,.int .i64 s,.int .i64 d] 263)).drew /\
   Keep (fun k=>k=g) w W1/\Row W1 (.slice (some ⟨g,0,none⟩) n cap) n (updI it i ⟨a,s,d⟩)/\W1.cell? ⟨w.heap.size,0,none⟩=some (.int .i64 a)/\W1.heap.size=w.heap.size+1:=by
  have K0:Keep (fun k=>k=g) w (((w.setCell ⟨g,i*3,none⟩ (.int .i64 a)).setCell ⟨g,i*3+1,none⟩ (.int .i64 s)).setCell ⟨g,i*3+2,none⟩ (.int .i64 d)) :=
   (((Keep.refl (fun k=>k=g) w).setCell (p:=⟨g,i*3,none⟩) (fun _=>rfl) _).setCell (p:=⟨g,i*3+1,none⟩) (fun _=>rfl) _).setCell (p:=⟨g,i*3+2,none⟩) (fun _=>rfl) _
  refine ⟨_,rfl,(K0.alloc _).drew,?_,?_,?_⟩
  ·exact (row.set hi ⟨a,s,d⟩).keep (F:=fun _=>False) ((Keep.refl _ _).alloc _).drew (fun _ _=>id)
  ·exact World.cell?_alloc_at #[.int .i64 a,.int .i64 s,.int .i64 d] 263 w.heap.size 0 (by simp)
  ·simp
 obtain ⟨W1,eW,K1,row1,q0,hs1⟩:=HW
 have d1:W1.cell? ⟨b,1,none⟩=some (.map (some mb)):=(K1.cell (p:=⟨b,1,none⟩) hb (fun e=>hgb e.symm)).trans c1
 have map1:MapF Tryz.prog 3 W1.drew mb f m:=(map.keep K1 (fun e=>hgm e.symm)).kept rfl
 obtain ⟨w2,hrun,M2,T2⟩:=map1.store law3 Tryz.under51 (by unfold maxLen;omega) ha (.int .i64 i)
 have K2:=turned_keep T2
 have RR:Rep w2 b mb (.slice (some ⟨g,0,none⟩) n cap) n (updI it i ⟨a,s,d⟩) (putF f a (.int .i64 i)) (if (f a).isSome then m else m+1):=by
  refine ⟨?_,?_,?_,(row1.keep (F:=fun _=>False) (Keep.refl _ W1).drew (fun _ _=>id)).keep K2 (fun x hx=>?_),M2,nb⟩
  ·exact (K2.cell (p:=⟨b,0,none⟩) (by show b<W1.heap.size;omega) hbm).trans ((K1.cell (p:=⟨b,0,none⟩) hb (fun e=>hgb e.symm)).trans c0)
  ·exact (K2.cell (p:=⟨b,1,none⟩) (by show b<W1.heap.size;omega) hbm).trans d1
  ·exact (K2.frozen (p:=⟨b,0,none⟩) (by show b<W1.heap.size;omega) hbm).trans ((K1.frozen (p:=⟨b,0,none⟩) hb (fun e=>hgb e.symm)).trans f0)
  ·simp only [Value.ownBlock,Option.some.injEq] at hx
   rw [<- hx];exact hgm
 have KK:Keep (fun k=>k=g\/k=mb) w w2:=(K1.mono (fun _ _ h=>Or.inl h)).trans ((Keep.refl (fun k=>k=mb) W1).drew.trans K2 (fun _ _ h=>h)) (fun _ _ h=>Or.inr h)
 clear K1 row1 map1 M2 T2 K2 map row nb
 go_enter Tryz.func174,Tryz.ntmps174
 go_wp2
 go_region
 go_wp2
 rw [<- eW]
 clear eW q1 q2 q3 r1 r2 r3 c0 c1 f0
 go_region
 go_end0
 exact ⟨rfl,RR,KK⟩
end
section
open Go.RowKit
set_option maxHeartbeats 400000 in
theorem sqs_any (n:Int)(w:World)(h1:-8388608<=n)(h2:n<=8388608) :
  Calls Tryz.prog 237 #[.int .i64 n] w fun e w'=>e=.returned (.int .i64 (sqs n))/\w'=w:=by
 obtain ⟨b1,b2⟩:=mul_self_bd n h1 h2
 have e1:-n*n=-(n*n):=Int.neg_mul n n
 have b3:-70368744177664<=-n*n:=by omega
 have b4:-n*n<=0:=by omega
 clear e1
 by_cases h:n<0
 ·have e:sqs n=-n*n:=by unfold sqs;rw [if_pos h]
  rw [e];clear e
  go_enter Tryz.func237,Tryz.ntmps237
  go_wp2
  go_ret
  exact ⟨rfl,rfl⟩
 ·have e:sqs n=n*n:=by unfold sqs;rw [if_neg h]
  rw [e];clear e
  go_enter Tryz.func237,Tryz.ntmps237
  go_wp2
  go_ret
  exact ⟨rfl,rfl⟩
set_option maxHeartbeats 400000 in
theorem isnan_any (n:Int)(w:World) :
  Calls Tryz.prog 256 #[.int .i64 n] w fun e w'=>e=.returned (.bool false)/\w'=w:=by
 go_enter Tryz.func256,Tryz.ntmps256
 go_wp2
 go_ret
 exact ⟨rfl,rfl⟩
set_option maxHeartbeats 400000 in
theorem cmpI_any (a b:Int)(w:World) :
  Calls Tryz.prog 236 #[.int .i64 a,.int .i64 b] w fun e w'=>e=.returned (.int .i64 (cmpI a b))/\w'=w:=by
 by_cases h:a<b
 ·have e:cmpI a b=-1:=by unfold cmpI;rw [if_pos h]
  rw [e];clear e
  go_enter Tryz.func236,Tryz.ntmps236
  go_wp2_with (go_at_call 256;refine (isnan_any _ _).mono ?_;rintro e w' ⟨rfl,rfl⟩)
  go_ret
  exact ⟨rfl,rfl⟩
 ·by_cases h2:b<a
  ·have e:cmpI a b=1:=by unfold cmpI;rw [if_neg h,if_pos h2]
   rw [e];clear e
   go_enter Tryz.func236,Tryz.ntmps236
   go_wp2_with (go_at_call 256;refine (isnan_any _ _).mono ?_;rintro e w' ⟨rfl,rfl⟩)
   go_ret
   exact ⟨rfl,rfl⟩
  ·have e:cmpI a b=0:=by unfold cmpI;rw [if_neg h,if_neg h2]
   rw [e];clear e
   go_enter Tryz.func236,Tryz.ntmps236
   go_wp2_with (go_at_call 256;refine (isnan_any _ _).mono ?_;rintro e w' ⟨rfl,rfl⟩)
   go_ret
   exact ⟨rfl,rfl⟩
set_option maxHeartbeats 400000 in
theorem compare_any (s d t u:Int)(w:World)(h:okC s d)(k:okC t u) :
  Calls Tryz.prog 205 #[.agg #[.int .i64 s,.int .i64 d],.agg #[.int .i64 t,.int .i64 u]] w fun e w'=>e=.returned (.int .i64 (cmpC s d t u))/\Below w.heap.size w w':=by
 obtain ⟨h1,h2,h3,h4⟩:=h
 obtain ⟨k1,k2,k3,k4⟩:=k
 have b:=sqs_bd (u - d) (by omega) (by omega)
 go_enter Tryz.func205,Tryz.ntmps205
 go_wp2_with (first|(go_at_call 237;refine (sqs_any _ _ ?_ ?_).mono ?_;(omega);(omega);rintro e w' ⟨rfl,rfl⟩)|(go_at_call 236;refine (cmpI_any _ _ _).mono ?_;rintro e w' ⟨rfl,rfl⟩))
 go_ret
 exact ⟨rfl,((Below.refl _ _).alloc (Nat.le_refl _) _).alloc (by simp) _⟩
set_option maxHeartbeats 400000 in
theorem less_any (s d t u:Int)(w:World)(h:okC s d)(k:okC t u) :
  Calls Tryz.prog 178 #[.agg #[.int .i64 s,.int .i64 d],.agg #[.int .i64 t,.int .i64 u]] w fun e w'=>e=.returned (.bool (decide (cmpC s d t u<0)))/\Below w.heap.size w w':=by
 go_enter Tryz.func178,Tryz.ntmps178
 go_wp2_with (go_at_call 205;refine (compare_any s d t u _ h k).mono ?_;rintro e w' ⟨rfl,hb⟩)
 go_ret
 exact ⟨rfl,((Below.refl _ _).alloc (Nat.le_refl _) _).alloc (by simp) _ |>.trans (hb.mono (by simp;omega))⟩
theorem less_v {s d t u:Int}{r:Bool}(hr:ltB s d t u=r)(w:World)(h:okC s d)(k:okC t u) :
  Calls Tryz.prog 178 #[.agg #[.int .i64 s,.int .i64 d],.agg #[.int .i64 t,.int .i64 u]] w fun e w'=>e=.returned (.bool r)/\Below w.heap.size w w':=hr ▸ less_any s d t u w h k
theorem compare_v {s d t u r:Int}(hr:cmpC s d t u=r)(w:World)(h:okC s d)(k:okC t u) :
  Calls Tryz.prog 205 #[.agg #[.int .i64 s,.int .i64 d],.agg #[.int .i64 t,.int .i64 u]] w fun e w'=>e=.returned (.int .i64 r)/\Below w.heap.size w w':=hr ▸ compare_any s d t u w h k
end
end Go.Proofs.YtmaefimaeelkbaaGreatDoor
