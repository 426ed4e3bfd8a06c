/-
  Texts laid together: LevR, LevU, LevP, LevQ.
-/
import Derived.Test.YtipbhlofbpnpjaaGreatDoorQ16
namespace Go.Proofs.YtipbhlofbpnpjaaGreatDoor
section
structure Lrd (k:Nat) (st:LSt):Prop where
 esy:Esy st.es
 le:∀ n,st.lev n<=k
 apart:∀ {a e},e ∈ st.es a->0 < st.lev a->st.lev e.to≠st.lev a
 mid:∀ {a e},e ∈ st.es a->0<=e.mid->0 < st.lev e.mid.toNat/\(st.lev a=0\/st.lev e.mid.toNat < st.lev a)
 sum:∀ {a e},e ∈ st.es a->0<=e.mid->∃ e1 ∈ st.es a,e1.to=e.mid.toNat/\∃ e2 ∈ st.es e.mid.toNat,e2.to=e.to/\e.s=e1.s+e2.s/\e.d=e1.d+e2.d
theorem Lrd.lin {k:Nat}{st:LSt}(h:Lrd k st):Lin (k+1) st (fun _=>false) :=
 ⟨h.esy,Nat.succ_pos k,fun n=>Nat.le_succ_of_le (h.le n),fun _ h=>(by cases h),fun {a e} _ h1 _=>absurd h1 (by have:=h.le a;omega),h.apart,h.mid,fun {a e} _ _ h1=>absurd h1 (by have:=h.le e.mid.toNat;omega),h.sum⟩
theorem Lin.lrd {t:Nat}{st:LSt}{nr:Nat->Bool}(h:Lin t st nr):Lrd t st:=⟨h.esy,h.le,h.apart,h.mid,h.sum⟩
theorem Lin.rnd {t:Nat}:∀ {L:List Nat}{st st':LSt}{nr nr':Nat->Bool}{g:Bool},Lin t st nr->Rnd t L st nr st' nr' g->Lin t st' nr'
 | [],_,_,_,_,_,h,⟨h1,h2,_⟩=>by rw [h1,h2];exact h
 | _::_,_,_,_,_,_,h,⟨_,_,_,_,h1,h2,_⟩=>(h.turn h1).rnd h2
theorem Turn.none {t n:Nat}{st st':LSt}{nr nr':Nat->Bool}(h:Turn t n st nr st' nr' false):st'=st:=by
 rcases h with ⟨_,h,_⟩ | ⟨_,_,_,⟨_,h,_⟩ | ⟨_,_,_,h⟩⟩
 ·exact h
 ·exact h
 ·cases h
theorem Rnd.none {t:Nat}:∀ {L:List Nat}{st st':LSt}{nr nr':Nat->Bool},Rnd t L st nr st' nr' false->st'=st
 | [],_,_,_,_,⟨h,_⟩=>h
 | _::_,_,_,_,_,⟨_,_,g1,g2,h1,h2,h3⟩=>by
   cases g1 with
   | true=>cases h3
   | false =>
     cases g2 with
     | true=>cases h3
     | false=>exact h2.none.trans h1.none
theorem Lrd.rds {most:Nat}{L:List Nat}{st0:LSt}(h0:Lrd 0 st0):∀ {k:Nat}{st:LSt},Rds most L st0 k st->Lrd k st
 | 0,st,h=>by
   have e:st=st0:=h
   rw [e];exact h0
 | _+1,_,⟨_,_,h1,_,h2⟩=>((Lrd.rds h0 h1).lin.rnd h2).lrd
theorem Lrd.start {st:LSt}(hE:Esy st.es) (h0:∀ n,st.lev n=0) (hm:∀ {a e},e ∈ st.es a->e.mid < 0):Lrd 0 st :=
 ⟨hE,fun n=>Nat.le_of_eq (h0 n),fun {a e} _ h=>absurd h (by rw [h0];omega),fun he h=>absurd h (by have:=hm he;omega),fun he h=>absurd h (by have:=hm he;omega)⟩
def endL (T:Nat) (st:LSt) (n:Nat):Nat:=if st.lev n=0 then T else st.lev n
section
variable {k : Nat} {st : LSt}
theorem Lrd.end_le (h:Lrd k st) (n:Nat):1<=endL (k+1) st n/\endL (k+1) st n<=k+1:=by
 unfold endL
 have:=h.le n
 split <;> omega
theorem Lrd.end_mid (h:Lrd k st) {a:Nat}{e:LE}(he:e ∈ st.es a) (h0:0<=e.mid):endL (k+1) st e.mid.toNat < endL (k+1) st a/\endL (k+1) st e.mid.toNat < endL (k+1) st e.to:=by
 have key:∀ {a:Nat}{e:LE},e ∈ st.es a->0<=e.mid->endL (k+1) st e.mid.toNat < endL (k+1) st a:=fun {a e} he h0=>by
  obtain ⟨m1,m2⟩:=h.mid he h0
  have hm:=h.le e.mid.toNat
  unfold endL
  rw [if_neg (show ¬ st.lev e.mid.toNat=0 by omega)]
  by_cases e1:st.lev a=0
  ·rw [if_pos e1];omega
  ·rw [if_neg e1];omega
 exact ⟨key he h0,key (e:=⟨a,e.s,e.d,e.mid⟩) (h.esy.back he) h0⟩
end
end
section
theorem Turn.own {top n:Nat}{st st':LSt}{nr nr':Nat->Bool}{g:Bool}(h:Turn top n st nr st' nr' g) (hE:Esy st.es) {a:Nat}{e:LE}(he:e ∈ st'.es a) (hm:e.mid < 0):e ∈ st.es a:=by
 rcases h with ⟨_,rfl,_⟩ | ⟨_,p,_,⟨_,rfl,_⟩ | ⟨_,rfl,_⟩⟩
 ·exact he
 ·exact he
 ·have hfe:=fun {x:Nat × LE}(hx:x ∈ moreF p n (feF st n))=>moreF_mem (feF_ord (hE.ord n)) hx
  have hne:∀ x ∈ moreF p n (feF st n),x.1≠x.2.to:=fun x hx=>by
   obtain ⟨a,_,b,_,h3,_,rfl⟩:=hfe hx
   exact Nat.ne_of_lt h3
  rcases (layAll_mem hE hne).2 a e he with h | ⟨x,hx,h⟩
  ·exact h
  ·obtain ⟨u,_,v,_,_,_,rfl⟩:=hfe hx
   rcases h with ⟨_,rfl⟩ | ⟨_,rfl⟩
   ·exact absurd hm (show ¬ ((n:Nat):Int) < 0 by omega)
   ·exact absurd hm (show ¬ ((n:Nat):Int) < 0 by omega)
theorem Rnd.own {t:Nat}:∀ {L:List Nat}{st st':LSt}{nr nr':Nat->Bool}{g:Bool},Rnd t L st nr st' nr' g->Esy st.es->∀ {a:Nat}{e:LE},e ∈ st'.es a->e.mid < 0->e ∈ st.es a
 | [],_,_,_,_,_,⟨h,_⟩,_,_,_,he,_=>by rw [<- h];exact he
 | _::_,_,_,_,_,_,⟨_,_,_,_,h1,h2,_⟩,hE,_,_,he,hm=>h1.own hE (h2.own (h1.esy hE) he hm) hm
theorem Rds.own {most:Nat}{L:List Nat}{st0:LSt}(h0:Lrd 0 st0):∀ {k:Nat}{st:LSt},Rds most L st0 k st->∀ {a:Nat}{e:LE},e ∈ st.es a->e.mid < 0->e ∈ st0.es a
 | 0,st,h,_,_,he,_=>by
   have e:st=st0:=h
   rw [<- e];exact he
 | _+1,_,⟨_,_,h1,_,h2⟩,_,_,he,hm=>Rds.own h0 h1 (h2.own (Lrd.rds h0 h1).esy he hm) hm
def Unp (es:Nat->List LE):Nat->Nat->Nat->List Nat->Prop
 | 0,_,_,_=>False
 | f+1,a,b,way=>∃ e ∈ es a,e.to=b/\((e.mid < 0/\way=[a,b])\/(0<=e.mid/\∃ w1 w2,Unp es f a e.mid.toNat w1/\Unp es f e.mid.toNat b w2/\way=w1++w2.tail))
theorem Unp.one {es:Nat->List LE}(h:Esy es):∀ {f g a b:Nat}{w w':List Nat},Unp es f a b w->Unp es g a b w'->w=w'
 | 0,_,_,_,_,_,h1,_=>h1.elim
 | _+1,0,_,_,_,_,_,h2=>h2.elim
 | f+1,g+1,a,b,w,w',⟨e,he,ht,h1⟩,⟨e',he',ht',h2⟩=>by
   have ee:e=e':=(h.ord a).one he he' (ht.trans ht'.symm)
   subst ee
   rcases h1 with ⟨_,h1⟩ | ⟨m1,u1,u2,p1,p2,p3⟩
   ·rcases h2 with ⟨_,h2⟩ | ⟨m2,_⟩
    ·exact h1.trans h2.symm
    ·omega
   ·rcases h2 with ⟨m2,_⟩ | ⟨_,v1,v2,q1,q2,q3⟩
    ·omega
    ·rw [p3,q3,Unp.one h p1 q1,Unp.one h p2 q2]
def Prc (es:Nat->List LE):List Nat->Int->Int->Prop
 | [],_,_=>False
 | [_],s,d=>s=0/\d=0
 | x::y::l,s,d=>∃ e ∈ es x,e.to=y/\Prc es (y::l) (s - e.s) (d - e.d)
theorem Prc.join {es:Nat->List LE}{m:Nat}{l2:List Nat}{s2 d2:Int}(h2:Prc es (m::l2) s2 d2):∀ {x:Nat}{l1:List Nat}{s1 d1:Int},Prc es (x::l1) s1 d1->(x::l1).getLast? = some m->Prc es ((x::l1)++l2) (s1+s2) (d1+d2)
 | x,[],s1,d1,⟨h1,h3⟩,hl=>by
   have e:x=m:=by simpa using hl
   subst e
   rw [h1,h3,Int.zero_add,Int.zero_add]
   exact h2
 | x,y::l1,s1,d1,⟨e,he,ht,h1⟩,hl=>by
   have ih:=Prc.join h2 h1 (by simpa using hl)
   refine ⟨e,he,ht,?_⟩
   rw [show s1+s2 - e.s=s1 - e.s+s2 by omega,show d1+d2 - e.d=d1 - e.d+d2 by omega]
   exact ih
theorem unpack {k:Nat}{st:LSt}{es0:Nat->List LE}(h:Lrd k st) (hown:∀ {a e},e ∈ st.es a->e.mid < 0->e ∈ es0 a):∀ (f a:Nat) (e:LE),e ∈ st.es a->min (endL (k+1) st a) (endL (k+1) st e.to)<=f ->
  ∃ way l,Unp st.es f a e.to way/\way=a::l/\l≠[]/\way.getLast? = some e.to/\Prc es0 way e.s e.d
 | 0,a,e,_,hf=>by
   have h1:=(h.end_le a).1
   have h2:=(h.end_le e.to).1
   omega
 | f+1,a,e,he,hf=>by
   by_cases hm:e.mid < 0
   ·exact ⟨[a,e.to],[e.to],⟨e,he,rfl,Or.inl ⟨hm,rfl⟩⟩,rfl,by simp,rfl,⟨e,hown he hm,rfl,by omega,by omega⟩⟩
   ·have hm:0<=e.mid:=by omega
    obtain ⟨g1,g2⟩:=h.end_mid he hm
    obtain ⟨e1,f1,f2,e2,f3,f4,f5,f6⟩:=h.sum he hm
    obtain ⟨w1,l1,a1,a2,a3,a4,a5⟩:=unpack h hown f a e1 f1 (by rw [f2];omega)
    obtain ⟨w2,l2,b1,b2,b3,b4,b5⟩:=unpack h hown f e.mid.toNat e2 f3 (by rw [f4];omega)
    rw [f2] at a1 a4
    rw [f4] at b1 b4
    subst a2 b2
    refine ⟨(a::l1)++l2,l1++l2,⟨e,he,rfl,Or.inr ⟨hm,_,_,a1,b1,rfl⟩⟩,rfl,fun h=>a3 (List.append_eq_nil_iff.1 h).1,?_,?_⟩
    ·rw [List.getLast?_append]
     cases l2 with
     | nil=>exact absurd rfl b3
     | cons y l2 =>
       have:(y::l2).getLast? = some e.to:=by simpa using b4
       rw [this];rfl
    ·rw [f5,f6]
     exact Prc.join b5 a5 a4
end
section
def Dif (x y:Nat × LE):Prop:=¬ (x.1=y.1/\x.2.to=y.2.to)/\¬ (x.1=y.2.to/\x.2.to=y.1)
theorem moreF_dif {p:LE->LE->Bool}{n:Nat}:∀ {l:List LE},Rsg l->(moreF p n l).Pairwise Dif
 | [],_=>List.Pairwise.nil
 | a::l,hl=>by
   unfold moreF
   rw [List.pairwise_append]
   refine ⟨?_,moreF_dif hl.tail,fun x hx y hy=>?_⟩
   ·rw [List.pairwise_map]
    refine (hl.tail.filter _).imp (fun {b c} hbc=>⟨fun h=>?_,fun h=>?_⟩)
    ·have h2:b.to=c.to:=h.2
     omega
    ·have h1:a.to=c.to:=h.1
     have h2:b.to=a.to:=h.2
     omega
   ·obtain ⟨b,hb,rfl⟩:=List.mem_map.1 hx
    obtain ⟨u,hu,v,hv,huv,_,rfl⟩:=moreF_mem hl.tail hy
    have k1:=hl.head u hu
    have k2:=hl.head v hv
    exact ⟨fun h=>by have h1:a.to=u.to:=h.1;omega,fun h=>by have h1:a.to=v.to:=h.1;omega⟩
theorem layAll_new:∀ {l:List (Nat × LE)}{es:Nat->List LE},Esy es->(∀ x ∈ l,x.1≠x.2.to)->l.Pairwise Dif->∀ x ∈ l,x.2 ∈ layAll es l x.1/\(⟨x.1,x.2.s,x.2.d,x.2.mid⟩:LE) ∈ layAll es l x.2.to
 | [],_,_,_,_,x,hx=>by cases hx
 | y::l,es,hE,hn,hd,x,hx=>by
   have hy:=hn y (List.mem_cons_self ..)
   have hE1:Esy (lay2 es y):=hE.lay2 hy
   have hn1:∀ x ∈ l,x.1≠x.2.to:=fun x hx=>hn x (List.mem_cons_of_mem _ hx)
   obtain ⟨hd1,hd2⟩:=List.pairwise_cons.1 hd
   rcases List.mem_cons.1 hx with rfl | hx
   ·refine ⟨layAll_stay hE1 hn1 ((lay2_mem hE hy _ _).2 (Or.inl ⟨rfl,rfl⟩)) (fun z hz=>?_),layAll_stay hE1 hn1 ((lay2_mem hE hy _ _).2 (Or.inr (Or.inl ⟨rfl,rfl⟩))) (fun z hz=>?_)⟩
    ·exact ⟨(hd1 z hz).1,(hd1 z hz).2⟩
    ·exact ⟨fun h=>(hd1 z hz).2 ⟨h.2,h.1⟩,fun h=>(hd1 z hz).1 ⟨h.2,h.1⟩⟩
   ·exact layAll_new hE1 hn1 hd2 x hx
theorem moreF_has {p:LE->LE->Bool}{n:Nat}:∀ {l:List LE}{a b:LE},a ∈ l->b ∈ l->a.to < b.to->Rsg l->p a b=true->(a.to,(⟨b.to,a.s+b.s,a.d+b.d,(n:Int)⟩:LE)) ∈ moreF p n l
 | [],_,_,h,_,_,_,_=>by cases h
 | x::l,a,b,ha,hb,hlt,hl,hp=>by
   unfold moreF
   rw [List.mem_append]
   rcases List.mem_cons.1 ha with rfl | ha'
   ·rcases List.mem_cons.1 hb with rfl | hb'
    ·omega
    ·exact Or.inl (List.mem_map.2 ⟨b,List.mem_filter.2 ⟨hb',hp⟩,rfl⟩)
   ·rcases List.mem_cons.1 hb with rfl | hb'
    ·have:=hl.head a ha';omega
    ·exact Or.inr (moreF_has ha' hb' hlt hl.tail hp)
theorem EdR.turn {st:LSt}{n:Nat}{a b:Nat}{s d:Int}(hE:Esy st.es) (h:Wg (EdR st n) (a:Int) (b:Int) s d) (h0:st.lev a=0) (hn:a≠n):Wg (EdR st n) (b:Int) (a:Int) s d:=by
 have key:=h (fun x s d=>∃ m:Nat,x=(m:Int)/\st.lev m=0/\m≠n/\Wg (EdR st n) x (a:Int) s d) ⟨a,rfl,h0,hn,Wg.nil⟩ (fun x s d y t u ⟨m,hm,m0,mn,hx⟩ ⟨e,he,e1,e2,e3,e4,e5⟩=>by
  subst hm
  rw [Int.toNat_natCast] at he
  refine ⟨e.to,e1,e4,e5,?_⟩
  have hb:=hE.back he
  have e6:EdR st n y (m:Int) t u:=⟨⟨m,e.s,e.d,e.mid⟩,by rw [e1,Int.toNat_natCast];exact hb,rfl,e2,e3,m0,mn⟩
  have:=(Wg.one e6).trans hx
  rwa [Int.add_comm t,Int.add_comm u] at this)
 obtain ⟨_,_,_,_,h⟩:=key
 exact h
def Fre (st:LSt) (a b t u:Int):Prop:=∃ e ∈ st.es a.toNat,b=(e.to:Int)/\t=e.s/\u=e.d/\st.lev e.to=0
def Cst (es:Nat->List LE):Prop:=∀ {a e},e ∈ es a->0<=e.s/\0<=e.d
theorem Turn.edge {top n:Nat}{st st':LSt}{nr nr':Nat->Bool}(h:Turn top n st nr st' nr' true) (hE:Esy st.es) {a:Nat}{e:LE}(he:e ∈ st.es a) (h0:st.lev a=0) (h1:st.lev e.to=0) (ha:a≠n) (hb:e.to≠n):∃ e' ∈ st'.es a,e'.to=e.to/\val e'.s e'.d<=val e.s e.d:=by
 rcases h with ⟨_,_,_,h⟩ | ⟨_,p,hp,⟨_,_,_,h⟩ | ⟨_,rfl,_⟩⟩
 ·cases h
 ·cases h
 ·have hfe:=fun {x:Nat × LE}(hx:x ∈ moreF p n (feF st n))=>moreF_mem (feF_ord (hE.ord n)) hx
  have hne:∀ x ∈ moreF p n (feF st n),x.1≠x.2.to:=fun x hx=>by
   obtain ⟨a,_,b,_,h3,_,rfl⟩:=hfe hx
   exact Nat.ne_of_lt h3
  have hnew:=layAll_new hE hne (moreF_dif (feF_ord (hE.ord n)))
  -- a needed one between them is cheaper than what was there
  have less:∀ {u v:LE},p u v=true->∀ {x:Nat}{q:LE},q ∈ st.es x->x=u.to->q.to=v.to->st.lev q.to=0->q.to≠n->val (u.s+v.s) (u.d+v.d)<=val q.s q.d:=fun {u v} hpv {x q} hq hx hq2 hq3 hq4=>by
   have hnd:=(hp u v).1 hpv
   by_cases hle:val q.s q.d<=val (u.s+v.s) (u.d+v.d)
   ·exfalso
    refine hnd ⟨q.s,q.d,?_,hle⟩
    have e1:EdR st n (u.to:Int) (v.to:Int) q.s q.d:=⟨q,by rw [Int.toNat_natCast,<- hx];exact hq,by rw [hq2],rfl,rfl,hq3,hq4⟩
    exact Wg.one e1
   ·omega
  by_cases hx:∃ x ∈ moreF p n (feF st n),(a=x.1/\e.to=x.2.to)\/(a=x.2.to/\e.to=x.1)
  ·obtain ⟨x,hx,hc⟩:=hx
   obtain ⟨n1,n2⟩:=hnew x hx
   obtain ⟨u,hu,v,hv,huv,hpv,rfl⟩:=hfe hx
   rcases hc with ⟨rfl,c2⟩ | ⟨rfl,c2⟩
   ·exact ⟨_,n1,c2.symm,less hpv he rfl c2 h1 hb⟩
   ·have hbk:=hE.back he
    rw [c2] at hbk
    exact ⟨_,n2,c2.symm,less (q:=⟨v.to,e.s,e.d,e.mid⟩) hpv hbk rfl rfl h0 ha⟩
  ·refine ⟨e,layAll_stay hE hne he (fun x hx'=>⟨fun h=>hx ⟨x,hx',Or.inl h⟩,fun h=>hx ⟨x,hx',Or.inr h⟩⟩),rfl,Int.le_refl _⟩
theorem Turn.over {top n:Nat}{st st':LSt}{nr nr':Nat->Bool}(h:Turn top n st nr st' nr' true) (hE:Esy st.es) (hC:Cst st.es) {a b:LE}(ha:a ∈ st.es n) (hb:b ∈ st.es n) (ha0:st.lev a.to=0) (hb0:st.lev b.to=0) :
  (∃ p q,Wg (EdR st n) (a.to:Int) (b.to:Int) p q/\val p q<=val (a.s+b.s) (a.d+b.d))\/∃ e ∈ st'.es a.to,e.to=b.to/\val e.s e.d<=val (a.s+b.s) (a.d+b.d):=by
 have hfa:=feF_mem.2 ⟨ha,ha0⟩
 have hfb:=feF_mem.2 ⟨hb,hb0⟩
 rcases h with ⟨_,_,_,h⟩ | ⟨_,p,hp,⟨_,_,_,h⟩ | ⟨_,rfl,_⟩⟩
 ·cases h
 ·cases h
 ·have hfe:=fun {x:Nat × LE}(hx:x ∈ moreF p n (feF st n))=>moreF_mem (feF_ord (hE.ord n)) hx
  have hne:∀ x ∈ moreF p n (feF st n),x.1≠x.2.to:=fun x hx=>by
   obtain ⟨a,_,b,_,h3,_,rfl⟩:=hfe hx
   exact Nat.ne_of_lt h3
  have hnew:=layAll_new hE hne (moreF_dif (feF_ord (hE.ord n)))
  rcases Nat.lt_trichotomy a.to b.to with hlt | heq | hlt
  ·cases hpv:p a b with
   | true=>exact Or.inr ⟨_,(hnew _ (moreF_has hfa hfb hlt (feF_ord (hE.ord n)) hpv)).1,rfl,Int.le_refl _⟩
   | false =>
     refine Or.inl (Classical.byContradiction fun hno=>?_)
     have:=(hp a b).2 hno
     rw [hpv] at this;cases this
  ·left
   obtain ⟨c1,c2⟩:=hC ha
   obtain ⟨c3,c4⟩:=hC hb
   exact ⟨0,0,by rw [heq];exact Wg.nil,by unfold val;omega⟩
  ·cases hpv:p b a with
   | true=>exact Or.inr ⟨_,(hnew _ (moreF_has hfb hfa hlt (feF_ord (hE.ord n)) hpv)).2,rfl,by rw [Int.add_comm a.s,Int.add_comm a.d];exact Int.le_refl _⟩
   | false =>
     have hex:∃ p q,Wg (EdR st n) (b.to:Int) (a.to:Int) p q/\val p q<=val (b.s+a.s) (b.d+a.d):=Classical.byContradiction fun hno=>by
      have:=(hp b a).2 hno
      rw [hpv] at this;cases this
     obtain ⟨s,d,h1,h2⟩:=hex
     refine Or.inl ⟨s,d,?_,by rw [Int.add_comm a.s,Int.add_comm a.d];exact h2⟩
     exact EdR.turn hE h1 hb0 (hE.off hb)
end
section
theorem val_both (s d t u:Int):val (s+t) (d+u)=val s d+val t u:=by unfold val;omega
theorem Turn.levQ {top n:Nat}{st st':LSt}{nr nr':Nat->Bool}(h:Turn top n st nr st' nr' true) {k:Nat}(hk:k≠n):st'.lev k=st.lev k:=by
 rcases h with ⟨_,_,_,h⟩ | ⟨_,p,hp,⟨_,_,_,h⟩ | ⟨_,rfl,_⟩⟩
 ·cases h
 ·cases h
 ·exact if_neg hk
section
variable {top n : Nat} {st st' : LSt} {nr nr' : Nat → Bool}
theorem EdR.next (h:Turn top n st nr st' nr' true) (hE:Esy st.es) {a b:Nat}{s d:Int}(h0:st.lev a=0) (hn:a≠n) (hw:Wg (EdR st n) (a:Int) (b:Int) s d):∃ s' d',Wg (Fre st') (a:Int) (b:Int) s' d'/\val s' d'<=val s d:=by
 have key:=hw (fun x s d=>∃ m:Nat,x=(m:Int)/\st.lev m=0/\m≠n/\∃ s' d',Wg (Fre st') (a:Int) x s' d'/\val s' d'<=val s d) ⟨a,rfl,h0,hn,0,0,Wg.nil,Int.le_refl _⟩ (fun x s d y t u ⟨m,hm,m0,mn,s',d',hx,hv⟩ ⟨e,he,e1,e2,e3,e4,e5⟩=>by
  subst hm
  rw [Int.toNat_natCast] at he
  obtain ⟨e',f1,f2,f3⟩:=h.edge hE he m0 e4 mn e5
  refine ⟨e.to,e1,e4,e5,s'+e'.s,d'+e'.d,hx.step ⟨e',by rw [Int.toNat_natCast];exact f1,by rw [e1,f2],rfl,rfl,by rw [f2,h.levQ e5];exact e4⟩,?_⟩
  rw [val_both,val_both,e2,e3]
  omega)
 obtain ⟨_,_,_,_,k⟩:=key
 exact k
theorem Turn.way (h:Turn top n st nr st' nr' true) (hE:Esy st.es) (hC:Cst st.es) {o b:Nat}{s d:Int}(ho:st.lev o=0) (hon:o≠n) (hbn:b≠n) (hw:Wg (Fre st) (o:Int) (b:Int) s d):∃ s' d',Wg (Fre st') (o:Int) (b:Int) s' d'/\val s' d'<=val s d:=by
 have key:=hw (fun x s d=>∃ m:Nat,x=(m:Int)/\st.lev m=0/\((m≠n/\∃ s' d',Wg (Fre st') (o:Int) (m:Int) s' d'/\val s' d'<=val s d)\/(m=n/\∃ y ∈ st.es n,st.lev y.to=0/\∃ s' d',Wg (Fre st') (o:Int) (y.to:Int) s' d'/\val s' d'+val y.s y.d<=val s d)))
  ⟨o,rfl,ho,Or.inl ⟨hon,0,0,Wg.nil,Int.le_refl _⟩⟩ (fun x s d z t u ⟨m,hm,m0,hx⟩ ⟨e,he,e1,e2,e3,e4⟩=>by
   subst hm
   rw [Int.toNat_natCast] at he
   refine ⟨e.to,e1,e4,?_⟩
   rcases hx with ⟨mn,s',d',hx,hv⟩ | ⟨mn,y,hy,hy0,s',d',hx,hv⟩
   ·by_cases en:e.to=n
    ·right
     have hb:=hE.back he
     rw [en] at hb
     refine ⟨en,⟨m,e.s,e.d,e.mid⟩,hb,m0,s',d',hx,?_⟩
     rw [val_both,e2,e3]
     show val s' d'+val e.s e.d<=_
     omega
    ·left
     obtain ⟨e',f1,f2,f3⟩:=h.edge hE he m0 e4 mn en
     refine ⟨en,s'+e'.s,d'+e'.d,hx.step ⟨e',by rw [Int.toNat_natCast];exact f1,by rw [f2],rfl,rfl,by rw [f2,h.levQ en];exact e4⟩,?_⟩
     rw [val_both,val_both,e2,e3]
     omega
   ·left
    subst mn
    have en:=hE.off he
    have yn:=hE.off hy
    refine ⟨en,?_⟩
    rcases h.over hE hC hy he hy0 e4 with ⟨p,q,h1,h2⟩ | ⟨e',f1,f2,f3⟩
    ·obtain ⟨p',q',h3,h4⟩:=EdR.next h hE hy0 yn h1
     refine ⟨s'+p',d'+q',hx.trans h3,?_⟩
     rw [val_both] at h2
     rw [val_both,val_both,e2,e3]
     omega
    ·refine ⟨s'+e'.s,d'+e'.d,hx.step ⟨e',by rw [Int.toNat_natCast];exact f1,by rw [f2],rfl,rfl,by rw [f2,h.levQ en];exact e4⟩,?_⟩
     rw [val_both] at f3
     rw [val_both,val_both,e2,e3]
     omega)
 obtain ⟨m,hm,_,hx⟩:=key
 have e:b=m:=by omega
 subst e
 rcases hx with ⟨_,k⟩ | ⟨k,_⟩
 ·exact k
 ·exact absurd k hbn
end
end
end Go.Proofs.YtipbhlofbpnpjaaGreatDoor
