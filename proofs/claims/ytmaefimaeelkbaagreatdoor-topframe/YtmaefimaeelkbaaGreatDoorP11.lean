/-
  Texts laid together: LevL, LevS, LevI, LevT, LevR, LevU.
-/
import Derived.Test.YtmaefimaeelkbaaGreatDoorP10
namespace Go.Proofs.YtmaefimaeelkbaaGreatDoor
section
structure LE where
 to:Nat
 s:Int
 d:Int
 mid:Int
def Rsg (l:List LE):Prop:=l.Pairwise (fun a b=>a.to<b.to)
def layF (x:LE):List LE->List LE
 |[]=>[x]
 |y::l=>if x.to<y.to then x::y::l else if x.to=y.to then x::l else y::layF x l
theorem Rsg.tail {y:LE}{l:List LE}(h:Rsg (y::l)):Rsg l:=(List.pairwise_cons.1 h).2
theorem Rsg.head {y:LE}{l:List LE}(h:Rsg (y::l)):∀ e ∈ l,y.to<e.to:=(List.pairwise_cons.1 h).1
theorem layF_mem {x:LE}:∀ {l:List LE},Rsg l->∀ e,e ∈ layF x l↔e=x\/(e ∈ l/\e.to≠x.to)
 |[],_,e=>by simp [layF]
 |y::l,h,e=>by
  have ih:=layF_mem (x:=x) h.tail e
  unfold layF
  by_cases h1:x.to<y.to
  ·rw [if_pos h1,List.mem_cons]
   refine or_congr_right ⟨fun he=>⟨he,?_⟩,fun he=>he.1⟩
   rcases List.mem_cons.1 he with rfl|he
   ·omega
   ·have:=h.head e he
    omega
  ·rw [if_neg h1]
   by_cases h2:x.to=y.to
   ·rw [if_pos h2,List.mem_cons]
    refine or_congr_right ⟨fun he=>⟨List.mem_cons_of_mem _ he,?_⟩,fun ⟨he,hn⟩=>?_⟩
    ·have:=h.head e he
     omega
    ·rcases List.mem_cons.1 he with rfl|he
     ·exact absurd h2.symm hn
     ·exact he
   ·rw [if_neg h2,List.mem_cons,ih,List.mem_cons]
    constructor
    ·rintro (rfl|h3|⟨h3,h4⟩)
     ·exact Or.inr ⟨Or.inl rfl,fun e=>h2 e.symm⟩
     ·exact Or.inl h3
     ·exact Or.inr ⟨Or.inr h3,h4⟩
    ·rintro (h3|⟨h3|h3,h4⟩)
     ·exact Or.inr (Or.inl h3)
     ·exact Or.inl h3
     ·exact Or.inr (Or.inr ⟨h3,h4⟩)
theorem layF_ord {x:LE}:∀ {l:List LE},Rsg l->Rsg (layF x l)
 |[],_=>List.pairwise_singleton _ _
 |y::l,h=>by
  have ih:=layF_ord (x:=x) h.tail
  unfold layF
  by_cases h1:x.to<y.to
  ·rw [if_pos h1]
   refine List.pairwise_cons.2 ⟨fun e he=>?_,h⟩
   rcases List.mem_cons.1 he with rfl|he
   ·exact h1
   ·have:=h.head e he
    omega
  ·rw [if_neg h1]
   by_cases h2:x.to=y.to
   ·rw [if_pos h2]
    exact List.pairwise_cons.2 ⟨fun e he=>by have:=h.head e he;omega,h.tail⟩
   ·rw [if_neg h2]
    refine List.pairwise_cons.2 ⟨fun e he=>?_,ih⟩
    rcases (layF_mem h.tail e).1 he with rfl|⟨he,_⟩
    ·omega
    ·exact h.head e he
theorem Rsg.one {l:List LE}(h:Rsg l){e e':LE}(h1:e ∈ l)(h2:e' ∈ l)(ht:e.to=e'.to):e=e':=by
 induction l with
 |nil=>cases h1
 |cons y l ih =>
  rcases List.mem_cons.1 h1 with rfl|a
  ·rcases List.mem_cons.1 h2 with b|b
   ·exact b.symm
   ·have:=h.head e' b;omega
  ·rcases List.mem_cons.1 h2 with rfl|b
   ·have:=h.head e a;omega
   ·exact ih h.tail a b
end
section
structure LSt where
 lev:Nat->Nat
 es:Nat->List LE
def EdR (st:LSt) (n:Nat) (a b t u:Int):Prop:=∃ e ∈ st.es a.toNat,b=(e.to:Int)/\t=e.s/\u=e.d/\st.lev e.to=0/\e.to≠n
def Need (st:LSt) (n:Nat) (a b:LE):Prop:=¬ ∃ p q,Wg (EdR st n) (a.to:Int) (b.to:Int) p q/\val p q<=val (a.s+b.s) (a.d+b.d)
def feF (st:LSt) (n:Nat):List LE:=(st.es n).filter (fun e=>st.lev e.to == 0)
def moreF (p:LE->LE->Bool) (n:Nat):List LE->List (Nat × LE)
 |[]=>[]
 |a::l=>(l.filter (p a)).map (fun b=>(a.to,⟨b.to,a.s+b.s,a.d+b.d,(n:Int)⟩))++moreF p n l
def putE (es:Nat->List LE) (n:Nat) (l:List LE):Nat->List LE:=fun k=>if k=n then l else es k
def lay2 (es:Nat->List LE) (x:Nat × LE):Nat->List LE :=
 putE (putE es x.1 (layF x.2 (es x.1))) x.2.to (layF ⟨x.1,x.2.s,x.2.d,x.2.mid⟩ (putE es x.1 (layF x.2 (es x.1)) x.2.to))
def layAll (es:Nat->List LE) (l:List (Nat × LE)):Nat->List LE:=l.foldl lay2 es
def Turn (top n:Nat) (st:LSt) (nr:Nat->Bool) (st':LSt) (nr':Nat->Bool) (got:Bool):Prop :=
 ((0<st.lev n\/nr n=true)/\st'=st/\nr'=nr/\got=false) \/
 (¬ (0<st.lev n\/nr n=true)/\∃ p:LE->LE->Bool,(∀ a b,p a b=true↔Need st n a b) /\
  (((feF st n).length<(moreF p n (feF st n)).length/\st'=st/\nr'=nr/\got=false) \/
   (¬ (feF st n).length<(moreF p n (feF st n)).length/\st'=⟨fun k=>if k=n then top else st.lev k,layAll st.es (moreF p n (feF st n))⟩/\nr'=(fun k=>nr k || (feF st n).any (fun e=>e.to == k))/\got=true)))
theorem Turn.one {top n:Nat}{st st1 st2:LSt}{nr nr1 nr2:Nat->Bool}{g1 g2:Bool}(h1:Turn top n st nr st1 nr1 g1)(h2:Turn top n st nr st2 nr2 g2):st1=st2/\nr1=nr2/\g1=g2:=by
 rcases h1 with ⟨a1,a2,a3,a4⟩|⟨a1,p,hp,h1⟩
 ·rcases h2 with ⟨_,b2,b3,b4⟩|⟨b1,_⟩
  ·exact ⟨a2.trans b2.symm,a3.trans b3.symm,a4.trans b4.symm⟩
  ·exact absurd a1 b1
 ·rcases h2 with ⟨b1,_⟩|⟨_,q,hq,h2⟩
  ·exact absurd b1 a1
  ·have e:p=q:=funext fun a=>funext fun b=>by
    have h:=(hp a b).trans (hq a b).symm
    cases hx:p a b with
    |true=>exact (h.1 hx).symm
    |false =>
     cases hy:q a b with
     |true=>rw [h.2 hy] at hx;cases hx
     |false=>rfl
   subst e
   rcases h1 with ⟨c1,c2,c3,c4⟩|⟨c1,c2,c3,c4⟩
   ·rcases h2 with ⟨_,d2,d3,d4⟩|⟨d1,_⟩
    ·exact ⟨c2.trans d2.symm,c3.trans d3.symm,c4.trans d4.symm⟩
    ·exact absurd c1 d1
   ·rcases h2 with ⟨d1,_⟩|⟨_,d2,d3,d4⟩
    ·exact absurd d1 c1
    ·exact ⟨c2.trans d2.symm,c3.trans d3.symm,c4.trans d4.symm⟩
def Rnd (top:Nat):List Nat->LSt->(Nat->Bool)->LSt->(Nat->Bool)->Bool->Prop
 |[],st,nr,st',nr',got=>st'=st/\nr'=nr/\got=false
 |n::L,st,nr,st',nr',got=>∃ st1 nr1 g1 g2,Turn top n st nr st1 nr1 g1/\Rnd top L st1 nr1 st' nr' g2/\got=(g1 || g2)
theorem Rnd.one {top:Nat}:∀ {L:List Nat}{st st1 st2:LSt}{nr nr1 nr2:Nat->Bool}{g1 g2:Bool},Rnd top L st nr st1 nr1 g1->Rnd top L st nr st2 nr2 g2->st1=st2/\nr1=nr2/\g1=g2
 |[],_,_,_,_,_,_,_,_,⟨a1,a2,a3⟩,⟨b1,b2,b3⟩=>⟨a1.trans b1.symm,a2.trans b2.symm,a3.trans b3.symm⟩
 |_::_,_,_,_,_,_,_,_,_,⟨sa,na,ga,ha,a1,a2,a3⟩,⟨sb,nb,gb,hb,b1,b2,b3⟩=>by
  obtain ⟨rfl,rfl,rfl⟩:=a1.one b1
  obtain ⟨rfl,rfl,rfl⟩:=a2.one b2
  exact ⟨rfl,rfl,a3.trans b3.symm⟩
theorem Rnd.snoc {top n:Nat}{st2:LSt}{nr2:Nat->Bool}{g2:Bool}:∀ {L:List Nat}{st st1:LSt}{nr nr1:Nat->Bool}{g1:Bool},Rnd top L st nr st1 nr1 g1->Turn top n st1 nr1 st2 nr2 g2->Rnd top (L++[n]) st nr st2 nr2 (g1 || g2)
 |[],st,st1,nr,nr1,g1,⟨a1,a2,a3⟩,h=>by
  subst a1 a2 a3
  exact ⟨st2,nr2,g2,false,h,⟨rfl,rfl,rfl⟩,by cases g2 <;> rfl⟩
 |_::_,st,st1,nr,nr1,g1,⟨sa,na,ga,ha,a1,a2,a3⟩,h=>⟨sa,na,ga,ha || g2,a1,a2.snoc h,by rw [a3,Bool.or_assoc]⟩
def Rds (most:Nat) (L:List Nat) (st0:LSt):Nat->LSt->Prop
 |0,st=>st=st0
 |k+1,st=>∃ st1 nr',Rds most L st0 k st1/\k+1<most/\Rnd (k+1) L st1 (fun _=>false) st nr' true
theorem Rds.one {most:Nat}{L:List Nat}{st0:LSt}:∀ {k:Nat}{st1 st2:LSt},Rds most L st0 k st1->Rds most L st0 k st2->st1=st2
 |0,_,_,h1,h2=>Eq.trans h1 (Eq.symm h2)
 |_+1,_,_,⟨a,_,a1,_,a3⟩,⟨b,_,b1,_,b3⟩=>by
  have e:=Rds.one a1 b1
  subst e
  exact (a3.one b3).1
theorem Rds.less {most:Nat}{L:List Nat}{st0:LSt}{k:Nat}:∀ {j:Nat}{st:LSt},Rds most L st0 (k+j) st->∃ st',Rds most L st0 k st'
 |0,st,h=>⟨st,h⟩
 |_+1,_,⟨_,_,h,_,_⟩=>h.less
def Over (most:Nat) (L:List Nat) (k:Nat) (st:LSt):Prop:=most<=k+1\/∃ st' nr',Rnd (k+1) L st (fun _=>false) st' nr' false
theorem rounds_one {most:Nat}{L:List Nat}{st0:LSt}{k k':Nat}{st st':LSt}(h:Rds most L st0 k st)(ho:Over most L k st)(h':Rds most L st0 k' st')(ho':Over most L k' st'):k=k'/\st=st':=by
 have key:∀ {k j:Nat}{st st':LSt},Rds most L st0 k st->Over most L k st->¬ Rds most L st0 (k+1+j) st':=fun {k j st st'} h ho h'=>by
  obtain ⟨st2,a,nr2,a1,a2,a3⟩:=h'.less
  have e:=Rds.one a1 h
  subst e
  rcases ho with ho|⟨s3,n3,b⟩
  ·omega
  ·exact absurd (a3.one b).2.2 (by decide)
 have e:k=k':=by
  rcases Nat.lt_trichotomy k k' with hlt|e|hlt
  ·obtain ⟨j,rfl⟩:∃ j,k'=k+1+j:=⟨k' - (k+1),by omega⟩
   exact absurd h' (key h ho)
  ·exact e
  ·obtain ⟨j,rfl⟩:∃ j,k=k'+1+j:=⟨k - (k'+1),by omega⟩
   exact absurd h (key h' ho')
 subst e
 exact ⟨rfl,Rds.one h h'⟩
end
section
structure Esy (es:Nat->List LE):Prop where
 ord:∀ n,Rsg (es n)
 back:∀ {a e},e ∈ es a->(⟨a,e.s,e.d,e.mid⟩:LE) ∈ es e.to
 off:∀ {a e},e ∈ es a->e.to≠a
section
variable {es : Nat → List LE} {a b n : Nat} {s d m : Int}
theorem putE_at (l:List LE):putE es n l n=l:=if_pos rfl
theorem putE_off {k:Nat}(l:List LE)(h:k≠n):putE es n l k=es k:=if_neg h
theorem lay2_a (h:a≠b):lay2 es (a,⟨b,s,d,m⟩) a=layF ⟨b,s,d,m⟩ (es a):=by
 unfold lay2
 rw [putE_off _ h,putE_at]
theorem lay2_b (h:a≠b):lay2 es (a,⟨b,s,d,m⟩) b=layF ⟨a,s,d,m⟩ (es b):=by
 unfold lay2
 rw [putE_at,putE_off _ (Ne.symm h)]
theorem lay2_off {k:Nat}(h1:k≠a)(h2:k≠b):lay2 es (a,⟨b,s,d,m⟩) k=es k:=by
 unfold lay2
 rw [putE_off _ h2,putE_off _ h1]
theorem lay2_mem (h:Esy es)(hab:a≠b)(k:Nat)(e:LE):e ∈ lay2 es (a,⟨b,s,d,m⟩) k↔(k=a/\e=⟨b,s,d,m⟩)\/(k=b/\e=⟨a,s,d,m⟩)\/(e ∈ es k/\¬ (k=a/\e.to=b)/\¬ (k=b/\e.to=a)):=by
 by_cases h1:k=a
 ·subst h1
  rw [lay2_a hab,layF_mem (h.ord k)]
  constructor
  ·rintro (h2|⟨h2,h3⟩)
   ·exact Or.inl ⟨rfl,h2⟩
   ·exact Or.inr (Or.inr ⟨h2,fun h=>h3 h.2,fun h=>hab h.1⟩)
  ·rintro (⟨_,h2⟩|⟨h2,_⟩|⟨h2,h3,_⟩)
   ·exact Or.inl h2
   ·exact absurd h2 hab
   ·exact Or.inr ⟨h2,fun h=>h3 ⟨rfl,h⟩⟩
 ·by_cases h2:k=b
  ·subst h2
   rw [lay2_b hab,layF_mem (h.ord k)]
   constructor
   ·rintro (h2|⟨h2,h3⟩)
    ·exact Or.inr (Or.inl ⟨rfl,h2⟩)
    ·exact Or.inr (Or.inr ⟨h2,fun h=>h1 h.1,fun h=>h3 h.2⟩)
   ·rintro (⟨h2,_⟩|⟨_,h2⟩|⟨h2,_,h3⟩)
    ·exact absurd h2 h1
    ·exact Or.inl h2
    ·exact Or.inr ⟨h2,fun h=>h3 ⟨rfl,h⟩⟩
  ·rw [lay2_off h1 h2]
   constructor
   ·exact fun he=>Or.inr (Or.inr ⟨he,fun h=>h1 h.1,fun h=>h2 h.1⟩)
   ·rintro (⟨h3,_⟩|⟨h3,_⟩|⟨h3,_⟩)
    ·exact absurd h3 h1
    ·exact absurd h3 h2
    ·exact h3
theorem Esy.lay2 (h:Esy es)(hab:a≠b):Esy (lay2 es (a,⟨b,s,d,m⟩)):=by
 refine ⟨fun k=>?_,fun {k e} he=>?_,fun {k e} he=>?_⟩
 ·by_cases h1:k=a
  ·subst h1;rw [lay2_a hab];exact layF_ord (h.ord k)
  ·by_cases h2:k=b
   ·subst h2;rw [lay2_b hab];exact layF_ord (h.ord k)
   ·rw [lay2_off h1 h2];exact h.ord k
 ·rw [lay2_mem h hab] at he ⊢
  rcases he with ⟨rfl,rfl⟩|⟨rfl,rfl⟩|⟨h1,h2,h3⟩
  ·exact Or.inr (Or.inl ⟨rfl,rfl⟩)
  ·exact Or.inl ⟨rfl,rfl⟩
  ·exact Or.inr (Or.inr ⟨h.back h1,fun h=>h3 ⟨h.2,h.1⟩,fun h=>h2 ⟨h.2,h.1⟩⟩)
 ·rw [lay2_mem h hab] at he
  rcases he with ⟨rfl,rfl⟩|⟨rfl,rfl⟩|⟨h1,_⟩
  ·exact Ne.symm hab
  ·exact hab
  ·exact h.off h1
end
theorem moreF_mem {p:LE->LE->Bool}{n:Nat}:∀ {l:List LE},Rsg l->∀ {x:Nat × LE},x ∈ moreF p n l->∃ a ∈ l,∃ b ∈ l,a.to<b.to/\p a b=true/\x=(a.to,⟨b.to,a.s+b.s,a.d+b.d,(n:Int)⟩)
 |[],_,x,h=>by cases h
 |a::l,hl,x,h=>by
  unfold moreF at h
  rcases List.mem_append.1 h with h|h
  ·obtain ⟨b,hb,rfl⟩:=List.mem_map.1 h
   obtain ⟨hb1,hb2⟩:=List.mem_filter.1 hb
   exact ⟨a,List.mem_cons_self ..,b,List.mem_cons_of_mem _ hb1,hl.head b hb1,hb2,rfl⟩
  ·obtain ⟨a',h1,b',h2,h3⟩:=moreF_mem hl.tail h
   exact ⟨a',List.mem_cons_of_mem _ h1,b',List.mem_cons_of_mem _ h2,h3⟩
theorem feF_mem {st:LSt}{n:Nat}{e:LE}:e ∈ feF st n↔e ∈ st.es n/\st.lev e.to=0:=by
 unfold feF
 rw [List.mem_filter,beq_iff_eq]
theorem feF_ord {st:LSt}{n:Nat}(h:Rsg (st.es n)):Rsg (feF st n):=h.filter _
theorem layAll_kept {P:(Nat->List LE)->Prop}:∀ {l:List (Nat × LE)}{es:Nat->List LE},P es->(∀ x ∈ l,∀ es,P es->P (lay2 es x))->P (layAll es l)
 |[],_,h,_=>h
 |x::l,es,h,hs=>layAll_kept (l:=l) (es:=lay2 es x) (hs x (List.mem_cons_self ..) es h) (fun y hy=>hs y (List.mem_cons_of_mem _ hy))
theorem Turn.esy {top n:Nat}{st st':LSt}{nr nr':Nat->Bool}{g:Bool}(h:Turn top n st nr st' nr' g)(hE:Esy st.es):Esy st'.es:=by
 rcases h with ⟨_,rfl,_⟩|⟨_,p,_,h⟩
 ·exact hE
 ·rcases h with ⟨_,rfl,_⟩|⟨_,rfl,_⟩
  ·exact hE
  ·refine layAll_kept hE (fun x hx es he=>?_)
   obtain ⟨a,_,b,_,h3,_,rfl⟩:=moreF_mem (feF_ord (hE.ord n)) hx
   exact he.lay2 (Nat.ne_of_lt h3)
end
section
theorem layAll_mem {es:Nat->List LE}{l:List (Nat × LE)}(hE:Esy es)(hl:∀ x ∈ l,x.1≠x.2.to) :
  Esy (layAll es l)/\∀ k e,e ∈ layAll es l k->e ∈ es k\/∃ x ∈ l,(k=x.1/\e=x.2)\/(k=x.2.to/\e=⟨x.1,x.2.s,x.2.d,x.2.mid⟩):=by
 refine layAll_kept (P:=fun es'=>Esy es'/\∀ k e,e ∈ es' k->e ∈ es k\/∃ x ∈ l,(k=x.1/\e=x.2)\/(k=x.2.to/\e=⟨x.1,x.2.s,x.2.d,x.2.mid⟩)) ⟨hE,fun k e he=>Or.inl he⟩ (fun x hx es' ⟨h1,h2⟩=>?_)
 have hn:=hl x hx
 refine ⟨h1.lay2 hn,fun k e he=>?_⟩
 rcases (lay2_mem h1 hn k e).1 he with ⟨h3,h4⟩|⟨h3,h4⟩|⟨h3,_⟩
 ·exact Or.inr ⟨x,hx,Or.inl ⟨h3,h4⟩⟩
 ·exact Or.inr ⟨x,hx,Or.inr ⟨h3,h4⟩⟩
 ·exact h2 k e h3
theorem layAll_stay {es:Nat->List LE}{l:List (Nat × LE)}(hE:Esy es)(hl:∀ x ∈ l,x.1≠x.2.to){k:Nat}{e:LE}(he:e ∈ es k)(hn:∀ x ∈ l,¬ (k=x.1/\e.to=x.2.to)/\¬ (k=x.2.to/\e.to=x.1)):e ∈ layAll es l k :=
 (layAll_kept (P:=fun es'=>Esy es'/\e ∈ es' k) ⟨hE,he⟩ (fun x hx _ ⟨h1,h2⟩=>⟨h1.lay2 (hl x hx),(lay2_mem h1 (hl x hx) k e).2 (Or.inr (Or.inr ⟨h2,(hn x hx).1,(hn x hx).2⟩))⟩)).2
structure Lin (t:Nat) (st:LSt) (nr:Nat->Bool):Prop where
 esy:Esy st.es
 pos:0<t
 le:∀ n,st.lev n<=t
 no:∀ n,nr n=true->st.lev n=0
 cut:∀ {a e},e ∈ st.es a->st.lev a=t->st.lev e.to=0->nr e.to=true
 apart:∀ {a e},e ∈ st.es a->0<st.lev a->st.lev e.to≠st.lev a
 mid:∀ {a e},e ∈ st.es a->0<=e.mid->0<st.lev e.mid.toNat/\(st.lev a=0\/st.lev e.mid.toNat<st.lev a)
 new:∀ {a e},e ∈ st.es a->0<=e.mid->st.lev e.mid.toNat=t->nr a=true
 sum:∀ {a e},e ∈ st.es a->0<=e.mid->∃ e1 ∈ st.es a,e1.to=e.mid.toNat/\∃ e2 ∈ st.es e.mid.toNat,e2.to=e.to/\e.s=e1.s+e2.s/\e.d=e1.d+e2.d
theorem Lin.turn {t n:Nat}{st st':LSt}{nr nr':Nat->Bool}{g:Bool}(L:Lin t st nr)(h:Turn t n st nr st' nr' g):Lin t st' nr':=by
 rcases h with ⟨_,rfl,rfl,_⟩|⟨hn,p,_,h⟩
 ·exact L
 ·rcases h with ⟨_,rfl,rfl,_⟩|⟨_,rfl,rfl,_⟩
  ·exact L
  ·have hn0:st.lev n=0:=by
    rcases Nat.eq_zero_or_pos (st.lev n) with h|h
    ·exact h
    ·exact absurd (Or.inl h) hn
   have hnn:nr n≠true:=fun h=>hn (Or.inr h)
   have hfe:=fun {x:Nat × LE}(hx:x ∈ moreF p n (feF st n))=>moreF_mem (feF_ord (L.esy.ord n)) hx
   have hne:∀ x ∈ moreF p n (feF st n),x.1≠x.2.to:=fun x hx=>by
    obtain ⟨a,_,b,_,h3,_,rfl⟩:=hfe hx
    exact Nat.ne_of_lt h3
   -- ends of what is laid: of no level, near now, not n
   have ends:∀ x ∈ moreF p n (feF st n),(st.lev x.1=0/\x.1≠n/\(feF st n).any (fun e=>e.to == x.1)=true)/\(st.lev x.2.to=0/\x.2.to≠n/\(feF st n).any (fun e=>e.to == x.2.to)=true):=fun x hx=>by
    obtain ⟨a,ha,b,hb,_,_,rfl⟩:=hfe hx
    have ha':=feF_mem.1 ha
    have hb':=feF_mem.1 hb
    exact ⟨⟨ha'.2,show a.to≠n from L.esy.off ha'.1,List.any_eq_true.2 ⟨a,ha,beq_self_eq_true _⟩⟩,⟨hb'.2,show b.to≠n from L.esy.off hb'.1,List.any_eq_true.2 ⟨b,hb,beq_self_eq_true _⟩⟩⟩
   obtain ⟨hE',hmem⟩:=layAll_mem (l:=moreF p n (feF st n)) L.esy hne
   have hstay:=fun {k:Nat}{e:LE}(he:e ∈ st.es k) (hk:k=n\/e.to=n\/0<st.lev k\/0<st.lev e.to)=>layAll_stay L.esy hne he (fun x hx=>by
    obtain ⟨⟨a1,a2,_⟩,⟨b1,b2,_⟩⟩:=ends x hx
    constructor
    ·rintro ⟨h1,h2⟩
     rcases hk with h|h|h|h
     ·exact a2 (h1.symm.trans h)
     ·exact b2 (h2.symm.trans h)
     ·rw [h1,a1] at h;exact Nat.lt_irrefl _ h
     ·rw [h2,b1] at h;exact Nat.lt_irrefl _ h
    ·rintro ⟨h1,h2⟩
     rcases hk with h|h|h|h
     ·exact b2 (h1.symm.trans h)
     ·exact a2 (h2.symm.trans h)
     ·rw [h1,b1] at h;exact Nat.lt_irrefl _ h
     ·rw [h2,a1] at h;exact Nat.lt_irrefl _ h)
   -- an edge is an elder one, or its ends are of no level, near, and it leads over n
   have split:∀ k e,e ∈ layAll st.es (moreF p n (feF st n)) k->e ∈ st.es k\/(k≠n/\st.lev k=0/\e.to≠n/\st.lev e.to=0/\(feF st n).any (fun e=>e.to == k)=true/\e.mid=n/\∃ e1 ∈ st.es n,e1.to=k/\∃ e2 ∈ st.es n,e2.to=e.to/\e.s=e1.s+e2.s/\e.d=e1.d+e2.d):=fun k e he=>by
    rcases hmem k e he with h|⟨x,hx,h⟩
    ·exact Or.inl h
    ·obtain ⟨⟨a1,a2,a3⟩,⟨b1,b2,b3⟩⟩:=ends x hx
     obtain ⟨a,ha,b,hb,_,_,rfl⟩:=hfe hx
     have ha':=(feF_mem.1 ha).1
     have hb':=(feF_mem.1 hb).1
     rcases h with ⟨rfl,rfl⟩|⟨rfl,rfl⟩
     ·exact Or.inr ⟨a2,a1,b2,b1,a3,rfl,a,ha',rfl,b,hb',rfl,rfl,rfl⟩
     ·exact Or.inr ⟨b2,b1,a2,a1,b3,rfl,b,hb',rfl,a,ha',rfl,Int.add_comm _ _,Int.add_comm _ _⟩
   have lv:∀ k,k≠n->(if k=n then t else st.lev k)=st.lev k:=fun k hk=>if_neg hk
   have lvn:(if n=n then t else st.lev n)=t:=if_pos rfl
   have hpos:=L.pos
   refine ⟨hE',L.pos,fun k=>?_,fun k hk=>?_,fun {a e} he h1 h2=>?_,fun {a e} he h1=>?_,fun {a e} he h1=>?_,fun {a e} he h1 h2=>?_,fun {a e} he h1=>?_⟩
   ·show (if k=n then t else st.lev k)<=t
    split
    ·exact Nat.le_refl _
    ·exact L.le k
   ·show (if k=n then t else st.lev k)=0
    rcases Bool.or_eq_true .. ▸ hk with hk|hk
    ·rw [lv k (fun e=>hnn (e ▸ hk))];exact L.no k hk
    ·obtain ⟨e,he,hek⟩:=List.any_eq_true.1 hk
     have hek:e.to=k:=beq_iff_eq.1 hek
     obtain ⟨g1,g2⟩:=feF_mem.1 he
     rw [lv k (fun e'=>L.esy.off g1 (hek.trans e')),<- hek];exact g2
   ·show (nr e.to || (feF st n).any (fun x=>x.to == e.to))=true
    have q1:(if a=n then t else st.lev a)=t:=h1
    have q2:(if e.to=n then t else st.lev e.to)=0:=h2
    have hen:e.to≠n:=fun e'=>by rw [if_pos e'] at q2;omega
    rw [lv _ hen] at q2
    rcases split a e he with hd|⟨g1,g2,_⟩
    ·by_cases ea:a=n
     ·subst ea
      rw [Bool.or_eq_true]
      exact Or.inr (List.any_eq_true.2 ⟨e,feF_mem.2 ⟨hd,q2⟩,beq_self_eq_true _⟩)
     ·rw [lv a ea] at q1
      rw [L.cut hd q1 q2];rfl
    ·rw [lv a g1,g2] at q1;omega
   ·show (if e.to=n then t else st.lev e.to)≠(if a=n then t else st.lev a)
    have h1:0<(if a=n then t else st.lev a):=h1
    rcases split a e he with hd|⟨g1,g2,_⟩
    ·by_cases ea:a=n
     ·subst ea
      rw [lvn,lv _ (L.esy.off hd)]
      intro h3
      exact hnn (L.cut (L.esy.back hd) h3 hn0)
     ·rw [lv a ea] at h1 ⊢
      by_cases eb:e.to=n
      ·rw [if_pos eb]
       intro h3
       have:=L.cut hd h3.symm (by rw [eb];exact hn0)
       rw [eb] at this
       exact hnn this
      ·rw [lv _ eb]
       exact L.apart hd h1
    ·rw [lv a g1,g2] at h1;omega
   ·show 0<(if e.mid.toNat=n then t else st.lev e.mid.toNat)/\((if a=n then t else st.lev a)=0\/(if e.mid.toNat=n then t else st.lev e.mid.toNat)<(if a=n then t else st.lev a))
    rcases split a e he with hd|⟨g1,g2,_,_,_,g3,_⟩
    ·obtain ⟨m1,m2⟩:=L.mid hd h1
     have hmn:e.mid.toNat≠n:=fun e'=>by rw [e',hn0] at m1;omega
     rw [lv _ hmn]
     refine ⟨m1,?_⟩
     by_cases ea:a=n
     ·subst ea
      rw [lvn]
      right
      have h3:=L.le e.mid.toNat
      have h4:st.lev e.mid.toNat≠t:=fun h=>hnn (L.new hd h1 h)
      omega
     ·rw [lv a ea];exact m2
    ·have hmn:e.mid.toNat=n:=by rw [g3];rfl
     rw [if_pos hmn,lv a g1]
     exact ⟨L.pos,Or.inl g2⟩
   ·show (nr a || (feF st n).any (fun x=>x.to == a))=true
    have h2:(if e.mid.toNat=n then t else st.lev e.mid.toNat)=t:=h2
    rcases split a e he with hd|⟨_,_,_,_,g3,_⟩
    ·obtain ⟨m1,_⟩:=L.mid hd h1
     have hmn:e.mid.toNat≠n:=fun e'=>by rw [e',hn0] at m1;omega
     rw [lv _ hmn] at h2
     rw [L.new hd h1 h2];rfl
    ·rw [g3];exact Bool.or_true _
   ·rcases split a e he with hd|⟨g1,g2,_,_,_,g3,e1,f1,f2,e2,f3,f4,f5,f6⟩
    ·obtain ⟨m1,_⟩:=L.mid hd h1
     obtain ⟨e1,f1,f2,e2,f3,f4,f5,f6⟩:=L.sum hd h1
     exact ⟨e1,hstay f1 (Or.inr (Or.inr (Or.inr (by rw [f2];exact m1)))),f2,e2,hstay f3 (Or.inr (Or.inr (Or.inl m1))),f4,f5,f6⟩
    ·have hmn:e.mid.toNat=n:=by rw [g3];rfl
     rw [hmn]
     have hb:=L.esy.back f1
     rw [f2] at hb
     exact ⟨_,hstay hb (Or.inr (Or.inl rfl)),rfl,e2,hstay f3 (Or.inl rfl),f4,f5,f6⟩
end
section
structure Lrd (k:Nat) (st:LSt):Prop where
 esy:Esy st.es
 le:∀ n,st.lev n<=k
 apart:∀ {a e},e ∈ st.es a->0<st.lev a->st.lev e.to≠st.lev a
 mid:∀ {a e},e ∈ st.es a->0<=e.mid->0<st.lev e.mid.toNat/\(st.lev a=0\/st.lev e.mid.toNat<st.lev a)
 sum:∀ {a e},e ∈ st.es a->0<=e.mid->∃ e1 ∈ st.es a,e1.to=e.mid.toNat/\∃ e2 ∈ st.es e.mid.toNat,e2.to=e.to/\e.s=e1.s+e2.s/\e.d=e1.d+e2.d
theorem Lrd.lin {k:Nat}{st:LSt}(h:Lrd k st):Lin (k+1) st (fun _=>false) :=
 ⟨h.esy,Nat.succ_pos k,fun n=>Nat.le_succ_of_le (h.le n),fun _ h=>(by cases h),fun {a e} _ h1 _=>absurd h1 (by have:=h.le a;omega),h.apart,h.mid,fun {a e} _ _ h1=>absurd h1 (by have:=h.le e.mid.toNat;omega),h.sum⟩
theorem Lin.lrd {t:Nat}{st:LSt}{nr:Nat->Bool}(h:Lin t st nr):Lrd t st:=⟨h.esy,h.le,h.apart,h.mid,h.sum⟩
theorem Lin.rnd {t:Nat}:∀ {L:List Nat}{st st':LSt}{nr nr':Nat->Bool}{g:Bool},Lin t st nr->Rnd t L st nr st' nr' g->Lin t st' nr'
 |[],_,_,_,_,_,h,⟨h1,h2,_⟩=>by rw [h1,h2];exact h
 |_::_,_,_,_,_,_,h,⟨_,_,_,_,h1,h2,_⟩=>(h.turn h1).rnd h2
theorem Turn.none {t n:Nat}{st st':LSt}{nr nr':Nat->Bool}(h:Turn t n st nr st' nr' false):st'=st:=by
 rcases h with ⟨_,h,_⟩|⟨_,_,_,⟨_,h,_⟩|⟨_,_,_,h⟩⟩
 ·exact h
 ·exact h
 ·cases h
theorem Rnd.none {t:Nat}:∀ {L:List Nat}{st st':LSt}{nr nr':Nat->Bool},Rnd t L st nr st' nr' false->st'=st
 |[],_,_,_,_,⟨h,_⟩=>h
 |_::_,_,_,_,_,⟨_,_,g1,g2,h1,h2,h3⟩=>by
  cases g1 with
  |true=>cases h3
  |false =>
   cases g2 with
   |true=>cases h3
   |false=>exact h2.none.trans h1.none
theorem Lrd.rds {most:Nat}{L:List Nat}{st0:LSt}(h0:Lrd 0 st0):∀ {k:Nat}{st:LSt},Rds most L st0 k st->Lrd k st
 |0,st,h=>by
  have e:st=st0:=h
  rw [e];exact h0
 |_+1,_,⟨_,_,h1,_,h2⟩=>((Lrd.rds h0 h1).lin.rnd h2).lrd
theorem Lrd.start {st:LSt}(hE:Esy st.es)(h0:∀ n,st.lev n=0)(hm:∀ {a e},e ∈ st.es a->e.mid<0):Lrd 0 st :=
 ⟨hE,fun n=>Nat.le_of_eq (h0 n),fun {a e} _ h=>absurd h (by rw [h0];omega),fun he h=>absurd h (by have:=hm he;omega),fun he h=>absurd h (by have:=hm he;omega)⟩
def endL (T:Nat) (st:LSt) (n:Nat):Nat:=if st.lev n=0 then T else st.lev n
section
variable {k : Nat} {st : LSt}
theorem Lrd.end_le (h:Lrd k st)(n:Nat):1<=endL (k+1) st n/\endL (k+1) st n<=k+1:=by
 unfold endL
 have:=h.le n
 split <;> omega
theorem Lrd.end_mid (h:Lrd k st){a:Nat}{e:LE}(he:e ∈ st.es a)(h0:0<=e.mid):endL (k+1) st e.mid.toNat<endL (k+1) st a/\endL (k+1) st e.mid.toNat<endL (k+1) st e.to:=by
 have key:∀ {a:Nat}{e:LE},e ∈ st.es a->0<=e.mid->endL (k+1) st e.mid.toNat<endL (k+1) st a:=fun {a e} he h0=>by
  obtain ⟨m1,m2⟩:=h.mid he h0
  have hm:=h.le e.mid.toNat
  unfold endL
  rw [if_neg (show ¬ st.lev e.mid.toNat=0 by omega)]
  by_cases e1:st.lev a=0
  ·rw [if_pos e1];omega
  ·rw [if_neg e1];omega
 exact ⟨key he h0,key (e:=⟨a,e.s,e.d,e.mid⟩) (h.esy.back he) h0⟩
end
end
section
theorem Turn.own {top n:Nat}{st st':LSt}{nr nr':Nat->Bool}{g:Bool}(h:Turn top n st nr st' nr' g)(hE:Esy st.es){a:Nat}{e:LE}(he:e ∈ st'.es a)(hm:e.mid<0):e ∈ st.es a:=by
 rcases h with ⟨_,rfl,_⟩|⟨_,p,_,⟨_,rfl,_⟩|⟨_,rfl,_⟩⟩
 ·exact he
 ·exact he
 ·have hfe:=fun {x:Nat × LE}(hx:x ∈ moreF p n (feF st n))=>moreF_mem (feF_ord (hE.ord n)) hx
  have hne:∀ x ∈ moreF p n (feF st n),x.1≠x.2.to:=fun x hx=>by
   obtain ⟨a,_,b,_,h3,_,rfl⟩:=hfe hx
   exact Nat.ne_of_lt h3
  rcases (layAll_mem hE hne).2 a e he with h|⟨x,hx,h⟩
  ·exact h
  ·obtain ⟨u,_,v,_,_,_,rfl⟩:=hfe hx
   rcases h with ⟨_,rfl⟩|⟨_,rfl⟩
   ·exact absurd hm (show ¬ ((n:Nat):Int)<0 by omega)
   ·exact absurd hm (show ¬ ((n:Nat):Int)<0 by omega)
theorem Rnd.own {t:Nat}:∀ {L:List Nat}{st st':LSt}{nr nr':Nat->Bool}{g:Bool},Rnd t L st nr st' nr' g->Esy st.es->∀ {a:Nat}{e:LE},e ∈ st'.es a->e.mid<0->e ∈ st.es a
 |[],_,_,_,_,_,⟨h,_⟩,_,_,_,he,_=>by rw [<- h];exact he
 |_::_,_,_,_,_,_,⟨_,_,_,_,h1,h2,_⟩,hE,_,_,he,hm=>h1.own hE (h2.own (h1.esy hE) he hm) hm
theorem Rds.own {most:Nat}{L:List Nat}{st0:LSt}(h0:Lrd 0 st0):∀ {k:Nat}{st:LSt},Rds most L st0 k st->∀ {a:Nat}{e:LE},e ∈ st.es a->e.mid<0->e ∈ st0.es a
 |0,st,h,_,_,he,_=>by
  have e:st=st0:=h
  rw [<- e];exact he
 |_+1,_,⟨_,_,h1,_,h2⟩,_,_,he,hm=>Rds.own h0 h1 (h2.own (Lrd.rds h0 h1).esy he hm) hm
def Unp (es:Nat->List LE):Nat->Nat->Nat->List Nat->Prop
 |0,_,_,_=>False
 |f+1,a,b,way=>∃ e ∈ es a,e.to=b/\((e.mid<0/\way=[a,b])\/(0<=e.mid/\∃ w1 w2,Unp es f a e.mid.toNat w1/\Unp es f e.mid.toNat b w2/\way=w1++w2.tail))
theorem Unp.one {es:Nat->List LE}(h:Esy es):∀ {f g a b:Nat}{w w':List Nat},Unp es f a b w->Unp es g a b w'->w=w'
 |0,_,_,_,_,_,h1,_=>h1.elim
 |_+1,0,_,_,_,_,_,h2=>h2.elim
 |f+1,g+1,a,b,w,w',⟨e,he,ht,h1⟩,⟨e',he',ht',h2⟩=>by
  have ee:e=e':=(h.ord a).one he he' (ht.trans ht'.symm)
  subst ee
  rcases h1 with ⟨_,h1⟩|⟨m1,u1,u2,p1,p2,p3⟩
  ·rcases h2 with ⟨_,h2⟩|⟨m2,_⟩
   ·exact h1.trans h2.symm
   ·omega
  ·rcases h2 with ⟨m2,_⟩|⟨_,v1,v2,q1,q2,q3⟩
   ·omega
   ·rw [p3,q3,Unp.one h p1 q1,Unp.one h p2 q2]
def Prc (es:Nat->List LE):List Nat->Int->Int->Prop
 |[],_,_=>False
 |[_],s,d=>s=0/\d=0
 |x::y::l,s,d=>∃ e ∈ es x,e.to=y/\Prc es (y::l) (s - e.s) (d - e.d)
theorem Prc.join {es:Nat->List LE}{m:Nat}{l2:List Nat}{s2 d2:Int}(h2:Prc es (m::l2) s2 d2):∀ {x:Nat}{l1:List Nat}{s1 d1:Int},Prc es (x::l1) s1 d1->(x::l1).getLast? = some m->Prc es ((x::l1)++l2) (s1+s2) (d1+d2)
 |x,[],s1,d1,⟨h1,h3⟩,hl=>by
  have e:x=m:=by simpa using hl
  subst e
  rw [h1,h3,Int.zero_add,Int.zero_add]
  exact h2
 |x,y::l1,s1,d1,⟨e,he,ht,h1⟩,hl=>by
  have ih:=Prc.join h2 h1 (by simpa using hl)
  refine ⟨e,he,ht,?_⟩
  rw [show s1+s2 - e.s=s1 - e.s+s2 by omega,show d1+d2 - e.d=d1 - e.d+d2 by omega]
  exact ih
theorem unpack {k:Nat}{st:LSt}{es0:Nat->List LE}(h:Lrd k st)(hown:∀ {a e},e ∈ st.es a->e.mid<0->e ∈ es0 a):∀ (f a:Nat) (e:LE),e ∈ st.es a->min (endL (k+1) st a) (endL (k+1) st e.to)<=f ->
  ∃ way l,Unp st.es f a e.to way/\way=a::l/\l≠[]/\way.getLast? = some e.to/\Prc es0 way e.s e.d
 |0,a,e,_,hf=>by
  have h1:=(h.end_le a).1
  have h2:=(h.end_le e.to).1
  omega
 |f+1,a,e,he,hf=>by
  by_cases hm:e.mid<0
  ·exact ⟨[a,e.to],[e.to],⟨e,he,rfl,Or.inl ⟨hm,rfl⟩⟩,rfl,by simp,rfl,⟨e,hown he hm,rfl,by omega,by omega⟩⟩
  ·have hm:0<=e.mid:=by omega
   obtain ⟨g1,g2⟩:=h.end_mid he hm
   obtain ⟨e1,f1,f2,e2,f3,f4,f5,f6⟩:=h.sum he hm
   obtain ⟨w1,l1,a1,a2,a3,a4,a5⟩:=unpack h hown f a e1 f1 (by rw [f2];omega)
   obtain ⟨w2,l2,b1,b2,b3,b4,b5⟩:=unpack h hown f e.mid.toNat e2 f3 (by rw [f4];omega)
   rw [f2] at a1 a4
   rw [f4] at b1 b4
   subst a2 b2
   refine ⟨(a::l1)++l2,l1++l2,⟨e,he,rfl,Or.inr ⟨hm,_,_,a1,b1,rfl⟩⟩,rfl,fun h=>a3 (List.append_eq_nil_iff.1 h).1,?_,?_⟩
   ·rw [List.getLast?_append]
    cases l2 with
    |nil=>exact absurd rfl b3
    |cons y l2 =>
     have:(y::l2).getLast? = some e.to:=by simpa using b4
     rw [this];rfl
   ·rw [f5,f6]
    exact Prc.join b5 a5 a4
end
end Go.Proofs.YtmaefimaeelkbaaGreatDoor
