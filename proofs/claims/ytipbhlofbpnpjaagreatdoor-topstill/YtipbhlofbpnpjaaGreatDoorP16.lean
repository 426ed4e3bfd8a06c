/-
  Texts laid together: SrS, SrE, SrP, LvA, LvFind, LvB.
-/
import Derived.Test.YtipbhlofbpnpjaaGreatDoorP13
import Derived.Test.YtipbhlofbpnpjaaGreatDoorP15
import Derived.Test.YtipbhlofbpnpjaaGreatDoorP8
namespace Go.Proofs.YtipbhlofbpnpjaaGreatDoor
section
structure SS where
 F:Int->Option (Int × Int)
 A:Int->Option Int
 H:Int->Option (Int × Int)
def homeS:SS:=⟨fun _=>none,fun _=>none,fun _=>none⟩
def lowS (g:Int->Int × Int) (x:SS) (n s d:Int):SS:=if pushB x.F n s d=true then ⟨putH x.F n s d,x.A,pushH x.H n (s+(g n).1) (d+(g n).2)⟩ else x
def putA (A:Int->Option Int) (a n:Int):Int->Option Int:=fun i=>if i=a then some n else A i
def aheadS (x:SS) (a n:Int):SS:=⟨x.F,putA x.A a n,x.H⟩
def popS (x:SS) (n:Int):SS:=⟨x.F,x.A,delH x.H n⟩
def stepS (lv:LSt) (r:Nat) (g:Int->Int × Int) (n:Nat) (x:SS) (e:LE):SS :=
 if lv.lev n+r<=lv.lev e.to/\pushB x.F (e.to:Int) (((x.F (n:Int)).getD (0,0)).1+e.s) (((x.F (n:Int)).getD (0,0)).2+e.d)=true then
  aheadS (lowS g x (e.to:Int) (((x.F (n:Int)).getD (0,0)).1+e.s) (((x.F (n:Int)).getD (0,0)).2+e.d)) (e.to:Int) (n:Int) else x
def goS (lv:LSt) (r:Nat) (g:Int->Int × Int) (n:Nat) (x:SS):SS:=(lv.es n).foldl (stepS lv r g n) x
structure LvOk (L:List Nat) (lv:LSt):Prop where
 esy:Esy lv.es
 ends:∀ {a e},e ∈ lv.es a->a ∈ L/\e.to ∈ L
 bd:∀ {a e},e ∈ lv.es a->0<=e.s/\0<=e.d/\e.s<=512/\e.d<=512/\0<e.s+e.d
 small:∀ n ∈ L,n<256
structure SI (L:List Nat) (lv:LSt) (r:Nat) (g:Int->Int × Int) (src:Int->Int->Int->Prop) (P:Int->Int->Prop) (x:SS):Prop where
 lab:∀ {a s d},x.F a=some (s,d)->0<=a/\a.toNat ∈ L/\0<=s/\0<=d/\val s d<=97750727262208+(cnt x.F 256:Int)*47729847296
 snd:∀ {a s d},x.F a=some (s,d)->∃ o s0 d0 p q,src o s0 d0/\Wg (LvE lv r) o a p q/\s=s0+p/\d=d0+q
 ptr:∀ {a n},x.A a=some n->∃ s d s' d' t u,x.F n=some (s,d)/\x.F a=some (s',d')/\LvE lv r n a t u/\val s d+val t u<=val s' d'
 top:∀ {a s d},x.F a=some (s,d)->x.A a=none->src a s d
 hom:∀ {o s d},src o s d->∃ s' d',x.F o=some (s',d')/\val s' d'<=val s d
 key:∀ {a s d},x.H a=some (s,d)->∃ s' d',x.F a=some (s',d')/\s=s'+(g a).1/\d=d'+(g a).2
 don:∀ {a b s d t u},x.F a=some (s,d)->x.H a=none->P a b->LvE lv r a b t u->∃ s' d',x.F b=some (s',d')/\val s' d'<=val s d+val t u
theorem SI.big {L:List Nat}{lv:LSt}{r:Nat}{g:Int->Int × Int}{src:Int->Int->Int->Prop}{P:Int->Int->Prop}{x:SS}(h:SI L lv r g src P x){a s d:Int}(hF:x.F a=some (s,d)):0<=s/\0<=d/\s<=2847923/\d<=2847923/\val s d<=109969568169984:=by
 obtain ⟨_,_,h1,h2,h3⟩:=h.lab hF
 have hc:=cnt_le x.F 256
 have h4:val s d<=109969568169984:=by omega
 unfold val at h4 ⊢
 omega
theorem pushB_iff {F:Int->Option (Int × Int)}{a s d:Int}:pushB F a s d=true↔∀ s' d',F a=some (s',d')->val s d<val s' d':=by
 unfold pushB
 cases h:F a with
 |none=>exact ⟨fun _ _ _ e=>(by cases e),fun _=>rfl⟩
 |some c =>
  constructor
  ·intro h1 s' d' e
   cases e
   exact of_decide_eq_true h1
  ·intro h1
   exact decide_eq_true (h1 c.1 c.2 rfl)
theorem pushB_no {F:Int->Option (Int × Int)}{a s d:Int}(h:pushB F a s d=false):∃ s' d',F a=some (s',d')/\val s' d'<=val s d:=by
 unfold pushB at h
 cases h1:F a with
 |none=>rw [h1] at h;cases h
 |some c =>
  rw [h1] at h
  have:=of_decide_eq_false h
  exact ⟨c.1,c.2,rfl,by omega⟩
section
variable {L : List Nat} {lv : LSt} {r : Nat} {g : Int → Int × Int} {src src' : Int → Int → Int → Prop} {P : Int → Int → Prop} {D : Int → Prop} {x : SS}
theorem SI.pushH (h:SI L lv r g src P x){b s d:Int}(hb:pushB x.F b s d=true):pushH x.H b (s+(g b).1) (d+(g b).2)=putH x.H b (s+(g b).1) (d+(g b).2):=by
 have hp:pushB x.H b (s+(g b).1) (d+(g b).2)=true:=by
  rw [pushB_iff]
  intro s' d' e
  obtain ⟨s2,d2,h1,h2,h3⟩:=h.key e
  have:=pushB_iff.1 hb _ _ h1
  subst h2 h3
  unfold val at *
  omega
 unfold YtipbhlofbpnpjaaGreatDoor.pushH
 rw [if_pos hp]
theorem cnt_grow (F:Int->Option (Int × Int)){b s d:Int}(h0:0<=b)(h1:b<256):cnt F 256<=cnt (putH F b s d) 256/\(F b=none->cnt (putH F b s d) 256=cnt F 256+1):=by
 constructor
 ·cases e:F b with
  |none=>rw [cnt_put F b s d 256 h0 h1 e];omega
  |some c=>rw [cntG_again F b s d 256 (by rw [e];rfl)];exact Nat.le_refl _
 ·exact cnt_put F b s d 256 h0 h1
theorem SI.low (O:LvOk L lv){n:Nat}(h:SI L lv r g src (fun a b=>a≠(n:Int)\/D b) x){s d:Int}(hn:x.F (n:Int)=some (s,d))(_hH:x.H (n:Int)=none){e:LE}(he:e ∈ lv.es n)(hl:lv.lev n+r<=lv.lev e.to)(hb:pushB x.F (e.to:Int) (s+e.s) (d+e.d)=true) :
  SI L lv r g src (fun a b=>a≠(n:Int)\/D b\/b=(e.to:Int)) (aheadS (lowS g x (e.to:Int) (s+e.s) (d+e.d)) (e.to:Int) (n:Int)) /\
  (aheadS (lowS g x (e.to:Int) (s+e.s) (d+e.d)) (e.to:Int) (n:Int))=⟨putH x.F (e.to:Int) (s+e.s) (d+e.d),putA x.A (e.to:Int) (n:Int),putH x.H (e.to:Int) (s+e.s+(g e.to).1) (d+e.d+(g e.to).2)⟩ /\
  potG 109969568169985 (putH x.F (e.to:Int) (s+e.s) (d+e.d)) 256<potG 109969568169985 x.F 256:=by
 have hx:(aheadS (lowS g x (e.to:Int) (s+e.s) (d+e.d)) (e.to:Int) (n:Int))=⟨putH x.F (e.to:Int) (s+e.s) (d+e.d),putA x.A (e.to:Int) (n:Int),putH x.H (e.to:Int) (s+e.s+(g e.to).1) (d+e.d+(g e.to).2)⟩:=by
  unfold lowS
  rw [if_pos hb,h.pushH hb]
  rfl
 rw [hx]
 have hlt:=pushB_iff.1 hb
 have hoff:¬ (e.to:Int)=(n:Int):=fun q=>O.esy.off he (by omega)
 obtain ⟨_,hnL,n1,n2,n3⟩:=h.lab hn
 obtain ⟨b1,b2,b3,b4,b5⟩:=O.bd he
 have hto:=(O.ends he).2
 have hsm:=O.small _ hto
 obtain ⟨c1,c2⟩:=cnt_grow x.F (b:=(e.to:Int)) (s:=s+e.s) (d:=d+e.d) (by omega) (by omega)
 have ed:LvE lv r (n:Int) (e.to:Int) e.s e.d:=⟨e,by rw [Int.toNat_natCast];exact he,rfl,rfl,rfl,by rw [Int.toNat_natCast];exact hl⟩
 have hval:val (s+e.s) (d+e.d)=val s d+val e.s e.d:=val_both ..
 have hve:0<=val e.s e.d/\val e.s e.d<=47729847296:=by unfold val;omega
 have hnew:val (s+e.s) (d+e.d)<=97750727262208+(cnt (putH x.F (e.to:Int) (s+e.s) (d+e.d)) 256:Int)*47729847296:=by
  cases hq:x.F (e.to:Int) with
  |none =>
   rw [c2 hq]
   omega
  |some c =>
   have k1:=hlt c.1 c.2 hq
   obtain ⟨_,_,_,_,k2⟩:=h.lab (s:=c.1) (d:=c.2) hq
   omega
 have hlower:∀ {a p q},x.F a=some (p,q)->∃ p' q',putH x.F (e.to:Int) (s+e.s) (d+e.d) a=some (p',q')/\val p' q'<=val p q:=fun {a p q} ha=>by
  by_cases ea:a=(e.to:Int)
  ·subst ea
   exact ⟨_,_,putH_at _ _ _ _,by have:=hlt _ _ ha;omega⟩
  ·exact ⟨p,q,by rw [putH_off _ _ _ ea];exact ha,Int.le_refl _⟩
 refine ⟨⟨fun {a p q} ha=>?_,fun {a p q} ha=>?_,fun {a m} ha=>?_,fun {a p q} ha hA=>?_,fun {o p q} ho=>?_,fun {a p q} ha=>?_,fun {a b p q t u} ha hHa hP hE=>?_⟩,rfl,?_⟩
 ·show 0<=a/\a.toNat ∈ L/\0<=p/\0<=q/\_
  by_cases ea:a=(e.to:Int)
  ·subst ea
   replace ha:putH x.F (e.to:Int) (s+e.s) (d+e.d) (e.to:Int)=some (p,q):=ha
   rw [putH_at] at ha
   cases ha
   exact ⟨by omega,by rw [Int.toNat_natCast];exact hto,by omega,by omega,hnew⟩
  ·replace ha:putH x.F (e.to:Int) (s+e.s) (d+e.d) a=some (p,q):=ha
   rw [putH_off _ _ _ ea] at ha
   obtain ⟨k1,k2,k3,k4,k5⟩:=h.lab ha
   exact ⟨k1,k2,k3,k4,by show _<=97750727262208+(cnt (putH x.F (e.to:Int) (s+e.s) (d+e.d)) 256:Int)*47729847296;omega⟩
 ·by_cases ea:a=(e.to:Int)
  ·subst ea
   replace ha:putH x.F (e.to:Int) (s+e.s) (d+e.d) (e.to:Int)=some (p,q):=ha
   rw [putH_at] at ha
   cases ha
   obtain ⟨o,s0,d0,p,q,k1,k2,k3,k4⟩:=h.snd hn
   exact ⟨o,s0,d0,p+e.s,q+e.d,k1,k2.step ed,by omega,by omega⟩
  ·replace ha:putH x.F (e.to:Int) (s+e.s) (d+e.d) a=some (p,q):=ha
   rw [putH_off _ _ _ ea] at ha
   exact h.snd ha
 ·show ∃ p q p' q' t u,putH x.F (e.to:Int) (s+e.s) (d+e.d) m=some (p,q)/\putH x.F (e.to:Int) (s+e.s) (d+e.d) a=some (p',q')/\_
  by_cases ea:a=(e.to:Int)
  ·subst ea
   have hm:(n:Int)=m:=by
    have:putA x.A (e.to:Int) (n:Int) (e.to:Int)=some m:=ha
    unfold putA at this
    rw [if_pos rfl] at this
    exact Option.some.inj this
   subst hm
   exact ⟨s,d,s+e.s,d+e.d,e.s,e.d,by rw [putH_off _ _ _ (fun q=>hoff q.symm)];exact hn,putH_at _ _ _ _,ed,by omega⟩
  ·have ha':x.A a=some m:=by
    have:putA x.A (e.to:Int) (n:Int) a=some m:=ha
    unfold putA at this
    rw [if_neg ea] at this
    exact this
   obtain ⟨p,q,p',q',t,u,k1,k2,k3,k4⟩:=h.ptr ha'
   obtain ⟨p2,q2,k5,k6⟩:=hlower k1
   exact ⟨p2,q2,p',q',t,u,k5,by rw [putH_off _ _ _ ea];exact k2,k3,by omega⟩
 ·have hA':putA x.A (e.to:Int) (n:Int) a=none:=hA
  unfold putA at hA'
  by_cases ea:a=(e.to:Int)
  ·rw [if_pos ea] at hA';cases hA'
  ·rw [if_neg ea] at hA'
   replace ha:putH x.F (e.to:Int) (s+e.s) (d+e.d) a=some (p,q):=ha
   rw [putH_off _ _ _ ea] at ha
   exact h.top ha hA'
 ·obtain ⟨p1,q1,k1,k2⟩:=h.hom ho
  obtain ⟨p2,q2,k3,k4⟩:=hlower k1
  exact ⟨p2,q2,k3,by omega⟩
 ·show ∃ p' q',putH x.F (e.to:Int) (s+e.s) (d+e.d) a=some (p',q')/\_
  by_cases ea:a=(e.to:Int)
  ·subst ea
   replace ha:putH x.H (e.to:Int) (s+e.s+(g e.to).1) (d+e.d+(g e.to).2) (e.to:Int)=some (p,q):=ha
   rw [putH_at] at ha
   cases ha
   exact ⟨_,_,putH_at _ _ _ _,rfl,rfl⟩
  ·replace ha:putH x.H (e.to:Int) (s+e.s+(g e.to).1) (d+e.d+(g e.to).2) a=some (p,q):=ha
   rw [putH_off _ _ _ ea] at ha
   obtain ⟨p',q',k1,k2,k3⟩:=h.key ha
   exact ⟨p',q',by rw [putH_off _ _ _ ea];exact k1,k2,k3⟩
 ·show ∃ p' q',putH x.F (e.to:Int) (s+e.s) (d+e.d) b=some (p',q')/\_
  have ea:a≠(e.to:Int):=fun q=>by
   subst q
   have:putH x.H (e.to:Int) (s+e.s+(g e.to).1) (d+e.d+(g e.to).2) (e.to:Int)=none:=hHa
   rw [putH_at] at this
   cases this
  replace ha:putH x.F (e.to:Int) (s+e.s) (d+e.d) a=some (p,q):=ha
  replace hHa:putH x.H (e.to:Int) (s+e.s+(g e.to).1) (d+e.d+(g e.to).2) a=none:=hHa
  rw [putH_off _ _ _ ea] at ha hHa
  by_cases hP':a≠(n:Int)\/D b
  ·obtain ⟨p',q',k1,k2⟩:=h.don ha hHa hP' hE
   obtain ⟨p2,q2,k3,k4⟩:=hlower k1
   exact ⟨p2,q2,k3,by omega⟩
  ·have ean:a=(n:Int):=Classical.byContradiction fun q=>hP' (Or.inl q)
   have ebe:b=(e.to:Int):=by
    rcases hP with q|q|q
    ·exact absurd ean q
    ·exact absurd (Or.inr q) hP'
    ·exact q
   subst ean ebe
   rw [hn] at ha
   cases ha
   obtain ⟨e',g1,g2,g3,g4,_⟩:=hE
   rw [Int.toNat_natCast] at g1
   have:=(O.esy.ord n).one g1 he (by omega)
   subst this g3 g4
   exact ⟨_,_,putH_at _ _ _ _,by omega⟩
 ·refine potG_put (e.to:Int) _ _ 256 (by omega) (by omega) (by unfold val at *;omega) (fun _=>?_) hlt
  have:=cnt_le (putH x.F (e.to:Int) (s+e.s) (d+e.d)) 256
  have h0:0<=val (s+e.s) (d+e.d):=by unfold val at *;omega
  omega
theorem SI.step (O:LvOk L lv){n:Nat}(h:SI L lv r g src (fun a b=>a≠(n:Int)\/D b) x){s d:Int}(hn:x.F (n:Int)=some (s,d))(hH:x.H (n:Int)=none){e:LE}(he:e ∈ lv.es n) :
  SI L lv r g src (fun a b=>a≠(n:Int)\/D b\/b=(e.to:Int)) (stepS lv r g n x e)/\(stepS lv r g n x e).F (n:Int)=some (s,d)/\(stepS lv r g n x e).H (n:Int)=none:=by
 have hoff:¬ (n:Int)=(e.to:Int):=fun q=>O.esy.off he (by omega)
 unfold stepS
 rw [hn]
 show SI L lv r g src _ (if lv.lev n+r<=lv.lev e.to/\pushB x.F (e.to:Int) (s+e.s) (d+e.d)=true then _ else x)/\_
 by_cases hc:lv.lev n+r<=lv.lev e.to/\pushB x.F (e.to:Int) (s+e.s) (d+e.d)=true
 ·obtain ⟨h1,h2,h3⟩:=h.low O hn hH he hc.1 hc.2
  have e0:(if lv.lev n+r<=lv.lev e.to/\pushB x.F (e.to:Int) (s+e.s) (d+e.d)=true then aheadS (lowS g x (e.to:Int) (s+e.s) (d+e.d)) (e.to:Int) (n:Int) else x)=aheadS (lowS g x (e.to:Int) (s+e.s) (d+e.d)) (e.to:Int) (n:Int):=if_pos hc
  show SI L lv r g src _ (if lv.lev n+r<=lv.lev e.to/\pushB x.F (e.to:Int) (s+e.s) (d+e.d)=true then aheadS (lowS g x (e.to:Int) (s+e.s) (d+e.d)) (e.to:Int) (n:Int) else x)/\(if lv.lev n+r<=lv.lev e.to/\pushB x.F (e.to:Int) (s+e.s) (d+e.d)=true then aheadS (lowS g x (e.to:Int) (s+e.s) (d+e.d)) (e.to:Int) (n:Int) else x).F _=_/\(if lv.lev n+r<=lv.lev e.to/\pushB x.F (e.to:Int) (s+e.s) (d+e.d)=true then aheadS (lowS g x (e.to:Int) (s+e.s) (d+e.d)) (e.to:Int) (n:Int) else x).H _=_
  rw [e0]
  refine ⟨h1,?_,?_⟩
  ·rw [h2]
   show putH x.F (e.to:Int) (s+e.s) (d+e.d) (n:Int)=_
   rw [putH_off _ _ _ hoff];exact hn
  ·rw [h2]
   show putH x.H (e.to:Int) _ _ (n:Int)=_
   rw [putH_off _ _ _ hoff];exact hH
 ·have e0:(if lv.lev n+r<=lv.lev e.to/\pushB x.F (e.to:Int) (s+e.s) (d+e.d)=true then aheadS (lowS g x (e.to:Int) (s+e.s) (d+e.d)) (e.to:Int) (n:Int) else x)=x:=if_neg hc
  show SI L lv r g src _ (if lv.lev n+r<=lv.lev e.to/\pushB x.F (e.to:Int) (s+e.s) (d+e.d)=true then aheadS (lowS g x (e.to:Int) (s+e.s) (d+e.d)) (e.to:Int) (n:Int) else x)/\(if lv.lev n+r<=lv.lev e.to/\pushB x.F (e.to:Int) (s+e.s) (d+e.d)=true then aheadS (lowS g x (e.to:Int) (s+e.s) (d+e.d)) (e.to:Int) (n:Int) else x).F _=_/\(if lv.lev n+r<=lv.lev e.to/\pushB x.F (e.to:Int) (s+e.s) (d+e.d)=true then aheadS (lowS g x (e.to:Int) (s+e.s) (d+e.d)) (e.to:Int) (n:Int) else x).H _=_
  rw [e0]
  refine ⟨⟨h.lab,h.snd,h.ptr,h.top,h.hom,h.key,fun {a b p q t u} ha hHa hP hE=>?_⟩,hn,hH⟩
  by_cases hP':a≠(n:Int)\/D b
  ·exact h.don ha hHa hP' hE
  ·have ean:a=(n:Int):=Classical.byContradiction fun q=>hP' (Or.inl q)
   have ebe:b=(e.to:Int):=by
    rcases hP with q|q|q
    ·exact absurd ean q
    ·exact absurd (Or.inr q) hP'
    ·exact q
   subst ean ebe
   rw [hn] at ha
   cases ha
   obtain ⟨e',g1,g2,g3,g4,g5⟩:=hE
   rw [Int.toNat_natCast] at g1 g5
   have:=(O.esy.ord n).one g1 he (by omega)
   subst this g3 g4
   cases hb:pushB x.F (e'.to:Int) (s+e'.s) (d+e'.d) with
   |true=>exact absurd ⟨g5,hb⟩ hc
   |false =>
    obtain ⟨s',d',k1,k2⟩:=pushB_no hb
    exact ⟨s',d',k1,by rw [val_both] at k2;exact k2⟩
theorem SI.mono (h:SI L lv r g src P x){P':Int->Int->Prop}(hp:∀ {a b s d t u},x.F a=some (s,d)->x.H a=none->P' a b->LvE lv r a b t u->P a b):SI L lv r g src P' x :=
 ⟨h.lab,h.snd,h.ptr,h.top,h.hom,h.key,fun ha hH hP hE=>h.don ha hH (hp ha hH hP hE) hE⟩
theorem SI.fold (O:LvOk L lv){n:Nat}{s d:Int}:∀ {l:List LE}{D:Int->Prop}{x:SS},(∀ e ∈ l,e ∈ lv.es n)->SI L lv r g src (fun a b=>a≠(n:Int)\/D b) x->x.F (n:Int)=some (s,d)->x.H (n:Int)=none ->
  SI L lv r g src (fun a b=>a≠(n:Int)\/D b\/∃ e ∈ l,b=(e.to:Int)) (l.foldl (stepS lv r g n) x)/\(l.foldl (stepS lv r g n) x).F (n:Int)=some (s,d)/\(l.foldl (stepS lv r g n) x).H (n:Int)=none
 |[],D,x,_,h,hn,hH=>⟨h.mono (fun _ _ hP _=>by
   rcases hP with q|q|⟨e,he,_⟩
   ·exact Or.inl q
   ·exact Or.inr q
   ·cases he),hn,hH⟩
 |e::l,D,x,hl,h,hn,hH=>by
  obtain ⟨h1,h2,h3⟩:=h.step O hn hH (hl e (List.mem_cons_self ..))
  obtain ⟨k1,k2,k3⟩:=SI.fold O (fun e' he'=>hl e' (List.mem_cons_of_mem _ he')) h1 h2 h3
  refine ⟨k1.mono (fun _ _ hP _=>?_),k2,k3⟩
  rcases hP with q|q|⟨e',he',q⟩
  ·exact Or.inl q
  ·exact Or.inr (Or.inl (Or.inl q))
  ·rcases List.mem_cons.1 he' with rfl|he'
   ·exact Or.inr (Or.inl (Or.inr q))
   ·exact Or.inr (Or.inr ⟨e',he',q⟩)
theorem SI.pop {P:Int->Int->Prop}(h:SI L lv r g src P x)(n:Int):SI L lv r g src (fun a b=>a≠n/\P a b) (popS x n):=by
 refine ⟨h.lab,h.snd,h.ptr,h.top,h.hom,fun {a s d} ha=>?_,fun {a b s d t u} ha hH hP hE=>?_⟩
 ·have ha':delH x.H n a=some (s,d):=ha
  by_cases e:a=n
  ·rw [e,delH_at] at ha';cases ha'
  ·rw [delH_off _ e] at ha';exact h.key ha'
 ·have hH':delH x.H n a=none:=hH
  rw [delH_off _ hP.1] at hH'
  exact h.don ha hH' hP.2 hE
theorem SI.go (O:LvOk L lv)(h:SI L lv r g src (fun _ _=>True) x){n:Nat}{s d:Int}(hn:x.F (n:Int)=some (s,d)):SI L lv r g src (fun _ _=>True) (goS lv r g n (popS x (n:Int)))/\(goS lv r g n (popS x (n:Int))).F (n:Int)=some (s,d)/\(goS lv r g n (popS x (n:Int))).H (n:Int)=none:=by
 have h1:=(h.pop (n:Int)).mono (P':=fun a b=>a≠(n:Int)\/False) (fun _ _ hP _=>⟨by rcases hP with q|q;exact q;exact q.elim,trivial⟩)
 obtain ⟨k1,k2,k3⟩:=SI.fold O (l:=lv.es n) (fun _ h=>h) h1 hn (delH_at _ _)
 refine ⟨k1.mono (fun {a b s d t u} ha hH _ hE=>?_),k2,k3⟩
 by_cases e:a=(n:Int)
 ·subst e
  obtain ⟨e',g1,g2,_⟩:=hE
  rw [Int.toNat_natCast] at g1
  exact Or.inr (Or.inr ⟨e',g1,g2⟩)
 ·exact Or.inl e
end
end
section
def PopR (H:Int->Option (Int × Int)) (n s d:Int):Prop:=H n=some (s,d)/\∀ b t u,H b=some (t,u)->¬ bef ⟨b,t,u⟩ ⟨n,s,d⟩
theorem PopR.one {H:Int->Option (Int × Int)}{n s d m t u:Int}(h:PopR H n s d)(k:PopR H m t u):n=m/\s=t/\d=u:=by
 have h1:=h.2 m t u k.1
 have h2:=k.2 n s d h.1
 unfold bef Item.v at h1 h2
 simp only at h1 h2
 have e:n=m:=by omega
 subst e
 have h3:=h.1.symm.trans k.1
 cases h3
 exact ⟨rfl,rfl,rfl⟩
theorem PopR.least {H:Int->Option (Int × Int)}{n s d b t u:Int}(h:PopR H n s d)(hb:H b=some (t,u)):val s d<=val t u:=by
 have h1:=h.2 b t u hb
 unfold bef Item.v at h1
 simp only at h1
 omega
def EndN (lv:LSt) (r:Nat) (g:Int->Int × Int):Nat->SS->SS->Prop
 |0,x,x'=>(∀ a,x.H a=none)/\x'=x
 |k+1,x,x'=>∃ (n:Nat) (s d:Int),PopR x.H (n:Int) s d/\EndN lv r g k (goS lv r g n (popS x (n:Int))) x'
theorem EndN.one {lv:LSt}{r:Nat}{g:Int->Int × Int}:∀ {k j:Nat}{x y z:SS},EndN lv r g k x y->EndN lv r g j x z->y=z
 |0,0,_,_,_,h,h'=>h.2.trans h'.2.symm
 |0,_+1,_,_,_,h,⟨n,s,d,h1,_⟩=>by
  have:=h1.1
  rw [h.1] at this;cases this
 |_+1,0,_,_,_,⟨n,s,d,h1,_⟩,h=>by
  have:=h1.1
  rw [h.1] at this;cases this
 |_+1,_+1,_,_,_,⟨n,s,d,h1,h2⟩,⟨m,t,u,k1,k2⟩=>by
  obtain ⟨e,_,_⟩:=h1.one k1
  have e:n=m:=by omega
  subst e
  exact EndN.one h2 k2
structure Mt where
 n:Int
 s:Int
 d:Int
 f:Bool
def mtS (E:Int->Option (Int × Int)) (x:SS) (n:Nat) (m:Mt):Mt :=
 match E (n:Int) with
 |none=>m
 |some e=>if m.f=false\/val (((x.F (n:Int)).getD (0,0)).1+e.1) (((x.F (n:Int)).getD (0,0)).2+e.2)<val m.s m.d then ⟨n,((x.F (n:Int)).getD (0,0)).1+e.1,((x.F (n:Int)).getD (0,0)).2+e.2,true⟩ else m
def MeetN (lv:LSt) (g:Int->Int × Int) (E:Int->Option (Int × Int)):Nat->SS->Mt->SS->Mt->Prop
 |0,x,m,x',m'=>m'=m/\(((∀ a,x.H a=none)/\x'=x)\/∃ (n:Nat) (s d:Int),PopR x.H (n:Int) s d/\m.f=true/\¬ val s d<val m.s m.d/\x'=popS x (n:Int))
 |k+1,x,m,x',m'=>∃ (n:Nat) (s d:Int),PopR x.H (n:Int) s d/\(m.f=false\/val s d<val m.s m.d)/\MeetN lv g E k (goS lv 0 g n (popS x (n:Int))) (mtS E x n m) x' m'
theorem MeetN.one {lv:LSt}{g:Int->Int × Int}{E:Int->Option (Int × Int)}:∀ {k j:Nat}{x y z:SS}{m my mz:Mt},MeetN lv g E k x m y my->MeetN lv g E j x m z mz->y=z/\my=mz
 |0,0,_,_,_,_,_,_,⟨h,h1⟩,⟨k,k1⟩=>by
  refine ⟨?_,h.trans k.symm⟩
  rcases h1 with ⟨h1,h2⟩|⟨n,s,d,h1,_,_,h2⟩
  ·rcases k1 with ⟨_,k2⟩|⟨n',_,_,k1,_⟩
   ·exact h2.trans k2.symm
   ·have:=k1.1
    rw [h1] at this;cases this
  ·rcases k1 with ⟨k1,_⟩|⟨n',_,_,k1,_,_,k2⟩
   ·have:=h1.1
    rw [k1] at this;cases this
   ·rw [h2,k2,(h1.one k1).1]
 |0,_+1,_,_,_,_,_,_,⟨_,h1⟩,⟨n',s',d',k1,k2,_⟩=>by
  exfalso
  rcases h1 with ⟨h1,_⟩|⟨n,s,d,h1,h2,h3,_⟩
  ·have:=k1.1
   rw [h1] at this;cases this
  ·obtain ⟨_,e1,e2⟩:=h1.one k1
   subst e1 e2
   rcases k2 with k2|k2
   ·rw [h2] at k2;cases k2
   ·exact h3 k2
 |_+1,0,_,_,_,_,_,_,⟨n',s',d',k1,k2,_⟩,⟨_,h1⟩=>by
  exfalso
  rcases h1 with ⟨h1,_⟩|⟨n,s,d,h1,h2,h3,_⟩
  ·have:=k1.1
   rw [h1] at this;cases this
  ·obtain ⟨_,e1,e2⟩:=h1.one k1
   subst e1 e2
   rcases k2 with k2|k2
   ·rw [h2] at k2;cases k2
   ·exact h3 k2
 |_+1,_+1,_,_,_,_,_,_,⟨n,s,d,h1,_,h2⟩,⟨n',s',d',k1,_,k2⟩=>by
  obtain ⟨e,_,_⟩:=h1.one k1
  have e:n=n':=by omega
  subst e
  exact MeetN.one h2 k2
section
variable {L : List Nat} {lv : LSt} {r : Nat} {g : Int → Int × Int} {src src2 : Int → Int → Int → Prop} {x x' : SS}
theorem SI.ends (O:LvOk L lv):∀ {k:Nat}{x:SS},SI L lv r g src (fun _ _=>True) x->EndN lv r g k x x'->SI L lv r g src (fun _ _=>True) x'/\∀ a,x'.H a=none
 |0,x,h,⟨h1,h2⟩=>by subst h2;exact ⟨h,h1⟩
 |_+1,x,h,⟨n,s,d,h1,h2⟩=>by
  obtain ⟨s',d',k1,_⟩:=h.key h1.1
  exact SI.ends O (h.go O k1).1 h2
theorem pushH_some (H:Int->Option (Int × Int))(a s d:Int):pushH H a s d a≠none:=by
 unfold pushH
 cases h:pushB H a s d with
 |true=>rw [if_pos rfl,putH_at];exact fun e=>(by cases e)
 |false =>
  obtain ⟨s',d',h1,_⟩:=pushB_no h
  rw [if_neg (by decide),h1];exact fun e=>(by cases e)
theorem pushH_off (H:Int->Option (Int × Int)){a b:Int}(s d:Int)(h:b≠a):pushH H a s d b=H b:=by
 unfold pushH
 split
 ·exact putH_off _ _ _ h
 ·rfl
theorem stepS_same {n:Nat}{e:LE}{a:Int}(h:(stepS lv r g n x e).H a=none):x.H a=none/\(stepS lv r g n x e).F a=x.F a:=by
 unfold stepS at h ⊢
 split
 ·rename_i hc
  rw [if_pos hc] at h
  unfold lowS at h ⊢
  rw [if_pos hc.2] at h ⊢
  replace h:pushH x.H (e.to:Int) _ _ a=none:=h
  by_cases ea:a=(e.to:Int)
  ·subst ea;exact absurd h (pushH_some _ _ _ _)
  ·rw [pushH_off _ _ _ ea] at h
   refine ⟨h,?_⟩
   show putH x.F (e.to:Int) _ _ a=_
   exact putH_off _ _ _ ea
 ·rename_i hc
  rw [if_neg hc] at h
  exact ⟨h,rfl⟩
theorem foldS_same {n:Nat}{a:Int}:∀ {l:List LE}{x:SS},(l.foldl (stepS lv r g n) x).H a=none->x.H a=none/\(l.foldl (stepS lv r g n) x).F a=x.F a
 |[],_,h=>⟨h,rfl⟩
 |e::l,x,h=>by
  obtain ⟨h1,h2⟩:=foldS_same (l:=l) (x:=stepS lv r g n x e) h
  obtain ⟨h3,h4⟩:=stepS_same h1
  exact ⟨h3,h2.trans h4⟩
structure MI (L:List Nat) (lv:LSt) (g:Int->Int × Int) (src:Int->Int->Int->Prop) (E:Int->Option (Int × Int)) (x:SS) (m:Mt):Prop where
 si:SI L lv 0 g src (fun _ _=>True) x
 fnd:m.f=true->∃ fs fd es ed fs' fd',E m.n=some (es,ed)/\x.F m.n=some (fs',fd')/\val fs' fd'<=val fs fd/\m.s=fs+es/\m.d=fd+ed/\0<=fs/\0<=fd/\fs<=2847923/\fd<=2847923
 see:∀ {a s d t u},x.F a=some (s,d)->x.H a=none->E a=some (t,u)->m.f=true/\val m.s m.d<=val s d+val t u
theorem SI.fgo (O:LvOk L lv)(h:SI L lv r g src (fun _ _=>True) x){n:Nat}{s d:Int}(hn:x.F (n:Int)=some (s,d)):∀ {a s d},x.F a=some (s,d)->∃ s' d',(goS lv r g n (popS x (n:Int))).F a=some (s',d')/\val s' d'<=val s d:=by
 have key:∀ {l:List LE}{D:Int->Prop}{x:SS},(∀ e ∈ l,e ∈ lv.es n)->SI L lv r g src (fun a b=>a≠(n:Int)\/D b) x->x.F (n:Int)=some (s,d)->x.H (n:Int)=none->∀ {a s d},x.F a=some (s,d)->∃ s' d',(l.foldl (stepS lv r g n) x).F a=some (s',d')/\val s' d'<=val s d:=by
  intro l
  induction l with
  |nil=>exact fun {_ _} _ _ _ _ {_ s d} ha=>⟨s,d,ha,Int.le_refl _⟩
  |cons e l ih =>
   intro D x hl h hn hH a s1 d1 ha
   have he:=hl e (List.mem_cons_self ..)
   obtain ⟨h1,h2,h3⟩:=h.step O hn hH he
   have hst:∃ s' d',(stepS lv r g n x e).F a=some (s',d')/\val s' d'<=val s1 d1:=by
    unfold stepS
    split
    ·rename_i hc
     unfold lowS
     rw [if_pos hc.2]
     show ∃ s' d',putH x.F (e.to:Int) _ _ a=some (s',d')/\_
     by_cases ea:a=(e.to:Int)
     ·subst ea
      exact ⟨_,_,putH_at _ _ _ _,by have:=pushB_iff.1 hc.2 _ _ ha;omega⟩
     ·exact ⟨s1,d1,by rw [putH_off _ _ _ ea];exact ha,Int.le_refl _⟩
    ·exact ⟨s1,d1,ha,Int.le_refl _⟩
   obtain ⟨s2,d2,k1,k2⟩:=hst
   obtain ⟨s3,d3,k3,k4⟩:=ih (fun e' he'=>hl e' (List.mem_cons_of_mem _ he')) h1 h2 h3 k1
   exact ⟨s3,d3,k3,by omega⟩
 have h1:=(h.pop (n:Int)).mono (P':=fun a b=>a≠(n:Int)\/False) (fun _ _ hP _=>⟨by rcases hP with q|q;exact q;exact q.elim,trivial⟩)
 exact fun {_ _ _} ha=>key (fun _ h=>h) h1 hn (delH_at _ _) ha
variable {E : Int → Option (Int × Int)} {m m' : Mt}
theorem mtS_le (n:Nat)(h:m.f=true):(mtS E x n m).f=true/\val (mtS E x n m).s (mtS E x n m).d<=val m.s m.d:=by
 unfold mtS
 split
 ·exact ⟨h,Int.le_refl _⟩
 ·split
  ·rename_i hc
   refine ⟨rfl,?_⟩
   rcases hc with hc|hc
   ·rw [h] at hc;cases hc
   ·exact Int.le_of_lt hc
  ·exact ⟨h,Int.le_refl _⟩
theorem MI.go (O:LvOk L lv)(h:MI L lv g src E x m){n:Nat}{s d:Int}(hn:x.F (n:Int)=some (s,d)):MI L lv g src E (goS lv 0 g n (popS x (n:Int))) (mtS E x n m):=by
 obtain ⟨k1,k2,k3⟩:=h.si.go O hn
 have hlow:=fun {a s d}(ha:x.F a=some (s,d))=>h.si.fgo O hn ha
 have hgd:(x.F (n:Int)).getD (0,0)=(s,d):=by rw [hn];rfl
 have hb:=h.si.big hn
 refine ⟨k1,fun hf=>?_,fun {a p q t u} ha hH hE=>?_⟩
 ·have elder:m.f=true->(∃ fs fd es ed fs' fd',E m.n=some (es,ed)/\(goS lv 0 g n (popS x (n:Int))).F m.n=some (fs',fd')/\val fs' fd'<=val fs fd/\m.s=fs+es/\m.d=fd+ed/\0<=fs/\0<=fd/\fs<=2847923/\fd<=2847923):=fun hf=>by
   obtain ⟨fs,fd,es,ed,fs',fd',q1,q2,q3,q4⟩:=h.fnd hf
   obtain ⟨a1,a2,a3,a4⟩:=hlow q2
   exact ⟨fs,fd,es,ed,a1,a2,q1,a3,by omega,q4⟩
  unfold mtS at hf ⊢
  cases hE:E (n:Int) with
  |none =>
   rw [hE] at hf
   exact elder hf
  |some e =>
   rw [hE] at hf
   show ∃ fs fd es ed fs' fd',E (if m.f=false\/val (((x.F (n:Int)).getD (0,0)).1+e.1) (((x.F (n:Int)).getD (0,0)).2+e.2)<val m.s m.d then (⟨n,((x.F (n:Int)).getD (0,0)).1+e.1,((x.F (n:Int)).getD (0,0)).2+e.2,true⟩:Mt) else m).n=some (es,ed)/\(goS lv 0 g n (popS x (n:Int))).F (if m.f=false\/val (((x.F (n:Int)).getD (0,0)).1+e.1) (((x.F (n:Int)).getD (0,0)).2+e.2)<val m.s m.d then (⟨n,((x.F (n:Int)).getD (0,0)).1+e.1,((x.F (n:Int)).getD (0,0)).2+e.2,true⟩:Mt) else m).n=some (fs',fd')/\val fs' fd'<=val fs fd/\(if m.f=false\/val (((x.F (n:Int)).getD (0,0)).1+e.1) (((x.F (n:Int)).getD (0,0)).2+e.2)<val m.s m.d then (⟨n,((x.F (n:Int)).getD (0,0)).1+e.1,((x.F (n:Int)).getD (0,0)).2+e.2,true⟩:Mt) else m).s=fs+es/\(if m.f=false\/val (((x.F (n:Int)).getD (0,0)).1+e.1) (((x.F (n:Int)).getD (0,0)).2+e.2)<val m.s m.d then (⟨n,((x.F (n:Int)).getD (0,0)).1+e.1,((x.F (n:Int)).getD (0,0)).2+e.2,true⟩:Mt) else m).d=fd+ed/\_
   split
   ·rw [hgd]
    exact ⟨s,d,e.1,e.2,s,d,hE,k2,Int.le_refl _,rfl,rfl,hb.1,hb.2.1,hb.2.2.1,hb.2.2.2.1⟩
   ·rename_i hc
    refine elder ?_
    have hf':(if m.f=false\/val (((x.F (n:Int)).getD (0,0)).1+e.1) (((x.F (n:Int)).getD (0,0)).2+e.2)<val m.s m.d then (⟨n,((x.F (n:Int)).getD (0,0)).1+e.1,((x.F (n:Int)).getD (0,0)).2+e.2,true⟩:Mt) else m).f=true:=hf
    rw [if_neg hc] at hf'
    exact hf'
 ·by_cases ea:a=(n:Int)
  ·subst ea
   rw [k2] at ha
   cases ha
   unfold mtS
   rw [hE]
   rw [hgd]
   by_cases hc:m.f=false\/val (s+t) (d+u)<val m.s m.d
   ·have e0:(if m.f=false\/val (s+t) (d+u)<val m.s m.d then (⟨n,s+t,d+u,true⟩:Mt) else m)=⟨n,s+t,d+u,true⟩:=if_pos hc
    show (if m.f=false\/val (s+t) (d+u)<val m.s m.d then (⟨n,s+t,d+u,true⟩:Mt) else m).f=true/\val (if m.f=false\/val (s+t) (d+u)<val m.s m.d then (⟨n,s+t,d+u,true⟩:Mt) else m).s (if m.f=false\/val (s+t) (d+u)<val m.s m.d then (⟨n,s+t,d+u,true⟩:Mt) else m).d<=_
    rw [e0]
    exact ⟨rfl,by show val (s+t) (d+u)<=_;rw [val_both];omega⟩
   ·have e0:(if m.f=false\/val (s+t) (d+u)<val m.s m.d then (⟨n,s+t,d+u,true⟩:Mt) else m)=m:=if_neg hc
    show (if m.f=false\/val (s+t) (d+u)<val m.s m.d then (⟨n,s+t,d+u,true⟩:Mt) else m).f=true/\val (if m.f=false\/val (s+t) (d+u)<val m.s m.d then (⟨n,s+t,d+u,true⟩:Mt) else m).s (if m.f=false\/val (s+t) (d+u)<val m.s m.d then (⟨n,s+t,d+u,true⟩:Mt) else m).d<=_
    rw [e0]
    refine ⟨?_,?_⟩
    ·cases hf:m.f with
     |true=>rfl
     |false=>exact absurd (Or.inl hf) hc
    ·have:¬ val (s+t) (d+u)<val m.s m.d:=fun q=>hc (Or.inr q)
     rw [val_both] at this
     omega
  ·obtain ⟨f1,f2⟩:=foldS_same (l:=lv.es n) (x:=popS x (n:Int)) hH
   have hH':x.H a=none:=by
    have:delH x.H (n:Int) a=none:=f1
    rwa [delH_off _ ea] at this
   have ha':x.F a=some (p,q):=f2.symm.trans ha
   obtain ⟨g1,g2⟩:=h.see ha' hH' hE
   obtain ⟨g3,g4⟩:=mtS_le (E:=E) (x:=x) n g1
   exact ⟨g3,by omega⟩
structure MEnd (L:List Nat) (lv:LSt) (g:Int->Int × Int) (src:Int->Int->Int->Prop) (E:Int->Option (Int × Int)) (x:SS) (m:Mt):Prop where
 mi:MI L lv g src E x m
 far:∀ {a s d},x.H a=some (s,d)->m.f=true/\val m.s m.d<=val s d
theorem MI.ends (O:LvOk L lv):∀ {k:Nat}{x:SS}{m:Mt},MI L lv g src E x m->MeetN lv g E k x m x' m'->∃ y,MEnd L lv g src E y m'/\x'.F=y.F/\x'.A=y.A
 |0,x,m,h,⟨h1,h2⟩=>by
  subst h1
  rcases h2 with ⟨h2,rfl⟩|⟨n,s,d,h2,h3,h4,rfl⟩
  ·exact ⟨x',⟨h,fun ha=>by rw [h2] at ha;cases ha⟩,rfl,rfl⟩
  ·exact ⟨x,⟨h,fun ha=>⟨h3,by have:=h2.least ha;omega⟩⟩,rfl,rfl⟩
 |_+1,x,m,h,⟨n,s,d,h1,_,h2⟩=>by
  obtain ⟨s',d',k1,_⟩:=h.si.key h1.1
  exact MI.ends O (h.go O k1) h2
def Adm (L:List Nat) (es:Nat->List LE) (g:Int->Int × Int) (src2:Int->Int->Int->Prop):Prop:=∀ {b i s d p q:Int},0<=b->b.toNat ∈ L->src2 i s d->Wg (GrE es) b i p q->val (g b).1 (g b).2<=val p q+val s d
theorem GrE.back {es:Nat->List LE}(hE:Esy es){a b t u:Int}(ha:0<=a)(h:GrE es a b t u):GrE es b a t u:=by
 obtain ⟨e,h1,h2,h3,h4⟩:=h
 refine ⟨⟨a.toNat,e.s,e.d,e.mid⟩,?_,by show a=((a.toNat:Nat):Int);omega,h3,h4⟩
 rw [h2,Int.toNat_natCast]
 exact hE.back h1
theorem GrE.wback {es:Nat->List LE}(hE:Esy es){a b s d:Int}(ha:0<=a)(h:Wg (GrE es) a b s d):Wg (GrE es) b a s d:=by
 have key:=h (fun x p q=>0<=x/\Wg (GrE es) x a p q) ⟨ha,Wg.nil⟩ (fun x p q y t u ⟨h0,hx⟩ e=>by
  obtain ⟨e',_,k2,_⟩:=id e
  refine ⟨by omega,?_⟩
  have:=(Wg.one (GrE.back hE h0 e)).trans hx
  rwa [Int.add_comm t,Int.add_comm u] at this)
 exact key.2
theorem MEnd.best (O:LvOk L lv){y:SS}(h:MEnd L lv g src E x m)(hy:SI L lv 1 (fun _=>(0,0)) src2 (fun _ _=>True) y)(hyH:∀ a,y.H a=none)(hEy:E=y.F)(hA:Adm L lv.es g src2)
  {o s0 d0 i s1 d1:Int}{k:Nat}{p q p' q':Int}(ho:src o s0 d0) (hi:src2 i s1 d1) (h1:Wg (LvE lv 0) o (k:Int) p q) (h2:Wg (LvE lv 1) i (k:Int) p' q'):m.f=true/\val m.s m.d<=val s0 d0+val p q+val p' q'+val s1 d1:=by
 -- what the end costs
 have hend:∃ s d,y.F (k:Int)=some (s,d)/\val s d<=val s1 d1+val p' q':=by
  obtain ⟨s,d,e1,e2⟩:=hy.hom hi
  refine h2 (fun a p' q'=>∃ s d,y.F a=some (s,d)/\val s d<=val s1 d1+val p' q') ⟨s,d,e1,by unfold val at *;omega⟩ (fun a p1 q1 b t u ⟨s,d,e1,e2⟩ ed=>?_)
  obtain ⟨s',d',e3,e4⟩:=hy.don e1 (hyH a) trivial ed
  exact ⟨s',d',e3,by rw [val_both];omega⟩
 obtain ⟨s,d,e1,e2⟩:=hend
 -- what is left from a corner on the way
 have gr:∀ {r a b s d},Wg (LvE lv r) a b s d->Wg (GrE lv.es) a b s d:=fun hw=>hw.mono (fun _ _ _ _ e=>e.gr)
 have hi0:0<=i:=by
  obtain ⟨_,_,e,_⟩:=hy.hom hi
  exact (hy.lab e).1
 have hdn:=GrE.wback O.esy hi0 (gr h2)
 have hbeg:(∃ s d,x.F (k:Int)=some (s,d)/\val s d<=val s0 d0+val p q)\/(m.f=true/\val m.s m.d<=val s0 d0+val p q+val p' q'+val s1 d1):=by
  obtain ⟨sa,da,f1,f2⟩:=h.mi.si.hom ho
  have key:=h1 (fun a p1 q1=>(∃ s d,x.F a=some (s,d)/\val s d<=val s0 d0+val p1 q1)\/(∃ b p2 q2,0<=b/\b.toNat ∈ L/\Wg (LvE lv 0) b a p2 q2/\∃ sk dk,x.H b=some (sk,dk)/\val sk dk - val (g b).1 (g b).2+val p2 q2<=val s0 d0+val p1 q1)) (Or.inl ⟨sa,da,f1,by unfold val at *;omega⟩) (fun a p1 q1 b t u hx ed=>by
   rcases hx with ⟨s,d,k1,k2⟩|⟨b',p2,q2,k0,k1,k2,sk,dk,k3,k4⟩
   ·cases hH:x.H a with
    |none =>
     obtain ⟨s',d',k3,k4⟩:=h.mi.si.don k1 hH trivial ed
     exact Or.inl ⟨s',d',k3,by rw [val_both];omega⟩
    |some c =>
     obtain ⟨s',d',k3,k4,k5⟩:=h.mi.si.key (s:=c.1) (d:=c.2) hH
     rw [k1] at k3
     cases k3
     obtain ⟨l1,l2,_⟩:=h.mi.si.lab k1
     refine Or.inr ⟨a,t,u,l1,l2,Wg.one ed,c.1,c.2,hH,?_⟩
     rw [k4,k5,val_both,val_both]
     omega
   ·exact Or.inr ⟨b',p2+t,q2+u,k0,k1,k2.step ed,sk,dk,k3,by rw [val_both,val_both];omega⟩)
  rcases key with key|⟨b,p2,q2,k0,k1,k2,sk,dk,k3,k4⟩
  ·exact Or.inl key
  ·right
   obtain ⟨g1,g2⟩:=h.far k3
   have g3:=hA k0 k1 hi ((gr k2).trans hdn)
   rw [val_both] at g3
   exact ⟨g1,by omega⟩
 rcases hbeg with ⟨s2,d2,k1,k2⟩|k
 ·cases hH:x.H (k:Int) with
  |none =>
   obtain ⟨g1,g2⟩:=h.mi.see k1 hH (by rw [hEy];exact e1)
   exact ⟨g1,by omega⟩
  |some c =>
   obtain ⟨g1,g2⟩:=h.far (s:=c.1) (d:=c.2) hH
   obtain ⟨s',d',k3,k4,k5⟩:=h.mi.si.key (s:=c.1) (d:=c.2) hH
   rw [k1] at k3
   cases k3
   obtain ⟨l1,l2,_⟩:=h.mi.si.lab k1
   have g3:=hA l1 l2 hi hdn
   rw [k4,k5,val_both] at g2
   exact ⟨g1,by omega⟩
 ·exact k
end
end
section
def Bk (A:Int->Option Int):List Nat->Prop
 |[]=>False
 |[n]=>A (n:Int)=none
 |n::m::l=>A (n:Int)=some (m:Int)/\Bk A (m::l)
theorem Bk.one {A:Int->Option Int}:∀ {n:Nat}{l l':List Nat},Bk A (n::l)->Bk A (n::l')->l=l'
 |_,[],[],_,_=>rfl
 |_,[],_::_,h,h'=>by
  have h1:A _=none:=h
  rw [h'.1] at h1;cases h1
 |_,_::_,[],h,h'=>by
  have h1:A _=none:=h'
  rw [h.1] at h1;cases h1
 |_,m::l,m'::l',h,h'=>by
  have h1:=h.1.symm.trans h'.1
  have e:m=m':=by
   have:=Option.some.inj h1
   omega
  subst e
  rw [Bk.one h.2 h'.2]
section
variable {L : List Nat} {lv : LSt} {r : Nat} {g : Int → Int × Int} {src src2 : Int → Int → Int → Prop} {P : Int → Int → Prop} {x : SS}
theorem SI.back (O:LvOk L lv)(h:SI L lv r g src P x):∀ {l:List Nat}{n:Nat}{s d:Int},Bk x.A (n::l)->x.F (n:Int)=some (s,d)->∃ (o:Nat) (s0 d0 p q:Int),(n::l).getLast? = some o/\src (o:Int) s0 d0/\Prc lv.es (n::l) p q/\val s0 d0+val p q<=val s d
 |[],n,s,d,hb,hF=>⟨n,s,d,0,0,rfl,h.top hF hb,⟨rfl,rfl⟩,by unfold val;omega⟩
 |m::l,n,s,d,hb,hF=>by
  obtain ⟨s',d',s2,d2,t,u,k1,k2,⟨e,k3,k4,k5,k6,_⟩,k7⟩:=h.ptr hb.1
  rw [hF] at k2
  cases k2
  obtain ⟨o,s0,d0,p,q,j1,j2,j3,j4⟩:=SI.back O h hb.2 k1
  rw [Int.toNat_natCast] at k3
  have hbk:=O.esy.back k3
  have e1:e.to=n:=by omega
  rw [e1] at hbk
  refine ⟨o,s0,d0,p+e.s,q+e.d,by simpa using j1,j2,⟨_,hbk,rfl,?_⟩,?_⟩
  ·show Prc lv.es (m::l) (p+e.s - e.s) (q+e.d - e.d)
   rw [show p+e.s - e.s=p by omega,show q+e.d - e.d=q by omega]
   exact j3
  ·rw [val_both,<- k5,<- k6]
   omega
theorem Prc.rev (hE:Esy lv.es):∀ {l:List Nat}{n:Nat}{s d:Int},Prc lv.es (n::l) s d->Prc lv.es (n::l).reverse s d
 |[],_,_,_,h=>h
 |m::l,n,s,d,⟨e,he,ht,h⟩=>by
  have ih:=Prc.rev hE h
  have hb:=hE.back he
  rw [ht] at hb
  have h2:Prc lv.es (m::[n]) e.s e.d:=⟨_,hb,rfl,by show e.s - e.s=0;omega,by show e.d - e.d=0;omega⟩
  obtain ⟨z,zs,hz⟩:∃ z zs,(m::l).reverse=z::zs:=by
   cases hq:(m::l).reverse with
   |nil=>simp at hq
   |cons z zs=>exact ⟨z,zs,rfl⟩
  have hl:(z::zs).getLast? = some m:=by rw [<- hz];simp
  rw [hz] at ih
  have:=Prc.join h2 ih hl
  rw [List.reverse_cons,hz,show s=s - e.s+e.s by omega,show d=d - e.d+e.d by omega]
  exact this
end
def UnpL (es:Nat->List LE):List Nat->List Nat->Prop
 |[],_=>False
 |[a],w=>w=[a]
 |a::b::l,w=>∃ p t,Unp es 6 a b p/\UnpL es (b::l) (b::t)/\w=p++t
theorem UnpL.one {es:Nat->List LE}(h:Esy es):∀ {l w w':List Nat},UnpL es l w->UnpL es l w'->w=w'
 |[],_,_,h1,_=>h1.elim
 |[_],_,_,h1,h2=>Eq.trans h1 (Eq.symm h2)
 |a::b::l,w,w',⟨p,t,h1,h2,h3⟩,⟨p',t',k1,k2,k3⟩=>by
  have e1:=Unp.one h h1 k1
  have e2:=UnpL.one h h2 k2
  rw [h3,k3,e1,(List.cons.inj e2).2]
theorem UnpL.prc {es es0:Nat->List LE}(hE:Esy es)(hU:∀ {a e},e ∈ es a->∃ way l,Unp es 6 a e.to way/\way=a::l/\l≠[]/\way.getLast? = some e.to/\Prc es0 way e.s e.d):∀ {l:List Nat}{a:Nat}{w:List Nat}{s d:Int},Prc es (a::l) s d->UnpL es (a::l) w->Prc es0 w s d/\(∃ t,w=a::t)/\w.getLast? = (a::l).getLast?
 |[],a,w,s,d,⟨h1,h2⟩,hu=>by
  have e:w=[a]:=hu
  rw [e]
  exact ⟨⟨h1,h2⟩,⟨[],rfl⟩,rfl⟩
 |b::l,a,w,s,d,⟨e,he,ht,h⟩,⟨p,t,h1,h2,h3⟩=>by
  obtain ⟨way,l',u1,u2,u3,u4,u5⟩:=hU he
  rw [ht] at u1 u4
  have ep:=Unp.one hE h1 u1
  subst ep
  obtain ⟨k1,k2,k3⟩:=UnpL.prc hE hU h h2
  subst u2
  have hj:=Prc.join k1 u5 u4
  rw [show e.s+(s - e.s)=s by omega,show e.d+(d - e.d)=d by omega] at hj
  rw [h3]
  refine ⟨hj,⟨l'++t,rfl⟩,?_⟩
  have e1:(a::b::l).getLast? = (b::l).getLast? := by simp
  rw [e1,<- k3]
  cases t with
  |nil=>rw [List.append_nil,u4];rfl
  |cons z t =>
   have e2:(b::z::t).getLast? = (z::t).getLast? := by simp
   rw [List.getLast?_append,e2]
   cases hq:(z::t).getLast? with
   |none=>simp at hq
   |some y=>rfl
structure IE where
 to:Int
 s:Int
 d:Int
 mid:Int
def okE (L:List Nat) (e:IE):Prop:=(0<=e.to/\e.to.toNat ∈ L)/\0<=e.s/\e.s<=1048576/\0<=e.d/\e.d<=1048576
def okEB (L:List Nat) (e:IE):Bool:=decide ((0<=e.to/\e.to.toNat ∈ L)/\0<=e.s/\e.s<=1048576/\0<=e.d/\e.d<=1048576)
theorem okEB_iff {L:List Nat}{e:IE}:okEB L e=true↔okE L e:=decide_eq_true_iff
def srcE (L:List Nat) (l:List IE) (o s d:Int):Prop:=∃ e ∈ l,okE L e/\o=e.to/\s=e.s/\d=e.d
def stepF (L:List Nat) (g:Int->Int × Int) (x:SS) (e:IE):SS:=if okEB L e=true then lowS g x e.to e.s e.d else x
def fromS (L:List Nat) (g:Int->Int × Int) (l:List IE):SS:=l.foldl (stepF L g) homeS
structure FI (L:List Nat) (lv:LSt) (r:Nat) (g:Int->Int × Int) (l:List IE) (x:SS):Prop where
 si:SI L lv r g (srcE L l) (fun _ _=>False) x
 no:∀ a,x.A a=none
 all:∀ {a c},x.F a=some c->x.H a≠none
section
variable {L : List Nat} {lv : LSt} {r : Nat} {g : Int → Int × Int} {l : List IE} {x : SS}
theorem FI.start (L:List Nat)(lv:LSt)(r:Nat)(g:Int->Int × Int):FI L lv r g [] homeS :=
 ⟨⟨fun h=>(by cases h),fun h=>(by cases h),fun h=>(by cases h),fun h=>(by cases h),fun ⟨e,he,_⟩=>(by cases he),fun h=>(by cases h),fun h=>(by cases h)⟩,fun _=>rfl,fun h=>(by cases h)⟩
theorem FI.step (O:LvOk L lv)(h:FI L lv r g l x)(e:IE):FI L lv r g (l++[e]) (stepF L g x e):=by
 have more:∀ {o s d},srcE L l o s d->srcE L (l++[e]) o s d:=fun ⟨e',h1,h2⟩=>⟨e',List.mem_append.2 (Or.inl h1),h2⟩
 have less:∀ {o s d},srcE L (l++[e]) o s d->srcE L l o s d\/(okE L e/\o=e.to/\s=e.s/\d=e.d):=fun ⟨e',h1,h2⟩=>by
  rcases List.mem_append.1 h1 with h1|h1
  ·exact Or.inl ⟨e',h1,h2⟩
  ·rw [List.mem_singleton.1 h1] at h2;exact Or.inr h2
 unfold stepF
 by_cases hok:okEB L e=true
 ·rw [if_pos hok]
  have ok:=okEB_iff.1 hok
  obtain ⟨⟨o1,o2⟩,o3,o4,o5,o6⟩:=id ok
  have hsm:=O.small _ o2
  unfold lowS
  cases hb:pushB x.F e.to e.s e.d with
  |false =>
   rw [if_neg (by decide)]
   refine ⟨⟨h.si.lab,fun ha=>?_,fun ha=>h.si.ptr ha,fun ha hA=>more (h.si.top ha hA),fun {o s d} ho=>?_,h.si.key,fun _ _ hP _=>hP.elim⟩,h.no,h.all⟩
   ·obtain ⟨o,s0,d0,p,q,k1,k2⟩:=h.si.snd ha
    exact ⟨o,s0,d0,p,q,more k1,k2⟩
   ·rcases less ho with ho|⟨_,rfl,rfl,rfl⟩
    ·exact h.si.hom ho
    ·exact pushB_no hb
  |true =>
   rw [if_pos rfl,h.si.pushH hb]
   have hlt:=pushB_iff.1 hb
   obtain ⟨c1,c2⟩:=cnt_grow x.F (b:=e.to) (s:=e.s) (d:=e.d) o1 (by omega)
   have hme:srcE L (l++[e]) e.to e.s e.d:=⟨e,List.mem_append.2 (Or.inr (List.mem_singleton.2 rfl)),ok,rfl,rfl,rfl⟩
   have hlower:∀ {a p q},x.F a=some (p,q)->∃ p' q',putH x.F e.to e.s e.d a=some (p',q')/\val p' q'<=val p q:=fun {a p q} ha=>by
    by_cases ea:a=e.to
    ·subst ea
     exact ⟨_,_,putH_at _ _ _ _,by have:=hlt _ _ ha;omega⟩
    ·exact ⟨p,q,by rw [putH_off _ _ _ ea];exact ha,Int.le_refl _⟩
   refine ⟨⟨fun {a p q} ha=>?_,fun {a p q} ha=>?_,fun {a m} ha=>?_,fun {a p q} ha hA=>?_,fun {o p q} ho=>?_,fun {a p q} ha=>?_,fun _ _ hP _=>hP.elim⟩,h.no,fun {a c} ha=>?_⟩
   ·show 0<=a/\a.toNat ∈ L/\0<=p/\0<=q/\val p q<=97750727262208+(cnt (putH x.F e.to e.s e.d) 256:Int)*47729847296
    replace ha:putH x.F e.to e.s e.d a=some (p,q):=ha
    by_cases ea:a=e.to
    ·subst ea
     rw [putH_at] at ha
     cases ha
     exact ⟨o1,o2,o3,o5,by unfold val;omega⟩
    ·rw [putH_off _ _ _ ea] at ha
     obtain ⟨k1,k2,k3,k4,k5⟩:=h.si.lab ha
     exact ⟨k1,k2,k3,k4,by omega⟩
   ·replace ha:putH x.F e.to e.s e.d a=some (p,q):=ha
    by_cases ea:a=e.to
    ·subst ea
     rw [putH_at] at ha
     cases ha
     exact ⟨_,_,_,0,0,hme,Wg.nil,by omega,by omega⟩
    ·rw [putH_off _ _ _ ea] at ha
     obtain ⟨o,s0,d0,p,q,k1,k2⟩:=h.si.snd ha
     exact ⟨o,s0,d0,p,q,more k1,k2⟩
   ·have:x.A a=some m:=ha
    rw [h.no] at this;cases this
   ·replace ha:putH x.F e.to e.s e.d a=some (p,q):=ha
    by_cases ea:a=e.to
    ·subst ea
     rw [putH_at] at ha
     cases ha
     exact hme
    ·rw [putH_off _ _ _ ea] at ha
     exact more (h.si.top ha hA)
   ·show ∃ p' q',putH x.F e.to e.s e.d o=some (p',q')/\_
    rcases less ho with ho|⟨_,rfl,rfl,rfl⟩
    ·obtain ⟨p1,q1,k1,k2⟩:=h.si.hom ho
     obtain ⟨p2,q2,k3,k4⟩:=hlower k1
     exact ⟨p2,q2,k3,by omega⟩
    ·exact ⟨_,_,putH_at _ _ _ _,Int.le_refl _⟩
   ·show ∃ p' q',putH x.F e.to e.s e.d a=some (p',q')/\_
    replace ha:putH x.H e.to (e.s+(g e.to).1) (e.d+(g e.to).2) a=some (p,q):=ha
    by_cases ea:a=e.to
    ·subst ea
     rw [putH_at] at ha
     cases ha
     exact ⟨_,_,putH_at _ _ _ _,rfl,rfl⟩
    ·rw [putH_off _ _ _ ea] at ha
     obtain ⟨p',q',k1,k2,k3⟩:=h.si.key ha
     exact ⟨p',q',by rw [putH_off _ _ _ ea];exact k1,k2,k3⟩
   ·show putH x.H e.to (e.s+(g e.to).1) (e.d+(g e.to).2) a≠none
    replace ha:putH x.F e.to e.s e.d a=some c:=ha
    by_cases ea:a=e.to
    ·subst ea
     rw [putH_at];exact fun q=>(by cases q)
    ·rw [putH_off _ _ _ ea] at ha ⊢
     exact h.all ha
 ·rw [if_neg hok]
  have no:¬ okE L e:=fun q=>hok (okEB_iff.2 q)
  refine ⟨⟨h.si.lab,fun ha=>?_,fun ha=>h.si.ptr ha,fun ha hA=>more (h.si.top ha hA),fun {o s d} ho=>?_,h.si.key,fun _ _ hP _=>hP.elim⟩,h.no,h.all⟩
  ·obtain ⟨o,s0,d0,p,q,k1,k2⟩:=h.si.snd ha
   exact ⟨o,s0,d0,p,q,more k1,k2⟩
  ·rcases less ho with ho|⟨q,_⟩
   ·exact h.si.hom ho
   ·exact absurd q no
theorem FI.fold (O:LvOk L lv):∀ {l' l:List IE}{x:SS},FI L lv r g l x->FI L lv r g (l++l') (l'.foldl (stepF L g) x)
 |[],l,x,h=>by rw [List.append_nil];exact h
 |e::l',l,x,h=>by
  have:=FI.fold O (l':=l') (h.step O e)
  rwa [List.append_assoc] at this
theorem FI.all_in (h:FI L lv r g l x):SI L lv r g (srcE L l) (fun _ _=>True) x:=h.si.mono (fun ha hH _ _=>h.all ha hH)
theorem from_si (O:LvOk L lv)(l:List IE):SI L lv r g (srcE L l) (fun _ _=>True) (fromS L g l):=(FI.fold O (FI.start L lv r g)).all_in
end
def BestR (L:List Nat) (lv:LSt) (g:Int->Int × Int) (out inn:List IE) (way:List Nat) (s d:Int) (f:Bool):Prop :=
 ∃ k y j x m,EndN lv 1 (fun _=>(0,0)) k (fromS L (fun _=>(0,0)) inn) y/\MeetN lv g y.F j (fromS L g out) ⟨0,0,0,false⟩ x m/\f=m.f/\(f=false->way=[]/\s=0/\d=0) /\
  (f=true->s=m.s/\d=m.d/\∃ (n:Nat) (lb le:List Nat),m.n=(n:Int)/\Bk x.A (n::lb)/\Bk y.A (n::le)/\UnpL lv.es ((n::lb).reverse++le) way)
theorem BestR.one {L:List Nat}{lv:LSt}{g:Int->Int × Int}{out inn:List IE}{way way':List Nat}{s d s' d':Int}{f f':Bool}(hE:Esy lv.es)(h:BestR L lv g out inn way s d f)(h':BestR L lv g out inn way' s' d' f'):way=way'/\s=s'/\d=d'/\f=f':=by
 obtain ⟨k,y,j,x,m,h1,h2,h3,h4,h5⟩:=h
 obtain ⟨k',y',j',x',m',k1,k2,k3,k4,k5⟩:=h'
 have e:=h1.one k1
 subst e
 obtain ⟨e1,e2⟩:=h2.one k2
 subst e1 e2
 have e:=h3.trans k3.symm
 subst e
 cases f with
 |false =>
  obtain ⟨a1,a2,a3⟩:=h4 rfl
  obtain ⟨b1,b2,b3⟩:=k4 rfl
  exact ⟨a1.trans b1.symm,a2.trans b2.symm,a3.trans b3.symm,rfl⟩
 |true =>
  obtain ⟨a1,a2,n,lb,le,a3,a4,a5,a6⟩:=h5 rfl
  obtain ⟨b1,b2,n',lb',le',b3,b4,b5,b6⟩:=k5 rfl
  have e:n=n':=by omega
  subst e
  have e1:=a4.one b4
  have e2:=a5.one b5
  subst e1 e2
  exact ⟨UnpL.one hE a6 b6,a1.trans b1.symm,a2.trans b2.symm,rfl⟩
theorem Prc.pos {L:List Nat}{lv:LSt}(O:LvOk L lv):∀ {l:List Nat}{n:Nat}{s d:Int},Prc lv.es (n::l) s d->0<=s/\0<=d
 |[],_,_,_,⟨h1,h2⟩=>by omega
 |m::l,n,s,d,⟨e,he,_,h⟩=>by
  have h1:=Prc.pos O h
  have h2:=O.bd he
  omega
theorem six {a b c e f f' g m t:Int}(h1:a+b<=f')(h2:f'<=f)(h3:c+e<=g)(h4:m=f+g)(h5:t=a+(b+e)+c)(h6:m<=t):t=m:=by omega
theorem d_near {s d fs fd es ed:Int}(hv:val s d=val (fs+es) (fd+ed))(h1:0<=s)(h2:0<=d)(h3:0<=fs)(h4:0<=fd)(h5:fs<=2847923)(h6:fd<=2847923)(h7:0<=es)(h8:0<=ed)(h9:es<=2847923)(h10:ed<=2847923):-38613965<fd+ed - d/\fd+ed - d<38613965:=by
 have h:=Int.le_of_eq hv
 clear hv
 unfold val at h
 omega
set_option maxHeartbeats 1000000 in
theorem BestR.best {most k:Nat}{L:List Nat}{st0 st:LSt}(B0:Btw L 0 16 st0)(hz:∀ n,st0.lev n=0)(hR:Rds most L st0 k st)(O:LvOk L ⟨endL (k+1) st,st.es⟩)
  (hU:∀ {a e},e ∈ st.es a->∃ way l,Unp st.es 6 a e.to way/\way=a::l/\l≠[]/\way.getLast? = some e.to/\Prc st0.es way e.s e.d)
  {g:Int->Int × Int}{out inn:List IE}(hA:Adm L st.es g (srcE L inn)) {way:List Nat}{s d:Int}{f:Bool}(h:BestR L ⟨endL (k+1) st,st.es⟩ g out inn way s d f) :
  (∀ {o i s0 d0 s1 d1 p q:Int},srcE L out o s0 d0->srcE L inn i s1 d1->Wg (GrE st0.es) o i p q->f=true/\val s d<=val (s0+p+s1) (d0+q+d1)) /\
  (f=true->∃ (o i:Nat) (t:List Nat) (s0 d0 s1 d1 p q:Int),srcE L out (o:Int) s0 d0/\srcE L inn (i:Int) s1 d1/\way=o::t/\way.getLast? = some i/\Prc st0.es way p q/\s=s0+p+s1/\d=d0+q+d1):=by
 obtain ⟨ke,y,j,x,m,h1,h2,h3,h4,h5⟩:=h
 obtain ⟨Y,Y0⟩:=(from_si O inn).ends O h1
 have M0:MI L ⟨endL (k+1) st,st.es⟩ g (srcE L out) y.F (fromS L g out) ⟨0,0,0,false⟩:=by
  have F:=FI.fold O (l':=out) (FI.start L ⟨endL (k+1) st,st.es⟩ 0 g)
  exact ⟨F.all_in,fun q=>(by cases q),fun ha hH _=>absurd hH (F.all ha)⟩
 obtain ⟨z,Z,zF,zA⟩:=M0.ends O h2
 have opt:∀ {o i s0 d0 s1 d1 p q:Int},srcE L out o s0 d0->srcE L inn i s1 d1->Wg (GrE st0.es) o i p q->m.f=true/\val m.s m.d<=val (s0+p+s1) (d0+q+d1):=fun {o i s0 d0 s1 d1 p q} ho hi hw=>by
  obtain ⟨e1,_,⟨⟨o1,o2⟩,_⟩,o3,_⟩:=id ho
  obtain ⟨e2,_,⟨⟨i1,i2⟩,_⟩,i3,_⟩:=id hi
  obtain ⟨on,rfl⟩:∃ on:Nat,o=(on:Int):=⟨o.toNat,by omega⟩
  obtain ⟨iN,rfl⟩:∃ iN:Nat,i=(iN:Int):=⟨i.toNat,by omega⟩
  obtain ⟨c,p1,q1,p2,q2,u1,u2,u3⟩:=up_down (by omega) B0 hz hR hw
  obtain ⟨b1,b2⟩:=Z.best O Y Y0 rfl hA ho hi u1 u2
  refine ⟨b1,?_⟩
  rw [val_both,val_both]
  omega
 refine ⟨fun {o i s0 d0 s1 d1 p q} ho hi hw=>?_,fun hf=>?_⟩
 ·obtain ⟨b1,b2⟩:=opt ho hi hw
  obtain ⟨c1,c2,_⟩:=h5 (h3.trans b1)
  exact ⟨h3.trans b1,by rw [c1,c2];exact b2⟩
 ·obtain ⟨c1,c2,n,lb,le,c3,c4,c5,c6⟩:=h5 hf
  obtain ⟨fs,fd,es,ed,fs',fd',f1,f2,f3,f4,f5,f6,f7,f8,f9⟩:=Z.mi.fnd (h3.symm.trans hf)
  rw [c3] at f1 f2
  rw [zA] at c4
  obtain ⟨o,s0,d0,p,q,j1,j2,j3,j4⟩:=Z.mi.si.back O c4 f2
  obtain ⟨i,s1,d1,p',q',l1,l2,l3,l4⟩:=Y.back O c5 f1
  have j5:=Prc.rev O.esy j3
  obtain ⟨z0,zs,hz0⟩:∃ z0 zs,(n::lb).reverse=z0::zs:=by
   cases hq:(n::lb).reverse with
   |nil=>simp at hq
   |cons z zs=>exact ⟨z,zs,rfl⟩
  have hz1:(z0::zs).getLast? = some n:=by rw [<- hz0];simp
  have hz2:z0=o:=by
   have:(n::lb).reverse.head? = some o:=by rw [List.head?_reverse];exact j1
   rw [hz0] at this
   simpa using this
  rw [hz0] at j5 c6
  have J:=Prc.join l3 j5 hz1
  obtain ⟨u1,⟨t,u2⟩,u3⟩:=UnpL.prc O.esy hU J c6
  have u4:way.getLast? = some i:=by
   rw [u3]
   cases le with
   |nil =>
    rw [<- l1]
    show ((z0::zs)++[]).getLast? = _
    rw [List.append_nil,hz1];rfl
   |cons a le =>
    rw [<- l1]
    show ((z0::zs)++a::le).getLast? = _
    rw [List.getLast?_append]
    have e2:(n::a::le).getLast? = (a::le).getLast? := by simp
    rw [e2]
    cases hq:(a::le).getLast? with
    |none=>simp at hq
    |some b=>rfl
  rw [hz2] at u2
  have wq:=Prc.way (x:=o) (l:=t) (y:=i) (by rw [<- u2];exact u1) (by rw [<- u2];exact u4)
  obtain ⟨_,b2⟩:=opt j2 l2 wq
  have pos1:=Prc.pos O j3
  have pos2:=Prc.pos O l3
  obtain ⟨e1,_,⟨_,o1,o2,o3,o4⟩,_,o5,o6⟩:=id j2
  obtain ⟨e2,_,⟨_,i1,i2,i3,i4⟩,_,i5,i6⟩:=id l2
  have big:=Y.big f1
  have g1:val m.s m.d=val fs fd+val es ed:=by rw [f4,f5,val_both]
  have g2:val (s0+(p+p')+s1) (d0+(q+q')+d1)=val s0 d0+(val p q+val p' q')+val s1 d1:=by rw [val_both,val_both,val_both]
  have hv:val (s0+(p+p')+s1) (d0+(q+q')+d1)=val m.s m.d:=six j4 f3 l4 g1 g2 b2
  have hd:-38613965<m.d - (d0+(q+q')+d1)/\m.d - (d0+(q+q')+d1)<38613965:=by
   rw [f4,f5] at hv
   rw [f5]
   exact d_near hv (by clear hv g1 g2 b2 j4 f3 l4;omega) (by clear hv g1 g2 b2 j4 f3 l4;omega) f6 f7 f8 f9 big.1 big.2.1 big.2.2.1 big.2.2.2.1
  obtain ⟨v1,v2⟩:=val_inj _ _ _ _ hd.1 hd.2 hv
  exact ⟨o,i,t,s0,d0,s1,d1,p+p',q+q',j2,l2,u2,u4,u1,by rw [c1];exact v1.symm,by rw [c2];exact v2.symm⟩
end
section
open Go.RowKit
def leV (e:LE):List Value:=[.int .i64 (e.to:Int),.int .i64 e.s,.int .i64 e.d,.int .i64 e.mid]
def lesV (l:List LE):List Value:=l.flatMap leV
theorem lesV_cons (e:LE)(l:List LE):lesV (e::l)=leV e++lesV l:=rfl
theorem lesV_app (l l':List LE):lesV (l++l')=lesV l++lesV l':=by
 unfold lesV
 rw [List.flatMap_append]
theorem lesV_one (e:LE):lesV [e]=leV e:=by
 unfold lesV
 rw [List.flatMap_cons,List.flatMap_nil,List.append_nil]
theorem lesV_len (l:List LE):(lesV l).length=l.length*4:=by
 induction l with
 |nil=>rfl
 |cons n l ih=>rw [lesV_cons,List.length_append,ih,List.length_cons];show 4+_=_;omega
theorem lesV_cells (l:List LE):∀ u ∈ lesV l,u.oneCell'=true:=by
 intro u hu
 unfold lesV at hu
 obtain ⟨n,_,hn⟩:=List.mem_flatMap.1 hu
 unfold leV at hn
 simp at hn
 rcases hn with rfl|rfl|rfl|rfl <;> rfl
theorem lesV_at:∀ (l:List LE) (i:Nat) (e:LE),l[i]? = some e->(lesV l)[i*4]? = some (.int .i64 (e.to:Int))/\(lesV l)[i*4+1]? = some (.int .i64 e.s)/\(lesV l)[i*4+2]? = some (.int .i64 e.d)/\(lesV l)[i*4+3]? = some (.int .i64 e.mid)
 |[],i,e,h=>by simp at h
 |x::l,0,e,h=>by
  simp at h;subst h
  rw [lesV_cons]
  exact ⟨rfl,rfl,rfl,rfl⟩
 |x::l,i+1,e,h=>by
  have ih:=lesV_at l i e (by simpa using h)
  have hl:(leV x).length=4:=rfl
  have key:∀ k,(lesV (x::l))[(i+1)*4+k]? = (lesV l)[i*4+k]? := fun k=>by
   rw [lesV_cons,List.getElem?_append_right (by rw [hl];omega),hl]
   congr 1;omega
  exact ⟨(key 0).trans ih.1,(key 1).trans ih.2.1,(key 2).trans ih.2.2.1,(key 3).trans ih.2.2.2⟩
def RowL (w:World) (A:Option Addr) (l:List LE):Prop:=∀ (i:Nat) (e:LE),l[i]? = some e->∃ b o,A=some ⟨b,o,none⟩/\w.cell? ⟨b,o+i*4,none⟩=some (.int .i64 (e.to:Int))/\w.cell? ⟨b,o+i*4+1,none⟩=some (.int .i64 e.s)/\w.cell? ⟨b,o+i*4+2,none⟩=some (.int .i64 e.d)/\w.cell? ⟨b,o+i*4+3,none⟩=some (.int .i64 e.mid)
section
variable {w w' : World} {A : Option Addr} {l : List LE}
theorem RowL.keep {F:Nat->Prop}(h:RowL w A l)(K:Keep F w w')(hF:∀ b o,A=some ⟨b,o,none⟩->¬ F b):RowL w' A l:=fun i e hi=>by
 obtain ⟨b,o,e0,h1,h2,h3,h4⟩:=h i e hi
 have hb:=hF b o e0
 exact ⟨b,o,e0,K.cellOf h1 hb,K.cellOf h2 hb,K.cellOf h3 hb,K.cellOf h4 hb⟩
theorem RowL.below (h:RowL w A l)(hb:Below w.heap.size w w'):RowL w' A l:=h.keep (F:=fun _=>False) (Keep.of_below hb) (fun _ _ _=>id)
theorem RowL.nil (w:World)(A:Option Addr):RowL w A []:=fun i e h=>by simp at h
theorem RowL.lt (h:RowL w A l)(hl:0<l.length):∃ b o,A=some ⟨b,o,none⟩/\b<w.heap.size:=by
 obtain ⟨b,o,e0,h1,_⟩:=h 0 l[0] (by simp)
 exact ⟨b,o,e0,World.block_lt_of_cell? _ _ h1⟩
theorem RowL.drop {b o:Nat}(h:RowL w (some ⟨b,o,none⟩) l)(k:Nat):RowL w (some ⟨b,o+k*4,none⟩) (l.drop k):=fun i e hi=>by
 rw [List.getElem?_drop] at hi
 obtain ⟨b',o',e0,h1,h2,h3,h4⟩:=h (k+i) e hi
 cases e0
 refine ⟨b,o+k*4,rfl,?_,?_,?_,?_⟩
 ·rw [show o+k*4+i*4=o+(k+i)*4 by omega];exact h1
 ·rw [show o+k*4+i*4+1=o+(k+i)*4+1 by omega];exact h2
 ·rw [show o+k*4+i*4+2=o+(k+i)*4+2 by omega];exact h3
 ·rw [show o+k*4+i*4+3=o+(k+i)*4+3 by omega];exact h4
theorem rowL_of {base:Nat}{v:Value}(h:w.ownsRow base 207 4 v l.length (lesV l)):∃ A cap,v=.slice A l.length cap/\RowL w A l/\((A=none/\l=[])\/∃ g,A=some ⟨g,0,none⟩/\v.ownBlock=some g/\base<=g/\g<w.heap.size):=by
 rcases h.2 with ⟨rfl,h0⟩|⟨g,cap,cur,rfl,hb,hg,_⟩
 ·have e:l=[]:=List.length_eq_zero_iff.1 h0
  subst e
  exact ⟨none,0,rfl,RowL.nil _ _,Or.inl ⟨rfl,rfl⟩⟩
 ·refine ⟨_,_,rfl,fun i e hi=>?_,Or.inr ⟨g,rfl,rfl,hb,(Array.getElem?_eq_some_iff.1 hg).1⟩⟩
  obtain ⟨e0,e1,e2,e3⟩:=lesV_at l i e hi
  have hi':i<l.length:=(List.getElem?_eq_some_iff.1 hi).1
  refine ⟨g,0,rfl,?_,?_,?_,?_⟩
  ·rw [Nat.zero_add];exact (h.cellAt _ (by omega)).trans e0
  ·rw [Nat.zero_add];exact (h.cellAt _ (by omega)).trans e1
  ·rw [Nat.zero_add];exact (h.cellAt _ (by omega)).trans e2
  ·rw [Nat.zero_add];exact (h.cellAt _ (by omega)).trans e3
end
def pickL (p:LE->Bool) (l:List LE) (k:Nat):List LE:=(l.take k).filter p
theorem pickL_no {p:LE->Bool}{l:List LE}{k:Nat}{e:LE}(h:l[k]? = some e)(hp:p e=false):pickL p l (k+1)=pickL p l k:=by
 unfold pickL
 rw [List.take_add_one,h,List.filter_append]
 simp [hp]
theorem pickL_yes {p:LE->Bool}{l:List LE}{k:Nat}{e:LE}(h:l[k]? = some e)(hp:p e=true):pickL p l (k+1)=pickL p l k++[e]:=by
 unfold pickL
 rw [List.take_add_one,h,List.filter_append]
 simp [hp]
theorem pickL_len {p:LE->Bool}{l:List LE}{k:Nat}:(pickL p l k).length<=l.length :=
 Nat.le_trans (List.length_filter_le _ _) (by rw [List.length_take];omega)
theorem pickL_all {p:LE->Bool}{l:List LE}:pickL p l l.length=l.filter p:=by
 unfold pickL
 rw [List.take_length]
end
section
open Go.RowKit
set_option maxHeartbeats 2000000 in
set_option maxRecDepth 1000000 in
theorem find_added {cap:Nat}{A:Option Addr}{l:List LE}{p:LE->Bool}(w:World)(hrow:RowL w A l)(hl:l.length<=256)
  (hC:∀ (w':World) (e:LE),Below w.heap.size w w'->e ∈ l->Calls Tryz.prog 102 #[.agg #[.int .i64 (e.to:Int),.int .i64 e.s,.int .i64 e.d,.int .i64 e.mid]] w' fun r w''=>r=.returned (.bool (p e))/\Below w'.heap.size w' w'') :
  Calls Tryz.prog 101 #[.slice A l.length cap,.func (.func 102) #[] #[]] w fun e w'=>∃ v,e=.returned v/\w'.ownsRow w.heap.size 207 4 v (l.filter p).length (lesV (l.filter p))/\Below w.heap.size w w':=by
 obtain ⟨i0,hi,hz0,hz1,hz2⟩:=info_parts Tryz.infoE
 have HC:Hid (∀ (w':World) (e:LE),Below w.heap.size w w'->e ∈ l->Calls Tryz.prog 102 #[.agg #[.int .i64 (e.to:Int),.int .i64 e.s,.int .i64 e.d,.int .i64 e.mid]] w' fun r w''=>r=.returned (.bool (p e))/\Below w'.heap.size w' w''):=hC
 clear hC
 go_enter Tryz.func101,Tryz.ntmps101
 go_wp2
 go_loopw [5,10] (fun fv iv wr=>∃ k:Nat,k<=l.length/\iv=.int .i64 k/\wr.ownsRow w.heap.size 207 4 fv (pickL p l k).length (lesV (pickL p l k))/\Below w.heap.size w wr)
  (fun _ i _=>l.length - (intOf i).toNat)
 case atStart=>exact ⟨0,Nat.zero_le _,rfl,World.ownsRow_nil _ _ _ _,Below.refl _ _⟩
 case round =>
  obtain ⟨k,hk,rfl,hown,hB⟩:=hrel
  by_cases hlt:k<l.length
  ·obtain ⟨e,he⟩:∃ e,l[k]? = some e:=⟨l[k],by simp [hlt]⟩
   obtain ⟨b,o,rfl,q1,q2,q3,q4⟩:=(hrow.below hB) k e he
   have hem:e ∈ l:=List.mem_of_getElem? he
   have i1:(0:Int)<=(k:Int):=by omega
   have i2:(k:Int)<(l.length:Int):=by omega
   have hbz:=hB.size
   have B0:Below w.heap.size w (wr.alloc (.cells #[.int .i64 (e.to:Int),.int .i64 e.s,.int .i64 e.d,.int .i64 e.mid] 207)):=hB.alloc hbz _
   have b0:Below wr.heap.size wr (wr.alloc (.cells #[.int .i64 (e.to:Int),.int .i64 e.s,.int .i64 e.d,.int .i64 e.mid] 207)):=(Below.refl _ _).alloc (Nat.le_refl _) _
   have hcl:=HC.out (wr.alloc (.cells #[.int .i64 (e.to:Int),.int .i64 e.s,.int .i64 e.d,.int .i64 e.mid] 207)) e B0 hem
   have hfl:(pickL p l k).length<=256:=Nat.le_trans pickL_len hl
   have hown0:=own_below hown b0
   have x0:(wr.alloc (.cells #[.int .i64 (e.to:Int),.int .i64 e.s,.int .i64 e.d,.int .i64 e.mid] 207)).cell? ⟨wr.heap.size,0,none⟩=some (.int .i64 (e.to:Int)):=World.cell?_alloc_at _ _ _ 0 rfl
   have x1:(wr.alloc (.cells #[.int .i64 (e.to:Int),.int .i64 e.s,.int .i64 e.d,.int .i64 e.mid] 207)).cell? ⟨wr.heap.size,1,none⟩=some (.int .i64 e.s):=World.cell?_alloc_at _ _ _ 1 rfl
   have x2:(wr.alloc (.cells #[.int .i64 (e.to:Int),.int .i64 e.s,.int .i64 e.d,.int .i64 e.mid] 207)).cell? ⟨wr.heap.size,2,none⟩=some (.int .i64 e.d):=World.cell?_alloc_at _ _ _ 2 rfl
   have x3:(wr.alloc (.cells #[.int .i64 (e.to:Int),.int .i64 e.s,.int .i64 e.d,.int .i64 e.mid] 207)).cell? ⟨wr.heap.size,3,none⟩=some (.int .i64 e.mid):=World.cell?_alloc_at _ _ _ 3 rfl
   have HEV:Hid (leV e=[.int .i64 (e.to:Int),.int .i64 e.s,.int .i64 e.d,.int .i64 e.mid]):=rfl
   have hno:=fun h=>pickL_no (p:=p) he h
   have hys:=fun h=>pickL_yes (p:=p) he h
   generalize hpe:p e=pe at *
   have HNO:Hid (pe=false->pickL p l (k+1)=pickL p l k):=hno
   have HYS:Hid (pe=true->pickL p l (k+1)=pickL p l k++[e]):=hys
   clear hno hys hpe hem he hown b0 hB
   generalize (e.to:Int)=et at *
   generalize e.s=es at *
   generalize e.d=ed at *
   generalize e.mid=em at *
   have hX:w.heap.size<=wr.heap.size:=hbz
   cases pe with
   |false =>
    have HS:Hid (pickL p l (k+1)=pickL p l k):=HNO.out rfl
    clear HNO HYS
    go_wp2_with fail
    generalize wr.alloc (.cells #[.int .i64 et,.int .i64 es,.int .i64 ed,.int .i64 em] 207)=w1 at *
    refine hcl.mono ?_
    rintro r w2 ⟨rfl,hb2⟩
    have hown2:=own_below hown0 hb2
    have B2:=B0.trans (hb2.mono B0.size)
    clear hcl hown0 hb2 x0 x1 x2 x3 B0
    go_wp2
    go_roundw
    case rel=>exact ⟨k+1,by omega,by go_num,by rw [HS.out];exact hown2,B2⟩
    case measure=>simp [intOf];omega
   |true =>
    have HS:Hid (pickL p l (k+1)=pickL p l k++[e]):=HYS.out rfl
    clear HNO HYS
    generalize pickL p l k=F at *
    go_wp2_with fail
    generalize wr.alloc (.cells #[.int .i64 et,.int .i64 es,.int .i64 ed,.int .i64 em] 207)=w1 at *
    refine hcl.mono ?_
    rintro r w2 ⟨rfl,hb2⟩
    have hown3:=own_below hown0 hb2
    have B3:=B0.trans (hb2.mono B0.size)
    have y0:=(hb2.cell (World.block_lt_of_cell? _ _ x0)).trans x0
    have y1:=(hb2.cell (World.block_lt_of_cell? _ _ x1)).trans x1
    have y2:=(hb2.cell (World.block_lt_of_cell? _ _ x2)).trans x2
    have y3:=(hb2.cell (World.block_lt_of_cell? _ _ x3)).trans x3
    have hz3:=B3.size
    clear hcl hown0 hb2 x0 x1 x2 x3 B0
    go_wp2_with (at_builtin;refine wpList_append_own _ rfl _ _ 141 rfl w.heap.size 207 i0 (.agg #[.int .i64 0,.int .i64 0,.int .i64 0,.int .i64 0]) 4 32 Tryz.underE hi hz0 hz1 hz2 rfl (by decide) _ _ _ rfl (hown3.alloc _) ⟨w2.heap.size,0,none⟩ 1 1 [.int .i64 et,.int .i64 es,.int .i64 ed,.int .i64 em] rfl rfl (cell_four_new _ _ _ _ _ _) (by intro u hu;simp at hu;rcases hu with rfl|rfl|rfl|rfl <;> rfl) ?c3 ?c4 ?c5 ?_)
    case c3=>unfold maxLen;omega
    case c4=>omega
    case c5=>simp;omega
    intro v' w4 hown' hgrow _
    have hbase:=fun q hq=>(hown3.lt q hq).1
    have B4:Below w.heap.size w w4:=(B3.alloc hz3 _).grown hgrow (by simp;omega) hbase
    have O4:w4.ownsRow w.heap.size 207 4 v' (F++[e]).length (lesV (F++[e])):=by
     rw [lesV_app,lesV_one,HEV.out]
     simpa using hown'
    clear hown' hgrow hown3 B3 y0 y1 y2 y3
    go_wp2
    go_roundw
    case rel=>exact ⟨k+1,by omega,by go_num,by rw [HS.out];exact O4,B4⟩
    case measure=>simp [intOf];omega
  ·have e:k=l.length:=by omega
   subst e
   have HF:Hid (pickL p l l.length=l.filter p):=pickL_all
   rw [HF.out] at hown
   go_wp2
   go_ret
   exact ⟨_,rfl,hown,hB⟩
set_option maxHeartbeats 2000000 in
set_option maxRecDepth 1000000 in
theorem find_open {xb cap:Nat}{A:Option Addr}{l:List LE}{p:LE->Bool}(w:World)(hrow:RowL w A l)(hl:l.length<=256)
  (hC:∀ (w':World) (e:LE),Below w.heap.size w w'->e ∈ l->Calls Tryz.prog 162 #[.agg #[.int .i64 (e.to:Int),.int .i64 e.s,.int .i64 e.d,.int .i64 e.mid],.pointer (some ⟨xb,0,none⟩)] w' fun r w''=>r=.returned (.bool (p e))/\Below w'.heap.size w' w'') :
  Calls Tryz.prog 101 #[.slice A l.length cap,.func (.func 162) #[] #[.pointer (some ⟨xb,0,none⟩)]] w fun e w'=>∃ v,e=.returned v/\w'.ownsRow w.heap.size 207 4 v (l.filter p).length (lesV (l.filter p))/\Below w.heap.size w w':=by
 obtain ⟨i0,hi,hz0,hz1,hz2⟩:=info_parts Tryz.infoE
 have HC:Hid (∀ (w':World) (e:LE),Below w.heap.size w w'->e ∈ l->Calls Tryz.prog 162 #[.agg #[.int .i64 (e.to:Int),.int .i64 e.s,.int .i64 e.d,.int .i64 e.mid],.pointer (some ⟨xb,0,none⟩)] w' fun r w''=>r=.returned (.bool (p e))/\Below w'.heap.size w' w''):=hC
 clear hC
 go_enter Tryz.func101,Tryz.ntmps101
 go_wp2
 go_loopw [5,10] (fun fv iv wr=>∃ k:Nat,k<=l.length/\iv=.int .i64 k/\wr.ownsRow w.heap.size 207 4 fv (pickL p l k).length (lesV (pickL p l k))/\Below w.heap.size w wr)
  (fun _ i _=>l.length - (intOf i).toNat)
 case atStart=>exact ⟨0,Nat.zero_le _,rfl,World.ownsRow_nil _ _ _ _,Below.refl _ _⟩
 case round =>
  obtain ⟨k,hk,rfl,hown,hB⟩:=hrel
  by_cases hlt:k<l.length
  ·obtain ⟨e,he⟩:∃ e,l[k]? = some e:=⟨l[k],by simp [hlt]⟩
   obtain ⟨b,o,rfl,q1,q2,q3,q4⟩:=(hrow.below hB) k e he
   have hem:e ∈ l:=List.mem_of_getElem? he
   have i1:(0:Int)<=(k:Int):=by omega
   have i2:(k:Int)<(l.length:Int):=by omega
   have hbz:=hB.size
   have B0:Below w.heap.size w (wr.alloc (.cells #[.int .i64 (e.to:Int),.int .i64 e.s,.int .i64 e.d,.int .i64 e.mid] 207)):=hB.alloc hbz _
   have b0:Below wr.heap.size wr (wr.alloc (.cells #[.int .i64 (e.to:Int),.int .i64 e.s,.int .i64 e.d,.int .i64 e.mid] 207)):=(Below.refl _ _).alloc (Nat.le_refl _) _
   have hcl:=HC.out (wr.alloc (.cells #[.int .i64 (e.to:Int),.int .i64 e.s,.int .i64 e.d,.int .i64 e.mid] 207)) e B0 hem
   have hfl:(pickL p l k).length<=256:=Nat.le_trans pickL_len hl
   have hown0:=own_below hown b0
   have x0:(wr.alloc (.cells #[.int .i64 (e.to:Int),.int .i64 e.s,.int .i64 e.d,.int .i64 e.mid] 207)).cell? ⟨wr.heap.size,0,none⟩=some (.int .i64 (e.to:Int)):=World.cell?_alloc_at _ _ _ 0 rfl
   have x1:(wr.alloc (.cells #[.int .i64 (e.to:Int),.int .i64 e.s,.int .i64 e.d,.int .i64 e.mid] 207)).cell? ⟨wr.heap.size,1,none⟩=some (.int .i64 e.s):=World.cell?_alloc_at _ _ _ 1 rfl
   have x2:(wr.alloc (.cells #[.int .i64 (e.to:Int),.int .i64 e.s,.int .i64 e.d,.int .i64 e.mid] 207)).cell? ⟨wr.heap.size,2,none⟩=some (.int .i64 e.d):=World.cell?_alloc_at _ _ _ 2 rfl
   have x3:(wr.alloc (.cells #[.int .i64 (e.to:Int),.int .i64 e.s,.int .i64 e.d,.int .i64 e.mid] 207)).cell? ⟨wr.heap.size,3,none⟩=some (.int .i64 e.mid):=World.cell?_alloc_at _ _ _ 3 rfl
   have HEV:Hid (leV e=[.int .i64 (e.to:Int),.int .i64 e.s,.int .i64 e.d,.int .i64 e.mid]):=rfl
   have hno:=fun h=>pickL_no (p:=p) he h
   have hys:=fun h=>pickL_yes (p:=p) he h
   generalize hpe:p e=pe at *
   have HNO:Hid (pe=false->pickL p l (k+1)=pickL p l k):=hno
   have HYS:Hid (pe=true->pickL p l (k+1)=pickL p l k++[e]):=hys
   clear hno hys hpe hem he hown b0 hB
   generalize (e.to:Int)=et at *
   generalize e.s=es at *
   generalize e.d=ed at *
   generalize e.mid=em at *
   have hX:w.heap.size<=wr.heap.size:=hbz
   cases pe with
   |false =>
    have HS:Hid (pickL p l (k+1)=pickL p l k):=HNO.out rfl
    clear HNO HYS
    go_wp2_with fail
    generalize wr.alloc (.cells #[.int .i64 et,.int .i64 es,.int .i64 ed,.int .i64 em] 207)=w1 at *
    refine hcl.mono ?_
    rintro r w2 ⟨rfl,hb2⟩
    have hown2:=own_below hown0 hb2
    have B2:=B0.trans (hb2.mono B0.size)
    clear hcl hown0 hb2 x0 x1 x2 x3 B0
    go_wp2
    go_roundw
    case rel=>exact ⟨k+1,by omega,by go_num,by rw [HS.out];exact hown2,B2⟩
    case measure=>simp [intOf];omega
   |true =>
    have HS:Hid (pickL p l (k+1)=pickL p l k++[e]):=HYS.out rfl
    clear HNO HYS
    generalize pickL p l k=F at *
    go_wp2_with fail
    generalize wr.alloc (.cells #[.int .i64 et,.int .i64 es,.int .i64 ed,.int .i64 em] 207)=w1 at *
    refine hcl.mono ?_
    rintro r w2 ⟨rfl,hb2⟩
    have hown3:=own_below hown0 hb2
    have B3:=B0.trans (hb2.mono B0.size)
    have y0:=(hb2.cell (World.block_lt_of_cell? _ _ x0)).trans x0
    have y1:=(hb2.cell (World.block_lt_of_cell? _ _ x1)).trans x1
    have y2:=(hb2.cell (World.block_lt_of_cell? _ _ x2)).trans x2
    have y3:=(hb2.cell (World.block_lt_of_cell? _ _ x3)).trans x3
    have hz3:=B3.size
    clear hcl hown0 hb2 x0 x1 x2 x3 B0
    go_wp2_with (at_builtin;refine wpList_append_own _ rfl _ _ 141 rfl w.heap.size 207 i0 (.agg #[.int .i64 0,.int .i64 0,.int .i64 0,.int .i64 0]) 4 32 Tryz.underE hi hz0 hz1 hz2 rfl (by decide) _ _ _ rfl (hown3.alloc _) ⟨w2.heap.size,0,none⟩ 1 1 [.int .i64 et,.int .i64 es,.int .i64 ed,.int .i64 em] rfl rfl (cell_four_new _ _ _ _ _ _) (by intro u hu;simp at hu;rcases hu with rfl|rfl|rfl|rfl <;> rfl) ?c3 ?c4 ?c5 ?_)
    case c3=>unfold maxLen;omega
    case c4=>omega
    case c5=>simp;omega
    intro v' w4 hown' hgrow _
    have hbase:=fun q hq=>(hown3.lt q hq).1
    have B4:Below w.heap.size w w4:=(B3.alloc hz3 _).grown hgrow (by simp;omega) hbase
    have O4:w4.ownsRow w.heap.size 207 4 v' (F++[e]).length (lesV (F++[e])):=by
     rw [lesV_app,lesV_one,HEV.out]
     simpa using hown'
    clear hown' hgrow hown3 B3 y0 y1 y2 y3
    go_wp2
    go_roundw
    case rel=>exact ⟨k+1,by omega,by go_num,by rw [HS.out];exact O4,B4⟩
    case measure=>simp [intOf];omega
  ·have e:k=l.length:=by omega
   subst e
   have HF:Hid (pickL p l l.length=l.filter p):=pickL_all
   rw [HF.out] at hown
   go_wp2
   go_ret
   exact ⟨_,rfl,hown,hB⟩
set_option maxHeartbeats 2000000 in
set_option maxRecDepth 1000000 in
theorem find_ahead {kb nb xb cap:Nat}{A:Option Addr}{l:List LE}{p:LE->Bool}(w:World)(hrow:RowL w A l)(hl:l.length<=256)
  (hC:∀ (w':World) (e:LE),Below w.heap.size w w'->e ∈ l->Calls Tryz.prog 213 #[.agg #[.int .i64 (e.to:Int),.int .i64 e.s,.int .i64 e.d,.int .i64 e.mid],.pointer (some ⟨kb,0,none⟩),.pointer (some ⟨nb,0,none⟩),.pointer (some ⟨xb,0,none⟩)] w' fun r w''=>r=.returned (.bool (p e))/\Below w'.heap.size w' w'') :
  Calls Tryz.prog 101 #[.slice A l.length cap,.func (.func 213) #[] #[.pointer (some ⟨kb,0,none⟩),.pointer (some ⟨nb,0,none⟩),.pointer (some ⟨xb,0,none⟩)]] w fun e w'=>∃ v,e=.returned v/\w'.ownsRow w.heap.size 207 4 v (l.filter p).length (lesV (l.filter p))/\Below w.heap.size w w':=by
 obtain ⟨i0,hi,hz0,hz1,hz2⟩:=info_parts Tryz.infoE
 have HC:Hid (∀ (w':World) (e:LE),Below w.heap.size w w'->e ∈ l->Calls Tryz.prog 213 #[.agg #[.int .i64 (e.to:Int),.int .i64 e.s,.int .i64 e.d,.int .i64 e.mid],.pointer (some ⟨kb,0,none⟩),.pointer (some ⟨nb,0,none⟩),.pointer (some ⟨xb,0,none⟩)] w' fun r w''=>r=.returned (.bool (p e))/\Below w'.heap.size w' w''):=hC
 clear hC
 go_enter Tryz.func101,Tryz.ntmps101
 go_wp2
 go_loopw [5,10] (fun fv iv wr=>∃ k:Nat,k<=l.length/\iv=.int .i64 k/\wr.ownsRow w.heap.size 207 4 fv (pickL p l k).length (lesV (pickL p l k))/\Below w.heap.size w wr)
  (fun _ i _=>l.length - (intOf i).toNat)
 case atStart=>exact ⟨0,Nat.zero_le _,rfl,World.ownsRow_nil _ _ _ _,Below.refl _ _⟩
 case round =>
  obtain ⟨k,hk,rfl,hown,hB⟩:=hrel
  by_cases hlt:k<l.length
  ·obtain ⟨e,he⟩:∃ e,l[k]? = some e:=⟨l[k],by simp [hlt]⟩
   obtain ⟨b,o,rfl,q1,q2,q3,q4⟩:=(hrow.below hB) k e he
   have hem:e ∈ l:=List.mem_of_getElem? he
   have i1:(0:Int)<=(k:Int):=by omega
   have i2:(k:Int)<(l.length:Int):=by omega
   have hbz:=hB.size
   have B0:Below w.heap.size w (wr.alloc (.cells #[.int .i64 (e.to:Int),.int .i64 e.s,.int .i64 e.d,.int .i64 e.mid] 207)):=hB.alloc hbz _
   have b0:Below wr.heap.size wr (wr.alloc (.cells #[.int .i64 (e.to:Int),.int .i64 e.s,.int .i64 e.d,.int .i64 e.mid] 207)):=(Below.refl _ _).alloc (Nat.le_refl _) _
   have hcl:=HC.out (wr.alloc (.cells #[.int .i64 (e.to:Int),.int .i64 e.s,.int .i64 e.d,.int .i64 e.mid] 207)) e B0 hem
   have hfl:(pickL p l k).length<=256:=Nat.le_trans pickL_len hl
   have hown0:=own_below hown b0
   have x0:(wr.alloc (.cells #[.int .i64 (e.to:Int),.int .i64 e.s,.int .i64 e.d,.int .i64 e.mid] 207)).cell? ⟨wr.heap.size,0,none⟩=some (.int .i64 (e.to:Int)):=World.cell?_alloc_at _ _ _ 0 rfl
   have x1:(wr.alloc (.cells #[.int .i64 (e.to:Int),.int .i64 e.s,.int .i64 e.d,.int .i64 e.mid] 207)).cell? ⟨wr.heap.size,1,none⟩=some (.int .i64 e.s):=World.cell?_alloc_at _ _ _ 1 rfl
   have x2:(wr.alloc (.cells #[.int .i64 (e.to:Int),.int .i64 e.s,.int .i64 e.d,.int .i64 e.mid] 207)).cell? ⟨wr.heap.size,2,none⟩=some (.int .i64 e.d):=World.cell?_alloc_at _ _ _ 2 rfl
   have x3:(wr.alloc (.cells #[.int .i64 (e.to:Int),.int .i64 e.s,.int .i64 e.d,.int .i64 e.mid] 207)).cell? ⟨wr.heap.size,3,none⟩=some (.int .i64 e.mid):=World.cell?_alloc_at _ _ _ 3 rfl
   have HEV:Hid (leV e=[.int .i64 (e.to:Int),.int .i64 e.s,.int .i64 e.d,.int .i64 e.mid]):=rfl
   have hno:=fun h=>pickL_no (p:=p) he h
   have hys:=fun h=>pickL_yes (p:=p) he h
   generalize hpe:p e=pe at *
   have HNO:Hid (pe=false->pickL p l (k+1)=pickL p l k):=hno
   have HYS:Hid (pe=true->pickL p l (k+1)=pickL p l k++[e]):=hys
   clear hno hys hpe hem he hown b0 hB
   generalize (e.to:Int)=et at *
   generalize e.s=es at *
   generalize e.d=ed at *
   generalize e.mid=em at *
   have hX:w.heap.size<=wr.heap.size:=hbz
   cases pe with
   |false =>
    have HS:Hid (pickL p l (k+1)=pickL p l k):=HNO.out rfl
    clear HNO HYS
    go_wp2_with fail
    generalize wr.alloc (.cells #[.int .i64 et,.int .i64 es,.int .i64 ed,.int .i64 em] 207)=w1 at *
    refine hcl.mono ?_
    rintro r w2 ⟨rfl,hb2⟩
    have hown2:=own_below hown0 hb2
    have B2:=B0.trans (hb2.mono B0.size)
    clear hcl hown0 hb2 x0 x1 x2 x3 B0
    go_wp2
    go_roundw
    case rel=>exact ⟨k+1,by omega,by go_num,by rw [HS.out];exact hown2,B2⟩
    case measure=>simp [intOf];omega
   |true =>
    have HS:Hid (pickL p l (k+1)=pickL p l k++[e]):=HYS.out rfl
    clear HNO HYS
    generalize pickL p l k=F at *
    go_wp2_with fail
    generalize wr.alloc (.cells #[.int .i64 et,.int .i64 es,.int .i64 ed,.int .i64 em] 207)=w1 at *
    refine hcl.mono ?_
    rintro r w2 ⟨rfl,hb2⟩
    have hown3:=own_below hown0 hb2
    have B3:=B0.trans (hb2.mono B0.size)
    have y0:=(hb2.cell (World.block_lt_of_cell? _ _ x0)).trans x0
    have y1:=(hb2.cell (World.block_lt_of_cell? _ _ x1)).trans x1
    have y2:=(hb2.cell (World.block_lt_of_cell? _ _ x2)).trans x2
    have y3:=(hb2.cell (World.block_lt_of_cell? _ _ x3)).trans x3
    have hz3:=B3.size
    clear hcl hown0 hb2 x0 x1 x2 x3 B0
    go_wp2_with (at_builtin;refine wpList_append_own _ rfl _ _ 141 rfl w.heap.size 207 i0 (.agg #[.int .i64 0,.int .i64 0,.int .i64 0,.int .i64 0]) 4 32 Tryz.underE hi hz0 hz1 hz2 rfl (by decide) _ _ _ rfl (hown3.alloc _) ⟨w2.heap.size,0,none⟩ 1 1 [.int .i64 et,.int .i64 es,.int .i64 ed,.int .i64 em] rfl rfl (cell_four_new _ _ _ _ _ _) (by intro u hu;simp at hu;rcases hu with rfl|rfl|rfl|rfl <;> rfl) ?c3 ?c4 ?c5 ?_)
    case c3=>unfold maxLen;omega
    case c4=>omega
    case c5=>simp;omega
    intro v' w4 hown' hgrow _
    have hbase:=fun q hq=>(hown3.lt q hq).1
    have B4:Below w.heap.size w w4:=(B3.alloc hz3 _).grown hgrow (by simp;omega) hbase
    have O4:w4.ownsRow w.heap.size 207 4 v' (F++[e]).length (lesV (F++[e])):=by
     rw [lesV_app,lesV_one,HEV.out]
     simpa using hown'
    clear hown' hgrow hown3 B3 y0 y1 y2 y3
    go_wp2
    go_roundw
    case rel=>exact ⟨k+1,by omega,by go_num,by rw [HS.out];exact O4,B4⟩
    case measure=>simp [intOf];omega
  ·have e:k=l.length:=by omega
   subst e
   have HF:Hid (pickL p l l.length=l.filter p):=pickL_all
   rw [HF.out] at hown
   go_wp2
   go_ret
   exact ⟨_,rfl,hown,hB⟩
end
section
open Go.RowKit
theorem Tryz.underV:Tryz.prog.underlying 173=some (.map 3 3):=by kernel_rfl
theorem Tryz.underK:Tryz.prog.underlying 193=some (.map 3 38):=by kernel_rfl
theorem zeroK (w:World):(zeroValue 38).run Tryz.prog w=.ok (.agg #[.int .i64 0,.int .i64 0]) w:=by kernel_rfl
def lvF (L:List Nat) (lev:Nat->Nat):Int->Option Value:=fun i=>if 0<=i/\i.toNat ∈ L then some (.int .i64 (lev i.toNat:Int)) else none
theorem lvF_in {L:List Nat}{lev:Nat->Nat}{n:Nat}(h:n ∈ L):lvF L lev (n:Int)=some (.int .i64 (lev n:Int)):=by
 unfold lvF
 rw [if_pos ⟨by omega,by simpa using h⟩,Int.toNat_natCast]
theorem lvF_put {L:List Nat}{lev:Nat->Nat}{n:Nat}(h:n ∈ L)(t:Nat):putF (lvF L lev) (n:Int) (.int .i64 (t:Int))=lvF L (fun k=>if k=n then t else lev k):=by
 funext i
 unfold putF lvF
 by_cases e:i=(n:Int)
 ·subst e
  rw [if_pos rfl,if_pos ⟨by omega,by simpa using h⟩,Int.toNat_natCast]
  show _=some (Value.int .i64 ((if n=n then t else lev n:Nat):Int))
  rw [if_pos rfl]
 ·rw [if_neg e]
  by_cases hi:0<=i/\i.toNat ∈ L
  ·rw [if_pos hi,if_pos hi]
   show _=some (Value.int .i64 ((if i.toNat=n then t else lev i.toNat:Nat):Int))
   rw [if_neg (by omega)]
  ·rw [if_neg hi,if_neg hi]
structure LvAt (w:World) (N lb vb eb:Nat) (top:Nat) (L:List Nat) (st:LSt) (f:Int->Option Value):Prop where
 c0:w.cell? ⟨lb,0,none⟩=some (.int .i64 (top:Int))
 c1:w.cell? ⟨lb,1,none⟩=some (.map (some vb))
 c2:w.cell? ⟨lb,2,none⟩=some (.map (some eb))
 fz:w.frozen? ⟨lb,0,none⟩=false
 lv:MapF Tryz.prog 3 w vb (lvF L st.lev) L.length
 em:MapF Tryz.prog 3 w eb f L.length
 row:∀ n ∈ L,∃ v,f (n:Int)=some v/\w.ownsRow N 207 4 v (st.es n).length (lesV (st.es n))
 no:∀ i v,f i=some v->0<=i/\i.toNat ∈ L
 apart:∀ n m v v' g,f n=some v->f m=some v'->v.ownBlock=some g->v'.ownBlock=some g->n=m
 off:∀ n v,f n=some v->v.ownBlock≠some lb
 nb:N<=lb/\N<=vb/\N<=eb
 ne:vb≠eb
 bd:∀ n ∈ L,n<256
 len:L.length<=256
def LvB (lb vb eb:Nat) (f:Int->Option Value) (g:Nat):Prop:=g=lb\/g=vb\/g=eb\/∃ i v,f i=some v/\v.ownBlock=some g
section
variable {w w' : World} {N lb vb eb top : Nat} {L : List Nat} {st : LSt} {f : Int → Option Value}
theorem LvAt.lts (V:LvAt w N lb vb eb top L st f):lb<w.heap.size/\vb<w.heap.size/\eb<w.heap.size:=⟨World.block_lt_of_cell? _ _ V.c0,V.lv.lt,V.em.lt⟩
theorem LvAt.nes (V:LvAt w N lb vb eb top L st f):lb≠vb/\lb≠eb:=by
 constructor
 ·intro e
  have h:=V.lv.cell 0
  rw [<- e,V.c0] at h;cases h
 ·intro e
  have h:=V.em.cell 0
  rw [<- e,V.c0] at h;cases h
theorem LvAt.keep {F:Nat->Prop}(V:LvAt w N lb vb eb top L st f)(K:Keep F w w')(h:∀ g,LvB lb vb eb f g->¬ F g):LvAt w' N lb vb eb top L st f:=by
 have h1:=h lb (Or.inl rfl)
 refine ⟨K.cellOf V.c0 h1,K.cellOf V.c1 h1,K.cellOf V.c2 h1,(K.frozen (p:=⟨lb,0,none⟩) V.lts.1 h1).trans V.fz,V.lv.keep K (h vb (Or.inr (Or.inl rfl))),V.em.keep K (h eb (Or.inr (Or.inr (Or.inl rfl)))),fun n hn=>?_,V.no,V.apart,V.off,V.nb,V.ne,V.bd,V.len⟩
 obtain ⟨v,e1,e2⟩:=V.row n hn
 exact ⟨v,e1,own_keep e2 K (fun g hg=>h g (Or.inr (Or.inr (Or.inr ⟨_,v,e1,hg⟩))))⟩
theorem LvAt.below (V:LvAt w N lb vb eb top L st f)(hb:Below w.heap.size w w'):LvAt w' N lb vb eb top L st f:=V.keep (F:=fun _=>False) (Keep.of_below hb) (fun _ _=>id)
theorem LvAt.look (V:LvAt w N lb vb eb top L st f){n:Nat}(hn:n ∈ L):(Instr.lookup 173 (.map (some vb)) (.int .i64 (n:Int)) false).run Tryz.prog w=.ok (.int .i64 (st.lev n:Int)) w :=
 V.lv.look_some law3 Tryz.underV (zero3 w) (wf_small (by omega) (by have:=V.bd n hn;omega)) (lvF_in hn) false
theorem LvAt.edges (V:LvAt w N lb vb eb top L st f){n:Nat}(hn:n ∈ L):∃ A cap,(Instr.lookup 129 (.map (some eb)) (.int .i64 (n:Int)) false).run Tryz.prog w=.ok (.slice A (st.es n).length cap) w/\RowL w A (st.es n)/\f (n:Int)=some (.slice A (st.es n).length cap):=by
 obtain ⟨v,e1,e2⟩:=V.row n hn
 obtain ⟨A,cap,rfl,h1,_⟩:=rowL_of e2
 exact ⟨A,cap,V.em.look_some law3 Tryz.underM (zeroM w) (wf_small (by omega) (by have:=V.bd n hn;omega)) e1 false,h1,e1⟩
end
set_option maxHeartbeats 400000 in
theorem isOpen_any {N lb vb eb top n:Nat}{L:List Nat}{st:LSt}{f:Int->Option Value}(w:World)(V:LvAt w N lb vb eb top L st f)(hn:n ∈ L) :
  Calls Tryz.prog 163 #[.pointer (some ⟨lb,0,none⟩),.int .i64 (n:Int)] w fun e w'=>e=.returned (.bool (st.lev n == 0))/\w'=w:=by
 have h1:=V.look hn
 have c1:=V.c1
 have hr:(st.lev n == 0)=decide ((st.lev n:Int)=0):=by
  by_cases e:st.lev n=0
  ·rw [e];rfl
  ·have e2:¬ (st.lev n:Int)=0:=by omega
   rw [decide_eq_false e2];simpa using e
 rw [hr]
 clear V hr
 generalize (st.lev n:Int)=k at *
 go_enter Tryz.func163,Tryz.ntmps163
 go_wp2
 go_ret
 exact ⟨rfl,rfl⟩
set_option maxHeartbeats 400000 in
theorem clo_open {N lb vb eb top xb:Nat}{L:List Nat}{st:LSt}{f:Int->Option Value}(w:World)(V:LvAt w N lb vb eb top L st f)(hx:w.cell? ⟨xb,0,none⟩=some (.pointer (some ⟨lb,0,none⟩)))(e:LE)(he:e.to ∈ L) :
  Calls Tryz.prog 162 #[.agg #[.int .i64 (e.to:Int),.int .i64 e.s,.int .i64 e.d,.int .i64 e.mid],.pointer (some ⟨xb,0,none⟩)] w fun r w'=>r=.returned (.bool (st.lev e.to == 0))/\Below w.heap.size w w':=by
 have B0:Below w.heap.size w (w.alloc (.cells #[.int .i64 (e.to:Int),.int .i64 e.s,.int .i64 e.d,.int .i64 e.mid] 207)):=(Below.refl _ _).alloc (Nat.le_refl _) _
 have h1:=isOpen_any _ (V.below B0) he
 have hx0:=(B0.cell (World.block_lt_of_cell? _ _ hx)).trans hx
 clear V hx
 generalize (st.lev e.to == 0)=r at *
 generalize (e.to:Int)=et at *
 generalize e.s=es at *
 generalize e.d=ed at *
 generalize e.mid=em at *
 go_enter Tryz.func162,Tryz.ntmps162
 go_wp2_with fail
 refine h1.mono ?_
 rintro r1 w1 ⟨rfl,rfl⟩
 clear h1
 go_wp2
 go_ret
 exact ⟨rfl,B0⟩
set_option maxHeartbeats 800000 in
set_option maxRecDepth 1000000 in
theorem clo_ahead {N lb vb eb top kb nb xb mb k n:Nat}{L:List Nat}{st:LSt}{f:Int->Option Value}{F:Int->Option (Int × Int)}(w:World)(V:LvAt w N lb vb eb top L st f)(hx:w.cell? ⟨xb,0,none⟩=some (.pointer (some ⟨lb,0,none⟩)))
  (hk:w.cell? ⟨kb,0,none⟩=some (.map (some mb))) (hn:w.cell? ⟨nb,0,none⟩=some (.int .i64 (n:Int))) (M:MapF Tryz.prog 3 w mb (fv F) k) (e:LE) (he:e.to ∈ L) :
  Calls Tryz.prog 213 #[.agg #[.int .i64 (e.to:Int),.int .i64 e.s,.int .i64 e.d,.int .i64 e.mid],.pointer (some ⟨kb,0,none⟩),.pointer (some ⟨nb,0,none⟩),.pointer (some ⟨xb,0,none⟩)] w fun r w'=>r=.returned (.bool (!(F (e.to:Int)).isSome&&(decide (e.to≠n)&&(st.lev e.to == 0))))/\Below w.heap.size w w':=by
 have B0:Below w.heap.size w (w.alloc (.cells #[.int .i64 (e.to:Int),.int .i64 e.s,.int .i64 e.d,.int .i64 e.mid] 207)):=(Below.refl _ _).alloc (Nat.le_refl _) _
 have hwf:=wf_small (a:=(e.to:Int)) (by omega) (by have:=V.bd _ he;omega)
 have M0:=M.keep (F:=fun _=>False) (Keep.of_below B0) id
 have hx0:=(B0.cell (World.block_lt_of_cell? _ _ hx)).trans hx
 have hk0:=(B0.cell (World.block_lt_of_cell? _ _ hk)).trans hk
 have hn0:=(B0.cell (World.block_lt_of_cell? _ _ hn)).trans hn
 have V0:=V.below B0
 have x0:(w.alloc (.cells #[.int .i64 (e.to:Int),.int .i64 e.s,.int .i64 e.d,.int .i64 e.mid] 207)).cell? ⟨w.heap.size,0,none⟩=some (.int .i64 (e.to:Int)):=World.cell?_alloc_at _ _ _ 0 rfl
 have hdn:decide (e.to≠n)=decide (¬ (e.to:Int)=(n:Int)):=by
  by_cases q:e.to=n
  ·have q2:(e.to:Int)=(n:Int):=by omega
   rw [decide_eq_false (by simpa using q),decide_eq_false (by simpa using q2)]
  ·have q2:¬ (e.to:Int)=(n:Int):=by omega
   rw [decide_eq_true q,decide_eq_true q2]
 rw [hdn]
 clear hdn M V hx hk hn
 cases hF:F (e.to:Int) with
 |some c =>
  obtain ⟨s,d⟩:=c
  have hl:(Instr.lookup 193 (.map (some mb)) (.int .i64 (e.to:Int)) true).run Tryz.prog (w.alloc (.cells #[.int .i64 (e.to:Int),.int .i64 e.s,.int .i64 e.d,.int .i64 e.mid] 207))=.ok (.tuple #[.agg #[.int .i64 s,.int .i64 d],.bool true]) (w.alloc (.cells #[.int .i64 (e.to:Int),.int .i64 e.s,.int .i64 e.d,.int .i64 e.mid] 207)):=M0.look_some law3 Tryz.underK (zeroK _) hwf (fv_some hF) true
  have er:(!(some (s,d)).isSome&&(decide (¬ (e.to:Int)=(n:Int))&&(st.lev e.to == 0)))=false:=rfl
  rw [er]
  have B1:=B0.alloc B0.size (.cells #[.int .i64 s,.int .i64 d] 38)
  clear er hF M0 V0
  generalize (e.to:Int)=et at *
  generalize e.s=es at *
  generalize e.d=ed at *
  generalize e.mid=em at *
  go_enter Tryz.func213,Tryz.ntmps213
  go_wp2
  go_ret
  exact ⟨rfl,B1⟩
 |none =>
  have hl:(Instr.lookup 193 (.map (some mb)) (.int .i64 (e.to:Int)) true).run Tryz.prog (w.alloc (.cells #[.int .i64 (e.to:Int),.int .i64 e.s,.int .i64 e.d,.int .i64 e.mid] 207))=.ok (.tuple #[.agg #[.int .i64 0,.int .i64 0],.bool false]) (w.alloc (.cells #[.int .i64 (e.to:Int),.int .i64 e.s,.int .i64 e.d,.int .i64 e.mid] 207)):=M0.look_none law3 Tryz.underK (zeroK _) hwf (fv_none hF) true
  have B1:=B0.alloc B0.size (.cells #[.int .i64 0,.int .i64 0] 38)
  have b1:Below (w.alloc (.cells #[.int .i64 (e.to:Int),.int .i64 e.s,.int .i64 e.d,.int .i64 e.mid] 207)).heap.size (w.alloc (.cells #[.int .i64 (e.to:Int),.int .i64 e.s,.int .i64 e.d,.int .i64 e.mid] 207)) ((w.alloc (.cells #[.int .i64 (e.to:Int),.int .i64 e.s,.int .i64 e.d,.int .i64 e.mid] 207)).alloc (.cells #[.int .i64 0,.int .i64 0] 38)):=(Below.refl _ _).alloc (Nat.le_refl _) _
  have h1:=isOpen_any _ (V0.below b1) he
  have hx1:=(b1.cell (World.block_lt_of_cell? _ _ hx0)).trans hx0
  have hn1:=(b1.cell (World.block_lt_of_cell? _ _ hn0)).trans hn0
  have x1:=(b1.cell (World.block_lt_of_cell? _ _ x0)).trans x0
  by_cases q:(e.to:Int)=(n:Int)
  ·have er:(!(none:Option (Int × Int)).isSome&&(decide (¬ (e.to:Int)=(n:Int))&&(st.lev e.to == 0)))=false:=by rw [decide_eq_false (by simpa using q)];rfl
   rw [er]
   rw [<- q] at hn0 hn1
   clear er hF M0 V0 h1 b1 q
   generalize (e.to:Int)=et at *
   generalize e.s=es at *
   generalize e.d=ed at *
   generalize e.mid=em at *
   go_enter Tryz.func213,Tryz.ntmps213
   go_wp2
   go_ret
   exact ⟨rfl,B1⟩
  ·have er:(!(none:Option (Int × Int)).isSome&&(decide (¬ (e.to:Int)=(n:Int))&&(st.lev e.to == 0)))=(st.lev e.to == 0):=by rw [decide_eq_true q];rfl
   rw [er]
   clear er hF M0 V0
   generalize (st.lev e.to == 0)=r at *
   generalize (e.to:Int)=et at *
   generalize e.s=es at *
   generalize e.d=ed at *
   generalize e.mid=em at *
   have q2:(et != (n:Int))=true:=by simpa using q
   go_enter Tryz.func213,Tryz.ntmps213
   go_wp2_with fail
   refine h1.mono ?_
   rintro r1 w1 ⟨rfl,rfl⟩
   clear h1
   go_wp2
   go_ret
   refine ⟨?_,B1⟩
   simp
end
end Go.Proofs.YtipbhlofbpnpjaaGreatDoor
