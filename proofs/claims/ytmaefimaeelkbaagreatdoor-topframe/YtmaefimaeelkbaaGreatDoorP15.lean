/-
  Texts laid together: SrE, SrP, GNew, GRead, LvA, LvFind.
-/
import Derived.Test.YtmaefimaeelkbaaGreatDoorP14
import Derived.Test.YtmaefimaeelkbaaGreatDoorP9
import Derived.Test.YtmaefimaeelkbaaGreatDoorP10
import Derived.Test.YtmaefimaeelkbaaGreatDoorP12
namespace Go.Proofs.YtmaefimaeelkbaaGreatDoor
section
def PopR (H:Int->Option (Int × Int)) (n s d:Int):Prop:=H n=some (s,d)/\∀ b t u,H b=some (t,u)->¬ bef ⟨b,t,u⟩ ⟨n,s,d⟩
theorem PopR.least {H:Int->Option (Int × Int)}{n s d b t u:Int}(h:PopR H n s d)(hb:H b=some (t,u)):val s d<=val t u:=by
 have h1:=h.2 b t u hb
 unfold bef Item.v at h1
 simp only at h1
 omega
def EndN (lv:LSt) (r:Nat) (g:Int->Int × Int):Nat->SS->SS->Prop
 |0,x,x'=>(∀ a,x.H a=none)/\x'=x
 |k+1,x,x'=>∃ (n:Nat) (s d:Int),PopR x.H (n:Int) s d/\EndN lv r g k (goS lv r g n (popS x (n:Int))) x'
structure Mt where
 n:Int
 s:Int
 d:Int
 f:Bool
def mtS (E:Int->Option (Int × Int)) (x:SS) (n:Nat) (m:Mt):Mt :=
 match E (n:Int) with
 |none=>m
 |some e=>if m.f=false\/val (((x.F (n:Int)).getD (0,0)).1+e.1) (((x.F (n:Int)).getD (0,0)).2+e.2)<val m.s m.d then ⟨n,((x.F (n:Int)).getD (0,0)).1+e.1,((x.F (n:Int)).getD (0,0)).2+e.2,true⟩ else m
def MeetN (lv:LSt) (g:Int->Int × Int) (E:Int->Option (Int × Int)):Nat->SS->Mt->SS->Mt->Prop
 |0,x,m,x',m'=>m'=m/\(((∀ a,x.H a=none)/\x'=x)\/∃ (n:Nat) (s d:Int),PopR x.H (n:Int) s d/\m.f=true/\¬ val s d<val m.s m.d/\x'=popS x (n:Int))
 |k+1,x,m,x',m'=>∃ (n:Nat) (s d:Int),PopR x.H (n:Int) s d/\(m.f=false\/val s d<val m.s m.d)/\MeetN lv g E k (goS lv 0 g n (popS x (n:Int))) (mtS E x n m) x' m'
section
variable {L : List Nat} {lv : LSt} {r : Nat} {g : Int → Int × Int} {src src2 : Int → Int → Int → Prop} {x x' : SS}
theorem SI.ends (O:LvOk L lv):∀ {k:Nat}{x:SS},SI L lv r g src (fun _ _=>True) x->EndN lv r g k x x'->SI L lv r g src (fun _ _=>True) x'/\∀ a,x'.H a=none
 |0,x,h,⟨h1,h2⟩=>by subst h2;exact ⟨h,h1⟩
 |_+1,x,h,⟨n,s,d,h1,h2⟩=>by
  obtain ⟨s',d',k1,_⟩:=h.key h1.1
  exact SI.ends O (h.go O k1).1 h2
theorem pushH_some (H:Int->Option (Int × Int))(a s d:Int):pushH H a s d a≠none:=by
 unfold pushH
 cases h:pushB H a s d with
 |true=>rw [if_pos rfl,putH_at];exact fun e=>(by cases e)
 |false =>
  obtain ⟨s',d',h1,_⟩:=pushB_no h
  rw [if_neg (by decide),h1];exact fun e=>(by cases e)
theorem pushH_off (H:Int->Option (Int × Int)){a b:Int}(s d:Int)(h:b≠a):pushH H a s d b=H b:=by
 unfold pushH
 split
 ·exact putH_off _ _ _ h
 ·rfl
theorem stepS_same {n:Nat}{e:LE}{a:Int}(h:(stepS lv r g n x e).H a=none):x.H a=none/\(stepS lv r g n x e).F a=x.F a:=by
 unfold stepS at h ⊢
 split
 ·rename_i hc
  rw [if_pos hc] at h
  unfold lowS at h ⊢
  rw [if_pos hc.2] at h ⊢
  replace h:pushH x.H (e.to:Int) _ _ a=none:=h
  by_cases ea:a=(e.to:Int)
  ·subst ea;exact absurd h (pushH_some _ _ _ _)
  ·rw [pushH_off _ _ _ ea] at h
   refine ⟨h,?_⟩
   show putH x.F (e.to:Int) _ _ a=_
   exact putH_off _ _ _ ea
 ·rename_i hc
  rw [if_neg hc] at h
  exact ⟨h,rfl⟩
theorem foldS_same {n:Nat}{a:Int}:∀ {l:List LE}{x:SS},(l.foldl (stepS lv r g n) x).H a=none->x.H a=none/\(l.foldl (stepS lv r g n) x).F a=x.F a
 |[],_,h=>⟨h,rfl⟩
 |e::l,x,h=>by
  obtain ⟨h1,h2⟩:=foldS_same (l:=l) (x:=stepS lv r g n x e) h
  obtain ⟨h3,h4⟩:=stepS_same h1
  exact ⟨h3,h2.trans h4⟩
structure MI (L:List Nat) (lv:LSt) (g:Int->Int × Int) (src:Int->Int->Int->Prop) (E:Int->Option (Int × Int)) (x:SS) (m:Mt):Prop where
 si:SI L lv 0 g src (fun _ _=>True) x
 fnd:m.f=true->∃ fs fd es ed fs' fd',E m.n=some (es,ed)/\x.F m.n=some (fs',fd')/\val fs' fd'<=val fs fd/\m.s=fs+es/\m.d=fd+ed/\0<=fs/\0<=fd/\fs<=2847923/\fd<=2847923
 see:∀ {a s d t u},x.F a=some (s,d)->x.H a=none->E a=some (t,u)->m.f=true/\val m.s m.d<=val s d+val t u
theorem SI.fgo (O:LvOk L lv)(h:SI L lv r g src (fun _ _=>True) x){n:Nat}{s d:Int}(hn:x.F (n:Int)=some (s,d)):∀ {a s d},x.F a=some (s,d)->∃ s' d',(goS lv r g n (popS x (n:Int))).F a=some (s',d')/\val s' d'<=val s d:=by
 have key:∀ {l:List LE}{D:Int->Prop}{x:SS},(∀ e ∈ l,e ∈ lv.es n)->SI L lv r g src (fun a b=>a≠(n:Int)\/D b) x->x.F (n:Int)=some (s,d)->x.H (n:Int)=none->∀ {a s d},x.F a=some (s,d)->∃ s' d',(l.foldl (stepS lv r g n) x).F a=some (s',d')/\val s' d'<=val s d:=by
  intro l
  induction l with
  |nil=>exact fun {_ _} _ _ _ _ {_ s d} ha=>⟨s,d,ha,Int.le_refl _⟩
  |cons e l ih =>
   intro D x hl h hn hH a s1 d1 ha
   have he:=hl e (List.mem_cons_self ..)
   obtain ⟨h1,h2,h3⟩:=h.step O hn hH he
   have hst:∃ s' d',(stepS lv r g n x e).F a=some (s',d')/\val s' d'<=val s1 d1:=by
    unfold stepS
    split
    ·rename_i hc
     unfold lowS
     rw [if_pos hc.2]
     show ∃ s' d',putH x.F (e.to:Int) _ _ a=some (s',d')/\_
     by_cases ea:a=(e.to:Int)
     ·subst ea
      exact ⟨_,_,putH_at _ _ _ _,by have:=pushB_iff.1 hc.2 _ _ ha;omega⟩
     ·exact ⟨s1,d1,by rw [putH_off _ _ _ ea];exact ha,Int.le_refl _⟩
    ·exact ⟨s1,d1,ha,Int.le_refl _⟩
   obtain ⟨s2,d2,k1,k2⟩:=hst
   obtain ⟨s3,d3,k3,k4⟩:=ih (fun e' he'=>hl e' (List.mem_cons_of_mem _ he')) h1 h2 h3 k1
   exact ⟨s3,d3,k3,by omega⟩
 have h1:=(h.pop (n:Int)).mono (P':=fun a b=>a≠(n:Int)\/False) (fun _ _ hP _=>⟨by rcases hP with q|q;exact q;exact q.elim,trivial⟩)
 exact fun {_ _ _} ha=>key (fun _ h=>h) h1 hn (delH_at _ _) ha
variable {E : Int → Option (Int × Int)} {m m' : Mt}
theorem mtS_le (n:Nat)(h:m.f=true):(mtS E x n m).f=true/\val (mtS E x n m).s (mtS E x n m).d<=val m.s m.d:=by
 unfold mtS
 split
 ·exact ⟨h,Int.le_refl _⟩
 ·split
  ·rename_i hc
   refine ⟨rfl,?_⟩
   rcases hc with hc|hc
   ·rw [h] at hc;cases hc
   ·exact Int.le_of_lt hc
  ·exact ⟨h,Int.le_refl _⟩
theorem MI.go (O:LvOk L lv)(h:MI L lv g src E x m){n:Nat}{s d:Int}(hn:x.F (n:Int)=some (s,d)):MI L lv g src E (goS lv 0 g n (popS x (n:Int))) (mtS E x n m):=by
 obtain ⟨k1,k2,k3⟩:=h.si.go O hn
 have hlow:=fun {a s d}(ha:x.F a=some (s,d))=>h.si.fgo O hn ha
 have hgd:(x.F (n:Int)).getD (0,0)=(s,d):=by rw [hn];rfl
 have hb:=h.si.big hn
 refine ⟨k1,fun hf=>?_,fun {a p q t u} ha hH hE=>?_⟩
 ·have elder:m.f=true->(∃ fs fd es ed fs' fd',E m.n=some (es,ed)/\(goS lv 0 g n (popS x (n:Int))).F m.n=some (fs',fd')/\val fs' fd'<=val fs fd/\m.s=fs+es/\m.d=fd+ed/\0<=fs/\0<=fd/\fs<=2847923/\fd<=2847923):=fun hf=>by
   obtain ⟨fs,fd,es,ed,fs',fd',q1,q2,q3,q4⟩:=h.fnd hf
   obtain ⟨a1,a2,a3,a4⟩:=hlow q2
   exact ⟨fs,fd,es,ed,a1,a2,q1,a3,by omega,q4⟩
  unfold mtS at hf ⊢
  cases hE:E (n:Int) with
  |none =>
   rw [hE] at hf
   exact elder hf
  |some e =>
   rw [hE] at hf
   show ∃ fs fd es ed fs' fd',E (if m.f=false\/val (((x.F (n:Int)).getD (0,0)).1+e.1) (((x.F (n:Int)).getD (0,0)).2+e.2)<val m.s m.d then (⟨n,((x.F (n:Int)).getD (0,0)).1+e.1,((x.F (n:Int)).getD (0,0)).2+e.2,true⟩:Mt) else m).n=some (es,ed)/\(goS lv 0 g n (popS x (n:Int))).F (if m.f=false\/val (((x.F (n:Int)).getD (0,0)).1+e.1) (((x.F (n:Int)).getD (0,0)).2+e.2)<val m.s m.d then (⟨n,((x.F (n:Int)).getD (0,0)).1+e.1,((x.F (n:Int)).getD (0,0)).2+e.2,true⟩:Mt) else m).n=some (fs',fd')/\val fs' fd'<=val fs fd/\(if m.f=false\/val (((x.F (n:Int)).getD (0,0)).1+e.1) (((x.F (n:Int)).getD (0,0)).2+e.2)<val m.s m.d then (⟨n,((x.F (n:Int)).getD (0,0)).1+e.1,((x.F (n:Int)).getD (0,0)).2+e.2,true⟩:Mt) else m).s=fs+es/\(if m.f=false\/val (((x.F (n:Int)).getD (0,0)).1+e.1) (((x.F (n:Int)).getD (0,0)).2+e.2)<val m.s m.d then (⟨n,((x.F (n:Int)).getD (0,0)).1+e.1,((x.F (n:Int)).getD (0,0)).2+e.2,true⟩:Mt) else m).d=fd+ed/\_
   split
   ·rw [hgd]
    exact ⟨s,d,e.1,e.2,s,d,hE,k2,Int.le_refl _,rfl,rfl,hb.1,hb.2.1,hb.2.2.1,hb.2.2.2.1⟩
   ·rename_i hc
    refine elder ?_
    have hf':(if m.f=false\/val (((x.F (n:Int)).getD (0,0)).1+e.1) (((x.F (n:Int)).getD (0,0)).2+e.2)<val m.s m.d then (⟨n,((x.F (n:Int)).getD (0,0)).1+e.1,((x.F (n:Int)).getD (0,0)).2+e.2,true⟩:Mt) else m).f=true:=hf
    rw [if_neg hc] at hf'
    exact hf'
 ·by_cases ea:a=(n:Int)
  ·subst ea
   rw [k2] at ha
   cases ha
   unfold mtS
   rw [hE]
   rw [hgd]
   by_cases hc:m.f=false\/val (s+t) (d+u)<val m.s m.d
   ·have e0:(if m.f=false\/val (s+t) (d+u)<val m.s m.d then (⟨n,s+t,d+u,true⟩:Mt) else m)=⟨n,s+t,d+u,true⟩:=if_pos hc
    show (if m.f=false\/val (s+t) (d+u)<val m.s m.d then (⟨n,s+t,d+u,true⟩:Mt) else m).f=true/\val (if m.f=false\/val (s+t) (d+u)<val m.s m.d then (⟨n,s+t,d+u,true⟩:Mt) else m).s (if m.f=false\/val (s+t) (d+u)<val m.s m.d then (⟨n,s+t,d+u,true⟩:Mt) else m).d<=_
    rw [e0]
    exact ⟨rfl,by show val (s+t) (d+u)<=_;rw [val_both];omega⟩
   ·have e0:(if m.f=false\/val (s+t) (d+u)<val m.s m.d then (⟨n,s+t,d+u,true⟩:Mt) else m)=m:=if_neg hc
    show (if m.f=false\/val (s+t) (d+u)<val m.s m.d then (⟨n,s+t,d+u,true⟩:Mt) else m).f=true/\val (if m.f=false\/val (s+t) (d+u)<val m.s m.d then (⟨n,s+t,d+u,true⟩:Mt) else m).s (if m.f=false\/val (s+t) (d+u)<val m.s m.d then (⟨n,s+t,d+u,true⟩:Mt) else m).d<=_
    rw [e0]
    refine ⟨?_,?_⟩
    ·cases hf:m.f with
     |true=>rfl
     |false=>exact absurd (Or.inl hf) hc
    ·have:¬ val (s+t) (d+u)<val m.s m.d:=fun q=>hc (Or.inr q)
     rw [val_both] at this
     omega
  ·obtain ⟨f1,f2⟩:=foldS_same (l:=lv.es n) (x:=popS x (n:Int)) hH
   have hH':x.H a=none:=by
    have:delH x.H (n:Int) a=none:=f1
    rwa [delH_off _ ea] at this
   have ha':x.F a=some (p,q):=f2.symm.trans ha
   obtain ⟨g1,g2⟩:=h.see ha' hH' hE
   obtain ⟨g3,g4⟩:=mtS_le (E:=E) (x:=x) n g1
   exact ⟨g3,by omega⟩
structure MEnd (L:List Nat) (lv:LSt) (g:Int->Int × Int) (src:Int->Int->Int->Prop) (E:Int->Option (Int × Int)) (x:SS) (m:Mt):Prop where
 mi:MI L lv g src E x m
 far:∀ {a s d},x.H a=some (s,d)->m.f=true/\val m.s m.d<=val s d
theorem MI.ends (O:LvOk L lv):∀ {k:Nat}{x:SS}{m:Mt},MI L lv g src E x m->MeetN lv g E k x m x' m'->∃ y,MEnd L lv g src E y m'/\x'.F=y.F/\x'.A=y.A
 |0,x,m,h,⟨h1,h2⟩=>by
  subst h1
  rcases h2 with ⟨h2,rfl⟩|⟨n,s,d,h2,h3,h4,rfl⟩
  ·exact ⟨x',⟨h,fun ha=>by rw [h2] at ha;cases ha⟩,rfl,rfl⟩
  ·exact ⟨x,⟨h,fun ha=>⟨h3,by have:=h2.least ha;omega⟩⟩,rfl,rfl⟩
 |_+1,x,m,h,⟨n,s,d,h1,_,h2⟩=>by
  obtain ⟨s',d',k1,_⟩:=h.si.key h1.1
  exact MI.ends O (h.go O k1) h2
def Adm (L:List Nat) (es:Nat->List LE) (g:Int->Int × Int) (src2:Int->Int->Int->Prop):Prop:=∀ {b i s d p q:Int},0<=b->b.toNat ∈ L->src2 i s d->Wg (GrE es) b i p q->val (g b).1 (g b).2<=val p q+val s d
theorem GrE.back {es:Nat->List LE}(hE:Esy es){a b t u:Int}(ha:0<=a)(h:GrE es a b t u):GrE es b a t u:=by
 obtain ⟨e,h1,h2,h3,h4⟩:=h
 refine ⟨⟨a.toNat,e.s,e.d,e.mid⟩,?_,by show a=((a.toNat:Nat):Int);omega,h3,h4⟩
 rw [h2,Int.toNat_natCast]
 exact hE.back h1
theorem GrE.wback {es:Nat->List LE}(hE:Esy es){a b s d:Int}(ha:0<=a)(h:Wg (GrE es) a b s d):Wg (GrE es) b a s d:=by
 have key:=h (fun x p q=>0<=x/\Wg (GrE es) x a p q) ⟨ha,Wg.nil⟩ (fun x p q y t u ⟨h0,hx⟩ e=>by
  obtain ⟨e',_,k2,_⟩:=id e
  refine ⟨by omega,?_⟩
  have:=(Wg.one (GrE.back hE h0 e)).trans hx
  rwa [Int.add_comm t,Int.add_comm u] at this)
 exact key.2
theorem MEnd.best (O:LvOk L lv){y:SS}(h:MEnd L lv g src E x m)(hy:SI L lv 1 (fun _=>(0,0)) src2 (fun _ _=>True) y)(hyH:∀ a,y.H a=none)(hEy:E=y.F)(hA:Adm L lv.es g src2)
  {o s0 d0 i s1 d1:Int}{k:Nat}{p q p' q':Int}(ho:src o s0 d0) (hi:src2 i s1 d1) (h1:Wg (LvE lv 0) o (k:Int) p q) (h2:Wg (LvE lv 1) i (k:Int) p' q'):m.f=true/\val m.s m.d<=val s0 d0+val p q+val p' q'+val s1 d1:=by
 -- what the end costs
 have hend:∃ s d,y.F (k:Int)=some (s,d)/\val s d<=val s1 d1+val p' q':=by
  obtain ⟨s,d,e1,e2⟩:=hy.hom hi
  refine h2 (fun a p' q'=>∃ s d,y.F a=some (s,d)/\val s d<=val s1 d1+val p' q') ⟨s,d,e1,by unfold val at *;omega⟩ (fun a p1 q1 b t u ⟨s,d,e1,e2⟩ ed=>?_)
  obtain ⟨s',d',e3,e4⟩:=hy.don e1 (hyH a) trivial ed
  exact ⟨s',d',e3,by rw [val_both];omega⟩
 obtain ⟨s,d,e1,e2⟩:=hend
 -- what is left from a corner on the way
 have gr:∀ {r a b s d},Wg (LvE lv r) a b s d->Wg (GrE lv.es) a b s d:=fun hw=>hw.mono (fun _ _ _ _ e=>e.gr)
 have hi0:0<=i:=by
  obtain ⟨_,_,e,_⟩:=hy.hom hi
  exact (hy.lab e).1
 have hdn:=GrE.wback O.esy hi0 (gr h2)
 have hbeg:(∃ s d,x.F (k:Int)=some (s,d)/\val s d<=val s0 d0+val p q)\/(m.f=true/\val m.s m.d<=val s0 d0+val p q+val p' q'+val s1 d1):=by
  obtain ⟨sa,da,f1,f2⟩:=h.mi.si.hom ho
  have key:=h1 (fun a p1 q1=>(∃ s d,x.F a=some (s,d)/\val s d<=val s0 d0+val p1 q1)\/(∃ b p2 q2,0<=b/\b.toNat ∈ L/\Wg (LvE lv 0) b a p2 q2/\∃ sk dk,x.H b=some (sk,dk)/\val sk dk - val (g b).1 (g b).2+val p2 q2<=val s0 d0+val p1 q1)) (Or.inl ⟨sa,da,f1,by unfold val at *;omega⟩) (fun a p1 q1 b t u hx ed=>by
   rcases hx with ⟨s,d,k1,k2⟩|⟨b',p2,q2,k0,k1,k2,sk,dk,k3,k4⟩
   ·cases hH:x.H a with
    |none =>
     obtain ⟨s',d',k3,k4⟩:=h.mi.si.don k1 hH trivial ed
     exact Or.inl ⟨s',d',k3,by rw [val_both];omega⟩
    |some c =>
     obtain ⟨s',d',k3,k4,k5⟩:=h.mi.si.key (s:=c.1) (d:=c.2) hH
     rw [k1] at k3
     cases k3
     obtain ⟨l1,l2,_⟩:=h.mi.si.lab k1
     refine Or.inr ⟨a,t,u,l1,l2,Wg.one ed,c.1,c.2,hH,?_⟩
     rw [k4,k5,val_both,val_both]
     omega
   ·exact Or.inr ⟨b',p2+t,q2+u,k0,k1,k2.step ed,sk,dk,k3,by rw [val_both,val_both];omega⟩)
  rcases key with key|⟨b,p2,q2,k0,k1,k2,sk,dk,k3,k4⟩
  ·exact Or.inl key
  ·right
   obtain ⟨g1,g2⟩:=h.far k3
   have g3:=hA k0 k1 hi ((gr k2).trans hdn)
   rw [val_both] at g3
   exact ⟨g1,by omega⟩
 rcases hbeg with ⟨s2,d2,k1,k2⟩|k
 ·cases hH:x.H (k:Int) with
  |none =>
   obtain ⟨g1,g2⟩:=h.mi.see k1 hH (by rw [hEy];exact e1)
   exact ⟨g1,by omega⟩
  |some c =>
   obtain ⟨g1,g2⟩:=h.far (s:=c.1) (d:=c.2) hH
   obtain ⟨s',d',k3,k4,k5⟩:=h.mi.si.key (s:=c.1) (d:=c.2) hH
   rw [k1] at k3
   cases k3
   obtain ⟨l1,l2,_⟩:=h.mi.si.lab k1
   have g3:=hA l1 l2 hi hdn
   rw [k4,k5,val_both] at g2
   exact ⟨g1,by omega⟩
 ·exact k
end
end
section
def Bk (A:Int->Option Int):List Nat->Prop
 |[]=>False
 |[n]=>A (n:Int)=none
 |n::m::l=>A (n:Int)=some (m:Int)/\Bk A (m::l)
section
variable {L : List Nat} {lv : LSt} {r : Nat} {g : Int → Int × Int} {src src2 : Int → Int → Int → Prop} {P : Int → Int → Prop} {x : SS}
theorem SI.back (O:LvOk L lv)(h:SI L lv r g src P x):∀ {l:List Nat}{n:Nat}{s d:Int},Bk x.A (n::l)->x.F (n:Int)=some (s,d)->∃ (o:Nat) (s0 d0 p q:Int),(n::l).getLast? = some o/\src (o:Int) s0 d0/\Prc lv.es (n::l) p q/\val s0 d0+val p q<=val s d
 |[],n,s,d,hb,hF=>⟨n,s,d,0,0,rfl,h.top hF hb,⟨rfl,rfl⟩,by unfold val;omega⟩
 |m::l,n,s,d,hb,hF=>by
  obtain ⟨s',d',s2,d2,t,u,k1,k2,⟨e,k3,k4,k5,k6,_⟩,k7⟩:=h.ptr hb.1
  rw [hF] at k2
  cases k2
  obtain ⟨o,s0,d0,p,q,j1,j2,j3,j4⟩:=SI.back O h hb.2 k1
  rw [Int.toNat_natCast] at k3
  have hbk:=O.esy.back k3
  have e1:e.to=n:=by omega
  rw [e1] at hbk
  refine ⟨o,s0,d0,p+e.s,q+e.d,by simpa using j1,j2,⟨_,hbk,rfl,?_⟩,?_⟩
  ·show Prc lv.es (m::l) (p+e.s - e.s) (q+e.d - e.d)
   rw [show p+e.s - e.s=p by omega,show q+e.d - e.d=q by omega]
   exact j3
  ·rw [val_both,<- k5,<- k6]
   omega
theorem Prc.rev (hE:Esy lv.es):∀ {l:List Nat}{n:Nat}{s d:Int},Prc lv.es (n::l) s d->Prc lv.es (n::l).reverse s d
 |[],_,_,_,h=>h
 |m::l,n,s,d,⟨e,he,ht,h⟩=>by
  have ih:=Prc.rev hE h
  have hb:=hE.back he
  rw [ht] at hb
  have h2:Prc lv.es (m::[n]) e.s e.d:=⟨_,hb,rfl,by show e.s - e.s=0;omega,by show e.d - e.d=0;omega⟩
  obtain ⟨z,zs,hz⟩:∃ z zs,(m::l).reverse=z::zs:=by
   cases hq:(m::l).reverse with
   |nil=>simp at hq
   |cons z zs=>exact ⟨z,zs,rfl⟩
  have hl:(z::zs).getLast? = some m:=by rw [<- hz];simp
  rw [hz] at ih
  have:=Prc.join h2 ih hl
  rw [List.reverse_cons,hz,show s=s - e.s+e.s by omega,show d=d - e.d+e.d by omega]
  exact this
end
def UnpL (es:Nat->List LE):List Nat->List Nat->Prop
 |[],_=>False
 |[a],w=>w=[a]
 |a::b::l,w=>∃ p t,Unp es 6 a b p/\UnpL es (b::l) (b::t)/\w=p++t
theorem UnpL.prc {es es0:Nat->List LE}(hE:Esy es)(hU:∀ {a e},e ∈ es a->∃ way l,Unp es 6 a e.to way/\way=a::l/\l≠[]/\way.getLast? = some e.to/\Prc es0 way e.s e.d):∀ {l:List Nat}{a:Nat}{w:List Nat}{s d:Int},Prc es (a::l) s d->UnpL es (a::l) w->Prc es0 w s d/\(∃ t,w=a::t)/\w.getLast? = (a::l).getLast?
 |[],a,w,s,d,⟨h1,h2⟩,hu=>by
  have e:w=[a]:=hu
  rw [e]
  exact ⟨⟨h1,h2⟩,⟨[],rfl⟩,rfl⟩
 |b::l,a,w,s,d,⟨e,he,ht,h⟩,⟨p,t,h1,h2,h3⟩=>by
  obtain ⟨way,l',u1,u2,u3,u4,u5⟩:=hU he
  rw [ht] at u1 u4
  have ep:=Unp.one hE h1 u1
  subst ep
  obtain ⟨k1,k2,k3⟩:=UnpL.prc hE hU h h2
  subst u2
  have hj:=Prc.join k1 u5 u4
  rw [show e.s+(s - e.s)=s by omega,show e.d+(d - e.d)=d by omega] at hj
  rw [h3]
  refine ⟨hj,⟨l'++t,rfl⟩,?_⟩
  have e1:(a::b::l).getLast? = (b::l).getLast? := by simp
  rw [e1,<- k3]
  cases t with
  |nil=>rw [List.append_nil,u4];rfl
  |cons z t =>
   have e2:(b::z::t).getLast? = (z::t).getLast? := by simp
   rw [List.getLast?_append,e2]
   cases hq:(z::t).getLast? with
   |none=>simp at hq
   |some y=>rfl
structure IE where
 to:Int
 s:Int
 d:Int
 mid:Int
def okE (L:List Nat) (e:IE):Prop:=(0<=e.to/\e.to.toNat ∈ L)/\0<=e.s/\e.s<=1048576/\0<=e.d/\e.d<=1048576
def okEB (L:List Nat) (e:IE):Bool:=decide ((0<=e.to/\e.to.toNat ∈ L)/\0<=e.s/\e.s<=1048576/\0<=e.d/\e.d<=1048576)
theorem okEB_iff {L:List Nat}{e:IE}:okEB L e=true↔okE L e:=decide_eq_true_iff
def srcE (L:List Nat) (l:List IE) (o s d:Int):Prop:=∃ e ∈ l,okE L e/\o=e.to/\s=e.s/\d=e.d
def stepF (L:List Nat) (g:Int->Int × Int) (x:SS) (e:IE):SS:=if okEB L e=true then lowS g x e.to e.s e.d else x
def fromS (L:List Nat) (g:Int->Int × Int) (l:List IE):SS:=l.foldl (stepF L g) homeS
structure FI (L:List Nat) (lv:LSt) (r:Nat) (g:Int->Int × Int) (l:List IE) (x:SS):Prop where
 si:SI L lv r g (srcE L l) (fun _ _=>False) x
 no:∀ a,x.A a=none
 all:∀ {a c},x.F a=some c->x.H a≠none
section
variable {L : List Nat} {lv : LSt} {r : Nat} {g : Int → Int × Int} {l : List IE} {x : SS}
theorem FI.start (L:List Nat)(lv:LSt)(r:Nat)(g:Int->Int × Int):FI L lv r g [] homeS :=
 ⟨⟨fun h=>(by cases h),fun h=>(by cases h),fun h=>(by cases h),fun h=>(by cases h),fun ⟨e,he,_⟩=>(by cases he),fun h=>(by cases h),fun h=>(by cases h)⟩,fun _=>rfl,fun h=>(by cases h)⟩
theorem FI.step (O:LvOk L lv)(h:FI L lv r g l x)(e:IE):FI L lv r g (l++[e]) (stepF L g x e):=by
 have more:∀ {o s d},srcE L l o s d->srcE L (l++[e]) o s d:=fun ⟨e',h1,h2⟩=>⟨e',List.mem_append.2 (Or.inl h1),h2⟩
 have less:∀ {o s d},srcE L (l++[e]) o s d->srcE L l o s d\/(okE L e/\o=e.to/\s=e.s/\d=e.d):=fun ⟨e',h1,h2⟩=>by
  rcases List.mem_append.1 h1 with h1|h1
  ·exact Or.inl ⟨e',h1,h2⟩
  ·rw [List.mem_singleton.1 h1] at h2;exact Or.inr h2
 unfold stepF
 by_cases hok:okEB L e=true
 ·rw [if_pos hok]
  have ok:=okEB_iff.1 hok
  obtain ⟨⟨o1,o2⟩,o3,o4,o5,o6⟩:=id ok
  have hsm:=O.small _ o2
  unfold lowS
  cases hb:pushB x.F e.to e.s e.d with
  |false =>
   rw [if_neg (by decide)]
   refine ⟨⟨h.si.lab,fun ha=>?_,fun ha=>h.si.ptr ha,fun ha hA=>more (h.si.top ha hA),fun {o s d} ho=>?_,h.si.key,fun _ _ hP _=>hP.elim⟩,h.no,h.all⟩
   ·obtain ⟨o,s0,d0,p,q,k1,k2⟩:=h.si.snd ha
    exact ⟨o,s0,d0,p,q,more k1,k2⟩
   ·rcases less ho with ho|⟨_,rfl,rfl,rfl⟩
    ·exact h.si.hom ho
    ·exact pushB_no hb
  |true =>
   rw [if_pos rfl,h.si.pushH hb]
   have hlt:=pushB_iff.1 hb
   obtain ⟨c1,c2⟩:=cnt_grow x.F (b:=e.to) (s:=e.s) (d:=e.d) o1 (by omega)
   have hme:srcE L (l++[e]) e.to e.s e.d:=⟨e,List.mem_append.2 (Or.inr (List.mem_singleton.2 rfl)),ok,rfl,rfl,rfl⟩
   have hlower:∀ {a p q},x.F a=some (p,q)->∃ p' q',putH x.F e.to e.s e.d a=some (p',q')/\val p' q'<=val p q:=fun {a p q} ha=>by
    by_cases ea:a=e.to
    ·subst ea
     exact ⟨_,_,putH_at _ _ _ _,by have:=hlt _ _ ha;omega⟩
    ·exact ⟨p,q,by rw [putH_off _ _ _ ea];exact ha,Int.le_refl _⟩
   refine ⟨⟨fun {a p q} ha=>?_,fun {a p q} ha=>?_,fun {a m} ha=>?_,fun {a p q} ha hA=>?_,fun {o p q} ho=>?_,fun {a p q} ha=>?_,fun _ _ hP _=>hP.elim⟩,h.no,fun {a c} ha=>?_⟩
   ·show 0<=a/\a.toNat ∈ L/\0<=p/\0<=q/\val p q<=97750727262208+(cnt (putH x.F e.to e.s e.d) 256:Int)*47729847296
    replace ha:putH x.F e.to e.s e.d a=some (p,q):=ha
    by_cases ea:a=e.to
    ·subst ea
     rw [putH_at] at ha
     cases ha
     exact ⟨o1,o2,o3,o5,by unfold val;omega⟩
    ·rw [putH_off _ _ _ ea] at ha
     obtain ⟨k1,k2,k3,k4,k5⟩:=h.si.lab ha
     exact ⟨k1,k2,k3,k4,by omega⟩
   ·replace ha:putH x.F e.to e.s e.d a=some (p,q):=ha
    by_cases ea:a=e.to
    ·subst ea
     rw [putH_at] at ha
     cases ha
     exact ⟨_,_,_,0,0,hme,Wg.nil,by omega,by omega⟩
    ·rw [putH_off _ _ _ ea] at ha
     obtain ⟨o,s0,d0,p,q,k1,k2⟩:=h.si.snd ha
     exact ⟨o,s0,d0,p,q,more k1,k2⟩
   ·have:x.A a=some m:=ha
    rw [h.no] at this;cases this
   ·replace ha:putH x.F e.to e.s e.d a=some (p,q):=ha
    by_cases ea:a=e.to
    ·subst ea
     rw [putH_at] at ha
     cases ha
     exact hme
    ·rw [putH_off _ _ _ ea] at ha
     exact more (h.si.top ha hA)
   ·show ∃ p' q',putH x.F e.to e.s e.d o=some (p',q')/\_
    rcases less ho with ho|⟨_,rfl,rfl,rfl⟩
    ·obtain ⟨p1,q1,k1,k2⟩:=h.si.hom ho
     obtain ⟨p2,q2,k3,k4⟩:=hlower k1
     exact ⟨p2,q2,k3,by omega⟩
    ·exact ⟨_,_,putH_at _ _ _ _,Int.le_refl _⟩
   ·show ∃ p' q',putH x.F e.to e.s e.d a=some (p',q')/\_
    replace ha:putH x.H e.to (e.s+(g e.to).1) (e.d+(g e.to).2) a=some (p,q):=ha
    by_cases ea:a=e.to
    ·subst ea
     rw [putH_at] at ha
     cases ha
     exact ⟨_,_,putH_at _ _ _ _,rfl,rfl⟩
    ·rw [putH_off _ _ _ ea] at ha
     obtain ⟨p',q',k1,k2,k3⟩:=h.si.key ha
     exact ⟨p',q',by rw [putH_off _ _ _ ea];exact k1,k2,k3⟩
   ·show putH x.H e.to (e.s+(g e.to).1) (e.d+(g e.to).2) a≠none
    replace ha:putH x.F e.to e.s e.d a=some c:=ha
    by_cases ea:a=e.to
    ·subst ea
     rw [putH_at];exact fun q=>(by cases q)
    ·rw [putH_off _ _ _ ea] at ha ⊢
     exact h.all ha
 ·rw [if_neg hok]
  have no:¬ okE L e:=fun q=>hok (okEB_iff.2 q)
  refine ⟨⟨h.si.lab,fun ha=>?_,fun ha=>h.si.ptr ha,fun ha hA=>more (h.si.top ha hA),fun {o s d} ho=>?_,h.si.key,fun _ _ hP _=>hP.elim⟩,h.no,h.all⟩
  ·obtain ⟨o,s0,d0,p,q,k1,k2⟩:=h.si.snd ha
   exact ⟨o,s0,d0,p,q,more k1,k2⟩
  ·rcases less ho with ho|⟨q,_⟩
   ·exact h.si.hom ho
   ·exact absurd q no
theorem FI.fold (O:LvOk L lv):∀ {l' l:List IE}{x:SS},FI L lv r g l x->FI L lv r g (l++l') (l'.foldl (stepF L g) x)
 |[],l,x,h=>by rw [List.append_nil];exact h
 |e::l',l,x,h=>by
  have:=FI.fold O (l':=l') (h.step O e)
  rwa [List.append_assoc] at this
theorem FI.all_in (h:FI L lv r g l x):SI L lv r g (srcE L l) (fun _ _=>True) x:=h.si.mono (fun ha hH _ _=>h.all ha hH)
theorem from_si (O:LvOk L lv)(l:List IE):SI L lv r g (srcE L l) (fun _ _=>True) (fromS L g l):=(FI.fold O (FI.start L lv r g)).all_in
end
def BestR (L:List Nat) (lv:LSt) (g:Int->Int × Int) (out inn:List IE) (way:List Nat) (s d:Int) (f:Bool):Prop :=
 ∃ k y j x m,EndN lv 1 (fun _=>(0,0)) k (fromS L (fun _=>(0,0)) inn) y/\MeetN lv g y.F j (fromS L g out) ⟨0,0,0,false⟩ x m/\f=m.f/\(f=false->way=[]/\s=0/\d=0) /\
  (f=true->s=m.s/\d=m.d/\∃ (n:Nat) (lb le:List Nat),m.n=(n:Int)/\Bk x.A (n::lb)/\Bk y.A (n::le)/\UnpL lv.es ((n::lb).reverse++le) way)
theorem Prc.pos {L:List Nat}{lv:LSt}(O:LvOk L lv):∀ {l:List Nat}{n:Nat}{s d:Int},Prc lv.es (n::l) s d->0<=s/\0<=d
 |[],_,_,_,⟨h1,h2⟩=>by omega
 |m::l,n,s,d,⟨e,he,_,h⟩=>by
  have h1:=Prc.pos O h
  have h2:=O.bd he
  omega
theorem six {a b c e f f' g m t:Int}(h1:a+b<=f')(h2:f'<=f)(h3:c+e<=g)(h4:m=f+g)(h5:t=a+(b+e)+c)(h6:m<=t):t=m:=by omega
theorem d_near {s d fs fd es ed:Int}(hv:val s d=val (fs+es) (fd+ed))(h1:0<=s)(h2:0<=d)(h3:0<=fs)(h4:0<=fd)(h5:fs<=2847923)(h6:fd<=2847923)(h7:0<=es)(h8:0<=ed)(h9:es<=2847923)(h10:ed<=2847923):-38613965<fd+ed - d/\fd+ed - d<38613965:=by
 have h:=Int.le_of_eq hv
 clear hv
 unfold val at h
 omega
set_option maxHeartbeats 1000000 in
theorem BestR.best {most k:Nat}{L:List Nat}{st0 st:LSt}(B0:Btw L 0 16 st0)(hz:∀ n,st0.lev n=0)(hR:Rds most L st0 k st)(O:LvOk L ⟨endL (k+1) st,st.es⟩)
  (hU:∀ {a e},e ∈ st.es a->∃ way l,Unp st.es 6 a e.to way/\way=a::l/\l≠[]/\way.getLast? = some e.to/\Prc st0.es way e.s e.d)
  {g:Int->Int × Int}{out inn:List IE}(hA:Adm L st.es g (srcE L inn)) {way:List Nat}{s d:Int}{f:Bool}(h:BestR L ⟨endL (k+1) st,st.es⟩ g out inn way s d f) :
  (∀ {o i s0 d0 s1 d1 p q:Int},srcE L out o s0 d0->srcE L inn i s1 d1->Wg (GrE st0.es) o i p q->f=true/\val s d<=val (s0+p+s1) (d0+q+d1)) /\
  (f=true->∃ (o i:Nat) (t:List Nat) (s0 d0 s1 d1 p q:Int),srcE L out (o:Int) s0 d0/\srcE L inn (i:Int) s1 d1/\way=o::t/\way.getLast? = some i/\Prc st0.es way p q/\s=s0+p+s1/\d=d0+q+d1):=by
 obtain ⟨ke,y,j,x,m,h1,h2,h3,h4,h5⟩:=h
 obtain ⟨Y,Y0⟩:=(from_si O inn).ends O h1
 have M0:MI L ⟨endL (k+1) st,st.es⟩ g (srcE L out) y.F (fromS L g out) ⟨0,0,0,false⟩:=by
  have F:=FI.fold O (l':=out) (FI.start L ⟨endL (k+1) st,st.es⟩ 0 g)
  exact ⟨F.all_in,fun q=>(by cases q),fun ha hH _=>absurd hH (F.all ha)⟩
 obtain ⟨z,Z,zF,zA⟩:=M0.ends O h2
 have opt:∀ {o i s0 d0 s1 d1 p q:Int},srcE L out o s0 d0->srcE L inn i s1 d1->Wg (GrE st0.es) o i p q->m.f=true/\val m.s m.d<=val (s0+p+s1) (d0+q+d1):=fun {o i s0 d0 s1 d1 p q} ho hi hw=>by
  obtain ⟨e1,_,⟨⟨o1,o2⟩,_⟩,o3,_⟩:=id ho
  obtain ⟨e2,_,⟨⟨i1,i2⟩,_⟩,i3,_⟩:=id hi
  obtain ⟨on,rfl⟩:∃ on:Nat,o=(on:Int):=⟨o.toNat,by omega⟩
  obtain ⟨iN,rfl⟩:∃ iN:Nat,i=(iN:Int):=⟨i.toNat,by omega⟩
  obtain ⟨c,p1,q1,p2,q2,u1,u2,u3⟩:=up_down (by omega) B0 hz hR hw
  obtain ⟨b1,b2⟩:=Z.best O Y Y0 rfl hA ho hi u1 u2
  refine ⟨b1,?_⟩
  rw [val_both,val_both]
  omega
 refine ⟨fun {o i s0 d0 s1 d1 p q} ho hi hw=>?_,fun hf=>?_⟩
 ·obtain ⟨b1,b2⟩:=opt ho hi hw
  obtain ⟨c1,c2,_⟩:=h5 (h3.trans b1)
  exact ⟨h3.trans b1,by rw [c1,c2];exact b2⟩
 ·obtain ⟨c1,c2,n,lb,le,c3,c4,c5,c6⟩:=h5 hf
  obtain ⟨fs,fd,es,ed,fs',fd',f1,f2,f3,f4,f5,f6,f7,f8,f9⟩:=Z.mi.fnd (h3.symm.trans hf)
  rw [c3] at f1 f2
  rw [zA] at c4
  obtain ⟨o,s0,d0,p,q,j1,j2,j3,j4⟩:=Z.mi.si.back O c4 f2
  obtain ⟨i,s1,d1,p',q',l1,l2,l3,l4⟩:=Y.back O c5 f1
  have j5:=Prc.rev O.esy j3
  obtain ⟨z0,zs,hz0⟩:∃ z0 zs,(n::lb).reverse=z0::zs:=by
   cases hq:(n::lb).reverse with
   |nil=>simp at hq
   |cons z zs=>exact ⟨z,zs,rfl⟩
  have hz1:(z0::zs).getLast? = some n:=by rw [<- hz0];simp
  have hz2:z0=o:=by
   have:(n::lb).reverse.head? = some o:=by rw [List.head?_reverse];exact j1
   rw [hz0] at this
   simpa using this
  rw [hz0] at j5 c6
  have J:=Prc.join l3 j5 hz1
  obtain ⟨u1,⟨t,u2⟩,u3⟩:=UnpL.prc O.esy hU J c6
  have u4:way.getLast? = some i:=by
   rw [u3]
   cases le with
   |nil =>
    rw [<- l1]
    show ((z0::zs)++[]).getLast? = _
    rw [List.append_nil,hz1];rfl
   |cons a le =>
    rw [<- l1]
    show ((z0::zs)++a::le).getLast? = _
    rw [List.getLast?_append]
    have e2:(n::a::le).getLast? = (a::le).getLast? := by simp
    rw [e2]
    cases hq:(a::le).getLast? with
    |none=>simp at hq
    |some b=>rfl
  rw [hz2] at u2
  have wq:=Prc.way (x:=o) (l:=t) (y:=i) (by rw [<- u2];exact u1) (by rw [<- u2];exact u4)
  obtain ⟨_,b2⟩:=opt j2 l2 wq
  have pos1:=Prc.pos O j3
  have pos2:=Prc.pos O l3
  obtain ⟨e1,_,⟨_,o1,o2,o3,o4⟩,_,o5,o6⟩:=id j2
  obtain ⟨e2,_,⟨_,i1,i2,i3,i4⟩,_,i5,i6⟩:=id l2
  have big:=Y.big f1
  have g1:val m.s m.d=val fs fd+val es ed:=by rw [f4,f5,val_both]
  have g2:val (s0+(p+p')+s1) (d0+(q+q')+d1)=val s0 d0+(val p q+val p' q')+val s1 d1:=by rw [val_both,val_both,val_both]
  have hv:val (s0+(p+p')+s1) (d0+(q+q')+d1)=val m.s m.d:=six j4 f3 l4 g1 g2 b2
  have hd:-38613965<m.d - (d0+(q+q')+d1)/\m.d - (d0+(q+q')+d1)<38613965:=by
   rw [f4,f5] at hv
   rw [f5]
   exact d_near hv (by clear hv g1 g2 b2 j4 f3 l4;omega) (by clear hv g1 g2 b2 j4 f3 l4;omega) f6 f7 f8 f9 big.1 big.2.1 big.2.2.1 big.2.2.2.1
  obtain ⟨v1,v2⟩:=val_inj _ _ _ _ hd.1 hd.2 hv
  exact ⟨o,i,t,s0,d0,s1,d1,p+p',q+q',j2,l2,u2,u4,u1,by rw [c1];exact v1.symm,by rw [c2];exact v2.symm⟩
end
section
open Go.RowKit Go.Maps Go.Sort Go.Shelf
section
variable {w w' : World} {rb pb mb : Nat} {W H V c : Int} {bl : Nat → Bool} {f : Int → Option Value}
theorem EOk.keep (E:EOk w pb W H bl f c)(G:GSt w rb pb mb W H V bl f)(K:Keep (fun k=>k=mb) w w'){f':Int->Option Value}(hf:f' c=f c):EOk w' pb W H bl f' c:=by
 refine ⟨fun h=>?_,fun h=>hf.trans (E.no h)⟩
 obtain ⟨v,l,h1,h2,h3,h4⟩:=E.yes h
 exact ⟨v,l,hf.trans h1,own_keep h2 K (own_map h2 G.mp),h3,h4⟩
theorem EOk.below (E:EOk w pb W H bl f c)(hb:Below w.heap.size w w'):EOk w' pb W H bl f c:=by
 refine ⟨fun h=>?_,E.no⟩
 obtain ⟨v,l,h1,h2,h3,h4⟩:=E.yes h
 exact ⟨v,l,h1,own_below h2 hb,h3,h4⟩
end
def GraphAt (w:World) (rb pb mb:Nat) (W H V:Int) (bl:Nat->Bool):Prop:=∃ f,GSt w rb pb mb W H V bl f/\∀ c:Int,EOk w pb W H bl f c
theorem GraphAt.below {w w':World}{rb pb mb:Nat}{W H V:Int}{bl:Nat->Bool}(G:GraphAt w rb pb mb W H V bl)(hb:Below w.heap.size w w'):GraphAt w' rb pb mb W H V bl:=by
 obtain ⟨f,h1,h2⟩:=G
 exact ⟨f,h1.below hb,fun c=>(h2 c).below hb⟩
def GraphIn (w:World) (rb pb mb:Nat) (W H V:Int) (bl:Nat->Bool) (Q:Nat->Prop):Prop:=∃ f,GSt w rb pb mb W H V bl f/\(∀ c:Int,EOk w pb W H bl f c)/\∀ c v g,f c=some v->v.ownBlock=some g->Q g
section
variable {w w' : World} {rb pb mb : Nat} {W H V : Int} {bl : Nat → Bool} {Q Q' : Nat → Prop}
theorem GraphIn.graph (G:GraphIn w rb pb mb W H V bl Q):GraphAt w rb pb mb W H V bl:=by
 obtain ⟨f,h1,h2,_⟩:=G
 exact ⟨f,h1,h2⟩
theorem GraphIn.below (G:GraphIn w rb pb mb W H V bl Q)(hb:Below w.heap.size w w'):GraphIn w' rb pb mb W H V bl Q:=by
 obtain ⟨f,h1,h2,h3⟩:=G
 exact ⟨f,h1.below hb,fun c=>(h2 c).below hb,h3⟩
theorem GraphIn.mono (G:GraphIn w rb pb mb W H V bl Q)(h:∀ g,Q g->Q' g):GraphIn w rb pb mb W H V bl Q':=by
 obtain ⟨f,h1,h2,h3⟩:=G
 exact ⟨f,h1,h2,fun c v g a b=>h g (h3 c v g a b)⟩
theorem GraphIn.lt (G:GraphIn w rb pb mb W H V bl Q):GraphIn w rb pb mb W H V bl (fun g=>Q g/\g<w.heap.size):=by
 obtain ⟨f,h1,h2,h3⟩:=G
 refine ⟨f,h1,h2,fun c v g a b=>⟨h3 c v g a b,?_⟩⟩
 cases hc:cornB W H bl c with
 |false=>rw [(h2 c).no hc] at a;cases a
 |true =>
  obtain ⟨v',l,e,ho,_⟩:=(h2 c).yes hc
  rw [e] at a
  cases a
  exact (ho.lt g b).2
end
theorem mkmapM (w:World):(Instr.makeMap 123 none).run Tryz.prog w=.ok (.map (some w.heap.size)) (w.alloc (.map #[] 0)):=by kernel_rfl
theorem cntS_empty:cntS (keyB fun _=>none) 256=0:=cntS_none 256
set_option maxHeartbeats 2000000 in
set_option maxRecDepth 1000000 in
theorem new_graph_in {b:Nat}{W H V:Int}{bl:Nat->Bool}(w:World)(g:GridAt w b W H V bl)(s:StepsAt w)(hb:b<w.heap.size) :
  Calls Tryz.prog 64 #[.pointer (some ⟨b,0,none⟩)] w fun e w'=>∃ rb pb mb,e=.returned (.pointer (some ⟨rb,0,none⟩))/\GraphIn w' rb pb mb W H V bl (fun g=>w.heap.size<=g)/\w.heap.size<=rb/\w.heap.size<=pb/\w.heap.size<=mb/\Below w.heap.size w w':=by
 have hwh:=wh_bd g.w1 g.w2 g.h1 g.h2
 have gw1:=g.w1
 have hcp:=copy_any w g
 go_enter Tryz.func64,Tryz.ntmps64
 go_wp2_with fail
 refine hcp.mono ?_
 rintro e w1 ⟨rfl,hb1,hs1,g1,fr1⟩
 clear hcp
 have hmk:=mkmapM w1
 have hM:MapF Tryz.prog 3 (w1.alloc (.map #[] 0)) w1.heap.size (fun _=>none) 0:=MapF.made w1 Tryz.prog 3
 have B2:Below w.heap.size w ((w1.alloc (.map #[] 0)).alloc (.cells #[.pointer (some ⟨w.heap.size,0,none⟩),.map (some w1.heap.size)] 161)):=(hb1.alloc hb1.size _).alloc (by have:=hb1.size;simp;omega) _
 have b2:Below w1.heap.size w1 ((w1.alloc (.map #[] 0)).alloc (.cells #[.pointer (some ⟨w.heap.size,0,none⟩),.map (some w1.heap.size)] 161)):=((Below.refl _ _).alloc (Nat.le_refl _) _).alloc (by simp) _
 have G2:GSt ((w1.alloc (.map #[] 0)).alloc (.cells #[.pointer (some ⟨w.heap.size,0,none⟩),.map (some w1.heap.size)] 161)) (w1.heap.size+1) w.heap.size w1.heap.size W H V bl (fun _=>none):=by
  refine ⟨World.cell?_alloc_at #[.pointer (some ⟨w.heap.size,0,none⟩),.map (some w1.heap.size)] 161 (w1.heap.size+1) 0 (by simp),World.cell?_alloc_at #[.pointer (some ⟨w.heap.size,0,none⟩),.map (some w1.heap.size)] 161 (w1.heap.size+1) 1 (by simp),g1.below b2 hs1,?_,fun i h=>(by cases h),fun o=>(b2.frozen (p:=⟨w.heap.size,o,none⟩) hs1).trans (fr1 o),by omega⟩
  rw [cntS_empty]
  exact hM.keep (F:=fun _=>False) ((Keep.refl _ _).alloc _) id
 go_wp2_with fail
 generalize (w1.alloc (.map #[] 0)).alloc (.cells #[.pointer (some ⟨w.heap.size,0,none⟩),.map (some w1.heap.size)] 161)=W2 at *
 have hz1:=hb1.size
 generalize hmb:w1.heap.size=mb at *
 clear hM hmk b2 g1 fr1 hs1 hb1
 have s2:=s.below B2 (by omega)
 have hz2:=B2.size
 obtain ⟨l1,l2,l3⟩:=G2.lts
 refine (all_any W2 G2.ga s2 l2).mono ?_
 rintro e w3 ⟨v,rfl,hown,hb3⟩
 have hmem:=fun c=>crs_mem (W:=W) (H:=H) (bl:=bl) (k:=(W*H).toNat) (c:=c)
 have hin:∀ n ∈ crs W H bl (W*H).toNat,inB W H (n:Int)=true/\n<256:=fun n hn=>by
  have h1:=(hmem n).1 hn
  exact ⟨cornC_in gw1 (cornB_iff.1 h1.2),by omega⟩
 have hLL:=crs_len W H bl (W*H).toNat
 have HIN:Hid (∀ n ∈ crs W H bl (W*H).toNat,inB W H (n:Int)=true/\n<256):=hin
 have HME:Hid (∀ c:Int,cornB W H bl c=true->∃ n:Nat,n ∈ crs W H bl (W*H).toNat/\c=n):=fun c hc=>by
  have h1:=cornC_in gw1 (cornB_iff.1 hc)
  have h2:0<=c/\c<W*H:=of_decide_eq_true h1
  refine ⟨c.toNat,(hmem c.toNat).2 ⟨by omega,?_⟩,by omega⟩
  rw [Int.toNat_of_nonneg h2.1];exact hc
 obtain ⟨A,cap,rfl,_⟩:=row_of hown
 have G3:=G2.below hb3
 have B3:=B2.trans (hb3.mono B2.size)
 clear hmem hin G2 hb3
 generalize crs W H bl (W*H).toNat=L at *
 have hown:=own_base hown (Nat.zero_le _)
 go_wp2
 go_loopw [17] (fun iv wr=>∃ (k:Nat) (f:Int->Option Value),k<=L.length/\iv=.int .i64 k/\GSt wr (mb+1) w.heap.size mb W H V bl f/\Hid (∀ c:Int,(∃ i,i<k/\c=((L.getD i 0:Nat):Int))->EOk wr w.heap.size W H bl f c)/\Hid (∀ c:Int,¬ (∃ i,i<k/\c=((L.getD i 0:Nat):Int))->f c=none)/\Hid (∀ (c:Int) v g,f c=some v->v.ownBlock=some g->w.heap.size<=g)/\wr.ownsRow 0 3 1 (.slice A L.length cap) L.length (vals L)/\Below w.heap.size w wr)
  (fun i _=>L.length - (intOf i).toNat)
 case atStart=>exact ⟨0,_,Nat.zero_le _,rfl,G3,fun c ⟨i,hi,_⟩=>absurd hi (Nat.not_lt_zero i),fun c _=>rfl,fun c v g h=>(by cases h),hown,B3⟩
 case round =>
  obtain ⟨k,f,hk,rfl,Gr,hyes,hno,hin,hrow,hB⟩:=hrel
  by_cases hlt:k<L.length
  ·obtain ⟨ba,hA⟩:∃ ba,A=some ⟨ba,0,none⟩:=by
    rcases hrow.2 with ⟨_,h0⟩|⟨ba,_,_,hv,_⟩
    ·omega
    ·exact ⟨ba,by cases hv;rfl⟩
   subst hA
   have hcell':wr.cell? ⟨ba,k,none⟩=some (.int .i64 ((L.getD k 0:Nat):Int)):=own_int hrow k hlt
   have hnm:L.getD k 0 ∈ L:=by rw [getD_at _ _ hlt];exact List.getElem_mem hlt
   obtain ⟨hni,hn2⟩:=HIN.out _ hnm
   have HK:Hid (∀ c:Int,(∃ i,i<k+1/\c=((L.getD i 0:Nat):Int))↔(∃ i,i<k/\c=((L.getD i 0:Nat):Int))\/c=((L.getD k 0:Nat):Int)):=fun c=>by
    constructor
    ·rintro ⟨i,hi,h⟩
     by_cases e:i=k
     ·subst e;exact Or.inr h
     ·exact Or.inl ⟨i,by omega,h⟩
    ·rintro (⟨i,hi,h⟩|h)
     ·exact ⟨i,by omega,h⟩
     ·exact ⟨k,by omega,h⟩
   generalize hnn:L.getD k 0=n at *
   clear hnn hnm
   have i1:(0:Int)<=(k:Int):=by omega
   have i2:(k:Int)<(L.length:Int):=by omega
   have hz:=hB.size
   have hlk:=look_any wr Gr (s.below hB (by omega)) hni
   go_wp2_with fail
   refine hlk.mono ?_
   rintro e w4 ⟨rfl,⟨f',G4,hf',E4,I4⟩,K4⟩
   have B4:Below w.heap.size w w4:=hB.trans (K4.to_below hB.size (fun k e=>by omega))
   have R4:=own_keep hrow K4 (own_map hrow Gr.mp)
   have HY:Hid (∀ c:Int,(∃ i,i<k+1/\c=((L.getD i 0:Nat):Int))->EOk w4 w.heap.size W H bl f' c):=fun c hc=>by
    by_cases e:c=(n:Int)
    ·rw [e];exact E4
    ·exact (hyes.out c (((HK.out c).1 hc).resolve_right e)).keep Gr K4 (hf' c e)
   have HN:Hid (∀ c:Int,¬ (∃ i,i<k+1/\c=((L.getD i 0:Nat):Int))->f' c=none):=fun c hc=>by
    have e:c≠(n:Int):=fun e=>hc ((HK.out c).2 (Or.inr e))
    rw [hf' c e]
    exact hno.out c (fun h=>hc ((HK.out c).2 (Or.inl h)))
   have HI:Hid (∀ (c:Int) v g,f' c=some v->v.ownBlock=some g->w.heap.size<=g):=fun c v g h hg=>by
    by_cases e:c=(n:Int)
    ·rw [e] at h;exact Nat.le_trans hB.size (I4 v g h hg)
    ·rw [hf' c e] at h;exact hin.out c v g h hg
   clear hlk hyes hno hin Gr hrow hB E4 I4 K4 hf'
   go_wp2
   go_roundw
   case rel=>exact ⟨k+1,f',by omega,by go_num,G4,HY,HN,HI,R4,B4⟩
   case measure=>simp [intOf];omega
  ·have e:k=L.length:=by omega
   subst e
   have HE:Hid (∀ c:Int,EOk wr w.heap.size W H bl f c):=fun c=>by
    by_cases hc:∃ i,i<L.length/\c=((L.getD i 0:Nat):Int)
    ·exact hyes.out c hc
    ·refine ⟨fun h=>?_,fun _=>hno.out c hc⟩
     obtain ⟨n,hn,rfl⟩:=HME.out c h
     obtain ⟨i,hi,h⟩:=List.getElem_of_mem hn
     exact absurd ⟨i,hi,by rw [getD_at _ _ hi,h]⟩ hc
   clear hyes hno
   go_wp2
   go_ret
   exact ⟨_,_,_,rfl,⟨f,Gr,HE.out,hin.out⟩,by omega,Nat.le_refl _,by omega,hB⟩
theorem new_graph {b:Nat}{W H V:Int}{bl:Nat->Bool}(w:World)(g:GridAt w b W H V bl)(s:StepsAt w)(hb:b<w.heap.size) :
  Calls Tryz.prog 64 #[.pointer (some ⟨b,0,none⟩)] w fun e w'=>∃ rb pb mb,e=.returned (.pointer (some ⟨rb,0,none⟩))/\GraphAt w' rb pb mb W H V bl/\w.heap.size<=rb/\w.heap.size<=pb/\w.heap.size<=mb/\Below w.heap.size w w' :=
 (new_graph_in w g s hb).mono fun _ _ ⟨rb,pb,mb,h1,h2,h3⟩=>⟨rb,pb,mb,h1,h2.graph,h3⟩
end
section
open Go.RowKit Go.Maps Go.Sort Go.Shelf
theorem Tryz.sortsA (m:Nat):AnyZI.SortsIn Tryz.prog Tryz.sortedA_ren Fence.wide m :=
 ⟨fun blk off cap ss W hH hblk hsz=>callsIn_wide.2 (AnyM.slices_Sort_int Tryz.sortA blk off cap ss W hH hblk hsz),
  fun p cap W=>callsIn_wide.2 (AnyM.slices_Sort_int_none Tryz.sortA p cap W)⟩
set_option maxHeartbeats 1000000 in
theorem nodes' (rb b nn:Nat)(D0:DataW Value)(R:Value->Option (DataW Value × List MemPlace))(w:World)(p1:w.cell? ⟨rb,1,none⟩=some (.map (some b)))(hown:w.ownsMap Tryz.prog 3 R b nn D0)(hmax:Maps.size D0<=maxLen)(hbytes:Maps.size D0*8<=140737488355328) :
  Calls Tryz.prog 54 #[.pointer (some ⟨rb,0,none⟩)] w fun e w'=>∃ (v:Value) (ss:List Int),e=.returned v/\ss.Perm (intKeys D0) /\
   w'.ownsRow w.heap.size 3 1 v ss.length ((ss.mergeSort (fun x y=>decide (x<=y))).map encZ)/\Below w.heap.size w w':=by
 refine (callsIn_wide (n:=6)).1 ?_
 have hbl:=hown.lt
 have hseq:SeqGives Fence.wide 2 Tryz.prog 143 #[.pointer (some ⟨w.heap.size,0,none⟩)] encZ (fun ss=>ss.Perm (intKeys D0)) (Maps.size D0) (w.alloc (.cells #[.map (some b)] 123)) :=
  AnyZI.keys_gives (ρ:=Tryz.keysA_ren) { Tryz.keysA with } Fence.wide _ trivial rfl (by omega) w.heap.size b nn D0 _ (by simp) (by simp) (by
   obtain ⟨es,clock,hb,Ft,hs,hD⟩:=hown
   exact ⟨es,clock,(Below.heap_alloc _ _ b hbl).trans hb,Ft,hs,hD⟩)
 have cK:∀ mb W,CallsIn Fence.wide 5 Tryz.prog 100 #[.map mb] W fun e w'=>e=.returned (.func (.func 143) #[] #[.pointer (some ⟨W.heap.size,0,none⟩)])/\w'=W.alloc (.cells #[.map mb] 123):=fun mb W=>AnyZI.keys_in Tryz.keysA Fence.wide 5 trivial rfl mb W
 have cS:=AnyZI.sorted_in Tryz.sortedA Fence.wide 5 trivial trivial trivial trivial rfl (by omega) (Tryz.sortsA _) (enters_of Tryz.func142 (by kernel_rfl) rfl) 143 #[.pointer (some ⟨w.heap.size,0,none⟩)] trivial (enters_of Tryz.func143 (by kernel_rfl) rfl) _ _ hmax hbytes _ hseq
 change CallsIn _ _ Tryz.prog 99 _ _ _ at cS
 have hfK:Fence.wide.fn 100:=trivial
 have hfS:Fence.wide.fn 99:=trivial
 refine callsIn_of_wp Tryz.func54 rfl trivial ?_ rfl
 simp only [Tryz.ntmps54,List.size_toArray,List.length_cons,List.length_nil,Nat.reduceAdd,Nat.reduceSub,Array.replicate_succ,Array.replicate_zero,List.push_toArray,List.append_toArray,List.nil_append,List.cons_append]
 gi_wp2_with (first
  |(gi_at_call 100;refine (cK _ _).mono ?_;rintro e w' ⟨rfl,rfl⟩)
  |(gi_at_call 99;refine cS.mono ?_;rintro e w' ⟨v,ss,rfl,hS,hrow,hnil,hb⟩))
 go_ret
 exact ⟨v,ss,rfl,hS,ownsRow_base_a hrow (by simp),((Below.refl _ w).alloc (Nat.le_refl _) _).trans (hb.mono (by simp))⟩
theorem crs_rise (W H:Int)(bl:Nat->Bool)(k:Nat):(crs W H bl k).Pairwise (·<·):=by
 unfold crs
 exact List.pairwise_lt_range.filter _
theorem nodes_any {rb pb mb:Nat}{W H V:Int}{bl:Nat->Bool}(w:World)(G:GraphAt w rb pb mb W H V bl) :
  Calls Tryz.prog 54 #[.pointer (some ⟨rb,0,none⟩)] w fun e w'=>∃ v,e=.returned v/\w'.ownsRow w.heap.size 3 1 v (crs W H bl (W*H).toNat).length (vals (crs W H bl (W*H).toNat))/\Below w.heap.size w w':=by
 obtain ⟨f,G,E⟩:=G
 have gw1:=G.ga.w1
 have hroom:=cntS_le (keyB f) 256
 obtain ⟨D,hown,hsz,hD⟩:=G.mp
 have hc:CollectedI D (fun _=>false) (intsN (crs W H bl (W*H).toNat)):=by
  refine ⟨(rise_intsN (crs_rise _ _ _ _)).imp (fun h e=>by omega),fun x=>?_⟩
  rw [mem_intsN,(hD x).1]
  constructor
  ·rintro ⟨n,hn,rfl⟩
   obtain ⟨v,l,hf,_⟩:=(E n).yes (crs_mem.1 hn).2
   exact ⟨by rw [hf];rfl,rfl⟩
  ·rintro ⟨hs,_⟩
   cases hcx:cornB W H bl x with
   |false=>rw [(E x).no hcx] at hs;cases hs
   |true =>
    have h2:0<=x/\x<W*H:=of_decide_eq_true (cornC_in gw1 (cornB_iff.1 hcx))
    refine ⟨x.toNat,crs_mem.2 ⟨by omega,?_⟩,by omega⟩
    rw [Int.toNat_of_nonneg h2.1];exact hcx
 have hp:=hc.perm hown (int_keyed law3) law3 (fun _=>rfl)
 refine (nodes' rb mb _ D asIs w G.p1 hown (by rw [hsz];unfold maxLen;omega) (by rw [hsz];omega)).mono ?_
 rintro e w' ⟨v,ss,rfl,hS,hrow,hb⟩
 have hps:=hS.trans hp.symm
 have e1:=mergeSort_of_perm_i hps
 obtain ⟨l,l1,l2,l3,l4⟩:=srt_ex (crs W H bl (W*H).toNat) ((crs_rise _ _ _ _).imp (fun h e=>by omega))
 have e2:l=crs W H bl (W*H).toNat:=rise_eq l1 (crs_rise _ _ _ _) l2
 have e3:ss.mergeSort (fun x y=>decide (x<=y))=intsN (crs W H bl (W*H).toNat):=by
  rw [e2] at l4
  exact e1.trans l4
 rw [e3,hps.length_eq] at hrow
 refine ⟨v,rfl,?_,hb⟩
 rw [List.length_map,List.map_map] at hrow
 exact hrow
theorem eqlE (w:World)(a:Option Addr)(n c n' c':Nat):(binOp .eql 126 (.slice a n c) (.slice none n' c')).run Tryz.prog w=.ok (.bool a.isNone) w:=Lib.run_eql_slice_nil w _ _ a n c n' c' Tryz.underE
theorem undE (w:World):Sem.run Tryz.prog (underlying 126) w=.ok (TypeDesc.slice 204) w:=run_underlying Tryz.underE w
set_option maxHeartbeats 1000000 in
set_option maxRecDepth 1000000 in
theorem clone_nil (w:World):Calls Tryz.prog 120 #[.slice none 0 0] w fun e w'=>e=.returned (.slice none 0 0)/\w'=w:=by
 have q:=eqlE
 go_enter Tryz.func120,Tryz.ntmps120
 go_wp2
 go_ret
 exact ⟨rfl,rfl⟩
set_option maxHeartbeats 1000000 in
set_option maxRecDepth 1000000 in
theorem clone_row {g n cap:Nat}{xs:List Value}(w:World)(h:w.ownsRow 0 204 4 (.slice (some ⟨g,0,none⟩) n cap) n xs)(h1:∀ u ∈ xs,u.oneCell'=true)(hn:n<=256) :
  Calls Tryz.prog 120 #[.slice (some ⟨g,0,none⟩) n cap] w fun e w'=>∃ v,e=.returned v/\w'.ownsRow w.heap.size 204 4 v n xs/\Below w.heap.size w w':=by
 obtain ⟨i0,hi,hz0,hz1,hz2⟩:=info_parts Tryz.infoE
 have hx:xs.length=n*4:=h.1
 have hc:Hid (∀ j u,xs[j]? = some u->w.cell? ⟨g,j,none⟩=some u):=fun j u hj=>by
  have hj':j<xs.length:=(List.getElem?_eq_some_iff.1 hj).1
  rw [h.cellAt j (by omega)];exact hj
 have q:=eqlE
 have u:=undE
 clear h
 go_enter Tryz.func120,Tryz.ntmps120
 go_wp2_with (at_builtin;refine wpList_append_own _ rfl _ _ 126 rfl w.heap.size 204 i0 (.agg #[.int .i64 0,.int .i64 0,.int .i64 0,.int .i64 0]) 4 32 Tryz.underE hi hz0 hz1 hz2 rfl (by decide) _ _ _ rfl (World.ownsRow_made w #[] 0 (Nat.le_refl _) (Nat.zero_le _) (by simp)) ⟨g,0,none⟩ n cap xs rfl ?qc1 ?qc2 ?qc3 ?qc4 ?qc5 ?qc6 ?_)
 case qc1=>exact hx
 case qc2 =>
  intro j u hj
  rw [Addr.add_lit,Nat.zero_add]
  exact Lib.cell?_alloc_some _ (hc.out j u hj)
 case qc3=>exact h1
 case qc4=>unfold maxLen;omega
 case qc5=>omega
 case qc6=>simp
 intro v' w1 hown hgrow _
 go_wp2
 go_ret
 refine ⟨v',rfl,by simpa using hown,?_⟩
 exact ((Below.refl _ w).alloc (Nat.le_refl _) _).grown hgrow (by simp) (by intro k hk;simp [Value.ownBlock] at hk;omega)
theorem edgesV_one (W a:Int)(l:List Nat):∀ u ∈ edgesV W a l,u.oneCell'=true:=by
 intro u hu
 unfold edgesV at hu
 obtain ⟨n,_,hn⟩:=List.mem_flatMap.1 hu
 unfold edgeV at hn
 simp at hn
 rcases hn with rfl|rfl|rfl|rfl <;> rfl
theorem EdgeL.len {W H c:Int}{bl:Nat->Bool}{l:List Nat}(w1:1<=W)(hwh:W*H<=256)(h:EdgeL W H bl c l):l.length<=256 :=
 nodup_len 256 (h.1.imp (fun h e=>by omega)) (fun n hn=>by
  have h1:=((h.2 n).1 hn).2
  rw [Bool.and_eq_true] at h1
  have h2:0<=(n:Int)/\(n:Int)<W*H:=of_decide_eq_true (cornC_in w1 (cornB_iff.1 h1.2))
  omega)
set_option maxHeartbeats 1000000 in
theorem edges_yes {rb pb mb:Nat}{W H V c:Int}{bl:Nat->Bool}(w:World)(G:GraphAt w rb pb mb W H V bl)(hc:cornB W H bl c=true)(hw:(Lit.int .i64 c).wf=true) :
  Calls Tryz.prog 75 #[.pointer (some ⟨rb,0,none⟩),.int .i64 c] w fun e w'=>∃ v l,e=.returned (.tuple #[v,.nilIface])/\w'.ownsRow w.heap.size 204 4 v l.length (edgesV W c l)/\EdgeL W H bl c l/\Below w.heap.size w w':=by
 obtain ⟨f,G,E⟩:=G
 have p1:=G.p1
 have hwh:=wh_bd G.ga.w1 G.ga.w2 G.ga.h1 G.ga.h2
 obtain ⟨v,l,hf,hown,hL,_⟩:=(E c).yes hc
 have hl:(Instr.lookup 123 (.map (some mb)) (.int .i64 c) true).run Tryz.prog w=.ok (.tuple #[v,.bool true]) w:=G.mp.look_some law3 Tryz.underM (zeroM w) hw hf true
 have hlen:=hL.len G.ga.w1 hwh.2
 have HL:Hid (EdgeL W H bl c l):=hL
 clear G E hL hf
 rcases hown.2 with ⟨rfl,h0⟩|⟨g,cap,cur,rfl,_⟩
 ·have hcl:=clone_nil w
  go_enter Tryz.func75,Tryz.ntmps75
  go_wp2_with fail
  refine hcl.mono ?_
  rintro e w1 ⟨rfl,rfl⟩
  clear hcl
  go_wp2
  go_ret2
  refine ⟨_,l,rfl,?_,HL.out,Below.refl _ _⟩
  have e0:l=[]:=List.length_eq_zero_iff.1 h0
  rw [e0];exact World.ownsRow_nil _ _ _ _
 ·have hcl:=clone_row w hown (edgesV_one _ _ _) hlen
  clear hown
  go_enter Tryz.func75,Tryz.ntmps75
  go_wp2_with fail
  refine hcl.mono ?_
  rintro e w1 ⟨v',rfl,hown',hb1⟩
  clear hcl
  go_wp2
  go_ret2
  exact ⟨_,l,rfl,hown',HL.out,hb1⟩
end
section
open Go.RowKit
def leV (e:LE):List Value:=[.int .i64 (e.to:Int),.int .i64 e.s,.int .i64 e.d,.int .i64 e.mid]
def lesV (l:List LE):List Value:=l.flatMap leV
theorem lesV_cons (e:LE)(l:List LE):lesV (e::l)=leV e++lesV l:=rfl
theorem lesV_app (l l':List LE):lesV (l++l')=lesV l++lesV l':=by
 unfold lesV
 rw [List.flatMap_append]
theorem lesV_one (e:LE):lesV [e]=leV e:=by
 unfold lesV
 rw [List.flatMap_cons,List.flatMap_nil,List.append_nil]
theorem lesV_len (l:List LE):(lesV l).length=l.length*4:=by
 induction l with
 |nil=>rfl
 |cons n l ih=>rw [lesV_cons,List.length_append,ih,List.length_cons];show 4+_=_;omega
theorem lesV_cells (l:List LE):∀ u ∈ lesV l,u.oneCell'=true:=by
 intro u hu
 unfold lesV at hu
 obtain ⟨n,_,hn⟩:=List.mem_flatMap.1 hu
 unfold leV at hn
 simp at hn
 rcases hn with rfl|rfl|rfl|rfl <;> rfl
theorem lesV_at:∀ (l:List LE) (i:Nat) (e:LE),l[i]? = some e->(lesV l)[i*4]? = some (.int .i64 (e.to:Int))/\(lesV l)[i*4+1]? = some (.int .i64 e.s)/\(lesV l)[i*4+2]? = some (.int .i64 e.d)/\(lesV l)[i*4+3]? = some (.int .i64 e.mid)
 |[],i,e,h=>by simp at h
 |x::l,0,e,h=>by
  simp at h;subst h
  rw [lesV_cons]
  exact ⟨rfl,rfl,rfl,rfl⟩
 |x::l,i+1,e,h=>by
  have ih:=lesV_at l i e (by simpa using h)
  have hl:(leV x).length=4:=rfl
  have key:∀ k,(lesV (x::l))[(i+1)*4+k]? = (lesV l)[i*4+k]? := fun k=>by
   rw [lesV_cons,List.getElem?_append_right (by rw [hl];omega),hl]
   congr 1;omega
  exact ⟨(key 0).trans ih.1,(key 1).trans ih.2.1,(key 2).trans ih.2.2.1,(key 3).trans ih.2.2.2⟩
def RowL (w:World) (A:Option Addr) (l:List LE):Prop:=∀ (i:Nat) (e:LE),l[i]? = some e->∃ b o,A=some ⟨b,o,none⟩/\w.cell? ⟨b,o+i*4,none⟩=some (.int .i64 (e.to:Int))/\w.cell? ⟨b,o+i*4+1,none⟩=some (.int .i64 e.s)/\w.cell? ⟨b,o+i*4+2,none⟩=some (.int .i64 e.d)/\w.cell? ⟨b,o+i*4+3,none⟩=some (.int .i64 e.mid)
section
variable {w w' : World} {A : Option Addr} {l : List LE}
theorem RowL.keep {F:Nat->Prop}(h:RowL w A l)(K:Keep F w w')(hF:∀ b o,A=some ⟨b,o,none⟩->¬ F b):RowL w' A l:=fun i e hi=>by
 obtain ⟨b,o,e0,h1,h2,h3,h4⟩:=h i e hi
 have hb:=hF b o e0
 exact ⟨b,o,e0,K.cellOf h1 hb,K.cellOf h2 hb,K.cellOf h3 hb,K.cellOf h4 hb⟩
theorem RowL.below (h:RowL w A l)(hb:Below w.heap.size w w'):RowL w' A l:=h.keep (F:=fun _=>False) (Keep.of_below hb) (fun _ _ _=>id)
theorem RowL.nil (w:World)(A:Option Addr):RowL w A []:=fun i e h=>by simp at h
theorem RowL.lt (h:RowL w A l)(hl:0<l.length):∃ b o,A=some ⟨b,o,none⟩/\b<w.heap.size:=by
 obtain ⟨b,o,e0,h1,_⟩:=h 0 l[0] (by simp)
 exact ⟨b,o,e0,World.block_lt_of_cell? _ _ h1⟩
theorem RowL.drop {b o:Nat}(h:RowL w (some ⟨b,o,none⟩) l)(k:Nat):RowL w (some ⟨b,o+k*4,none⟩) (l.drop k):=fun i e hi=>by
 rw [List.getElem?_drop] at hi
 obtain ⟨b',o',e0,h1,h2,h3,h4⟩:=h (k+i) e hi
 cases e0
 refine ⟨b,o+k*4,rfl,?_,?_,?_,?_⟩
 ·rw [show o+k*4+i*4=o+(k+i)*4 by omega];exact h1
 ·rw [show o+k*4+i*4+1=o+(k+i)*4+1 by omega];exact h2
 ·rw [show o+k*4+i*4+2=o+(k+i)*4+2 by omega];exact h3
 ·rw [show o+k*4+i*4+3=o+(k+i)*4+3 by omega];exact h4
theorem rowL_of {base:Nat}{v:Value}(h:w.ownsRow base 204 4 v l.length (lesV l)):∃ A cap,v=.slice A l.length cap/\RowL w A l/\((A=none/\l=[])\/∃ g,A=some ⟨g,0,none⟩/\v.ownBlock=some g/\base<=g/\g<w.heap.size):=by
 rcases h.2 with ⟨rfl,h0⟩|⟨g,cap,cur,rfl,hb,hg,_⟩
 ·have e:l=[]:=List.length_eq_zero_iff.1 h0
  subst e
  exact ⟨none,0,rfl,RowL.nil _ _,Or.inl ⟨rfl,rfl⟩⟩
 ·refine ⟨_,_,rfl,fun i e hi=>?_,Or.inr ⟨g,rfl,rfl,hb,(Array.getElem?_eq_some_iff.1 hg).1⟩⟩
  obtain ⟨e0,e1,e2,e3⟩:=lesV_at l i e hi
  have hi':i<l.length:=(List.getElem?_eq_some_iff.1 hi).1
  refine ⟨g,0,rfl,?_,?_,?_,?_⟩
  ·rw [Nat.zero_add];exact (h.cellAt _ (by omega)).trans e0
  ·rw [Nat.zero_add];exact (h.cellAt _ (by omega)).trans e1
  ·rw [Nat.zero_add];exact (h.cellAt _ (by omega)).trans e2
  ·rw [Nat.zero_add];exact (h.cellAt _ (by omega)).trans e3
end
def pickL (p:LE->Bool) (l:List LE) (k:Nat):List LE:=(l.take k).filter p
theorem pickL_no {p:LE->Bool}{l:List LE}{k:Nat}{e:LE}(h:l[k]? = some e)(hp:p e=false):pickL p l (k+1)=pickL p l k:=by
 unfold pickL
 rw [List.take_add_one,h,List.filter_append]
 simp [hp]
theorem pickL_yes {p:LE->Bool}{l:List LE}{k:Nat}{e:LE}(h:l[k]? = some e)(hp:p e=true):pickL p l (k+1)=pickL p l k++[e]:=by
 unfold pickL
 rw [List.take_add_one,h,List.filter_append]
 simp [hp]
theorem pickL_len {p:LE->Bool}{l:List LE}{k:Nat}:(pickL p l k).length<=l.length :=
 Nat.le_trans (List.length_filter_le _ _) (by rw [List.length_take];omega)
theorem pickL_all {p:LE->Bool}{l:List LE}:pickL p l l.length=l.filter p:=by
 unfold pickL
 rw [List.take_length]
end
section
open Go.RowKit
set_option maxHeartbeats 2000000 in
set_option maxRecDepth 1000000 in
theorem find_added {cap:Nat}{A:Option Addr}{l:List LE}{p:LE->Bool}(w:World)(hrow:RowL w A l)(hl:l.length<=256)
  (hC:∀ (w':World) (e:LE),Below w.heap.size w w'->e ∈ l->Calls Tryz.prog 102 #[.agg #[.int .i64 (e.to:Int),.int .i64 e.s,.int .i64 e.d,.int .i64 e.mid]] w' fun r w''=>r=.returned (.bool (p e))/\Below w'.heap.size w' w'') :
  Calls Tryz.prog 101 #[.slice A l.length cap,.func (.func 102) #[] #[]] w fun e w'=>∃ v,e=.returned v/\w'.ownsRow w.heap.size 204 4 v (l.filter p).length (lesV (l.filter p))/\Below w.heap.size w w':=by
 obtain ⟨i0,hi,hz0,hz1,hz2⟩:=info_parts Tryz.infoE
 have HC:Hid (∀ (w':World) (e:LE),Below w.heap.size w w'->e ∈ l->Calls Tryz.prog 102 #[.agg #[.int .i64 (e.to:Int),.int .i64 e.s,.int .i64 e.d,.int .i64 e.mid]] w' fun r w''=>r=.returned (.bool (p e))/\Below w'.heap.size w' w''):=hC
 clear hC
 go_enter Tryz.func101,Tryz.ntmps101
 go_wp2
 go_loopw [5,10] (fun fv iv wr=>∃ k:Nat,k<=l.length/\iv=.int .i64 k/\wr.ownsRow w.heap.size 204 4 fv (pickL p l k).length (lesV (pickL p l k))/\Below w.heap.size w wr)
  (fun _ i _=>l.length - (intOf i).toNat)
 case atStart=>exact ⟨0,Nat.zero_le _,rfl,World.ownsRow_nil _ _ _ _,Below.refl _ _⟩
 case round =>
  obtain ⟨k,hk,rfl,hown,hB⟩:=hrel
  by_cases hlt:k<l.length
  ·obtain ⟨e,he⟩:∃ e,l[k]? = some e:=⟨l[k],by simp [hlt]⟩
   obtain ⟨b,o,rfl,q1,q2,q3,q4⟩:=(hrow.below hB) k e he
   have hem:e ∈ l:=List.mem_of_getElem? he
   have i1:(0:Int)<=(k:Int):=by omega
   have i2:(k:Int)<(l.length:Int):=by omega
   have hbz:=hB.size
   have B0:Below w.heap.size w (wr.alloc (.cells #[.int .i64 (e.to:Int),.int .i64 e.s,.int .i64 e.d,.int .i64 e.mid] 204)):=hB.alloc hbz _
   have b0:Below wr.heap.size wr (wr.alloc (.cells #[.int .i64 (e.to:Int),.int .i64 e.s,.int .i64 e.d,.int .i64 e.mid] 204)):=(Below.refl _ _).alloc (Nat.le_refl _) _
   have hcl:=HC.out (wr.alloc (.cells #[.int .i64 (e.to:Int),.int .i64 e.s,.int .i64 e.d,.int .i64 e.mid] 204)) e B0 hem
   have hfl:(pickL p l k).length<=256:=Nat.le_trans pickL_len hl
   have hown0:=own_below hown b0
   have x0:(wr.alloc (.cells #[.int .i64 (e.to:Int),.int .i64 e.s,.int .i64 e.d,.int .i64 e.mid] 204)).cell? ⟨wr.heap.size,0,none⟩=some (.int .i64 (e.to:Int)):=World.cell?_alloc_at _ _ _ 0 rfl
   have x1:(wr.alloc (.cells #[.int .i64 (e.to:Int),.int .i64 e.s,.int .i64 e.d,.int .i64 e.mid] 204)).cell? ⟨wr.heap.size,1,none⟩=some (.int .i64 e.s):=World.cell?_alloc_at _ _ _ 1 rfl
   have x2:(wr.alloc (.cells #[.int .i64 (e.to:Int),.int .i64 e.s,.int .i64 e.d,.int .i64 e.mid] 204)).cell? ⟨wr.heap.size,2,none⟩=some (.int .i64 e.d):=World.cell?_alloc_at _ _ _ 2 rfl
   have x3:(wr.alloc (.cells #[.int .i64 (e.to:Int),.int .i64 e.s,.int .i64 e.d,.int .i64 e.mid] 204)).cell? ⟨wr.heap.size,3,none⟩=some (.int .i64 e.mid):=World.cell?_alloc_at _ _ _ 3 rfl
   have HEV:Hid (leV e=[.int .i64 (e.to:Int),.int .i64 e.s,.int .i64 e.d,.int .i64 e.mid]):=rfl
   have hno:=fun h=>pickL_no (p:=p) he h
   have hys:=fun h=>pickL_yes (p:=p) he h
   generalize hpe:p e=pe at *
   have HNO:Hid (pe=false->pickL p l (k+1)=pickL p l k):=hno
   have HYS:Hid (pe=true->pickL p l (k+1)=pickL p l k++[e]):=hys
   clear hno hys hpe hem he hown b0 hB
   generalize (e.to:Int)=et at *
   generalize e.s=es at *
   generalize e.d=ed at *
   generalize e.mid=em at *
   have hX:w.heap.size<=wr.heap.size:=hbz
   cases pe with
   |false =>
    have HS:Hid (pickL p l (k+1)=pickL p l k):=HNO.out rfl
    clear HNO HYS
    go_wp2_with fail
    generalize wr.alloc (.cells #[.int .i64 et,.int .i64 es,.int .i64 ed,.int .i64 em] 204)=w1 at *
    refine hcl.mono ?_
    rintro r w2 ⟨rfl,hb2⟩
    have hown2:=own_below hown0 hb2
    have B2:=B0.trans (hb2.mono B0.size)
    clear hcl hown0 hb2 x0 x1 x2 x3 B0
    go_wp2
    go_roundw
    case rel=>exact ⟨k+1,by omega,by go_num,by rw [HS.out];exact hown2,B2⟩
    case measure=>simp [intOf];omega
   |true =>
    have HS:Hid (pickL p l (k+1)=pickL p l k++[e]):=HYS.out rfl
    clear HNO HYS
    generalize pickL p l k=F at *
    go_wp2_with fail
    generalize wr.alloc (.cells #[.int .i64 et,.int .i64 es,.int .i64 ed,.int .i64 em] 204)=w1 at *
    refine hcl.mono ?_
    rintro r w2 ⟨rfl,hb2⟩
    have hown3:=own_below hown0 hb2
    have B3:=B0.trans (hb2.mono B0.size)
    have y0:=(hb2.cell (World.block_lt_of_cell? _ _ x0)).trans x0
    have y1:=(hb2.cell (World.block_lt_of_cell? _ _ x1)).trans x1
    have y2:=(hb2.cell (World.block_lt_of_cell? _ _ x2)).trans x2
    have y3:=(hb2.cell (World.block_lt_of_cell? _ _ x3)).trans x3
    have hz3:=B3.size
    clear hcl hown0 hb2 x0 x1 x2 x3 B0
    go_wp2_with (at_builtin;refine wpList_append_own _ rfl _ _ 126 rfl w.heap.size 204 i0 (.agg #[.int .i64 0,.int .i64 0,.int .i64 0,.int .i64 0]) 4 32 Tryz.underE hi hz0 hz1 hz2 rfl (by decide) _ _ _ rfl (hown3.alloc _) ⟨w2.heap.size,0,none⟩ 1 1 [.int .i64 et,.int .i64 es,.int .i64 ed,.int .i64 em] rfl rfl (cell_four_new _ _ _ _ _ _) (by intro u hu;simp at hu;rcases hu with rfl|rfl|rfl|rfl <;> rfl) ?c3 ?c4 ?c5 ?_)
    case c3=>unfold maxLen;omega
    case c4=>omega
    case c5=>simp;omega
    intro v' w4 hown' hgrow _
    have hbase:=fun q hq=>(hown3.lt q hq).1
    have B4:Below w.heap.size w w4:=(B3.alloc hz3 _).grown hgrow (by simp;omega) hbase
    have O4:w4.ownsRow w.heap.size 204 4 v' (F++[e]).length (lesV (F++[e])):=by
     rw [lesV_app,lesV_one,HEV.out]
     simpa using hown'
    clear hown' hgrow hown3 B3 y0 y1 y2 y3
    go_wp2
    go_roundw
    case rel=>exact ⟨k+1,by omega,by go_num,by rw [HS.out];exact O4,B4⟩
    case measure=>simp [intOf];omega
  ·have e:k=l.length:=by omega
   subst e
   have HF:Hid (pickL p l l.length=l.filter p):=pickL_all
   rw [HF.out] at hown
   go_wp2
   go_ret
   exact ⟨_,rfl,hown,hB⟩
set_option maxHeartbeats 2000000 in
set_option maxRecDepth 1000000 in
theorem find_open {xb cap:Nat}{A:Option Addr}{l:List LE}{p:LE->Bool}(w:World)(hrow:RowL w A l)(hl:l.length<=256)
  (hC:∀ (w':World) (e:LE),Below w.heap.size w w'->e ∈ l->Calls Tryz.prog 161 #[.agg #[.int .i64 (e.to:Int),.int .i64 e.s,.int .i64 e.d,.int .i64 e.mid],.pointer (some ⟨xb,0,none⟩)] w' fun r w''=>r=.returned (.bool (p e))/\Below w'.heap.size w' w'') :
  Calls Tryz.prog 101 #[.slice A l.length cap,.func (.func 161) #[] #[.pointer (some ⟨xb,0,none⟩)]] w fun e w'=>∃ v,e=.returned v/\w'.ownsRow w.heap.size 204 4 v (l.filter p).length (lesV (l.filter p))/\Below w.heap.size w w':=by
 obtain ⟨i0,hi,hz0,hz1,hz2⟩:=info_parts Tryz.infoE
 have HC:Hid (∀ (w':World) (e:LE),Below w.heap.size w w'->e ∈ l->Calls Tryz.prog 161 #[.agg #[.int .i64 (e.to:Int),.int .i64 e.s,.int .i64 e.d,.int .i64 e.mid],.pointer (some ⟨xb,0,none⟩)] w' fun r w''=>r=.returned (.bool (p e))/\Below w'.heap.size w' w''):=hC
 clear hC
 go_enter Tryz.func101,Tryz.ntmps101
 go_wp2
 go_loopw [5,10] (fun fv iv wr=>∃ k:Nat,k<=l.length/\iv=.int .i64 k/\wr.ownsRow w.heap.size 204 4 fv (pickL p l k).length (lesV (pickL p l k))/\Below w.heap.size w wr)
  (fun _ i _=>l.length - (intOf i).toNat)
 case atStart=>exact ⟨0,Nat.zero_le _,rfl,World.ownsRow_nil _ _ _ _,Below.refl _ _⟩
 case round =>
  obtain ⟨k,hk,rfl,hown,hB⟩:=hrel
  by_cases hlt:k<l.length
  ·obtain ⟨e,he⟩:∃ e,l[k]? = some e:=⟨l[k],by simp [hlt]⟩
   obtain ⟨b,o,rfl,q1,q2,q3,q4⟩:=(hrow.below hB) k e he
   have hem:e ∈ l:=List.mem_of_getElem? he
   have i1:(0:Int)<=(k:Int):=by omega
   have i2:(k:Int)<(l.length:Int):=by omega
   have hbz:=hB.size
   have B0:Below w.heap.size w (wr.alloc (.cells #[.int .i64 (e.to:Int),.int .i64 e.s,.int .i64 e.d,.int .i64 e.mid] 204)):=hB.alloc hbz _
   have b0:Below wr.heap.size wr (wr.alloc (.cells #[.int .i64 (e.to:Int),.int .i64 e.s,.int .i64 e.d,.int .i64 e.mid] 204)):=(Below.refl _ _).alloc (Nat.le_refl _) _
   have hcl:=HC.out (wr.alloc (.cells #[.int .i64 (e.to:Int),.int .i64 e.s,.int .i64 e.d,.int .i64 e.mid] 204)) e B0 hem
   have hfl:(pickL p l k).length<=256:=Nat.le_trans pickL_len hl
   have hown0:=own_below hown b0
   have x0:(wr.alloc (.cells #[.int .i64 (e.to:Int),.int .i64 e.s,.int .i64 e.d,.int .i64 e.mid] 204)).cell? ⟨wr.heap.size,0,none⟩=some (.int .i64 (e.to:Int)):=World.cell?_alloc_at _ _ _ 0 rfl
   have x1:(wr.alloc (.cells #[.int .i64 (e.to:Int),.int .i64 e.s,.int .i64 e.d,.int .i64 e.mid] 204)).cell? ⟨wr.heap.size,1,none⟩=some (.int .i64 e.s):=World.cell?_alloc_at _ _ _ 1 rfl
   have x2:(wr.alloc (.cells #[.int .i64 (e.to:Int),.int .i64 e.s,.int .i64 e.d,.int .i64 e.mid] 204)).cell? ⟨wr.heap.size,2,none⟩=some (.int .i64 e.d):=World.cell?_alloc_at _ _ _ 2 rfl
   have x3:(wr.alloc (.cells #[.int .i64 (e.to:Int),.int .i64 e.s,.int .i64 e.d,.int .i64 e.mid] 204)).cell? ⟨wr.heap.size,3,none⟩=some (.int .i64 e.mid):=World.cell?_alloc_at _ _ _ 3 rfl
   have HEV:Hid (leV e=[.int .i64 (e.to:Int),.int .i64 e.s,.int .i64 e.d,.int .i64 e.mid]):=rfl
   have hno:=fun h=>pickL_no (p:=p) he h
   have hys:=fun h=>pickL_yes (p:=p) he h
   generalize hpe:p e=pe at *
   have HNO:Hid (pe=false->pickL p l (k+1)=pickL p l k):=hno
   have HYS:Hid (pe=true->pickL p l (k+1)=pickL p l k++[e]):=hys
   clear hno hys hpe hem he hown b0 hB
   generalize (e.to:Int)=et at *
   generalize e.s=es at *
   generalize e.d=ed at *
   generalize e.mid=em at *
   have hX:w.heap.size<=wr.heap.size:=hbz
   cases pe with
   |false =>
    have HS:Hid (pickL p l (k+1)=pickL p l k):=HNO.out rfl
    clear HNO HYS
    go_wp2_with fail
    generalize wr.alloc (.cells #[.int .i64 et,.int .i64 es,.int .i64 ed,.int .i64 em] 204)=w1 at *
    refine hcl.mono ?_
    rintro r w2 ⟨rfl,hb2⟩
    have hown2:=own_below hown0 hb2
    have B2:=B0.trans (hb2.mono B0.size)
    clear hcl hown0 hb2 x0 x1 x2 x3 B0
    go_wp2
    go_roundw
    case rel=>exact ⟨k+1,by omega,by go_num,by rw [HS.out];exact hown2,B2⟩
    case measure=>simp [intOf];omega
   |true =>
    have HS:Hid (pickL p l (k+1)=pickL p l k++[e]):=HYS.out rfl
    clear HNO HYS
    generalize pickL p l k=F at *
    go_wp2_with fail
    generalize wr.alloc (.cells #[.int .i64 et,.int .i64 es,.int .i64 ed,.int .i64 em] 204)=w1 at *
    refine hcl.mono ?_
    rintro r w2 ⟨rfl,hb2⟩
    have hown3:=own_below hown0 hb2
    have B3:=B0.trans (hb2.mono B0.size)
    have y0:=(hb2.cell (World.block_lt_of_cell? _ _ x0)).trans x0
    have y1:=(hb2.cell (World.block_lt_of_cell? _ _ x1)).trans x1
    have y2:=(hb2.cell (World.block_lt_of_cell? _ _ x2)).trans x2
    have y3:=(hb2.cell (World.block_lt_of_cell? _ _ x3)).trans x3
    have hz3:=B3.size
    clear hcl hown0 hb2 x0 x1 x2 x3 B0
    go_wp2_with (at_builtin;refine wpList_append_own _ rfl _ _ 126 rfl w.heap.size 204 i0 (.agg #[.int .i64 0,.int .i64 0,.int .i64 0,.int .i64 0]) 4 32 Tryz.underE hi hz0 hz1 hz2 rfl (by decide) _ _ _ rfl (hown3.alloc _) ⟨w2.heap.size,0,none⟩ 1 1 [.int .i64 et,.int .i64 es,.int .i64 ed,.int .i64 em] rfl rfl (cell_four_new _ _ _ _ _ _) (by intro u hu;simp at hu;rcases hu with rfl|rfl|rfl|rfl <;> rfl) ?c3 ?c4 ?c5 ?_)
    case c3=>unfold maxLen;omega
    case c4=>omega
    case c5=>simp;omega
    intro v' w4 hown' hgrow _
    have hbase:=fun q hq=>(hown3.lt q hq).1
    have B4:Below w.heap.size w w4:=(B3.alloc hz3 _).grown hgrow (by simp;omega) hbase
    have O4:w4.ownsRow w.heap.size 204 4 v' (F++[e]).length (lesV (F++[e])):=by
     rw [lesV_app,lesV_one,HEV.out]
     simpa using hown'
    clear hown' hgrow hown3 B3 y0 y1 y2 y3
    go_wp2
    go_roundw
    case rel=>exact ⟨k+1,by omega,by go_num,by rw [HS.out];exact O4,B4⟩
    case measure=>simp [intOf];omega
  ·have e:k=l.length:=by omega
   subst e
   have HF:Hid (pickL p l l.length=l.filter p):=pickL_all
   rw [HF.out] at hown
   go_wp2
   go_ret
   exact ⟨_,rfl,hown,hB⟩
set_option maxHeartbeats 2000000 in
set_option maxRecDepth 1000000 in
theorem find_ahead {kb nb xb cap:Nat}{A:Option Addr}{l:List LE}{p:LE->Bool}(w:World)(hrow:RowL w A l)(hl:l.length<=256)
  (hC:∀ (w':World) (e:LE),Below w.heap.size w w'->e ∈ l->Calls Tryz.prog 227 #[.agg #[.int .i64 (e.to:Int),.int .i64 e.s,.int .i64 e.d,.int .i64 e.mid],.pointer (some ⟨kb,0,none⟩),.pointer (some ⟨nb,0,none⟩),.pointer (some ⟨xb,0,none⟩)] w' fun r w''=>r=.returned (.bool (p e))/\Below w'.heap.size w' w'') :
  Calls Tryz.prog 101 #[.slice A l.length cap,.func (.func 227) #[] #[.pointer (some ⟨kb,0,none⟩),.pointer (some ⟨nb,0,none⟩),.pointer (some ⟨xb,0,none⟩)]] w fun e w'=>∃ v,e=.returned v/\w'.ownsRow w.heap.size 204 4 v (l.filter p).length (lesV (l.filter p))/\Below w.heap.size w w':=by
 obtain ⟨i0,hi,hz0,hz1,hz2⟩:=info_parts Tryz.infoE
 have HC:Hid (∀ (w':World) (e:LE),Below w.heap.size w w'->e ∈ l->Calls Tryz.prog 227 #[.agg #[.int .i64 (e.to:Int),.int .i64 e.s,.int .i64 e.d,.int .i64 e.mid],.pointer (some ⟨kb,0,none⟩),.pointer (some ⟨nb,0,none⟩),.pointer (some ⟨xb,0,none⟩)] w' fun r w''=>r=.returned (.bool (p e))/\Below w'.heap.size w' w''):=hC
 clear hC
 go_enter Tryz.func101,Tryz.ntmps101
 go_wp2
 go_loopw [5,10] (fun fv iv wr=>∃ k:Nat,k<=l.length/\iv=.int .i64 k/\wr.ownsRow w.heap.size 204 4 fv (pickL p l k).length (lesV (pickL p l k))/\Below w.heap.size w wr)
  (fun _ i _=>l.length - (intOf i).toNat)
 case atStart=>exact ⟨0,Nat.zero_le _,rfl,World.ownsRow_nil _ _ _ _,Below.refl _ _⟩
 case round =>
  obtain ⟨k,hk,rfl,hown,hB⟩:=hrel
  by_cases hlt:k<l.length
  ·obtain ⟨e,he⟩:∃ e,l[k]? = some e:=⟨l[k],by simp [hlt]⟩
   obtain ⟨b,o,rfl,q1,q2,q3,q4⟩:=(hrow.below hB) k e he
   have hem:e ∈ l:=List.mem_of_getElem? he
   have i1:(0:Int)<=(k:Int):=by omega
   have i2:(k:Int)<(l.length:Int):=by omega
   have hbz:=hB.size
   have B0:Below w.heap.size w (wr.alloc (.cells #[.int .i64 (e.to:Int),.int .i64 e.s,.int .i64 e.d,.int .i64 e.mid] 204)):=hB.alloc hbz _
   have b0:Below wr.heap.size wr (wr.alloc (.cells #[.int .i64 (e.to:Int),.int .i64 e.s,.int .i64 e.d,.int .i64 e.mid] 204)):=(Below.refl _ _).alloc (Nat.le_refl _) _
   have hcl:=HC.out (wr.alloc (.cells #[.int .i64 (e.to:Int),.int .i64 e.s,.int .i64 e.d,.int .i64 e.mid] 204)) e B0 hem
   have hfl:(pickL p l k).length<=256:=Nat.le_trans pickL_len hl
   have hown0:=own_below hown b0
   have x0:(wr.alloc (.cells #[.int .i64 (e.to:Int),.int .i64 e.s,.int .i64 e.d,.int .i64 e.mid] 204)).cell? ⟨wr.heap.size,0,none⟩=some (.int .i64 (e.to:Int)):=World.cell?_alloc_at _ _ _ 0 rfl
   have x1:(wr.alloc (.cells #[.int .i64 (e.to:Int),.int .i64 e.s,.int .i64 e.d,.int .i64 e.mid] 204)).cell? ⟨wr.heap.size,1,none⟩=some (.int .i64 e.s):=World.cell?_alloc_at _ _ _ 1 rfl
   have x2:(wr.alloc (.cells #[.int .i64 (e.to:Int),.int .i64 e.s,.int .i64 e.d,.int .i64 e.mid] 204)).cell? ⟨wr.heap.size,2,none⟩=some (.int .i64 e.d):=World.cell?_alloc_at _ _ _ 2 rfl
   have x3:(wr.alloc (.cells #[.int .i64 (e.to:Int),.int .i64 e.s,.int .i64 e.d,.int .i64 e.mid] 204)).cell? ⟨wr.heap.size,3,none⟩=some (.int .i64 e.mid):=World.cell?_alloc_at _ _ _ 3 rfl
   have HEV:Hid (leV e=[.int .i64 (e.to:Int),.int .i64 e.s,.int .i64 e.d,.int .i64 e.mid]):=rfl
   have hno:=fun h=>pickL_no (p:=p) he h
   have hys:=fun h=>pickL_yes (p:=p) he h
   generalize hpe:p e=pe at *
   have HNO:Hid (pe=false->pickL p l (k+1)=pickL p l k):=hno
   have HYS:Hid (pe=true->pickL p l (k+1)=pickL p l k++[e]):=hys
   clear hno hys hpe hem he hown b0 hB
   generalize (e.to:Int)=et at *
   generalize e.s=es at *
   generalize e.d=ed at *
   generalize e.mid=em at *
   have hX:w.heap.size<=wr.heap.size:=hbz
   cases pe with
   |false =>
    have HS:Hid (pickL p l (k+1)=pickL p l k):=HNO.out rfl
    clear HNO HYS
    go_wp2_with fail
    generalize wr.alloc (.cells #[.int .i64 et,.int .i64 es,.int .i64 ed,.int .i64 em] 204)=w1 at *
    refine hcl.mono ?_
    rintro r w2 ⟨rfl,hb2⟩
    have hown2:=own_below hown0 hb2
    have B2:=B0.trans (hb2.mono B0.size)
    clear hcl hown0 hb2 x0 x1 x2 x3 B0
    go_wp2
    go_roundw
    case rel=>exact ⟨k+1,by omega,by go_num,by rw [HS.out];exact hown2,B2⟩
    case measure=>simp [intOf];omega
   |true =>
    have HS:Hid (pickL p l (k+1)=pickL p l k++[e]):=HYS.out rfl
    clear HNO HYS
    generalize pickL p l k=F at *
    go_wp2_with fail
    generalize wr.alloc (.cells #[.int .i64 et,.int .i64 es,.int .i64 ed,.int .i64 em] 204)=w1 at *
    refine hcl.mono ?_
    rintro r w2 ⟨rfl,hb2⟩
    have hown3:=own_below hown0 hb2
    have B3:=B0.trans (hb2.mono B0.size)
    have y0:=(hb2.cell (World.block_lt_of_cell? _ _ x0)).trans x0
    have y1:=(hb2.cell (World.block_lt_of_cell? _ _ x1)).trans x1
    have y2:=(hb2.cell (World.block_lt_of_cell? _ _ x2)).trans x2
    have y3:=(hb2.cell (World.block_lt_of_cell? _ _ x3)).trans x3
    have hz3:=B3.size
    clear hcl hown0 hb2 x0 x1 x2 x3 B0
    go_wp2_with (at_builtin;refine wpList_append_own _ rfl _ _ 126 rfl w.heap.size 204 i0 (.agg #[.int .i64 0,.int .i64 0,.int .i64 0,.int .i64 0]) 4 32 Tryz.underE hi hz0 hz1 hz2 rfl (by decide) _ _ _ rfl (hown3.alloc _) ⟨w2.heap.size,0,none⟩ 1 1 [.int .i64 et,.int .i64 es,.int .i64 ed,.int .i64 em] rfl rfl (cell_four_new _ _ _ _ _ _) (by intro u hu;simp at hu;rcases hu with rfl|rfl|rfl|rfl <;> rfl) ?c3 ?c4 ?c5 ?_)
    case c3=>unfold maxLen;omega
    case c4=>omega
    case c5=>simp;omega
    intro v' w4 hown' hgrow _
    have hbase:=fun q hq=>(hown3.lt q hq).1
    have B4:Below w.heap.size w w4:=(B3.alloc hz3 _).grown hgrow (by simp;omega) hbase
    have O4:w4.ownsRow w.heap.size 204 4 v' (F++[e]).length (lesV (F++[e])):=by
     rw [lesV_app,lesV_one,HEV.out]
     simpa using hown'
    clear hown' hgrow hown3 B3 y0 y1 y2 y3
    go_wp2
    go_roundw
    case rel=>exact ⟨k+1,by omega,by go_num,by rw [HS.out];exact O4,B4⟩
    case measure=>simp [intOf];omega
  ·have e:k=l.length:=by omega
   subst e
   have HF:Hid (pickL p l l.length=l.filter p):=pickL_all
   rw [HF.out] at hown
   go_wp2
   go_ret
   exact ⟨_,rfl,hown,hB⟩
end
end Go.Proofs.YtmaefimaeelkbaaGreatDoor
