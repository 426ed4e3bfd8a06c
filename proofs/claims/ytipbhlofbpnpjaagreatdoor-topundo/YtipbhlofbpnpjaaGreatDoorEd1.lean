/- -/
import Derived.Test.YtipbhlofbpnpjaaGreatDoorEd0
import Derived.Test.YtipbhlofbpnpjaaGreatDoorP28
namespace Go.Proofs.YtipbhlofbpnpjaaGreatDoor
open Go.RowKit Go.Lib
theorem refAt_setV {w:World}{b:Nat}{W H V:Int}{bl:Nat->Bool}(g:RefAt w b W H V bl)(c:Nat)(hc:c<256)(v:Bool)(V':Int):RefAt ((w.setCell ⟨b,2+c,none⟩ (.bool v)).setCell ⟨b,258,none⟩ (.int .i64 V')) b W H V' (upd bl c v):=by
 have hne:(⟨b,2+c,none⟩:Addr)≠⟨b,258,none⟩:=addr_ne (by omega)
 refine ⟨g.w1,g.w2,g.h1,g.h2,?_,?_,?_,fun i hi=>?_⟩
 ·rw [World.cell?_setCell_other _ _ _ _ (addr_ne (by omega)),World.cell?_setCell_other _ _ _ _ (addr_ne (by omega))];exact g.c0
 ·rw [World.cell?_setCell_other _ _ _ _ (addr_ne (by omega)),World.cell?_setCell_other _ _ _ _ (addr_ne (by omega))];exact g.c1
 ·exact World.cell?_setCell_same _ _ _ (u:=.int .i64 V) (by rw [World.cell?_setCell_other _ _ _ _ hne];exact g.c2)
 ·rw [World.cell?_setCell_other _ _ _ _ (addr_ne (by omega))]
  unfold upd
  by_cases e:i=c
  ·rw [if_pos e,e]
   exact World.cell?_setCell_same _ _ _ (g.cs c hc)
  ·rw [if_neg e,World.cell?_setCell_other _ _ _ _ (addr_ne (by omega))];exact g.cs i hi
set_option maxHeartbeats 400000 in
theorem rset_newV {b:Nat}{W H V:Int}{bl:Nat->Bool}(c:Nat)(v:Bool)(w:World)(g:RefAt w b W H V bl)(f:Free w b)(hr:inB W H c=true)(hv:bl c=!v) :
  Calls Tryz.prog 32 #[.pointer (some ⟨b,0,none⟩),.int .i64 c,.bool v] w fun e w'=>e=.returned (.tuple #[.bool true,.int .i64 0])/\Touch b w w'/\(∃ V',RefAt w' b W H V' (upd bl c v))/\Free w' b:=by
 have hc:0<=(c:Int)/\(c:Int)<W*H:=of_decide_eq_true hr
 obtain ⟨k1,k2⟩:=wh_bd g.w1 g.w2 g.h1 g.h2
 obtain ⟨q1,q2⟩:=hc
 have q3:(c:Int)<256:=by omega
 have h:=g.cs c (by omega)
 have c2:=g.c2
 have f1:=f 258
 have f2:=f (2+c)
 rw [hv] at h
 have hx:((!v) == v)=false:=by cases v <;> rfl
 have hG:=fun m V'=>refAt_setV (g.drewN m) c (by omega) v V'
 have hne:(⟨b,2+c,none⟩:Addr)≠⟨b,258,none⟩:=addr_ne (by omega)
 have c3:(w.setCell ⟨b,2+c,none⟩ (.bool v)).cell? ⟨b,258,none⟩=some (.int .i64 V):=by rw [World.cell?_setCell_other _ _ _ _ hne];exact c2
 go_enter Tryz.func32,Tryz.ntmps32
 go_wp2_with (go_at_call 26;refine (ris_in _ _ g hr).mono ?_;rintro e w' ⟨rfl,m,rfl⟩)
 go_ret2
 exact ⟨rfl,(((Touch.refl b w).drewN m).setCell _ _).setCell _ _,⟨_,hG m _⟩,fun o=>by simpa using f o⟩
theorem Sv.lo_lt {w:World}{lo hi sb most:Nat}{W H V:Int}{bl:Nat->Bool}(S:Sv w lo hi sb W H V bl most):lo<w.heap.size:=by
 obtain ⟨rb,pb,mb,lb,tb,gb,N,x,V2,S⟩:=S
 have h1:=S.l1
 have h2:=S.l2
 have h3:=S.l3
 have h4:=S.lt
 omega
theorem rset_any {b:Nat}{W H V:Int}{bl:Nat->Bool}(c:Nat)(v:Bool)(w:World)(g:RefAt w b W H V bl)(f:Free w b)(hr:inB W H c=true) :
  Calls Tryz.prog 32 #[.pointer (some ⟨b,0,none⟩),.int .i64 c,.bool v] w fun e w'=>e=.returned (.tuple #[.bool (!decide (bl c=v)),.int .i64 0])/\Keep (fun k=>k=b) w w'/\(∃ V',RefAt w' b W H V' (upd bl c v))/\Free w' b:=by
 by_cases hv:bl c=v
 ·refine (rset_same c v w g hr hv).mono ?_
  rintro e w' ⟨rfl,m,rfl⟩
  refine ⟨by rw [decide_eq_true hv];rfl,Keep.of_below (below_drewN (Below.refl _ _) m),⟨V,?_⟩,fun o=>f o⟩
  rw [upd_same hv]
  exact g.drewN m
 ·have hv':bl c=!v:=by cases hb:bl c <;> cases v <;> simp_all
  refine (rset_newV c v w g f hr hv').mono ?_
  rintro e w' ⟨rfl,h1,h2,h3⟩
  exact ⟨by rw [decide_eq_false hv];rfl,h1.keep,h2,h3⟩
section
variable {W H : Int} {bl bl' : Nat → Bool}
theorem stepD_some {a b:Int}{k:Nat}(ha:inB W H a=true)(h:stepD W H bl a b=some k):Edge W H bl a k b:=by
 unfold stepD at h
 have h1:=List.find?_some h
 have h2:=List.mem_range.1 (List.mem_of_find?_eq_some h)
 rw [Bool.and_eq_true] at h1
 exact ⟨h2,ha,h1.1,(beq_iff_eq.1 h1.2).symm⟩
theorem wkS_pos {xs:Nat->Int}:∀ {n:Nat}{e:Int},wkS W H bl xs n=.error e->0<e
 |0,_,h=>by cases h
 |n+1,e,h=>by
  rw [wkS] at h
  cases hn:wkS W H bl xs n with
  |error e' =>
   rw [hn] at h
   cases h
   exact wkS_pos hn
  |ok c =>
   rw [hn] at h
   have h:wk1 W H bl xs n c=.error e:=h
   unfold wk1 at h
   split at h
   ·split at h
    ·cases h
    ·split at h
     ·cases h;decide
     ·cases h
   ·next hz =>
    cases h
    unfold ffv at hz ⊢
    split
    ·split <;> simp_all
    ·decide
theorem wkV_pos (xs:Nat->Int)(n:Nat)(h:(wkV W H bl xs n).2≠0):0<(wkV W H bl xs n).2:=by
 unfold wkV at h ⊢
 split
 ·decide
 ·next hn =>
  rw [if_neg hn] at h
  cases hs:wkS W H bl xs n with
  |error e=>exact wkS_pos hs
  |ok c=>rw [hs] at h;exact absurd rfl h
theorem Cp.lift (w1:1<=W)(hb:∀ n,bl n=true->bl' n=true):∀ {l:List Nat}{a:Nat}{t s d:Int},inB W H a=true->Cp W H bl a l t s d->(∀ j,j<l.length->∃ k,stepD W H bl' (((a::l).getD j 0:Nat):Int) (((a::l).getD (j+1) 0:Nat):Int)=some k)->Cp W H bl' a l t s d
 |[],_,_,_,_,_,h,_=>h
 |r::l,a,t,s,d,ha,⟨k,e,h⟩,hs=>by
  obtain ⟨k',hk'⟩:=hs 0 (Nat.succ_pos _)
  have e':Edge W H bl' (a:Int) k' (r:Int):=stepD_some ha hk'
  have e2:Edge W H bl (a:Int) k' (r:Int):=⟨e'.1,e'.2.1,may_more hb e'.2.2.1,e'.2.2.2⟩
  have ek:k'=k:=Option.some.inj ((stepD_edge w1 e2).symm.trans (stepD_edge w1 e))
  subst ek
  exact ⟨k',e',Cp.lift w1 hb (e.in' w1) h (fun j hj=>hs (j+1) (Nat.succ_lt_succ hj))⟩
theorem wkS_steps {xs:Nat->Int}{n:Nat}{c:Int × Int}(h:wkS W H bl xs n=.ok c){j:Nat}(hj:j+1<n):∃ k,stepD W H bl (xs j) (xs (j+1))=some k:=by
 have key:∀ i,i<=n->∃ c,wkS W H bl xs i=.ok c:=fun i hi=>by
  cases hs:wkS W H bl xs i with
  |ok c=>exact ⟨c,rfl⟩
  |error e=>rw [wkS_stuck hs n hi] at h;cases h
 obtain ⟨c1,h1⟩:=key (j+1) (by omega)
 obtain ⟨c2,h2⟩:=key (j+1+1) (by omega)
 rw [wkS_next h1] at h2
 unfold wk1 at h2
 split at h2
 ·rw [if_neg (Nat.succ_ne_zero j),Nat.add_sub_cancel] at h2
  cases hq:stepD W H bl (xs j) (xs (j+1)) with
  |none=>rw [hq] at h2;cases h2
  |some k=>exact ⟨k,rfl⟩
 ·cases h2
theorem Rt.detour {a t s d err s' d' err':Int}{way way':List Nat}(w1:1<=W)(h:Rt W H bl a t way s d err)(h':Rt W H bl' a t way' s' d' err')(hb:∀ n,bl n=true->bl' n=true)(hf:ff2 W H bl a t=ff2 W H bl' a t)(h0:err=0)(hk:(wkV W H bl' (fun i=>((way.getD i 0:Nat):Int)) way.length).2=0):s=s'/\d=d':=by
 obtain ⟨f0,_⟩:=h.ok h0
 obtain ⟨l,e,hc,b1,b2,b3,b4⟩:=h.path f0 h0
 subst e
 have hz:wkV W H bl' (fun i=>(((a.toNat::l).getD i 0:Nat):Int)) (a.toNat::l).length=(match wkS W H bl' (fun i=>(((a.toNat::l).getD i 0:Nat):Int)) (a.toNat::l).length with|.error e=>((0,0),e)|.ok c=>(c,0)):=rfl
 rw [hz] at hk
 obtain ⟨⟨hia,_⟩,_⟩:=ff2_ok f0
 have q:0<=a/\a<W*H:=of_decide_eq_true hia
 obtain ⟨aN,rfl⟩:∃ aN:Nat,a=(aN:Int):=⟨a.toNat,by omega⟩
 rw [Int.toNat_natCast] at *
 cases hs:wkS W H bl' (fun i=>(((aN::l).getD i 0:Nat):Int)) (aN::l).length with
 |error e =>
  rw [hs] at hk
  have:=wkS_pos hs
  have hk:e=0:=hk
  omega
 |ok c =>
  have hc':=Cp.lift w1 hb hia hc (fun j hj=>wkS_steps hs (Nat.succ_lt_succ hj))
  obtain ⟨z,hv⟩:=h'.yes (by rw [<- hf];exact f0) hc'.walk
  obtain ⟨_,hv2⟩:=(h.walls h' hb hf).1 z
  have q1:=h.bd
  have q2:=h'.bd
  exact two_same (by omega) (by omega) (by omega) (by omega) hv2 hv
end
end Go.Proofs.YtipbhlofbpnpjaaGreatDoor
