/- -/
import Derived.Test.YtipbhlofbpnpjaaGreatDoorP29
namespace Go.Proofs.YtipbhlofbpnpjaaGreatDoor
open Go.RowKit Go.Lib
section
variable {W H : Int} {bl : Nat → Bool}
def IsR (W H:Int) (bl:Nat->Bool) (a t:Int):Prop:=ff2 W H bl a t=0/\∃ p q,Wk (Edge W H bl) a t p q
theorem IsR.self {a:Int}(h:ffv W H bl a=0):IsR W H bl a a:=⟨by unfold ff2;rw [if_pos h];exact h,0,0,Wk.nil⟩
theorem IsR.sym (w1:1<=W){a t:Int}(h:IsR W H bl a t):IsR W H bl t a:=by
 obtain ⟨h1,p,q,h2⟩:=h
 obtain ⟨⟨i1,i2⟩,⟨i3,i4⟩⟩:=ff2_ok h1
 exact ⟨ff2_of i3 i4 i1 i2,p,q,h2.back (Edge.back w1)⟩
theorem IsR.trans {a m t:Int}(h:IsR W H bl a m)(k:IsR W H bl m t):IsR W H bl a t:=by
 obtain ⟨h1,p,q,h2⟩:=h
 obtain ⟨k1,p2,q2,k2⟩:=k
 obtain ⟨⟨i1,i2⟩,_⟩:=ff2_ok h1
 obtain ⟨_,⟨i3,i4⟩⟩:=ff2_ok k1
 exact ⟨ff2_of i1 i2 i3 i4,_,_,h2.app k2⟩
theorem IsR.via (w1:1<=W){a m t:Int}(h:IsR W H bl a m):IsR W H bl m t↔IsR W H bl a t:=⟨fun k=>h.trans k,fun k=>(h.sym w1).trans k⟩
noncomputable def erB (W H:Int) (bl:Nat->Bool) (a t:Int):Bool:=@decide (IsR W H bl a t) (Classical.propDecidable _)
theorem erB_iff {a t:Int}:erB W H bl a t=true↔IsR W H bl a t:=by
 unfold erB
 exact @decide_eq_true_iff _ (Classical.propDecidable _)
theorem AskP.er {most:Nat}{a t s d err:Int}{way:List Nat}(P:AskP W H bl most a t way s d err):(err == 0)=erB W H bl a t:=by
 have h:=P.2.reach
 cases he:erB W H bl a t with
 |true=>exact beq_iff_eq.2 (h.2 (erB_iff.1 he))
 |false =>
  refine beq_eq_false_iff_ne.2 (fun h0=>?_)
  rw [erB_iff.2 (h.1 h0)] at he
  cases he
noncomputable def isl (W H:Int) (bl:Nat->Bool) (a:Int) (k:Nat):List Nat:=(List.range k).filter fun c=>erB W H bl a (c:Int)
theorem isl_yes {a:Int}{k:Nat}(h:erB W H bl a (k:Int)=true):isl W H bl a (k+1)=isl W H bl a k++[k]:=by
 unfold isl
 rw [List.range_succ,List.filter_append]
 simp [h]
theorem isl_no {a:Int}{k:Nat}(h:erB W H bl a (k:Int)=false):isl W H bl a (k+1)=isl W H bl a k:=by
 unfold isl
 rw [List.range_succ,List.filter_append]
 simp [h]
theorem isl_mem {a:Int}{k n:Nat}:n ∈ isl W H bl a k↔n<k/\IsR W H bl a (n:Int):=by
 unfold isl
 rw [List.mem_filter,List.mem_range,erB_iff]
theorem isl_len {a:Int}{k:Nat}:(isl W H bl a k).length<=k:=by
 unfold isl
 exact Nat.le_trans (List.length_filter_le _ _) (by rw [List.length_range];exact Nat.le_refl _)
theorem isl_le {a:Int}:∀ k,(isl W H bl a k).length<=frN bl k
 |0=>Nat.le_refl _
 |k+1=>by
  have h:=isl_le (a:=a) k
  show _<=frN bl k+(if bl k then 0 else 1)
  cases he:erB W H bl a (k:Int) with
  |true =>
   obtain ⟨_,⟨_,i4⟩⟩:=ff2_ok (erB_iff.1 he).1
   rw [Int.toNat_natCast] at i4
   rw [isl_yes he,i4,List.length_append,List.length_singleton]
   simp
   exact h
  |false =>
   rw [isl_no he]
   omega
theorem frN_yes {k:Nat}(h:bl k=true):frN bl (k+1)=frN bl k:=by
 show frN bl k+(if bl k then 0 else 1)=_
 rw [h];rfl
theorem frN_no {k:Nat}(h:bl k=false):frN bl (k+1)=frN bl k+1:=by
 show frN bl k+(if bl k then 0 else 1)=_
 rw [h];rfl
theorem take_mem {L:List Nat}{i c:Nat}(hi:i<L.length):decide (c ∈ L.take (i+1))=(decide (c ∈ L.take i) || decide (L.getD i 0=c)):=by
 rw [List.take_succ_eq_append_getElem hi,List.getD_eq_getElem?_getD,List.getElem?_eq_getElem hi]
 by_cases h1:c ∈ L.take i
 ·rw [decide_eq_true h1,decide_eq_true (List.mem_append.2 (Or.inl h1))];rfl
 ·by_cases h2:L[i]=c
  ·rw [decide_eq_true (List.mem_append.2 (Or.inr (List.mem_singleton.2 h2.symm)))]
   simp [h2]
  ·have h3:¬ c ∈ L.take i++[L[i]]:=fun h=>by
    rcases List.mem_append.1 h with h|h
    ·exact h1 h
    ·exact h2 (List.mem_singleton.1 h).symm
   rw [decide_eq_false h3,decide_eq_false h1]
   simp [h2]
end
end Go.Proofs.YtipbhlofbpnpjaaGreatDoor
