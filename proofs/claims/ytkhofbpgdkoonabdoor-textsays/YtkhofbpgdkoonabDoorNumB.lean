/-
  What the reference takes for a number of 64 bits is what is printed of one. No model in this text but for the comparison of bytes.
-/
import Derived.Test.YtkhofbpgdkoonabDoorNum
namespace Go.Proofs.YtkhofbpgdkoonabDoor
open Go.Lib

def digB (c : UInt8) : Bool := decide (48 ≤ c.toNat ∧ c.toNat ≤ 57)
/-- digits, no nought ahead, a number of 64 bits -/
def tailB (u : List UInt8) (below : Bool) : Bool := !(u.head? == some 48 && decide (1 < u.length)) && (u.all digB && withinB u below)
/-- what stands behind a word: a number? -/
def numB (t : List UInt8) : Bool := if t.head? = some 45 then (decide (t.tail ≠ []) && decide (t.tail ≠ [48])) && tailB t.tail true else tailB t false

theorem all_dig {u : List UInt8} : u.all digB = true ↔ ∀ c ∈ u, isD c := by
  rw [List.all_eq_true]
  constructor
  · intro h c hc
    have := h c hc
    unfold digB at this
    rw [decide_eq_true_eq] at this
    exact this
  · intro h c hc
    unfold digB
    exact decide_eq_true (show 48 ≤ c.toNat ∧ c.toNat ≤ 57 from h c hc)

theorem tailB_iff {u : List UInt8} (hu : u ≠ []) (b : Bool) : tailB u b = true ↔ ∃ n, n ≤ mostN b ∧ u = decDigits n := by
  unfold tailB
  rw [Bool.and_eq_true, Bool.and_eq_true, all_dig]
  constructor
  · rintro ⟨h1, h2, h3⟩
    have hh : 2 ≤ u.length → ∀ c r, u = c :: r → 49 ≤ c.toNat := by
      intro hl c r e
      subst e
      have hc := h2 c List.mem_cons_self
      unfold isD at hc
      have hn : ¬ c = 48 := by
        intro e
        subst e
        simp at h1
        subst h1
        simp at hl
      have : c.toNat ≠ 48 := fun e => hn (UInt8.toNat_inj.1 e)
      omega
    refine ⟨dvalF 0 u, (within_iff u b h2 hh).1 h3, ?_⟩
    obtain ⟨k, hk⟩ : ∃ k, u.length = k + 1 := ⟨u.length - 1, by
      have : u.length ≠ 0 := by simpa using hu
      omega⟩
    exact (dec_dval k u hk h2 hh).symm
  · rintro ⟨n, hn, rfl⟩
    have hd := dec_dig n
    have hh : 2 ≤ (decDigits n).length → ∀ c r, decDigits n = c :: r → 49 ≤ c.toNat := by
      intro hl c r e
      have h1 : 1 ≤ n := by
        rcases Nat.eq_zero_or_pos n with h0 | h0
        · subst h0
          rw [decDigits_one (by decide)] at hl
          simp at hl
        · exact h0
      obtain ⟨c', r', e', h'⟩ := dec_head n h1
      rw [e] at e'
      cases e'
      exact h'
    refine ⟨?_, hd, (within_iff _ b hd hh).2 (by rw [dval_dec]; exact hn)⟩
    obtain ⟨c, r, e, _⟩ := dec_cons n
    rw [Bool.not_eq_true', Bool.and_eq_false_iff]
    by_cases hl : 1 < (decDigits n).length
    · left
      have := hh (by omega) c r e
      rw [e]
      simp
      intro e48
      subst e48
      simp at this
    · right
      simp
      omega

theorem numB_iff {t : List UInt8} (ht : t ≠ []) : numB t = true ↔ ∃ v : Int, -9223372036854775808 ≤ v ∧ v ≤ 9223372036854775807 ∧ t = itoa v := by
  unfold numB
  split
  · rename_i h45
    obtain ⟨u, rfl⟩ : ∃ u, t = 45 :: u := by
      cases t with
      | nil => cases h45
      | cons c r =>
        simp at h45
        exact ⟨r, by rw [h45]⟩
    rw [List.tail_cons, Bool.and_eq_true, Bool.and_eq_true, decide_eq_true_eq, decide_eq_true_eq]
    constructor
    · rintro ⟨⟨h1, h2⟩, h3⟩
      obtain ⟨n, hn, rfl⟩ := (tailB_iff h1 true).1 h3
      have hm : mostN true = 9223372036854775808 := rfl
      have n1 : 1 ≤ n := by
        rcases Nat.eq_zero_or_pos n with h0 | h0
        · subst h0
          exact absurd (decDigits_one (by decide)) h2
        · exact h0
      refine ⟨-(n : Int), by omega, by omega, ?_⟩
      unfold itoa
      rw [if_pos (by omega)]
      congr 2
      omega
    · rintro ⟨v, v1, v2, e⟩
      unfold itoa at e
      split at e
      · rename_i hv
        simp only [List.cons.injEq, true_and] at e
        have n1 : 1 ≤ v.natAbs := by omega
        have hu : u ≠ [] := by rw [e]; exact dec_ne _
        refine ⟨⟨hu, ?_⟩, (tailB_iff hu true).2 ⟨v.natAbs, by show _ ≤ 9223372036854775808; omega, e⟩⟩
        intro h48
        obtain ⟨c, r, hc, h49⟩ := dec_head v.natAbs n1
        rw [← e, h48] at hc
        cases hc
        simp at h49
      · obtain ⟨c, r, hc, hd⟩ := dec_cons v.toNat
        rw [hc] at e
        simp at e
        unfold isD at hd
        rw [← e.1] at hd
        simp at hd
  · rename_i h45
    rw [tailB_iff ht false]
    constructor
    · rintro ⟨n, hn, rfl⟩
      have hm : mostN false = 9223372036854775807 := rfl
      refine ⟨n, by omega, by omega, ?_⟩
      unfold itoa
      rw [if_neg (by omega), Int.toNat_natCast]
    · rintro ⟨v, v1, v2, e⟩
      unfold itoa at e
      split at e
      · rw [e] at h45
        simp at h45
      · exact ⟨v.toNat, by show _ ≤ 9223372036854775807; omega, e⟩

theorem numOf_app {word t : List UInt8} (ht : t ≠ []) : (numOf (word ++ t) word).isSome = numB t := by
  rw [Bool.eq_iff_iff, Option.isSome_iff_exists, numB_iff ht]
  constructor
  · rintro ⟨v, hv⟩
    obtain ⟨e, h1, h2⟩ := numOf_iff.1 hv
    exact ⟨v, h1, h2, List.append_cancel_left e⟩
  · rintro ⟨v, h1, h2, e⟩
    exact ⟨v, numOf_iff.2 ⟨by rw [e], h1, h2⟩⟩
theorem itoa_ne (v : Int) : itoa v ≠ [] := by
  unfold itoa
  split
  · simp
  · exact dec_ne _
theorem numOf_no {s word : List UInt8} (h : ∀ v : Int, -9223372036854775808 ≤ v → v ≤ 9223372036854775807 → s ≠ word ++ itoa v) : numOf s word = none := by
  cases hn : numOf s word with
  | none => rfl
  | some v =>
    obtain ⟨e, h1, h2⟩ := numOf_iff.1 hn
    exact absurd e (h v h1 h2)
end Go.Proofs.YtkhofbpgdkoonabDoor
