/-
  The number behind a word, as the reference takes it.
-/
import Derived.Test.YtkhofbpgdkoonabDoorDec
import Derived.Test.YtkhofbpgdkoonabDoorHeaded
namespace Go.Proofs.YtkhofbpgdkoonabDoor
open Go.RowKit

/-- what the look for a number leans on -/
structure Sight (s word t : List UInt8) : Prop where
  h1 : (str s).size = s.length
  h2 : (str word).size = word.length
  h3 : ¬ (s.length : Int) ≤ (word.length : Int)
  h4 : (word.length : Int) ≤ (s.length : Int)
  h5 : (str s).extract 0 word.length = str word
  h7 : (str word).toList = word
  h9 : (str s).extract word.length s.length = str t
  ht : (str t).size = t.length
  hl : s.length = word.length + t.length
theorem sight_of {s word t : List UInt8} (e : s = word ++ t) (h : t ≠ []) : Sight s word t := by
  have hl : s.length = word.length + t.length := by rw [e, List.length_append]
  have ht : t.length ≠ 0 := by simpa using h
  exact ⟨str_size s, str_size word, by omega, by omega, by rw [ext_take, e, List.take_left], toList_str word, by rw [ext_drop, e, List.drop_left], str_size _, hl⟩

set_option maxHeartbeats 1000000 in
set_option maxRecDepth 1000000 in
theorem sized_long {s word t : List UInt8} (L : Sight s word t) (h : 9 < t.length) (hs : s.length ≤ 1000) (w : World) :
    Calls Tryd.prog 32 #[.string (str s), .string (str word)] w fun e w' => e = .returned (.int .i64 (-1)) ∧ Below w.heap.size w w' := by
  obtain ⟨h1, h2, h3, h4, h5, h7, h9, ht, hl⟩ := L
  have h8 : (9 : Int) < (s.length : Int) - (word.length : Int) := by omega
  clear hl
  go_enter Tryd.func32, Tryd.ntmps32
  go_wp2
  go_ret
  exact ⟨rfl, Below.refl _ _⟩

set_option maxHeartbeats 1000000 in
set_option maxRecDepth 1000000 in
theorem sized_minus {s word t : List UInt8} (L : Sight s word t) (h : ¬ 9 < t.length) (hne : t ≠ []) (h45 : t.headD 0 = 45) (_hs : s.length ≤ 1000) (w : World) :
    Calls Tryd.prog 32 #[.string (str s), .string (str word)] w fun e w' => e = .returned (.int .i64 (-1)) ∧ Below w.heap.size w w' := by
  obtain ⟨h1, h2, h3, h4, h5, h7, h9, ht, hl⟩ := L
  have h8 : ¬ (9 : Int) < (s.length : Int) - (word.length : Int) := by omega
  have hi := idx_head t hne
  rw [h45] at hi
  have h0 : t.length ≠ 0 := by simpa using hne
  have t0 : (0 : Int) < (t.length : Int) := by omega
  clear hl h45
  go_enter Tryd.func32, Tryd.ntmps32
  go_wp2
  go_loopw [6, 7] (fun n i wr => n = .int .i64 0 ∧ i = .int .i64 0 ∧ wr = w) (fun _ _ _ => 1)
  case atStart => exact ⟨rfl, rfl, rfl⟩
  case round =>
    obtain ⟨rfl, rfl, rfl⟩ := hrel
    go_wp2
    go_ret
    exact ⟨rfl, Below.refl _ _⟩

theorem dvalF_take {t : List UInt8} {j : Nat} (hj : j < t.length) : dvalF 0 (t.take (j + 1)) = dvalF 0 (t.take j) * 10 + (t[j].toNat - 48) := by
  rw [List.take_add_one, List.getElem?_eq_getElem hj]
  exact dvalF_snoc _ _ _

set_option maxHeartbeats 4000000 in
set_option maxRecDepth 1000000 in
theorem sized_plain {s word : List UInt8} {n : Nat} (L : Sight s word (Lib.decDigits n)) (h : ¬ 9 < (Lib.decDigits n).length) (_hs : s.length ≤ 1000) (w : World) :
    Calls Tryd.prog 32 #[.string (str s), .string (str word)] w fun e w' => e = .returned (.int .i64 n) ∧ Below w.heap.size w w' := by
  obtain ⟨h1, h2, h3, h4, h5, h7, h9, ht, hl⟩ := L
  have hd := dec_dig n
  have hv := dval_dec n
  have hlt9 := dval_lt (Lib.decDigits n) hd
  have hdec : n < 1000000000 := by
    rw [hv] at hlt9
    have : 10 ^ (Lib.decDigits n).length ≤ 10 ^ 9 := Nat.pow_le_pow_right (by decide) (by omega)
    omega
  have h8 : ¬ (9 : Int) < (s.length : Int) - (word.length : Int) := by omega
  have hdv := fun w => dec_v (n := n) rfl (by omega) w
  have htl := toList_str (Lib.decDigits n)
  obtain ⟨t, het⟩ : ∃ t, Lib.decDigits n = t := ⟨_, rfl⟩
  rw [het] at h9 ht hl hd hv h hdv htl
  have HV : Hid (dvalF 0 t = n) := hv
  have hbd : ∀ j, j ≤ t.length → dvalF 0 (t.take j) < 1000000000 := fun j hj => by
    have h1 := dval_lt (t.take j) (fun c hc => hd c (List.mem_of_mem_take hc))
    have : 10 ^ (t.take j).length ≤ 10 ^ 9 := Nat.pow_le_pow_right (by decide) (by rw [List.length_take]; omega)
    omega
  clear hl hlt9 hv het
  go_enter Tryd.func32, Tryd.ntmps32
  go_wp2
  go_loopw [6, 7] (fun x i wr => ∃ (j q : Nat), j ≤ t.length ∧ i = .int .i64 j ∧ x = .int .i64 q ∧ q = dvalF 0 (t.take j) ∧ wr = w)
    (fun _ i _ => t.length - (intOf i).toNat)
  case atStart => exact ⟨0, 0, by omega, rfl, rfl, by simp [dvalF_nil], rfl⟩
  case round =>
    obtain ⟨j, q, hj, rfl, rfl, hq, rfl⟩ := hrel
    have hq9 := hbd j hj
    rw [← hq] at hq9
    by_cases hlt : j < t.length
    · have hix := idx_str t j hlt
      have hst := dvalF_take hlt
      have hcd := hd t[j] (List.getElem_mem hlt)
      unfold isD at hcd
      rw [← hq] at hst
      have j1 : (0 : Int) ≤ (j : Int) ∧ (j : Int) < (t.length : Int) := by omega
      generalize t[j] = c at hix hst hcd
      have d1 : ¬ (c.toNat : Int) < 48 := by omega
      have d2 : ¬ (57 : Int) < (c.toNat : Int) := by omega
      have hu : IntKind.u8.wrap ((c.toNat : Int) - 48) = ((c.toNat - 48 : Nat) : Int) := by rw [IntKind.wrap_u8']; omega
      have HS : Hid (dvalF 0 (t.take (j + 1)) = q * 10 + (c.toNat - 48)) := hst
      have hj9 : t.length ≤ 9 := by omega
      obtain ⟨k, hk⟩ : ∃ k, c.toNat - 48 = k := ⟨_, rfl⟩
      have hk9 : k ≤ 9 := by omega
      have HK : Hid (c.toNat - 48 = k) := hk
      rw [hk] at hu
      clear hst hcd hk hq
      go_wp2
      go_roundw
      case rel => exact ⟨j + 1, q * 10 + k, by omega, by go_num, by go_num, by rw [HS.out, HK.out], by first | rfl | trivial⟩
      case measure => simp [intOf]; omega
    · have hjl : j = t.length := by omega
      subst hjl
      rw [List.take_length, HV.out] at hq
      subst hq
      go_wp2_with (go_at_call 26; refine (hdv _).mono ?_; rintro e w1 ⟨rfl, hb1⟩)
      go_ret
      exact ⟨rfl, hb1⟩
end Go.Proofs.YtkhofbpgdkoonabDoor
