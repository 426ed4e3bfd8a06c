/-
  The reference's look at a line: a word and a number of 64 bits.
-/
import Derived.Test.YtkhofbpgdkoonabDoorParse
namespace Go.Proofs.YtkhofbpgdkoonabDoor
open Go.RowKit

theorem most_str (b : Bool) : (⟨(mostL b).toArray⟩ : ByteArray).toList = mostL b := toList_str (mostL b)

set_option maxHeartbeats 1000000 in
set_option maxRecDepth 100000 in
theorem within_any (t : List UInt8) (b : Bool) (w : World) :
    Calls Tryd.prog 56 #[.string (str t), .bool b] w fun e w' => e = .returned (.bool (withinB t b)) ∧ w' = w := by
  have hsz := str_size t
  have hts := toList_str t
  have hmt := toList_str (mostL true)
  have hmf := toList_str (mostL false)
  unfold mostL str at hmt hmf
  simp only [if_true, Bool.false_eq_true, if_false] at hmt hmf
  have s1 : (⟨#[57, 50, 50, 51, 51, 55, 50, 48, 51, 54, 56, 53, 52, 55, 55, 53, 56, 48, 55]⟩ : ByteArray).size = 19 := rfl
  have s2 : (⟨#[57, 50, 50, 51, 51, 55, 50, 48, 51, 54, 56, 53, 52, 55, 55, 53, 56, 48, 56]⟩ : ByteArray).size = 19 := rfl
  rcases Nat.lt_trichotomy t.length 19 with h | h | h
  · have e : withinB t b = true := by unfold withinB; simp [h]
    rw [e]
    have h1 : (t.length : Int) < 19 := by omega
    cases b
    all_goals
      go_enter Tryd.func56, Tryd.ntmps56
      go_wp2
      go_ret
      exact ⟨rfl, rfl⟩
  · have e : withinB t b = (Op.bytesLess t (mostL b) || t == mostL b) := by unfold withinB; simp [h]
    rw [e]
    have h1 : ¬ (t.length : Int) < 19 := by omega
    have h2 : ((t.length : Int) == 19) = true := by rw [beq_iff_eq]; omega
    cases b
    all_goals
      go_enter Tryd.func56, Tryd.ntmps56
      go_wp2
      go_ret
      exact ⟨by first | rfl | (unfold mostL; simp), rfl⟩
  · have e : withinB t b = false := by
      unfold withinB
      rw [decide_eq_false (by omega), decide_eq_false (by omega)]
      rfl
    rw [e]
    have h1 : ¬ (t.length : Int) < 19 := by omega
    have h2 : ((t.length : Int) == 19) = false := by rw [beq_eq_false_iff_ne]; omega
    cases b
    all_goals
      go_enter Tryd.func56, Tryd.ntmps56
      go_wp2
      go_ret
      exact ⟨rfl, rfl⟩
theorem within_v {t : List UInt8} {b r : Bool} (h : withinB t b = r) (w : World) :
    Calls Tryd.prog 56 #[.string (str t), .bool b] w fun e w' => e = .returned (.bool r) ∧ w' = w := h ▸ within_any t b w
end Go.Proofs.YtkhofbpgdkoonabDoor
