/-
  The reference's numerals.
-/
import Derived.Test.YtkhofbpgdkoonabDoorHead
import Derived.Deep.RegionHeld3
import Derived.Laws.IdiomStrings
import Derived.Laws.BitsAllLaws
import Derived.IntWalk
namespace Go.Proofs.YtkhofbpgdkoonabDoor
open Go.RowKit

theorem conv_one (b : Nat) (c : UInt8) (x : Int) (hx : x = c.toNat) (w : World) (h : w.cell? ⟨b, 0, none⟩ = some (.int .u8 x)) : (convert 56 9 (.slice (some ⟨b, 0, none⟩) 1 1)).run Tryd.prog w = .ok (.string (str [c])) w := by
  subst hx
  refine run_convert_bytes_back w 56 9 5 ⟨b, 0, none⟩ 1 [c] Tryd.underlying56 Tryd.underlying5 Tryd.underlying9 ?_
  intro j hj
  match j, hj with
  | 0, _ => simpa [Addr.add] using h

set_option maxHeartbeats 2000000 in
set_option maxRecDepth 100000 in
theorem dec_small (n : Nat) (h : n < 10) (w : World) :
    Calls Tryd.prog 26 #[.int .i64 n] w fun e w' => e = .returned (.string (str (Lib.decDigits n))) ∧ Below w.heap.size w w' := by
  rw [Lib.decDigits_one h]
  have hd := ofNat_dig h
  have h1 : (n : Int) < 10 := by omega
  have h0 : ¬ (n : Int) < 0 := by omega
  have hc := conv_one w.heap.size (UInt8.ofNat (48 + n)) (48 + (n : Int)) (by rw [hd]; omega) (w.alloc (.cells #[.int .u8 (48 + (n : Int))] 5)) (by rw [World.cell?_alloc_new]; rfl)
  clear hd
  go_enter Tryd.func26, Tryd.ntmps26
  go_wp2_with fail
  go_ret
  exact ⟨rfl, (Below.refl _ _).alloc (Nat.le_refl _) _⟩

set_option maxHeartbeats 2000000 in
set_option maxRecDepth 100000 in
theorem dec_any : ∀ (k n : Nat), n ≤ k → n < 1000000000000000000 → ∀ w : World,
    Calls Tryd.prog 26 #[.int .i64 n] w fun e w' => e = .returned (.string (str (Lib.decDigits n))) ∧ Below w.heap.size w w' := by
  intro k
  induction k with
  | zero => exact fun n hn _ w => dec_small n (by omega) w
  | succ k ih =>
    intro n hn hm w
    by_cases h : n < 10
    · exact dec_small n h w
    · rw [dec_big h]
      have hd := ofNat_dig (show n % 10 < 10 by omega)
      have h1 : ¬ (n : Int) < 10 := by omega
      have h0 : ¬ (n : Int) < 0 := by omega
      have q1 : (n : Int).tdiv 10 = ((n / 10 : Nat) : Int) := by rw [Int.ofNat_tdiv]; rfl
      have q2 : (n : Int).tmod 10 = ((n % 10 : Nat) : Int) := by rw [Int.ofNat_tmod]; rfl
      have hih := fun w => ih (n / 10) (by omega) (by omega) w
      have hl : (Lib.decDigits (n / 10)).length ≤ 20 := by
        have := itoa_len20 ((n / 10 : Nat) : Int) (by omega) (by omega)
        unfold Lib.itoa at this
        rw [if_neg (by omega), Int.toNat_natCast] at this
        exact this
      have hcv := fun b w h => conv_one b (UInt8.ofNat (48 + n % 10)) (48 + ((n % 10 : Nat) : Int)) (by rw [hd]; omega) w h
      generalize Lib.decDigits (n / 10) = L at *
      generalize UInt8.ofNat (48 + n % 10) = c at *
      have hr9 : n % 10 < 10 := by omega
      have hq9 : n / 10 < 1000000000000000000 := by omega
      generalize n % 10 = r at *
      generalize n / 10 = q at *
      clear hd
      have wq : IntKind.i64.wrap (q : Int) = q := IntWalk.i64_in _ (by omega)
      have wr : IntKind.i64.wrap (r : Int) = r := IntWalk.i64_in _ (by omega)
      have wr2 : IntKind.i64.wrap (48 + (r : Int)) = 48 + r := IntWalk.i64_in _ (by omega)
      have wr3 : IntKind.u8.wrap (48 + (r : Int)) = 48 + r := by rw [IntKind.wrap_u8']; omega
      rw [← str_append]
      have sL : (str L).size ≤ 20 := by rw [str_size]; exact hl
      have sC : (str [c]).size = 1 := by rw [str_size]; rfl
      generalize str L = SL at *
      generalize str [c] = SC at *
      have cvA : ∀ W' : World, (convert 56 9 (.slice (some ⟨W'.heap.size, 0, none⟩) 1 1)).run Tryd.prog (W'.alloc (.cells #[.int .u8 (48 + (r : Int))] 5)) = .ok (.string SC) (W'.alloc (.cells #[.int .u8 (48 + (r : Int))] 5)) := fun W' => hcv _ _ (by rw [World.cell?_alloc_new]; rfl)
      have cvA' : ∀ W' : World, (convert 56 9 (.slice (some ⟨W'.heap.size, 0, none⟩) 1 1)).run Tryd.prog (W'.alloc (.cells #[.int .u8 (48 + (r : Int))] 5)).drew = .ok (.string SC) (W'.alloc (.cells #[.int .u8 (48 + (r : Int))] 5)).drew := fun W' => hcv _ _ (by rw [show ∀ (X : World) p, X.drew.cell? p = X.cell? p from fun _ _ => rfl, World.cell?_alloc_new]; rfl)
      have cvB : ∀ {W' w1 : World}, Below (W'.alloc (.cells #[.int .u8 (48 + (r : Int))] 5)).drew.heap.size (W'.alloc (.cells #[.int .u8 (48 + (r : Int))] 5)).drew w1 → (convert 56 9 (.slice (some ⟨W'.heap.size, 0, none⟩) 1 1)).run Tryd.prog w1 = .ok (.string SC) w1 := fun {W' w1} hb => hcv _ _ ((hb.cell (p := ⟨W'.heap.size, 0, none⟩) (by simp)).trans (by rw [show ∀ (X : World) p, X.drew.cell? p = X.cell? p from fun _ _ => rfl, World.cell?_alloc_new]; rfl))
      have HB : Hid (∀ {W' w1 : World}, Below (W'.alloc (.cells #[.int .u8 (48 + (r : Int))] 5)).drew.heap.size (W'.alloc (.cells #[.int .u8 (48 + (r : Int))] 5)).drew w1 → (convert 56 9 (.slice (some ⟨W'.heap.size, 0, none⟩) 1 1)).run Tryd.prog w1 = .ok (.string SC) w1) := cvB
      clear hcv cvB ih hn hm hl
      go_enter Tryd.func26, Tryd.ntmps26
      go_wp2_with fail
      go_region_held (fun _ => True) (trivial) ((go_at_call 26; refine (hih _).mono ?_; rintro e w1 ⟨rfl, hb1⟩; first | (have hk := HB.out hb1) | skip))
      all_goals
        go_wp2_with fail
        go_ret
        first | exact ⟨rfl, (((Below.refl w.heap.size w).drew).trans hb1).alloc hb1.size _⟩ | exact ⟨rfl, (((Below.refl w.heap.size w).alloc (Nat.le_refl _) _).drew).trans (hb1.mono (Nat.le_trans (Nat.le_succ _) (Nat.le_of_eq (World.size_alloc _ _).symm)))⟩
theorem dec_v {n : Nat} {l : List UInt8} (hl : Lib.decDigits n = l) (hn : n < 1000000000000000000) (w : World) :
    Calls Tryd.prog 26 #[.int .i64 n] w fun e w' => e = .returned (.string (str l)) ∧ Below w.heap.size w w' := hl ▸ dec_any n n (Nat.le_refl _) hn w
end Go.Proofs.YtkhofbpgdkoonabDoor
