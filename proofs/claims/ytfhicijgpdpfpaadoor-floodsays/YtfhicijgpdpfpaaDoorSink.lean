/-
  Going down to where one belongs.
-/
import Derived.Test.YtfhicijgpdpfpaaDoorSift
namespace Go.Proofs.YtfhicijgpdpfpaaDoor
open Go.RowKit

set_option maxHeartbeats 1000000 in
theorem firstBelow_any {b mb g cap n i : Nat} {it : Nat → Item} {f : Int → Option Value} {H : Int → Option (Int × Int)} (w : World) (S : HS w b mb (.slice (some ⟨g, 0, none⟩) n cap) n it f H) (hi : i < n) :
    Calls Tryd.prog 103 #[.pointer (some ⟨b, 0, none⟩), .int .i64 i] w fun e w' => (∃ m, e = .returned (.int .i64 (m : Nat)) ∧ FirstOf it n i m) ∧ Below w.heap.size w w' := by
  have hbd := S.bd
  go_enter Tryd.func103, Tryd.ntmps103
  go_wp2
  go_loopw [5, 6] (fun x y wr => ∃ m k : Nat, x = .int .i64 m ∧ y = .int .i64 k ∧ 2 * i + 1 ≤ k ∧ k ≤ 2 * i + 3 ∧ m < n ∧ (m = i ∨ (2 * i + 1 ≤ m ∧ m < k)) ∧ ¬ bef (it i) (it m) ∧ (∀ j, 2 * i + 1 ≤ j → j < k → j < n → ¬ bef (it j) (it m)) ∧ Below w.heap.size w wr) (fun _ y _ => 2 * i + 3 - (intOf y).toNat)
  case atStart => exact ⟨i, 2 * i + 1, rfl, by go_num, by omega, by omega, hi, Or.inl rfl, bef_irrefl _, fun j _ _ _ => by omega, Below.refl _ _⟩
  case round =>
    obtain ⟨m, k, rfl, rfl, k1, k2, hm, hw, hs, hbl, hb⟩ := hrel
    have S' := S.below hb
    have c0 := S'.rep.c0
    by_cases hk : k ≤ 2 * i + 2
    · have hk' : (k : Int) ≤ 2 * (i : Int) + 2 := by omega
      by_cases hn : k < n
      · have hn' : (k : Int) < (n : Int) := by omega
        cases hB : befB (it k) (it m) with
        | false =>
          go_wp2_with (go_at_call 100; refine (before_v hB _ S'.rep hn hm (S'.ok k hn) (S'.ok m hm)).mono ?_; rintro e w1 ⟨rfl, hb1⟩)
          have HB := hb.trans (hb1.mono hb.size)
          go_roundw
          case rel =>
            refine ⟨m, k + 1, rfl, by go_num, by omega, by omega, hm, ?_, hs, fun j j1 j2 j3 => ?_, HB⟩
            · omega
            · by_cases e : j = k
              · subst e; exact of_befB_false hB
              · exact hbl j j1 (by omega) j3
          case measure => simp [intOf]; omega
        | true =>
          have hbk := bef_asymm (of_befB hB)
          go_wp2_with (go_at_call 100; refine (before_v hB _ S'.rep hn hm (S'.ok k hn) (S'.ok m hm)).mono ?_; rintro e w1 ⟨rfl, hb1⟩)
          have HB := hb.trans (hb1.mono hb.size)
          go_roundw
          case rel =>
            refine ⟨k, k + 1, rfl, by go_num, by omega, by omega, hn, Or.inr ⟨k1, by omega⟩, bef_trans hbk hs, fun j j1 j2 j3 => ?_, HB⟩
            by_cases e : j = k
            · subst e; exact bef_irrefl _
            · exact bef_trans hbk (hbl j j1 (by omega) j3)
          case measure => simp [intOf]; omega
      · have hn' : ¬ (k : Int) < (n : Int) := by omega
        have F : FirstOf it n i m := ⟨hm, by omega, hs, fun j j0 jn ju => hbl j (by unfold upN at ju; omega) (by omega) jn⟩
        go_wp2
        go_ret
        exact ⟨⟨m, rfl, F⟩, hb⟩
    · have hk' : ¬ (k : Int) ≤ 2 * (i : Int) + 2 := by omega
      have F : FirstOf it n i m := ⟨hm, by omega, hs, fun j j0 jn ju => hbl j (by unfold upN at ju; omega) (by unfold upN at ju; omega) jn⟩
      go_wp2
      go_ret
      exact ⟨⟨m, rfl, F⟩, hb⟩

set_option maxHeartbeats 1000000 in
theorem sink_any {b mb g cap n i : Nat} {it : Nat → Item} {f : Int → Option Value} {H : Int → Option (Int × Int)} (w : World) (S : HS w b mb (.slice (some ⟨g, 0, none⟩) n cap) n it f H) (hi : i < n) (hr : Sinking it n i) :
    Calls Tryd.prog 95 #[.pointer (some ⟨b, 0, none⟩), .int .i64 i] w fun e w' => e = .returned (.tuple #[]) ∧ (∃ it' f', HS w' b mb (.slice (some ⟨g, 0, none⟩) n cap) n it' f' H ∧ Ord it' n) ∧ Keep (fun k => k = g ∨ k = mb) w w' := by
  go_enter Tryd.func95, Tryd.ntmps95
  go_wp2
  go_loopw [1] (fun x wr => ∃ (k : Nat) (it' : Nat → Item) (f' : Int → Option Value), x = .int .i64 k ∧ k < n ∧ HS wr b mb (.slice (some ⟨g, 0, none⟩) n cap) n it' f' H ∧ Sinking it' n k ∧ Keep (fun k => k = g ∨ k = mb) w wr) (fun x _ => n - (intOf x).toNat)
  case atStart => exact ⟨i, it, f, rfl, hi, S, hr, Keep.refl _ _⟩
  case round =>
    obtain ⟨k, it', f', rfl, hk, S', hr', K⟩ := hrel
    go_wp2_with fail
    refine (firstBelow_any _ S' hk).mono ?_
    rintro e w1 ⟨⟨m, rfl, F⟩, hb1⟩
    have hm := F.lt
    have S1 := S'.below hb1
    have K1 := K.below hb1
    clear S S' K
    by_cases e : m = k
    · subst e
      have hO := hr'.done F
      go_wp2
      exact bodyPost_ret (v := .tuple #[]) (by simp [results, Tryd.results95, go_sem]) rfl ⟨rfl, ⟨it', f', S1, hO⟩, K1⟩
    · have hr2 := hr'.step F e
      have hgt : k < m := by have := F.who; omega
      have e' : ((m : Int) == (k : Int)) = false := by simp; omega
      go_wp2_with (go_at_call 102; refine (S1.swap _ hk hm).mono ?_; rintro e w2 ⟨rfl, ⟨f2, S2⟩, K2⟩)
      have KK := K1.trans K2 (fun _ _ h => h)
      go_roundw
      case rel => exact ⟨m, _, f2, rfl, hm, S2, hr2, KK⟩
      case measure => simp [intOf]; omega
end Go.Proofs.YtfhicijgpdpfpaaDoor
