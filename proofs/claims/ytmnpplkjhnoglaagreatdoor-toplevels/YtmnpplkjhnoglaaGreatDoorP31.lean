/-
  Texts laid together: Sink, Heap.
-/
import Derived.Test.YtmnpplkjhnoglaaGreatDoorP30
import Derived.Maps.AppendAt
/-
  Going down to where one belongs.
-/
namespace Go.Proofs.YtmnpplkjhnoglaaGreatDoor
open Go.RowKit

set_option maxHeartbeats 1000000 in
theorem firstBelow_any {b mb g cap n i : Nat} {it : Nat → Item} {f : Int → Option Value} {H : Int → Option (Int × Int)} (w : World) (S : HS w b mb (.slice (some ⟨g, 0, none⟩) n cap) n it f H) (hi : i < n) :
    Calls Tryz.prog 130 #[.pointer (some ⟨b, 0, none⟩), .int .i64 i] w fun e w' => (∃ m, e = .returned (.int .i64 (m : Nat)) ∧ FirstOf it n i m) ∧ Below w.heap.size w w' := by
  have hbd := S.bd
  go_enter Tryz.func130, Tryz.ntmps130
  go_wp2
  go_loopw [5, 6] (fun x y wr => ∃ m k : Nat, x = .int .i64 m ∧ y = .int .i64 k ∧ 2 * i + 1 ≤ k ∧ k ≤ 2 * i + 3 ∧ m < n ∧ (m = i ∨ (2 * i + 1 ≤ m ∧ m < k)) ∧ ¬ bef (it i) (it m) ∧ (∀ j, 2 * i + 1 ≤ j → j < k → j < n → ¬ bef (it j) (it m)) ∧ Below w.heap.size w wr) (fun _ y _ => 2 * i + 3 - (intOf y).toNat)
  case atStart => exact ⟨i, 2 * i + 1, rfl, by go_num, by omega, by omega, hi, Or.inl rfl, bef_irrefl _, fun j _ _ _ => by omega, Below.refl _ _⟩
  case round =>
    obtain ⟨m, k, rfl, rfl, k1, k2, hm, hw, hs, hbl, hb⟩ := hrel
    have S' := S.below hb
    have c0 := S'.rep.c0
    by_cases hk : k ≤ 2 * i + 2
    · have hk' : (k : Int) ≤ 2 * (i : Int) + 2 := by omega
      by_cases hn : k < n
      · have hn' : (k : Int) < (n : Int) := by omega
        cases hB : befB (it k) (it m) with
        | false =>
          go_wp2_with (go_at_call 155; refine (before_v hB _ S'.rep hn hm (S'.ok k hn) (S'.ok m hm)).mono ?_; rintro e w1 ⟨rfl, hb1⟩)
          have HB := hb.trans (hb1.mono hb.size)
          go_roundw
          case rel =>
            refine ⟨m, k + 1, rfl, by go_num, by omega, by omega, hm, ?_, hs, fun j j1 j2 j3 => ?_, HB⟩
            · omega
            · by_cases e : j = k
              · subst e; exact of_befB_false hB
              · exact hbl j j1 (by omega) j3
          case measure => simp [intOf]; omega
        | true =>
          have hbk := bef_asymm (of_befB hB)
          go_wp2_with (go_at_call 155; refine (before_v hB _ S'.rep hn hm (S'.ok k hn) (S'.ok m hm)).mono ?_; rintro e w1 ⟨rfl, hb1⟩)
          have HB := hb.trans (hb1.mono hb.size)
          go_roundw
          case rel =>
            refine ⟨k, k + 1, rfl, by go_num, by omega, by omega, hn, Or.inr ⟨k1, by omega⟩, bef_trans hbk hs, fun j j1 j2 j3 => ?_, HB⟩
            by_cases e : j = k
            · subst e; exact bef_irrefl _
            · exact bef_trans hbk (hbl j j1 (by omega) j3)
          case measure => simp [intOf]; omega
      · have hn' : ¬ (k : Int) < (n : Int) := by omega
        have F : FirstOf it n i m := ⟨hm, by omega, hs, fun j j0 jn ju => hbl j (by unfold upN at ju; omega) (by omega) jn⟩
        go_wp2
        go_ret
        exact ⟨⟨m, rfl, F⟩, hb⟩
    · have hk' : ¬ (k : Int) ≤ 2 * (i : Int) + 2 := by omega
      have F : FirstOf it n i m := ⟨hm, by omega, hs, fun j j0 jn ju => hbl j (by unfold upN at ju; omega) (by unfold upN at ju; omega) jn⟩
      go_wp2
      go_ret
      exact ⟨⟨m, rfl, F⟩, hb⟩

set_option maxHeartbeats 1000000 in
theorem sink_any {b mb g cap n i : Nat} {it : Nat → Item} {f : Int → Option Value} {H : Int → Option (Int × Int)} (w : World) (S : HS w b mb (.slice (some ⟨g, 0, none⟩) n cap) n it f H) (hi : i < n) (hr : Sinking it n i) :
    Calls Tryz.prog 105 #[.pointer (some ⟨b, 0, none⟩), .int .i64 i] w fun e w' => e = .returned (.tuple #[]) ∧ (∃ it' f', HS w' b mb (.slice (some ⟨g, 0, none⟩) n cap) n it' f' H ∧ Ord it' n) ∧ Keep (fun k => k = g ∨ k = mb) w w' := by
  go_enter Tryz.func105, Tryz.ntmps105
  go_wp2
  go_loopw [1] (fun x wr => ∃ (k : Nat) (it' : Nat → Item) (f' : Int → Option Value), x = .int .i64 k ∧ k < n ∧ HS wr b mb (.slice (some ⟨g, 0, none⟩) n cap) n it' f' H ∧ Sinking it' n k ∧ Keep (fun k => k = g ∨ k = mb) w wr) (fun x _ => n - (intOf x).toNat)
  case atStart => exact ⟨i, it, f, rfl, hi, S, hr, Keep.refl _ _⟩
  case round =>
    obtain ⟨k, it', f', rfl, hk, S', hr', K⟩ := hrel
    go_wp2_with fail
    refine (firstBelow_any _ S' hk).mono ?_
    rintro e w1 ⟨⟨m, rfl, F⟩, hb1⟩
    have hm := F.lt
    have S1 := S'.below hb1
    have K1 := K.below hb1
    clear S S' K
    by_cases e : m = k
    · subst e
      have hO := hr'.done F
      go_wp2
      exact bodyPost_ret (v := .tuple #[]) (by simp [results, Tryz.results105, go_sem]) rfl ⟨rfl, ⟨it', f', S1, hO⟩, K1⟩
    · have hr2 := hr'.step F e
      have hgt : k < m := by have := F.who; omega
      have e' : ((m : Int) == (k : Int)) = false := by simp; omega
      go_wp2_with (go_at_call 131; refine (S1.swap _ hk hm).mono ?_; rintro e w2 ⟨rfl, ⟨f2, S2⟩, K2⟩)
      have KK := K1.trans K2 (fun _ _ h => h)
      go_roundw
      case rel => exact ⟨m, _, f2, rfl, hm, S2, hr2, KK⟩
      case measure => simp [intOf]; omega
end Go.Proofs.YtmnpplkjhnoglaaGreatDoor
/-
  What a heap's own functions do.
-/
namespace Go.Proofs.YtmnpplkjhnoglaaGreatDoor
open Go.RowKit

/-- a heap in block b: these numbers with their costs, n of them -/
structure HeapAt (w : World) (b mb : Nat) (v : Value) (n : Nat) (H : Int → Option (Int × Int)) : Prop where
  ex : ∃ it f, HS w b mb v n it f H ∧ Ord it n

theorem HeapAt.below {w w' : World} {b mb n : Nat} {v : Value} {H : Int → Option (Int × Int)} (h : HeapAt w b mb v n H) (hb : Below w.heap.size w w') : HeapAt w' b mb v n H := by
  obtain ⟨it, f, S, O⟩ := h.ex
  exact ⟨it, f, S.below hb, O⟩
theorem HeapAt.keep {F : Nat → Prop} {w w' : World} {b mb n : Nat} {v : Value} {H : Int → Option (Int × Int)} (h : HeapAt w b mb v n H) (hk : Keep F w w') (h1 : ¬ F b) (h2 : ¬ F mb) (h3 : ∀ g, v.ownBlock = some g → ¬ F g) : HeapAt w' b mb v n H := by
  obtain ⟨it, f, S, O⟩ := h.ex
  exact ⟨it, f, ⟨S.rep.keep hk h1 h2 h3, S.atf, S.wf, S.ok, S.holds, S.bd⟩, O⟩
theorem HeapAt.blocks {w : World} {b mb n : Nat} {v : Value} {H : Int → Option (Int × Int)} (h : HeapAt w b mb v n H) : b < w.heap.size ∧ mb < w.heap.size ∧ ∀ g, v.ownBlock = some g → g < w.heap.size := by
  obtain ⟨it, f, S, O⟩ := h.ex
  have := S.rep.blocks
  exact ⟨this.1, this.2.1, fun g hg => (this.2.2.2 g hg).1⟩
theorem HeapAt.bd {w : World} {b mb n : Nat} {v : Value} {H : Int → Option (Int × Int)} (h : HeapAt w b mb v n H) : n ≤ 1000000 := by
  obtain ⟨it, f, S, O⟩ := h.ex
  exact S.bd
theorem HeapAt.empty {w : World} {b mb : Nat} {v : Value} {H : Int → Option (Int × Int)} (h : HeapAt w b mb v 0 H) (a : Int) : H a = none := by
  obtain ⟨it, f, S, O⟩ := h.ex
  cases e : H a with
  | none => rfl
  | some c =>
    obtain ⟨s, d⟩ := c
    obtain ⟨i, hi, _⟩ := (S.holds a s d).mp e
    omega
theorem HeapAt.fits {w : World} {b mb n : Nat} {v : Value} {H : Int → Option (Int × Int)} (h : HeapAt w b mb v n H) {a s d : Int} (ha : H a = some (s, d)) : okC s d ∧ (Lit.int .i64 a).wf = true ∧ 0 < n := by
  obtain ⟨it, f, S, O⟩ := h.ex
  obtain ⟨i, hi, e⟩ := (S.holds a s d).mp ha
  have h1 := S.ok i hi
  have h2 := S.wf i hi
  rw [e] at h1 h2
  exact ⟨h1, h2, by omega⟩

theorem Row.nil (w : World) (it : Nat → Item) : Row w (.slice none 0 0) 0 it := ⟨[], World.ownsRow_nil w 0 167 3, fun i hi => by omega⟩

set_option maxHeartbeats 400000 in
theorem new_any (w : World) : Calls Tryz.prog 101 #[] w fun e w' => e = .returned (.pointer (some ⟨w.heap.size + 1, 0, none⟩)) ∧ HeapAt w' (w.heap.size + 1) w.heap.size (.slice none 0 0) 0 (fun _ => none) ∧ Below w.heap.size w w' ∧ w'.heap.size = w.heap.size + 2 := by
  have hmm := @run_makeMap Tryz.prog
  go_enter Tryz.func101, Tryz.ntmps101
  go_wp2
  go_ret
  have HB : Below w.heap.size w ((w.alloc (.map #[] 0)).alloc (.cells #[.slice none 0 0, .map (some w.heap.size)] 165)) := ((Below.refl _ _).alloc (Nat.le_refl _) _).alloc (by simp) _
  refine ⟨rfl, ⟨fun _ => ⟨0, 0, 0⟩, fun _ => none, ⟨⟨?_, ?_, ?_, Row.nil _ _, ?_, by simp [Value.ownBlock]⟩, ⟨fun i hi => by omega, fun a v h => (by cases h)⟩, fun i hi => by omega, fun i hi => by omega, fun a s d => ⟨fun h => (by cases h), fun ⟨i, hi, _⟩ => (by omega)⟩, by omega⟩, fun j _ hj => by omega⟩, HB, by simp⟩
  · exact World.cell?_alloc_at #[.slice none 0 0, .map (some w.heap.size)] 165 (w.heap.size + 1) 0 (by simp)
  · exact World.cell?_alloc_at #[.slice none 0 0, .map (some w.heap.size)] 165 (w.heap.size + 1) 1 (by simp)
  · rw [frozen?_alloc_cells]
    simp [World.frozen?]
  · exact (MapF.made w Tryz.prog 3).keep (F := fun _ => False) ((Keep.refl _ _).alloc _) id

end Go.Proofs.YtmnpplkjhnoglaaGreatDoor
