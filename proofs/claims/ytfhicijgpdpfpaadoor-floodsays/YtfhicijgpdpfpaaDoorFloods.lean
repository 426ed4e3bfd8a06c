/-
  The closed fact of 'FloodSays': a row of three.
-/
import Derived.Test.YtfhicijgpdpfpaaDoorTopFloodM
import Derived.Deep.RegionHeld3
namespace Go.Proofs.YtfhicijgpdpfpaaDoor
open Go.RowKit

theorem three {F : Int → Option (Int × Int)} (h : Best (Edge 3 1 (fun _ => false)) 0 F) : F 2 = some (2, 0) ∧ cnt F (3 * 1 : Int).toNat = 3 := by
  have h0 := h.home
  have e1 : Edge 3 1 (fun _ => false) 0 2 1 := ⟨by decide, by decide, by decide, by decide⟩
  have e2 : Edge 3 1 (fun _ => false) 1 2 2 := ⟨by decide, by decide, by decide, by decide⟩
  obtain ⟨s1, d1, h1, _⟩ := h.edge h0 e1
  have hw : Wk (Edge 3 1 (fun _ => false)) 0 2 2 0 := (Wk.nil.step e1).step e2
  obtain ⟨s2, d2, h2, hle⟩ := h.least hw
  have hlow := oct_low (by decide) (h.sound h2)
  have ho : val (dst (dst ((0 : Int) % 3) ((2 : Int) % 3)) (dst ((0 : Int) / 3) ((2 : Int) / 3))) (les (dst ((0 : Int) % 3) ((2 : Int) % 3)) (dst ((0 : Int) / 3) ((2 : Int) / 3))) = val 2 0 := by decide
  rw [ho] at hlow
  obtain ⟨b1, b2, b3⟩ := h.small h2
  have hsm := val_small b1 b2 b3
  obtain ⟨q1, q2⟩ := val_inj s2 d2 2 0 (by omega) (by omega) (by omega)
  subst q1 q2
  refine ⟨h2, ?_⟩
  show cnt F 3 = 3
  have e0 : F ((0 : Nat) : Int) = some (0, 0) := h0
  have e1 : F ((1 : Nat) : Int) = some (s1, d1) := h1
  have e2 : F ((2 : Nat) : Int) = some (2, 0) := h2
  unfold cnt cnt cnt cnt
  rw [e0, e1, e2]
  rfl

set_option maxHeartbeats 1000000 in
theorem floods_any (w : World) (s : StepsAt w) : Calls Tryd.prog 9 #[] w fun e w' => e = .returned (.bool true) ∧ Below w.heap.size w w' := by
  have hs3 : sideB 3 = true := by decide
  have hs1 : sideB 1 = true := by decide
  have hG := gridAt_new 3 1 w hs3 hs1
  have hb : Below w.heap.size w (w.alloc (.cells (gridC 3 1) 90)) := (Below.refl _ _).alloc (Nat.le_refl _) _
  have hs := s.below hb s.pos
  go_enter Tryd.func9, Tryd.ntmps9
  go_wp2_with (go_at_call 22; refine (new_ok _ _ _ hs3 hs1).mono ?_; rintro e w' ⟨rfl, rfl⟩)
  have hf := from_ok 0 _ hG hs (by decide) rfl
  refine hf.mono ?_
  clear hf
  rintro e wa ⟨fb, gb, cb, F, rfl, FA, BA, _, _, _, hba⟩
  obtain ⟨h2, hc⟩ := three BA
  rw [hc] at FA
  have HBA : Below w.heap.size w wa := hb.trans (hba.mono (by simp))
  clear hG hs hb hba
  have hfc := fcost_some 2 _ FA (by decide) h2
  go_wp2_with fail
  refine hfc.mono ?_
  rintro e wb ⟨rfl, hbb⟩
  have FB := FA.below hbb
  have HBB := HBA.trans (hbb.mono HBA.size)
  clear hfc
  go_wp2_with fail
  have FC := FB.below ((Below.refl wb.heap.size wb).alloc (Nat.le_refl _) (.cells #[.int .i64 2, .int .i64 0] 31))
  have HBC := HBB.alloc HBB.size (.cells #[.int .i64 2, .int .i64 0] 31)
  have c0 : (wb.alloc (.cells #[.int .i64 2, .int .i64 0] 31)).cell? ⟨wb.heap.size, 0, none⟩ = some (.int .i64 2) := World.cell?_alloc_at #[.int .i64 2, .int .i64 0] 31 wb.heap.size 0 rfl
  have c1 : (wb.alloc (.cells #[.int .i64 2, .int .i64 0] 31)).cell? ⟨wb.heap.size, 1, none⟩ = some (.int .i64 0) := World.cell?_alloc_at #[.int .i64 2, .int .i64 0] 31 wb.heap.size 1 rfl
  generalize wb.alloc (.cells #[.int .i64 2, .int .i64 0] 31) = wc at *
  refine (same_nil wc).mono ?_
  rintro e wd ⟨rfl, rfl⟩
  go_wp2_with (go_at_call 21; refine (reached_any _ FC).mono ?_; rintro e w' ⟨rfl, rfl⟩)
  go_ret
  exact ⟨rfl, HBC⟩
end Go.Proofs.YtfhicijgpdpfpaaDoor
