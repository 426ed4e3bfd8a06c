/-
  A list of numbers is turned round.
-/
import Derived.Test.YtfhicijgpdpfpaaDoorMapF
import Derived.Test.YtfhicijgpdpfpaaDoorAid
import Derived.Test.YtfhicijgpdpfpaaDoorSmall
import Derived.Deep.LoopGhost
import Derived.Deep.Light
namespace Go.Proofs.YtfhicijgpdpfpaaDoor
open Go.RowKit

/-- numbers in a block of one's own -/
structure IRow (w : World) (g L : Nat) (f : Nat → Int) : Prop where
  at' : ∀ i, i < L → w.cell? ⟨g, i, none⟩ = some (.int .i64 (f i))
  fr : ∀ i, i < L → w.frozen? ⟨g, i, none⟩ = false

theorem IRow.two {w : World} {g L : Nat} {f : Nat → Int} (h : IRow w g L f) {i j : Nat} (hi : i < L) (hj : j < L) (x y : Int) :
    IRow ((w.setCell ⟨g, i, none⟩ (.int .i64 x)).setCell ⟨g, j, none⟩ (.int .i64 y)) g L (fun k => if k = j then y else if k = i then x else f k) := by
  refine ⟨fun k hk => ?_, fun k hk => by simpa using h.fr k hk⟩
  by_cases e : k = j
  · subst e
    rw [if_pos rfl]
    by_cases e2 : k = i
    · subst e2
      exact World.cell?_setCell_same _ _ _ (World.cell?_setCell_same _ _ _ (h.at' k hk))
    · refine World.cell?_setCell_same _ _ _ (u := .int .i64 (f k)) ?_
      rw [World.cell?_setCell_other _ _ _ _ (by intro q; cases q; exact e2 rfl)]
      exact h.at' k hk
  · rw [if_neg e, World.cell?_setCell_other _ _ _ _ (by intro q; cases q; exact e rfl)]
    by_cases e2 : k = i
    · subst e2
      rw [if_pos rfl]
      exact World.cell?_setCell_same _ _ _ (h.at' k hk)
    · rw [if_neg e2, World.cell?_setCell_other _ _ _ _ (by intro q; cases q; exact e2 rfl)]
      exact h.at' k hk

/-- turned round from both ends, i of each -/
def turn (L : Nat) (f : Nat → Int) (i : Nat) : Nat → Int := fun k => if k < i ∨ L - 1 - i < k then f (L - 1 - k) else f k

set_option maxHeartbeats 2000000 in
set_option maxRecDepth 1000000 in
theorem rev_any {g L cap : Nat} {f : Nat → Int} (w : World) (h : IRow w g L f) (h0 : 0 < L) (hL : L ≤ 1000) :
    Calls Tryd.prog 55 #[.slice (some ⟨g, 0, none⟩) L cap] w fun e w' => e = .returned (.tuple #[]) ∧ (∀ i, i < L → w'.cell? ⟨g, i, none⟩ = some (.int .i64 (f (L - 1 - i)))) ∧ Keep (fun k => k = g) w w' := by
  have hst : IRow w g L (turn L f 0) := by
    refine ⟨fun i hi => ?_, h.fr⟩
    rw [h.at' i hi]
    unfold turn
    rw [if_neg (by omega)]
  go_enter Tryd.func55, Tryd.ntmps55
  go_wp2
  go_loopg [2, 3] L (fun gk iv jv wr => ∃ i : Nat, 2 * i ≤ L + 1 ∧ gk = L - i ∧ iv = .int .i64 i ∧ jv = .int .i64 ((L : Int) - 1 - i) ∧ IRow wr g L (turn L f i) ∧ Keep (fun k => k = g) w wr)
  case atStart => exact ⟨0, by omega, rfl, rfl, by go_num, hst, Keep.refl _ _⟩
  case round =>
    clear hst
    obtain ⟨i, hi, hgk, rfl, rfl, R, K⟩ := hrel
    have HG : Hid (gk = L - i) := hgk
    clear hgk
    by_cases hlt : (i : Int) < (L : Int) - 1 - i
    · obtain ⟨j, hj⟩ : ∃ j : Nat, (L : Int) - 1 - i = j := ⟨((L : Int) - 1 - i).toNat, by omega⟩
      rw [hj] at hlt ⊢
      have hiL : i < L := by omega
      have hjL : j < L := by omega
      have ci := R.at' i hiL
      have cj := R.at' j hjL
      have fi := R.fr i hiL
      have fj := R.fr j hjL
      have b1 : (i : Int) < (L : Int) := by omega
      have b2 : (j : Int) < (L : Int) := by omega
      have b3 : (0 : Int) ≤ (i : Int) := by omega
      have b4 : (0 : Int) ≤ (j : Int) := by omega
      have hne : ¬ i = j := by omega
      have hR := R.two hiL hjL (turn L f i j) (turn L f i i)
      have hR2 : IRow ((wr.setCell ⟨g, i, none⟩ (.int .i64 (turn L f i j))).setCell ⟨g, j, none⟩ (.int .i64 (turn L f i i))) g L (turn L f (i + 1)) := by
        refine ⟨fun k hk => ?_, hR.fr⟩
        rw [hR.at' k hk]
        congr 2
        unfold turn
        by_cases e1 : k = j
        · subst e1
          rw [if_pos rfl, if_neg (by omega), if_pos (by omega)]
          congr 1; omega
        · rw [if_neg e1]
          by_cases e2 : k = i
          · subst e2
            rw [if_pos rfl, if_neg (by omega), if_pos (by omega)]
            congr 1; omega
          · rw [if_neg e2]
            by_cases e3 : k < i ∨ L - 1 - i < k
            · rw [if_pos e3, if_pos (by omega)]
            · rw [if_neg e3, if_neg (by omega)]
      have hK2 : Keep (fun k => k = g) w ((wr.setCell ⟨g, i, none⟩ (.int .i64 (turn L f i j))).setCell ⟨g, j, none⟩ (.int .i64 (turn L f i i))) := (K.setCell (p := ⟨g, i, none⟩) (fun _ => rfl) _).setCell (p := ⟨g, j, none⟩) (fun _ => rfl) _
      clear hR R K
      generalize turn L f i i = vi at *
      generalize turn L f i j = vj at *
      go_wp2
      go_region
      have hR3 : IRow ((wr.setCell ⟨g, i, none⟩ (.int .i64 vj)).setCell ⟨g, j, none⟩ (.int .i64 vi)).drew g L (turn L f (i + 1)) := ⟨hR2.at', hR2.fr⟩
      have hK3 := hK2.drew
      clear hR2 hK2 ci cj fi fj
      go_wp2
      go_roundg (L - (i + 1))
      case measure => have := HG.out; omega
      case rel =>
        refine ⟨i + 1, by omega, rfl, by go_num, ?_, hR3, hK3⟩
        have e : (j : Int) - 1 = (L : Int) - 1 - ((i + 1 : Nat) : Int) := by omega
        rw [← e]
    · have hcells : ∀ k, k < L → wr.cell? ⟨g, k, none⟩ = some (.int .i64 (f (L - 1 - k))) := fun k hk => by
        rw [R.at' k hk]
        congr 2
        unfold turn
        by_cases e : k < i ∨ L - 1 - i < k
        · rw [if_pos e]
        · rw [if_neg e]; congr 1; omega
      go_wp2
      go_end0
      exact ⟨rfl, hcells, K⟩
end Go.Proofs.YtfhicijgpdpfpaaDoor
