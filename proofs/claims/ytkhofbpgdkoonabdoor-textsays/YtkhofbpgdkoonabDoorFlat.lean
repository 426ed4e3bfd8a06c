/-
  What a text is read as, by the reference: its rows.
-/
import Derived.Test.YtkhofbpgdkoonabDoorRParse2
import Derived.Test.YtkhofbpgdkoonabDoorAsAid
namespace Go.Proofs.YtkhofbpgdkoonabDoor
open Go.RowKit

/-- rows as cells -/
def flatB (W : Nat) : List (List UInt8) → Option (List Bool)
  | [] => some []
  | l :: t => if l.length = W then (match rowB l with
    | none => none
    | some a => match flatB W t with
      | none => none
      | some x => some (a ++ x)) else none
theorem rowsB_flat (W : Nat) : ∀ (k : Nat) (r : List UInt8), rowsB W k r = if (lnsL r).1.length = k ∧ (lnsL r).2 = [] then flatB W (lnsL r).1 else none
  | 0, r => by
    unfold rowsB
    rw [lnsL_cut]
    cases h : cutL r with
    | none =>
      simp only [List.length_nil, true_and]
      by_cases hr : r = []
      · simp [hr, flatB]
      · simp [hr]
    | some p =>
      have := (cutL_some (a := p.1) (b := p.2) h).1
      have hr : r ≠ [] := by rw [this]; simp
      simp [hr]
  | k + 1, r => by
    rw [lnsL_cut]
    cases h : cutL r with
    | none =>
      simp only [rowsB, h]
      simp
    | some p =>
      simp only [rowsB, h, rowsB_flat W k p.2, List.length_cons, Nat.add_right_cancel_iff, flatB]
      by_cases hc : (lnsL p.2).1.length = k ∧ (lnsL p.2).2 = []
      · rw [if_pos hc, if_pos hc]
        by_cases hw : p.1.length = W
        · simp only [hw, if_true]
          cases rowB p.1 <;> rfl
        · simp [hw]
      · rw [if_neg hc, if_neg hc]
        split
        · cases rowB p.1 <;> rfl
        · rfl
theorem flat_len {W : Nat} : ∀ {R : List (List UInt8)} {a : List Bool}, flatB W R = some a → a.length = R.length * W
  | [], a, h => by simp [flatB] at h; subst h; simp
  | l :: t, a, h => by
    unfold flatB at h
    split at h
    · rename_i hw
      split at h
      · cases h
      · rename_i x hx
        split at h
        · cases h
        · rename_i y hy
          simp at h
          subst h
          rw [List.length_append, rowB_len hx, hw, flat_len hy, List.length_cons, Nat.succ_mul]
          omega
    · cases h
theorem flat_snoc {W : Nat} (l : List UInt8) : ∀ (R : List (List UInt8)) (a : List Bool), flatB W R = some a → flatB W (R ++ [l]) = if l.length = W then (rowB l).map (fun x => a ++ x) else none
  | [], a, h => by
    simp [flatB] at h
    subst h
    simp only [List.nil_append, flatB]
    split
    · cases rowB l <;> simp
    · rfl
  | m :: R, a, h => by
    unfold flatB at h
    split at h
    · rename_i hw
      split at h
      · cases h
      · rename_i x hx
        split at h
        · cases h
        · rename_i y hy
          simp at h
          subst h
          rw [List.cons_append]
          simp only [flatB, hw, if_true, hx, flat_snoc l R y hy]
          by_cases hl : l.length = W
          · simp only [hl, if_true]
            cases rowB l <;> simp
          · simp [hl]
    · cases h
theorem flat_none {W : Nat} (S : List (List UInt8)) : ∀ (R : List (List UInt8)), flatB W R = none → flatB W (R ++ S) = none
  | [], h => by simp [flatB] at h
  | m :: R, h => by
    rw [List.cons_append]
    simp only [flatB] at h ⊢
    split at h
    · rename_i hw
      simp only [hw, if_true]
      cases hx : rowB m with
      | none => rfl
      | some x =>
        simp only [hx] at h ⊢
        cases hy : flatB W R with
        | none => rw [flat_none S R hy]
        | some y => simp [hy] at h
    · rename_i hw
      simp [hw]
theorem flat_bad {W : Nat} {R : List (List UInt8)} {y : Nat} (h : flatB W (R.take (y + 1)) = none) : flatB W R = none := by
  have := flat_none (R.drop (y + 1)) _ h
  rwa [List.take_append_drop] at this

/-- the reference's grid of these cells lies in block b -/
def RCells (w : World) (b : Nat) (W H : Nat) (cs : List Bool) : Prop := RefAt w b W H (blocks cs) (cellsF cs) ∧ Free w b
theorem RCells.false {w : World} {b W H : Nat} {cs : List Bool} (g : RCells w b W H cs) : RCells w b W H (cs ++ [false]) := by
  unfold RCells
  rw [cellsF_false, blocks_false]
  exact g
theorem RCells.drewN {w : World} {b W H : Nat} {cs : List Bool} (g : RCells w b W H cs) (m : Nat) : RCells (w.drewN m) b W H cs := ⟨g.1.drewN m, g.2⟩
theorem rset_true {b W H : Nat} {cs : List Bool} {i : Int} (hi : i = cs.length) (w : World) (g : RCells w b W H cs) (hlt : cs.length < W * H) (hm : cs.length ≤ 1000000) :
    Calls Tryd.prog 19 #[.pointer (some ⟨b, 0, none⟩), .int .i64 i, .bool true] w fun e w' => e = .returned (.tuple #[.bool true, .int .i64 0]) ∧ Touch b w w' ∧ RCells w' b W H (cs ++ [true]) := by
  subst hi
  have hb := blocks_le cs
  refine (rset_new cs.length true w g.1 g.2 (inB_nat hlt) (cellsF_at cs) (by omega) (by omega)).mono fun e w' ⟨he, hT, hG, hF⟩ => ⟨he, hT, ?_, hF⟩
  rw [cellsF_true, ← blocks_true] at hG
  exact hG
theorem rcells_new {W H : Nat} (h : sideB W = true) (k : sideB H = true) (w : World) : RCells (w.alloc (.cells (refC W H) 48)) w.heap.size W H [] :=
  ⟨refAt_new W H w h k, free_alloc w _ _ _ (Nat.le_refl _)⟩
theorem hcs_step {w w' : World} {bb n : Nat} {f : Nat → Value} (h : Hid (∀ i, i < n → w.cell? ⟨bb, i, none⟩ = some (f i))) (hb : Below w.heap.size w w') (hl : bb < w.heap.size) : Hid (∀ i, i < n → w'.cell? ⟨bb, i, none⟩ = some (f i)) :=
  fun i hi => (hb.cell (p := ⟨bb, i, none⟩) hl).trans (h.out i hi)
theorem hcs_row {w w' : World} {bb n : Nat} {f : Nat → Value} (h : Hid (∀ i, i < n → w.cell? ⟨bb, 4 + i, none⟩ = some (f i))) (hb : Below w.heap.size w w') (hl : bb < w.heap.size) : Hid (∀ i, i < n → w'.cell? ⟨bb, 4 + i, none⟩ = some (f i)) :=
  fun i hi => (hb.cell (p := ⟨bb, 4 + i, none⟩) hl).trans (h.out i hi)
end Go.Proofs.YtkhofbpgdkoonabDoor
