/-
  What the reference's heap does: popping.
-/
import Derived.Test.YtkaolmblcmbjaabRHeap
namespace Go.Proofs.Ytkaolmblcmbjaab
open Go.RowKit

/-- the same block, if any -/
def SameBlock (A A' : Option Addr) : Prop := ∀ g o, A' = some ⟨g, o, none⟩ → ∃ o', A = some ⟨g, o', none⟩

/-- the reference's heap is this list now, in the same block -/
def RHSame (w : World) (q : Nat) (A : Option Addr) (L : List Item) : Prop := ∃ A' cap', RH w q A' cap' L ∧ SameBlock A A'
/-- the reference's heap is this list now, in new memory -/
def RHNew (w : World) (q N : Nat) (L : List Item) : Prop := ∃ A' cap', RH w q A' cap' L ∧ ∀ g o, A' = some ⟨g, o, none⟩ → N < g
theorem same_block (g o o' : Nat) : SameBlock (some ⟨g, o, none⟩) (some ⟨g, o', none⟩) := fun _ _ e => by cases e; exact ⟨o, rfl⟩

set_option maxHeartbeats 1000000 in
theorem rpop_none {q cap : Nat} {A : Option Addr} (w : World) (h : RH w q A cap []) :
    Calls Try.prog 9 #[.pointer (some ⟨q, 0, none⟩)] w fun e w' => e = .returned (.tuple #[.agg #[.int .i64 0, .int .i64 0, .int .i64 0], .bool false]) ∧ Below w.heap.size w w' := by
  have c0 := h.c0
  have hq := h.lt
  simp only [List.length_nil] at c0
  go_enter Try.func9, Try.ntmps9
  go_wp2
  exact bodyPost_ret (v := .tuple #[.agg #[.int .i64 0, .int .i64 0, .int .i64 0], .bool false]) (by simp [results, Try.results9, go_sem]) rfl ⟨rfl, (Below.refl _ _).alloc (Nat.le_refl _) _⟩

theorem RH.retail {q cap cap' : Nat} {A A' : Option Addr} {x : Item} {L : List Item} {v : Value} (w : World) (h : RH w q A cap (x :: L)) (c0 : w.cell? ⟨q, 0, none⟩ = some v) (f0 : w.frozen? ⟨q, 0, none⟩ = false)
    (row : LRow w A' L) (hne : ∀ g o, A' = some ⟨g, o, none⟩ → 0 < L.length → g ≠ q) (hle : L.length ≤ cap') (hcm : cap' ≤ maxLen) (O1 O2 : Obj) :
    RH (((w.setCell ⟨q, 0, none⟩ (.slice A' L.length cap')).alloc O1).alloc O2) q A' cap' L ∧ Keep (fun k => k = q) w (((w.setCell ⟨q, 0, none⟩ (.slice A' L.length cap')).alloc O1).alloc O2) := by
  have K0 : Keep (fun k => k = q) w (w.setCell ⟨q, 0, none⟩ (.slice A' L.length cap')) := (Keep.refl (fun k => k = q) w).setCell (p := ⟨q, 0, none⟩) (fun _ => rfl) _
  have K1 : Keep (fun _ => False) (w.setCell ⟨q, 0, none⟩ (.slice A' L.length cap')) (((w.setCell ⟨q, 0, none⟩ (.slice A' L.length cap')).alloc O1).alloc O2) := ((Keep.refl _ _).alloc _).alloc _
  have hl : L.length ≤ 1000000 := by have := h.bd; simp only [List.length_cons] at this; omega
  have R0 : RH (w.setCell ⟨q, 0, none⟩ (.slice A' L.length cap')) q A' cap' L :=
    ⟨World.cell?_setCell_same _ _ _ c0, by rw [World.frozen?_setCell]; exact f0, row.keep K0 (fun g o e hl2 q2 => hne g o e hl2 q2), hne, fun y hy => h.ok y (List.mem_cons_of_mem _ hy), hle, hcm, hl⟩
  exact ⟨R0.keep K1 id (fun _ _ _ _ => id), K0.trans K1 (fun _ _ e => e.elim)⟩

set_option maxHeartbeats 1000000 in
theorem rpop_one {q cap : Nat} {A : Option Addr} {x : Item} {L : List Item} (w : World) (h : RH w q A cap (x :: L)) :
    Calls Try.prog 9 #[.pointer (some ⟨q, 0, none⟩)] w fun e w' => e = .returned (.tuple #[.agg #[.int .i64 x.id, .int .i64 x.s, .int .i64 x.d], .bool true]) ∧ RHSame w' q A L ∧ Keep (fun k => k = q) w w' := by
  have h0 := h
  have c0 := h.c0
  have f0 := h.f0
  have hq := h.lt
  obtain ⟨g, o, rfl, hg, h1, h2, h3⟩ := h.row 0 x rfl
  have hgq := h.ne g o rfl (by simp)
  have hle := h.le
  have hcm := h.cm
  simp only [List.length_cons] at c0 hle
  unfold maxLen at hcm
  simp only [Nat.zero_mul, Nat.add_zero] at h1 h2 h3
  have hle' : ((L.length : Nat) : Int) + 1 ≤ (cap : Int) := by omega
  go_enter Try.func9, Try.ntmps9
  go_wp2
  · subst h
    have e : L = [] := List.eq_nil_of_length_eq_zero (by omega)
    have HR := RH.retail w (A' := some ⟨g, o, none⟩) (cap' := 0) h0 c0 f0 (fun i x hx => by rw [e] at hx; simp at hx) (fun g' o' _ hl => by rw [e] at hl; simp at hl) (by rw [e]; simp) (by unfold maxLen; omega) (.cells #[.int .i64 x.id, .int .i64 x.s, .int .i64 x.d] 38) (.cells #[.int .i64 x.id, .int .i64 x.s, .int .i64 x.d] 38)
    exact bodyPost_ret (v := .tuple #[.agg #[.int .i64 x.id, .int .i64 x.s, .int .i64 x.d], .bool true]) (by simp [results, Try.results9, go_sem]) rfl ⟨rfl, ⟨_, _, HR.1, same_block g _ _⟩, HR.2⟩
  · have HR := RH.retail w (A' := some ⟨g, o + 3, none⟩) (cap' := cap - 1) h0 c0 f0 (fun i y hy => by
        obtain ⟨g', o', e', hg', k1, k2, k3⟩ := h0.row (i + 1) y (by simpa using hy)
        cases e'
        refine ⟨g, o + 3, rfl, hg', ?_, ?_, ?_⟩
        · rw [show o + 3 + i * 3 = o + (i + 1) * 3 by omega]; exact k1
        · rw [show o + 3 + i * 3 + 1 = o + (i + 1) * 3 + 1 by omega]; exact k2
        · rw [show o + 3 + i * 3 + 2 = o + (i + 1) * 3 + 2 by omega]; exact k3) (fun g' o' e' _ => by cases e'; exact hgq) (by omega) (by unfold maxLen; omega) (.cells #[.int .i64 x.id, .int .i64 x.s, .int .i64 x.d] 38) (.cells #[.int .i64 x.id, .int .i64 x.s, .int .i64 x.d] 38)
    exact bodyPost_ret (v := .tuple #[.agg #[.int .i64 x.id, .int .i64 x.s, .int .i64 x.d], .bool true]) (by simp [results, Try.results9, go_sem]) rfl ⟨rfl, ⟨_, _, HR.1, same_block g _ _⟩, HR.2⟩
end Go.Proofs.Ytkaolmblcmbjaab
