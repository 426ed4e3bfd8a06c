/-
  What the reference's heap does: pushing that changes it.
-/
import Derived.Test.YtkaolmblcmbjaabRPush
namespace Go.Proofs.Ytkaolmblcmbjaab
open Go.RowKit

/-- items as cells -/
def icells (l : List Item) : List Value := l.flatMap fun x => [.int .i64 x.id, .int .i64 x.s, .int .i64 x.d]
theorem icells_snoc (l : List Item) (x : Item) : icells (l ++ [x]) = icells l ++ [.int .i64 x.id, .int .i64 x.s, .int .i64 x.d] := by
  unfold icells; rw [List.flatMap_append]; rfl
theorem icells_at (l : List Item) : ∀ i x, l[i]? = some x → (icells l)[i * 3]? = some (.int .i64 x.id) ∧ (icells l)[i * 3 + 1]? = some (.int .i64 x.s) ∧ (icells l)[i * 3 + 2]? = some (.int .i64 x.d) := by
  induction l with
  | nil => intro i x h; simp at h
  | cons y l ih =>
    intro i x h
    have e : icells (y :: l) = [.int .i64 y.id, .int .i64 y.s, .int .i64 y.d] ++ icells l := rfl
    cases i with
    | zero => simp at h; subst h; rw [e]; simp
    | succ i =>
      have := ih i x (by simpa using h)
      rw [e]
      refine ⟨?_, ?_, ?_⟩
      · rw [List.getElem?_append_right (by simp; omega)]; rw [← this.1]; congr 1; simp; omega
      · rw [List.getElem?_append_right (by simp; omega)]; rw [← this.2.1]; congr 1; simp; omega
      · rw [List.getElem?_append_right (by simp; omega)]; rw [← this.2.2]; congr 1; simp; omega

/-- what stands still while the new list is made -/
structure Still (W0 w : World) (N q cap : Nat) (A : Option Addr) (L : List Item) (s d : Int) : Prop where
  hb : Below (N + 1) W0 w
  b0 : w.cell? ⟨N, 0, none⟩ = some (.int .i64 s)
  b1 : w.cell? ⟨N, 1, none⟩ = some (.int .i64 d)
  rh : RH w q A cap L

theorem Still.go {W0 w w' : World} {N q cap : Nat} {A : Option Addr} {L : List Item} {s d : Int} (S : Still W0 w N q cap A L s d) (hq : q < N) (hA : ∀ g o, A = some ⟨g, o, none⟩ → 0 < L.length → g < N) (hb : Below (N + 1) w w') : Still W0 w' N q cap A L s d := by
  have K : Keep (fun k => N + 1 ≤ k) w w' := ⟨hb.os, hb.tape, hb.output, hb.size, fun k _ hn => hb.block k (by omega)⟩
  exact ⟨S.hb.trans hb, (hb.cell (p := ⟨N, 0, none⟩) (by show N < _; omega)).trans S.b0, (hb.cell (p := ⟨N, 1, none⟩) (by show N < _; omega)).trans S.b1, S.rh.keep K (by omega) (fun g o e hl h => by have := hA g o e hl; omega)⟩

/-- one more item on the new list -/
theorem append_item {P : Program} {t e : TypeId} {i0 : TypeInfo} (ht : P.underlying t = some (.slice e)) (hi : P.info? e = some i0) (hz0 : i0.zero = some (.agg #[.int .i64 0, .int .i64 0, .int .i64 0])) (hz1 : i0.size = 3) (hz2 : i0.bytes = 24)
    {ops : Array Oper} {rest : List Oper} {op : Oper} {a : Act} {Q : Exit → Act → World → Prop} (w : World) (hgd : op.guard = none) (sl x : Operand) (ho : op.op = .call { callee := .builtin .append, args := #[sl, x], argTypes := #[t, t] })
    (base n : Nat) (v : Value) (l : List Item) (y : Item) (hs : a.eval sl = v) (hn : n = l.length) (hown : w.ownsRow base e 3 v n (icells l)) (ct : TypeId)
    (hx : a.eval x = .slice (some ⟨w.heap.size, 0, none⟩) 1 1) (hbd : n ≤ 3000000) (hbase : base ≤ w.heap.size)
    (h : ∀ v' w', w'.ownsRow base e 3 v' (l ++ [y]).length (icells (l ++ [y])) → Below base w w' → wpList P ops Q rest (a.put op.dst v') w') :
    wpList P ops Q (op :: rest) a (w.alloc (.cells #[.int .i64 y.id, .int .i64 y.s, .int .i64 y.d] ct)) := by
  subst hn
  have hlt := hown.lt
  refine wpList_append_own_at _ hgd sl x t ho base e i0 (.agg #[.int .i64 0, .int .i64 0, .int .i64 0]) 3 24 ht hi hz0 hz1 hz2 rfl (by decide) v l.length (icells l) hs (hown.alloc _) ⟨w.heap.size, 0, none⟩ 1 1 [.int .i64 y.id, .int .i64 y.s, .int .i64 y.d] hx rfl (cell_three_new _ _ _ _ _) (by intro u hu; simp at hu; rcases hu with rfl | rfl | rfl <;> rfl) (by unfold maxLen; omega) (by omega) (by simp; omega) ?_
  intro v' w' ho' hg _ _
  refine h v' w' ?_ ?_
  · rw [icells_snoc, List.length_append]; exact ho'
  · exact ((Below.refl base w).alloc hbase _).grown hg (by simp; omega) (fun k hk => (hlt k hk).1)
end Go.Proofs.Ytkaolmblcmbjaab
