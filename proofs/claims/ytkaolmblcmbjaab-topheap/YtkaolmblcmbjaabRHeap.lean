/-
  What the reference's heap does: finding, popping.
-/
import Derived.Test.YtkaolmblcmbjaabList
import Derived.Test.YtkaolmblcmbjaabRef
import Derived.Test.YtkaolmblcmbjaabPush
namespace Go.Proofs.Ytkaolmblcmbjaab
open Go.RowKit

/-- a list of items behind an address -/
def LRow (w : World) (A : Option Addr) (L : List Item) : Prop :=
  ∀ i x, L[i]? = some x → ∃ g o, A = some ⟨g, o, none⟩ ∧ g < w.heap.size ∧ w.cell? ⟨g, o + i * 3, none⟩ = some (.int .i64 x.id) ∧ w.cell? ⟨g, o + i * 3 + 1, none⟩ = some (.int .i64 x.s) ∧ w.cell? ⟨g, o + i * 3 + 2, none⟩ = some (.int .i64 x.d)

/-- the reference's heap in block q -/
structure RH (w : World) (q : Nat) (A : Option Addr) (cap : Nat) (L : List Item) : Prop where
  c0 : w.cell? ⟨q, 0, none⟩ = some (.slice A L.length cap)
  f0 : w.frozen? ⟨q, 0, none⟩ = false
  row : LRow w A L
  ne : ∀ g o, A = some ⟨g, o, none⟩ → 0 < L.length → g ≠ q
  ok : ∀ x, x ∈ L → okC x.s x.d
  le : L.length ≤ cap
  cm : cap ≤ maxLen
  bd : L.length ≤ 1000000

theorem LRow.keep {F : Nat → Prop} {w w' : World} {A : Option Addr} {L : List Item} (h : LRow w A L) (K : Keep F w w') (hn : ∀ g o, A = some ⟨g, o, none⟩ → 0 < L.length → ¬ F g) : LRow w' A L := by
  intro i x hx
  obtain ⟨g, o, e, hg, h1, h2, h3⟩ := h i x hx
  have hl : 0 < L.length := by
    have := (List.getElem?_eq_some_iff.1 hx).1
    omega
  have hF := hn g o e hl
  exact ⟨g, o, e, Nat.lt_of_lt_of_le hg K.size, (K.cell (p := ⟨g, _, none⟩) hg hF).trans h1, (K.cell (p := ⟨g, _, none⟩) hg hF).trans h2, (K.cell (p := ⟨g, _, none⟩) hg hF).trans h3⟩

theorem RH.lt {w : World} {q cap : Nat} {A : Option Addr} {L : List Item} (h : RH w q A cap L) : q < w.heap.size := World.block_lt_of_cell? w _ h.c0

theorem RH.keep {F : Nat → Prop} {w w' : World} {q cap : Nat} {A : Option Addr} {L : List Item} (h : RH w q A cap L) (K : Keep F w w') (h1 : ¬ F q) (h2 : ∀ g o, A = some ⟨g, o, none⟩ → 0 < L.length → ¬ F g) : RH w' q A cap L :=
  ⟨(K.cell (p := ⟨q, 0, none⟩) h.lt h1).trans h.c0, (K.frozen (p := ⟨q, 0, none⟩) h.lt h1).trans h.f0, h.row.keep K h2, h.ne, h.ok, h.le, h.cm, h.bd⟩

theorem RH.below {w w' : World} {q cap : Nat} {A : Option Addr} {L : List Item} (h : RH w q A cap L) (hb : Below w.heap.size w w') : RH w' q A cap L :=
  h.keep (F := fun _ => False) (Keep.of_below hb) id (fun _ _ _ _ => id)

/-- where a number stands in a list, or that it is not there -/
def Found (L : List Item) (a r : Int) : Prop := (∃ (i : Nat) (x : Item), r = i ∧ L[i]? = some x ∧ x.id = a) ∨ (r = -1 ∧ ∀ x, x ∈ L → x.id ≠ a)

set_option maxHeartbeats 1000000 in
theorem place_any {q cap : Nat} {A : Option Addr} {L : List Item} (a : Int) (w : World) (h : RH w q A cap L) :
    Calls Try.prog 19 #[.pointer (some ⟨q, 0, none⟩), .int .i64 a] w fun e w' => (∃ r : Int, e = .returned (.int .i64 r) ∧ Found L a r) ∧ w' = w := by
  have c0 := h.c0
  have hbd := h.bd
  go_enter Try.func19, Try.ntmps19
  go_wp2
  go_loop [5] (fun x => ∃ k : Nat, k ≤ L.length ∧ x = .int .i64 k ∧ ∀ y, y ∈ L.take k → y.id ≠ a) (fun x => L.length - (intOf x).toNat)
  case atStart => exact ⟨0, Nat.zero_le _, rfl, fun y hy => by simp at hy⟩
  case round =>
    obtain ⟨k, hk, rfl, hno⟩ := hrel
    by_cases hlt : k < L.length
    · have hx : L[k]? = some L[k] := List.getElem?_eq_getElem hlt
      obtain ⟨g, o, rfl, hg, h1, h2, h3⟩ := h.row k _ hx
      have hk' : (k : Int) < (L.length : Int) := by omega
      have hts := List.take_succ_eq_append_getElem hlt
      generalize hX : L[k] = X at *
      by_cases he : X.id = a
      · have he' : (X.id == a) = true := by simpa using he
        go_wp2
        go_ret
        exact ⟨⟨_, rfl, Or.inl ⟨k, X, rfl, hx, he⟩⟩, rfl⟩
      · have he' : (X.id == a) = false := by simpa using he
        go_wp2
        go_round
        case rel => exact ⟨k + 1, by omega, by go_num, fun y hy => by
          rw [hts, List.mem_append, List.mem_singleton] at hy
          rcases hy with hy | hy
          · exact hno y hy
          · rw [hy]; exact he⟩
        case measure => simp [intOf]; omega
    · have : k = L.length := by omega
      subst this
      rw [List.take_length] at hno
      go_wp2
      go_ret
      exact ⟨⟨_, rfl, Or.inr ⟨rfl, hno⟩⟩, rfl⟩
end Go.Proofs.Ytkaolmblcmbjaab
