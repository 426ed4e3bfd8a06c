/-
  The reference's flood.
-/
import Derived.Test.YtddbmkgmmhppnabDoorRLab
import Derived.Test.YtddbmkgmmhppnabDoorWay
import Derived.Maps.AppendAt
namespace Go.Proofs.YtddbmkgmmhppnabDoor
open Go.RowKit Go.Maps

/-- a is still to be looked at -/
def pend (td : List Nat) (i : Nat) (a : Int) : Prop := ∃ j, i ≤ j ∧ j < td.length ∧ ((td.getD j 0 : Nat) : Int) = a
/-- what the flood keeps -/
structure FSt (w wr : World) (tv : Value) (td : List Nat) (W H : Int) (F : Int → Option (Int × Int)) : Prop where
  own : wr.ownsRow (w.heap.size + 4) 3 1 tv td.length (vals td)
  lab : LabAt wr (w.heap.size + 2) (w.heap.size + 3) F
  r0 : wr.there w.heap.size 0 512
  r1 : wr.there (w.heap.size + 1) 0 256
  bel : Below w.heap.size w wr
  mem : ∀ j, j < td.length → inB W H ((td.getD j 0 : Nat) : Int) = true ∧ (F ((td.getD j 0 : Nat) : Int)).isSome = true
  len : (td.length : Int) + pot F (W * H).toNat ≤ 3578815643905
theorem there_keep {D : Nat → Prop} {w w' : World} {b o n : Nat} (h : w.there b o n) (hb : b < w.heap.size) (K : Keep D w w') (hn : ¬ D b) : w'.there b o n := fun j hj => by
  obtain ⟨h1, h2⟩ := h j hj
  rw [K.cell (p := ⟨b, o + j, none⟩) hb hn, K.frozen (p := ⟨b, o + j, none⟩) hb hn]
  exact ⟨h1, h2⟩
theorem own_keep {D : Nat → Prop} {w w' : World} {base k n : Nat} {e : TypeId} {v : Value} {xs : List Value} (h : w.ownsRow base e k v n xs) (K : Keep D w w') (hn : ∀ g, base ≤ g → ¬ D g) : w'.ownsRow base e k v n xs := by
  refine ⟨h.1, ?_⟩
  rcases h.2 with h2 | ⟨g, cap, cur, hv, hbase, hg, h3⟩
  · exact Or.inl h2
  · exact Or.inr ⟨g, cap, cur, hv, hbase, (K.block g (Array.getElem?_eq_some_iff.1 hg).1 (hn g hbase)).trans hg, h3⟩
theorem FSt.big {w wr : World} {tv : Value} {td : List Nat} {W H : Int} {F : Int → Option (Int × Int)} (h : FSt w wr tv td W H F) : w.heap.size + 4 ≤ wr.heap.size := by have := h.lab.lt.2; omega
theorem FSt.below {w wr w' : World} {tv : Value} {td : List Nat} {W H : Int} {F : Int → Option (Int × Int)} (h : FSt w wr tv td W H F) (hb : Below wr.heap.size wr w') : FSt w w' tv td W H F := by
  have hs := h.big
  have K : Keep (fun _ => False) wr w' := Keep.of_below hb
  exact ⟨own_below h.own hb, h.lab.below hb, there_keep h.r0 (by omega) K id, there_keep h.r1 (by omega) K id, h.bel.trans (hb.mono h.bel.size), h.mem, h.len⟩
/-- a label laid, a cell more to be looked at -/
theorem FSt.put {w wr : World} {tv : Value} {td : List Nat} {W H : Int} {F : Int → Option (Int × Int)} (h : FSt w wr tv td W H F) (a : Nat) (ha : a < 256) (s d : Int) (hp : pot (putH F a s d) (W * H).toNat + 1 ≤ pot F (W * H).toNat) :
    FSt w (((wr.setCell ⟨w.heap.size + 2, a * 2, none⟩ (.int .i64 s)).setCell ⟨w.heap.size + 2, a * 2 + 1, none⟩ (.int .i64 d)).setCell ⟨w.heap.size + 3, a, none⟩ (.bool true)) tv td W H (putH F a s d) := by
  have hs := h.big
  have K := put_keep wr (w.heap.size + 2) (w.heap.size + 3) a s d
  refine ⟨own_keep h.own K (fun g hg => by omega), h.lab.put a ha s d, there_keep h.r0 (by omega) K (by omega), there_keep h.r1 (by omega) K (by omega), h.bel.trans (K.to_below h.bel.size (fun k hk => by omega)), fun j hj => ?_, by have := h.len; omega⟩
  obtain ⟨m1, m2⟩ := h.mem j hj
  refine ⟨m1, ?_⟩
  by_cases q : ((td.getD j 0 : Nat) : Int) = a
  · rw [q, putH_same]; rfl
  · rw [putH_other F s d q]; exact m2
/-- .. appended -/
theorem FSt.app {w wr w' : World} {tv tv' : Value} {td : List Nat} {W H : Int} {F : Int → Option (Int × Int)} {a : Nat} (h : FSt w wr tv td W H F) (ho : w'.ownsRow (w.heap.size + 4) 3 1 tv' (td ++ [a]).length (vals (td ++ [a]))) (hg : wr.grownBy w' tv.ownBlock) (ha : inB W H a = true) (hF : (F a).isSome = true) (hl : (td.length : Int) + 1 + pot F (W * H).toNat ≤ 3578815643905) :
    FSt w w' tv' (td ++ [a]) W H F := by
  have hs := h.big
  have K : Keep (fun k => w.heap.size + 4 ≤ k) wr w' := (Keep.refl _ wr).grown hg (fun k hk _ => (h.own.lt k hk).1)
  refine ⟨ho, h.lab.keep K (by omega) (by omega), there_keep h.r0 (by omega) K (by omega), there_keep h.r1 (by omega) K (by omega), h.bel.trans (K.to_below h.bel.size (fun k hk => by omega)), fun j hj => ?_, by simp; omega⟩
  rw [getD_app]
  by_cases q : j < td.length
  · rw [if_pos q]; exact h.mem j q
  · rw [if_neg q, if_pos (by simp at hj; omega)]; exact ⟨ha, hF⟩
theorem pend_app {td : List Nat} {i a : Nat} {x : Int} (hi : i ≤ td.length) : pend (td ++ [a]) i x ↔ (pend td i x ∨ x = a) := by
  constructor
  · rintro ⟨j, h1, h2, h3⟩
    rw [getD_app] at h3
    by_cases q : j < td.length
    · rw [if_pos q] at h3; exact Or.inl ⟨j, h1, q, h3⟩
    · rw [if_neg q, if_pos (by simp at h2; omega)] at h3; exact Or.inr h3.symm
  · rintro (⟨j, h1, h2, h3⟩ | rfl)
    · exact ⟨j, h1, by simp; omega, by rw [getD_app, if_pos h2]; exact h3⟩
    · exact ⟨td.length, hi, by simp, by rw [getD_app, if_neg (Nat.lt_irrefl _), if_pos rfl]⟩
end Go.Proofs.YtddbmkgmmhppnabDoor
