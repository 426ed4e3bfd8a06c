/-
  Texts laid together: SyE, SyF, SyG.
-/
import Derived.Test.YtmnpplkjhnoglaaGreatDoorP46
import Derived.Deep.CutRange
/-
  The reference's graph as it lies in memory, with its edges as lists. (For SearchSays, and LevelsSays.)
-/
namespace Go.Proofs.YtmnpplkjhnoglaaGreatDoor
open Go.RowKit

/-- the reference's graph in memory: corners, and a map of their edges -/
structure RGm (w : World) (rb mb cap nk : Nat) (A : Option Addr) (L : List Nat) (es : Nat → List LE) (f : Int → Option Value) : Prop where
  p0 : w.cell? ⟨rb, 0, none⟩ = some (.slice A L.length cap)
  p1 : w.cell? ⟨rb, 1, none⟩ = some (.map (some mb))
  row : OldRow w A L.length (fun i => (L.getD i 0 : Nat))
  mp : MapF Tryz.prog 3 w mb f nk
  yes : ∀ n ∈ L, ∃ A cap, f (n : Int) = some (.slice A (es n).length cap) ∧ RowL w A (es n)
  no : ∀ c : Int, ¬ (0 ≤ c ∧ c.toNat ∈ L) → f c = none
theorem RGm.below {w w' : World} {rb mb cap nk : Nat} {A : Option Addr} {L : List Nat} {es : Nat → List LE} {f : Int → Option Value} (G : RGm w rb mb cap nk A L es f) (hb : Below w.heap.size w w') : RGm w' rb mb cap nk A L es f :=
  ⟨(hb.cell (World.block_lt_of_cell? _ _ G.p0)).trans G.p0, (hb.cell (World.block_lt_of_cell? _ _ G.p1)).trans G.p1, G.row.below hb, G.mp.keep (F := fun _ => False) (Keep.of_below hb) id, fun n hn => by
    obtain ⟨A, cap, h1, h2⟩ := G.yes n hn
    exact ⟨A, cap, h1, h2.below hb⟩, G.no⟩
theorem RGt.gm {w : World} {M rb mb cap : Nat} {W H V : Int} {bl : Nat → Bool} {A AR : Option Addr} {R : Nat → List Value} {f : Int → Option Value} {es : Nat → List LE} (G : RGt w M rb mb W H V bl A AR cap R (crs W H bl (W * H).toNat) f) (E : Eds w W H bl (crs W H bl (W * H).toNat) f (crs W H bl (W * H).toNat).length) (hG : GEs W H bl es) :
    RGm w rb mb cap (cntS (keyB f) 256) A (crs W H bl (W * H).toNat) es f := by
  have at' : ∀ {n : Nat}, n ∈ crs W H bl (W * H).toNat → ∃ j, j < (crs W H bl (W * H).toNat).length ∧ (n : Int) = (((crs W H bl (W * H).toNat).getD j 0 : Nat) : Int) := fun {n} hn => by
    obtain ⟨i, hi, h⟩ := List.getElem_of_mem hn
    exact ⟨i, hi, by rw [getD_at _ _ hi, h]⟩
  refine ⟨G.p0, G.p1, G.row, G.mp, fun n hn => ?_, fun c hc => E.2 c (fun ⟨j, hj, h⟩ => hc ?_)⟩
  · obtain ⟨v, l, h1, h2, h3⟩ := E.1 (n : Int) (at' hn)
    obtain ⟨l', k1, k2⟩ := hG.1 n (crs_mem.1 hn).2
    have e := h3.one k1
    subst e
    have hl : (es n).length = l.length := by rw [k2, List.length_map]
    have ho : w.ownsRow 1 67 4 v (es n).length (lesV (es n)) := by
      rw [hl, k2, lesV_edges]
      exact h2
    obtain ⟨A', cap', rfl, hr, _⟩ := rowL_of ho
    exact ⟨A', cap', h1, hr⟩
  · rw [h, Int.toNat_natCast]
    refine ⟨by omega, ?_⟩
    rw [getD_at _ _ hj]
    exact List.getElem_mem hj
/-- which are labelled, as a map's values -/
def bv (B : Int → Option (Int × Int)) : Int → Option Value := fun a => (B a).map fun _ => .bool true
theorem bv_put (B : Int → Option (Int × Int)) (a s d : Int) : putF (bv B) a (.bool true) = bv (putH B a s d) := by
  funext i
  unfold putF bv putH
  by_cases e : i = a
  · rw [if_pos e, if_pos e]; rfl
  · rw [if_neg e, if_neg e]
theorem Tryz.underBb : Tryz.prog.underlying 126 = some (.map 3 4) := by kernel_rfl
theorem zeroBb (w : World) : (zeroValue 4).run Tryz.prog w = .ok (.bool false) w := by kernel_rfl
/-- the labels in memory: two maps -/
structure Lbs (w : World) (N cb ib : Nat) (B : Int → Option (Int × Int)) : Prop where
  cm : MapF Tryz.prog 3 w cb (fv B) (cnt B 256)
  im : MapF Tryz.prog 3 w ib (bv B) (cnt B 256)
  nb : N ≤ cb ∧ N ≤ ib ∧ cb ≠ ib
theorem Lbs.keep {F : Nat → Prop} {w w' : World} {N cb ib : Nat} {B : Int → Option (Int × Int)} (h : Lbs w N cb ib B) (K : Keep F w w') (h1 : ¬ F cb) (h2 : ¬ F ib) : Lbs w' N cb ib B := ⟨h.cm.keep K h1, h.im.keep K h2, h.nb⟩
theorem Lbs.below {w w' : World} {N cb ib : Nat} {B : Int → Option (Int × Int)} (h : Lbs w N cb ib B) (hb : Below w.heap.size w w') : Lbs w' N cb ib B := h.keep (F := fun _ => False) (Keep.of_below hb) id id
section
variable {w : World} {N cb ib : Nat} {B : Int → Option (Int × Int)} {a : Int}
theorem Lbs.is (h : Lbs w N cb ib B) (ha : (Lit.int .i64 a).wf = true) : (Instr.lookup 126 (.map (some ib)) (.int .i64 a) false).run Tryz.prog w = .ok (.bool (B a).isSome) w := by
  cases hB : B a with
  | none => exact h.im.look_none law3 Tryz.underBb (zeroBb _) ha (by unfold bv; rw [hB]; rfl) false
  | some c => exact h.im.look_some law3 Tryz.underBb (zeroBb _) ha (v := .bool true) (by unfold bv; rw [hB]; rfl) false
theorem Lbs.co (h : Lbs w N cb ib B) (ha : (Lit.int .i64 a).wf = true) : (Instr.lookup 125 (.map (some cb)) (.int .i64 a) false).run Tryz.prog w = .ok (.agg #[.int .i64 ((B a).getD (0, 0)).1, .int .i64 ((B a).getD (0, 0)).2]) w := by
  cases hB : B a with
  | none => exact h.cm.look_none law3 Tryz.underK (zeroK _) ha (fv_none hB) false
  | some c =>
    obtain ⟨s, d⟩ := c
    exact h.cm.look_some law3 Tryz.underK (zeroK _) ha (fv_some hB) false
theorem cnt_after (B : Int → Option (Int × Int)) (h0 : 0 ≤ a) (h1 : a < 256) (s d : Int) : (if (B a).isSome then cnt B 256 else cnt B 256 + 1) = cnt (putH B a s d) 256 := by
  cases hB : B a with
  | none => exact (cnt_put B a s d 256 h0 (by omega) hB).symm
  | some c => exact (cntG_again B a s d 256 (by rw [hB]; rfl)).symm
/-- what it costs is written -/
theorem Lbs.put1 (h : Lbs w N cb ib B) (ha : (Lit.int .i64 a).wf = true) (h0 : 0 ≤ a) (h1 : a < 256) (s d : Int) :
    ∃ w1, (Instr.mapUpdate 125 (.map (some cb)) (.int .i64 a) (.agg #[.int .i64 s, .int .i64 d])).run Tryz.prog w = .ok () w1 ∧ Keep (fun k => k = cb) w w1 ∧ MapF Tryz.prog 3 w1 cb (fv (putH B a s d)) (cnt (putH B a s d) 256) ∧ MapF Tryz.prog 3 w1 ib (bv B) (cnt B 256) := by
  have hc := cnt_le B 256
  obtain ⟨w1, hrun, hm, ht⟩ := h.cm.store law3 Tryz.underK (by unfold maxLen; omega) ha (.agg #[.int .i64 s, .int .i64 d])
  have K := turned_keep ht
  refine ⟨w1, hrun, K, ?_, h.im.keep K (fun e => h.nb.2.2 e.symm)⟩
  rw [fv_put] at hm
  rw [← cnt_after B h0 h1 s d]
  have e : (fv B a).isSome = (B a).isSome := by unfold fv; rw [Option.isSome_map]
  rw [e] at hm
  exact hm
/-- that it is there is written -/
theorem Lbs.put2 {s d : Int} (nb : N ≤ cb ∧ N ≤ ib ∧ cb ≠ ib) (hc : MapF Tryz.prog 3 w cb (fv (putH B a s d)) (cnt (putH B a s d) 256)) (hi : MapF Tryz.prog 3 w ib (bv B) (cnt B 256)) (ha : (Lit.int .i64 a).wf = true) (h0 : 0 ≤ a) (h1 : a < 256) :
    ∃ w1, (Instr.mapUpdate 126 (.map (some ib)) (.int .i64 a) (.bool true)).run Tryz.prog w = .ok () w1 ∧ Keep (fun k => k = ib) w w1 ∧ Lbs w1 N cb ib (putH B a s d) := by
  have hcl := cnt_le B 256
  obtain ⟨w1, hrun, hm, ht⟩ := hi.store law3 Tryz.underBb (by unfold maxLen; omega) ha (.bool true)
  have K := turned_keep ht
  refine ⟨w1, hrun, K, hc.keep K nb.2.2, ?_, nb⟩
  rw [bv_put B a s d] at hm
  rw [← cnt_after B h0 h1 s d]
  have e : (bv B a).isSome = (B a).isSome := by unfold bv; rw [Option.isSome_map]
  rw [e] at hm
  exact hm
end
end Go.Proofs.YtmnpplkjhnoglaaGreatDoor
/-
  The reference's search: 'Best' of its graph.
-/
namespace Go.Proofs.YtmnpplkjhnoglaaGreatDoor
open Go.RowKit

theorem rlxd_none {es : Nat → List LE} {B : Int → Option (Int × Int)} {n : Nat} (h : B (n : Int) = none) : Rlxd es B n := fun {s d e} hs _ => by
  rw [h] at hs
  cases hs
theorem rlx_all {L : List Nat} {es : Nat → List LE} {B B' : Int → Option (Int × Int)} (h : B' = B ∧ ∀ j, j < L.length → Rlxd es B (L.getD j 0)) : ∀ n ∈ L, Rlxd es B' n := by
  obtain ⟨rfl, h⟩ := h
  intro n hn s d e hs he
  obtain ⟨j, hj, hjn⟩ := List.getElem_of_mem hn
  have h3 : Rlxd es B' (L.getD j 0) := h j hj
  rw [getD_at _ _ hj, hjn] at h3
  exact h3 hs he
end Go.Proofs.YtmnpplkjhnoglaaGreatDoor
/-
  A way over edges of the reference's graph, from one of the beginning to one of the end, at its cost: the statement's 'tracked'.
-/
namespace Go.Proofs.YtmnpplkjhnoglaaGreatDoor
open Go.RowKit Go.Maps Go.Lib

end Go.Proofs.YtmnpplkjhnoglaaGreatDoor
