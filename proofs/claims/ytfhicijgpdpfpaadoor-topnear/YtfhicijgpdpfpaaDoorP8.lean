/-
  Texts laid together: Pop, Edge, PushAll, Beside.
-/
import Derived.Test.YtfhicijgpdpfpaaDoorP7
import Derived.Deep.RegionHeld3
/-
  What popping does.
-/
namespace Go.Proofs.YtfhicijgpdpfpaaDoor
open Go.RowKit

set_option maxHeartbeats 1000000 in
theorem pop_none {b mb : Nat} {v : Value} {H : Int → Option (Int × Int)} (w : World) (h : HeapAt w b mb v 0 H) :
    Calls Tryd.prog 82 #[.pointer (some ⟨b, 0, none⟩)] w fun e w' => e = .returned (.tuple #[.int .i64 0, .agg #[.int .i64 0, .int .i64 0], .bool false]) ∧ Below w.heap.size w w' := by
  obtain ⟨it, f, S, O⟩ := h.ex
  have c0 := S.rep.c0
  have hb := S.rep.blocks.1
  have hv : ∃ A cap, v = .slice A 0 cap := by
    obtain ⟨xs, ho, _⟩ := S.rep.row
    rcases ho.2 with ⟨rfl, _⟩ | ⟨g, cap, cur, rfl, _⟩
    · exact ⟨_, _, rfl⟩
    · exact ⟨_, _, rfl⟩
  obtain ⟨A, cap, rfl⟩ := hv
  clear S O h
  go_enter Tryd.func82, Tryd.ntmps82
  go_wp2
  exact bodyPost_ret (v := .tuple #[.int .i64 0, .agg #[.int .i64 0, .int .i64 0], .bool false]) (by simp [results, Tryd.results82, go_sem]) rfl ⟨rfl, (Below.refl _ _).alloc (Nat.le_refl _) _⟩

/-- a row less its last item -/
theorem Row.shrink {w : World} {g m cap : Nat} {it : Nat → Item} (h : Row w (.slice (some ⟨g, 0, none⟩) (m + 1) cap) (m + 1) it) : Row w (.slice (some ⟨g, 0, none⟩) m cap) m it := by
  obtain ⟨xs, ho, hx⟩ := h
  have hl : xs.length = (m + 1) * 3 := ho.1
  rcases ho.2 with ⟨h', _⟩ | ⟨g', cap', cur, h', hb, hg, hnc, hcm, hcs, htake⟩
  · cases h'
  · cases h'
    refine ⟨xs.take (m * 3), ⟨by rw [List.length_take]; omega, .inr ⟨g, cap, cur, rfl, hb, hg, by omega, hcm, hcs, ?_⟩⟩, fun i hi => ?_⟩
    · rw [← htake, List.take_take]; congr 1; omega
    · obtain ⟨a1, a2, a3⟩ := hx i (by omega)
      refine ⟨?_, ?_, ?_⟩
      · rw [List.getElem?_take, if_pos (by omega)]; exact a1
      · rw [List.getElem?_take, if_pos (by omega)]; exact a2
      · rw [List.getElem?_take, if_pos (by omega)]; exact a3

theorem AtF.pop {it : Nat → Item} {m : Nat} {f : Int → Option Value} (h : AtF it (m + 1) f) (hm : 0 < m) : AtF (updI it 0 (it m)) m (putF (delF f (it 0).id) (it m).id (.int .i64 (0 : Nat))) := by
  have hp := h.apart
  refine ⟨fun k hk => ?_, fun a v hv => ?_⟩
  · by_cases e1 : k = 0
    · subst e1; rw [updI_i, putF_same]
    · rw [updI_k it _ e1, putF_other _ _ (fun e => by have := hp k m (by omega) (by omega) e; omega), delF_other _ (fun e => e1 (hp k 0 (by omega) (by omega) e))]
      exact h.at' k (by omega)
  · unfold putF at hv
    split at hv
    · rename_i e; cases hv; exact ⟨0, hm, by rw [updI_i]; exact e.symm, rfl⟩
    · rename_i e
      unfold delF at hv
      split at hv
      · cases hv
      · rename_i e2
        obtain ⟨k, hk, ea, ev⟩ := h.of a v hv
        have k0 : k ≠ 0 := fun q => e2 (by rw [← ea, q])
        have km : k ≠ m := fun q => e (by rw [← ea, q])
        exact ⟨k, by omega, by rw [updI_k it _ k0]; exact ea, ev⟩

/-- what is in the three new blocks: a cost's room, the first item, the last one -/
structure Fr (w : World) (N : Nat) (x y : Item) : Prop where
  a0 : w.cell? ⟨N, 0, none⟩ = some (.int .i64 0)
  a1 : w.cell? ⟨N, 1, none⟩ = some (.int .i64 0)
  f0 : w.frozen? ⟨N, 0, none⟩ = false
  f1 : w.frozen? ⟨N, 1, none⟩ = false
  b0 : w.cell? ⟨N + 1, 0, none⟩ = some (.int .i64 x.id)
  b1 : w.cell? ⟨N + 1, 1, none⟩ = some (.int .i64 x.s)
  b2 : w.cell? ⟨N + 1, 2, none⟩ = some (.int .i64 x.d)
  c0 : w.cell? ⟨N + 1 + 1, 0, none⟩ = some (.int .i64 y.id)
  c1 : w.cell? ⟨N + 1 + 1, 1, none⟩ = some (.int .i64 y.s)
  c2 : w.cell? ⟨N + 1 + 1, 2, none⟩ = some (.int .i64 y.d)

theorem Fr.keep {F : Nat → Prop} {w w' : World} {N : Nat} {x y : Item} (h : Fr w N x y) (K : Keep F w w') (hN : N + 3 ≤ w.heap.size) (hF : ∀ k, N ≤ k → ¬ F k) : Fr w' N x y := by
  have g0 : ∀ o, w'.cell? ⟨N, o, none⟩ = w.cell? ⟨N, o, none⟩ := fun o => K.cell (p := ⟨N, o, none⟩) (by show N < _; omega) (hF N (by omega))
  have g1 : ∀ o, w'.cell? ⟨N + 1, o, none⟩ = w.cell? ⟨N + 1, o, none⟩ := fun o => K.cell (p := ⟨N + 1, o, none⟩) (by show N + 1 < _; omega) (hF (N + 1) (by omega))
  have g2 : ∀ o, w'.cell? ⟨N + 1 + 1, o, none⟩ = w.cell? ⟨N + 1 + 1, o, none⟩ := fun o => K.cell (p := ⟨N + 1 + 1, o, none⟩) (by show N + 1 + 1 < _; omega) (hF (N + 1 + 1) (by omega))
  have g3 : ∀ o, w'.frozen? ⟨N, o, none⟩ = w.frozen? ⟨N, o, none⟩ := fun o => K.frozen (p := ⟨N, o, none⟩) (by show N < _; omega) (hF N (by omega))
  exact ⟨(g0 0).trans h.a0, (g0 1).trans h.a1, (g3 0).trans h.f0, (g3 1).trans h.f1, (g1 0).trans h.b0, (g1 1).trans h.b1, (g1 2).trans h.b2, (g2 0).trans h.c0, (g2 1).trans h.c1, (g2 2).trans h.c2⟩

theorem popWorld {b mb g m cap : Nat} (w : World) (x y : Item) {v : Value} (hb : b < w.heap.size) (c0 : w.cell? ⟨b, 0, none⟩ = some v) (c1 : w.cell? ⟨b, 1, none⟩ = some (.map (some mb))) (f0 : w.frozen? ⟨b, 0, none⟩ = false) :
    ∃ W1 : World, W1 = ((((w.alloc (.cells #[.int .i64 0, .int .i64 0] 31)).alloc (.cells #[.int .i64 x.id, .int .i64 x.s, .int .i64 x.d] 135)).alloc (.cells #[.int .i64 y.id, .int .i64 y.s, .int .i64 y.d] 135)).setCell ⟨b, 0, none⟩ (.slice (some ⟨g, 0, none⟩) m cap)) ∧
      Keep (fun k => k = b) w W1 ∧ W1.heap.size = w.heap.size + 3 ∧ W1.cell? ⟨b, 0, none⟩ = some (.slice (some ⟨g, 0, none⟩) m cap) ∧ W1.cell? ⟨b, 1, none⟩ = some (.map (some mb)) ∧ W1.frozen? ⟨b, 0, none⟩ = false ∧ Fr W1 w.heap.size x y := by
  have z1 : (w.alloc (.cells #[.int .i64 0, .int .i64 0] 31)).heap.size = w.heap.size + 1 := by simp
  have z2 : ((w.alloc (.cells #[.int .i64 0, .int .i64 0] 31)).alloc (.cells #[.int .i64 x.id, .int .i64 x.s, .int .i64 x.d] 135)).heap.size = w.heap.size + 1 + 1 := by simp
  have k3 : Below w.heap.size w (((w.alloc (.cells #[.int .i64 0, .int .i64 0] 31)).alloc (.cells #[.int .i64 x.id, .int .i64 x.s, .int .i64 x.d] 135)).alloc (.cells #[.int .i64 y.id, .int .i64 y.s, .int .i64 y.d] 135)) := (((Below.refl _ _).alloc (Nat.le_refl _) _).alloc (by simp) _).alloc (by simp; omega) _
  have F3 : Fr (((w.alloc (.cells #[.int .i64 0, .int .i64 0] 31)).alloc (.cells #[.int .i64 x.id, .int .i64 x.s, .int .i64 x.d] 135)).alloc (.cells #[.int .i64 y.id, .int .i64 y.s, .int .i64 y.d] 135)) w.heap.size x y := by
    have p0 : ∀ o, (((w.alloc (.cells #[.int .i64 0, .int .i64 0] 31)).alloc (.cells #[.int .i64 x.id, .int .i64 x.s, .int .i64 x.d] 135)).alloc (.cells #[.int .i64 y.id, .int .i64 y.s, .int .i64 y.d] 135)).cell? ⟨w.heap.size, o, none⟩ = (w.alloc (.cells #[.int .i64 0, .int .i64 0] 31)).cell? ⟨w.heap.size, o, none⟩ := fun o => by
      rw [((Below.refl _ ((w.alloc (.cells #[.int .i64 0, .int .i64 0] 31)).alloc (.cells #[.int .i64 x.id, .int .i64 x.s, .int .i64 x.d] 135))).alloc (Nat.le_refl _) _).cell (p := ⟨w.heap.size, o, none⟩) (by rw [z2]; show w.heap.size < _; omega), ((Below.refl _ (w.alloc (.cells #[.int .i64 0, .int .i64 0] 31))).alloc (Nat.le_refl _) _).cell (p := ⟨w.heap.size, o, none⟩) (by rw [z1]; show w.heap.size < _; omega)]
    have p1 : ∀ o, (((w.alloc (.cells #[.int .i64 0, .int .i64 0] 31)).alloc (.cells #[.int .i64 x.id, .int .i64 x.s, .int .i64 x.d] 135)).alloc (.cells #[.int .i64 y.id, .int .i64 y.s, .int .i64 y.d] 135)).cell? ⟨w.heap.size + 1, o, none⟩ = ((w.alloc (.cells #[.int .i64 0, .int .i64 0] 31)).alloc (.cells #[.int .i64 x.id, .int .i64 x.s, .int .i64 x.d] 135)).cell? ⟨w.heap.size + 1, o, none⟩ := fun o => by
      rw [((Below.refl _ ((w.alloc (.cells #[.int .i64 0, .int .i64 0] 31)).alloc (.cells #[.int .i64 x.id, .int .i64 x.s, .int .i64 x.d] 135))).alloc (Nat.le_refl _) _).cell (p := ⟨w.heap.size + 1, o, none⟩) (by rw [z2]; show w.heap.size + 1 < _; omega)]
    refine ⟨?_, ?_, ?_, ?_, ?_, ?_, ?_, ?_, ?_, ?_⟩
    · rw [p0]; exact World.cell?_alloc_at _ _ _ 0 rfl
    · rw [p0]; exact World.cell?_alloc_at _ _ _ 1 rfl
    · rw [frozen?_alloc_cells, frozen?_alloc_cells, frozen?_alloc_cells]; unfold World.frozen?; rw [Array.getElem?_eq_none (Nat.le_refl _)]
    · rw [frozen?_alloc_cells, frozen?_alloc_cells, frozen?_alloc_cells]; unfold World.frozen?; rw [Array.getElem?_eq_none (Nat.le_refl _)]
    · rw [p1]; exact World.cell?_alloc_at _ _ _ 0 z1.symm
    · rw [p1]; exact World.cell?_alloc_at _ _ _ 1 z1.symm
    · rw [p1]; exact World.cell?_alloc_at _ _ _ 2 z1.symm
    · exact World.cell?_alloc_at _ _ _ 0 z2.symm
    · exact World.cell?_alloc_at _ _ _ 1 z2.symm
    · exact World.cell?_alloc_at _ _ _ 2 z2.symm
  have K0 := Keep.of_below (F := fun k => k = b) k3
  have Kb : Keep (fun k => k = b) _ _ := (Keep.refl (fun k => k = b) (((w.alloc (.cells #[.int .i64 0, .int .i64 0] 31)).alloc (.cells #[.int .i64 x.id, .int .i64 x.s, .int .i64 x.d] 135)).alloc (.cells #[.int .i64 y.id, .int .i64 y.s, .int .i64 y.d] 135))).setCell (p := ⟨b, 0, none⟩) (fun _ => rfl) (.slice (some ⟨g, 0, none⟩) m cap)
  refine ⟨_, rfl, K0.trans Kb (fun _ _ h => h), by simp, World.cell?_setCell_same _ _ _ ((k3.cell (p := ⟨b, 0, none⟩) hb).trans c0), ?_, ?_, F3.keep Kb (by simp) (fun k hk e => by omega)⟩
  · rw [World.cell?_setCell_other _ _ _ _ (by intro e; cases e)]
    exact (k3.cell (p := ⟨b, 1, none⟩) hb).trans c1
  · rw [World.frozen?_setCell]
    exact (k3.frozen (p := ⟨b, 0, none⟩) hb).trans f0

theorem popCells (W : World) (N : Nat) (s d : Int) (a0 : W.cell? ⟨N, 0, none⟩ = some (.int .i64 0)) (a1 : W.cell? ⟨N, 1, none⟩ = some (.int .i64 0)) :
    ((W.setCell ⟨N, 0, none⟩ (.int .i64 s)).setCell ⟨N, 1, none⟩ (.int .i64 d)).cell? ⟨N, 0, none⟩ = some (.int .i64 s) ∧ ((W.setCell ⟨N, 0, none⟩ (.int .i64 s)).setCell ⟨N, 1, none⟩ (.int .i64 d)).cell? ⟨N, 1, none⟩ = some (.int .i64 d) := by
  constructor
  · rw [World.cell?_setCell_other _ _ _ _ (by intro e; cases e)]; exact World.cell?_setCell_same _ _ _ a0
  · refine World.cell?_setCell_same _ _ _ (u := .int .i64 0) ?_
    rw [World.cell?_setCell_other _ _ _ _ (by intro e; cases e)]; exact a1

set_option maxHeartbeats 1000000 in
set_option maxRecDepth 1000000 in
theorem pop_one {b mb m : Nat} {v : Value} {H : Int → Option (Int × Int)} (w : World) (h : HeapAt w b mb v (m + 1) H) :
    Calls Tryd.prog 82 #[.pointer (some ⟨b, 0, none⟩)] w fun e w' => ∃ a s d, e = .returned (.tuple #[.int .i64 a, .agg #[.int .i64 s, .int .i64 d], .bool true]) ∧ H a = some (s, d) ∧ (∀ a' s' d', H a' = some (s', d') → ¬ bef ⟨a', s', d'⟩ ⟨a, s, d⟩) ∧ (∃ v', HeapAt w' b mb v' m (delH H a) ∧ v'.ownBlock = v.ownBlock) ∧ Keep (hb3 b mb v) w w' := by
  obtain ⟨it, f, S, O⟩ := h.ex
  obtain ⟨g, cap, rfl, hcap, hmax, hg⟩ := S.rep.row.pos (by omega)
  obtain ⟨hb, hmb, hbm, hgs⟩ := S.rep.blocks
  obtain ⟨_, hgb, hgm⟩ := hgs g rfl
  obtain ⟨q1, q2, q3⟩ := S.rep.row.cells (show 0 < m + 1 by omega)
  obtain ⟨p1, p2, p3⟩ := S.rep.row.cells (show m < m + 1 by omega)
  have hbd := S.bd
  have c0 := S.rep.c0
  have c1 := S.rep.c1
  have f0 := S.rep.f0
  have h0 : H (it 0).id = some ((it 0).s, (it 0).d) := S.holds.at (by omega)
  have hmin : ∀ a' s' d', H a' = some (s', d') → ¬ bef ⟨a', s', d'⟩ (it 0) := fun a' s' d' h => S.holds.least O h
  have hcap' : ((m : Nat) : Int) ≤ (cap : Int) := by omega
  unfold maxLen at hmax
  simp only [Nat.zero_mul] at q1 q2 q3
  have k3 : ∀ A B C : Obj, Below w.heap.size w (((w.alloc A).alloc B).alloc C) := fun A B C => (((Below.refl _ _).alloc (Nat.le_refl _) _).alloc (by simp) _).alloc (by simp; omega) _
  have e3 : ∀ A B C : Obj, (((w.alloc A).alloc B).alloc C).cell? ⟨b, 0, none⟩ = some (.slice (some ⟨g, 0, none⟩) (m + 1) cap) := fun A B C => ((k3 A B C).cell (p := ⟨b, 0, none⟩) hb).trans c0
  have e4 : ∀ A B C : Obj, (((w.alloc A).alloc B).alloc C).frozen? ⟨b, 0, none⟩ = false := fun A B C => ((k3 A B C).frozen (p := ⟨b, 0, none⟩) hb).trans f0
  clear k3
  have HW := popWorld (g := g) (m := m) (cap := cap) w (it 0) (it m) hb c0 c1 f0
  obtain ⟨W1, eW, K1, z1, d0, d1, df, fr⟩ := HW
  have row1 : Row W1 (.slice (some ⟨g, 0, none⟩) m cap) m it := S.rep.row.shrink.keep K1 (fun q hq => by simp only [Value.ownBlock, Option.some.injEq] at hq; rw [← hq]; exact hgb)
  have map1 : MapF Tryd.prog 3 W1.drew mb f (m + 1) := (S.rep.map.keep K1 (fun e => hbm e.symm)).kept rfl
  have hwf0 := S.wf 0 (by omega)
  have hwfm := S.wf m (by omega)
  have hf0 := S.atf.at' 0 (by omega)
  obtain ⟨W2, hrun, M2, T2⟩ := map1.drop (t := 129) law3 Tryd.under51 hwf0 0
  have em : (if (f (it 0).id).isSome then m + 1 - 1 else m + 1) = m := by rw [hf0]; rfl
  rw [em] at M2
  have K2 : Keep (fun k => k = mb) W1 W2 := (Keep.refl (fun k => k = mb) W1).drew.trans (turned_keep T2) (fun _ _ h => h)
  have z2 : w.heap.size + 3 ≤ W2.heap.size := by have := K2.size; omega
  have KA : Keep (hb3 b mb (.slice (some ⟨g, 0, none⟩) (m + 1) cap)) w W2 := (K1.mono (G := hb3 b mb (.slice (some ⟨g, 0, none⟩) (m + 1) cap)) (fun _ _ h => Or.inl h)).trans K2 (fun _ _ h => Or.inr (Or.inl h))
  have fr2 := fr.keep K2 (by omega) (fun k hk e => by omega)
  have R2 : Rep W2 b mb (.slice (some ⟨g, 0, none⟩) m cap) m it (delF f (it 0).id) m := by
    refine ⟨(K2.cell (p := ⟨b, 0, none⟩) (by show b < _; omega) hbm).trans d0, (K2.cell (p := ⟨b, 1, none⟩) (by show b < _; omega) hbm).trans d1, (K2.frozen (p := ⟨b, 0, none⟩) (by show b < _; omega) hbm).trans df, row1.keep K2 (fun q hq => ?_), M2, S.rep.nb⟩
    simp only [Value.ownBlock, Option.some.injEq] at hq; rw [← hq]; exact hgm
  have b0 := fr.b0
  clear map1 M2 T2 K1 K2 row1 df
  go_enter Tryd.func82, Tryd.ntmps82
  go_wp2
  rw [← eW]
  clear eW e3 e4 c0 c1 f0 q1 q2 q3 p1 p2 p3
  go_region
  clear hrun b0 d0 d1
  by_cases hm : m = 0
  · subst hm
    obtain ⟨a0, a1, g0, g1, b0, b1, b2, l0, l1, l2⟩ := fr2
    have HF : HeapAt ((W2.setCell ⟨w.heap.size, 0, none⟩ (.int .i64 (it 0).s)).setCell ⟨w.heap.size, 1, none⟩ (.int .i64 (it 0).d)).drew b mb (.slice (some ⟨g, 0, none⟩) 0 cap) 0 (delH H (it 0).id) ∧ Keep (hb3 b mb (.slice (some ⟨g, 0, none⟩) (0 + 1) cap)) w ((W2.setCell ⟨w.heap.size, 0, none⟩ (.int .i64 (it 0).s)).setCell ⟨w.heap.size, 1, none⟩ (.int .i64 (it 0).d)).drew := by
      have kk : Keep (fun k => k = w.heap.size) W2 ((W2.setCell ⟨w.heap.size, 0, none⟩ (.int .i64 (it 0).s)).setCell ⟨w.heap.size, 1, none⟩ (.int .i64 (it 0).d)).drew := (((Keep.refl (fun k => k = w.heap.size) W2).setCell (p := ⟨w.heap.size, 0, none⟩) (fun _ => rfl) _).setCell (p := ⟨w.heap.size, 1, none⟩) (fun _ => rfl) _).drew
      refine ⟨⟨it, delF f (it 0).id, ⟨R2.keep kk (by omega) (by omega) (fun q hq => ?_), ⟨fun i hi => by omega, fun a v hv => ?_⟩, fun i hi => by omega, fun i hi => by omega, fun a s d => ⟨fun hh => ?_, fun ⟨i, hi, _⟩ => by omega⟩, by omega⟩, fun j _ hj => by omega⟩, KA.trans kk (fun i hi e => by omega)⟩
      · simp only [Value.ownBlock, Option.some.injEq] at hq; omega
      · unfold delF at hv
        split at hv
        · cases hv
        · rename_i e
          obtain ⟨i, hi, ea, _⟩ := S.atf.of a v hv
          have : i = 0 := by omega
          subst this
          exact absurd ea.symm e
      · unfold delH at hh
        split at hh
        · cases hh
        · rename_i e
          obtain ⟨i, hi, ea⟩ := (S.holds a s d).mp hh
          have : i = 0 := by omega
          subst this
          exact absurd (by rw [ea]) (fun q : (it 0).id = a => e q.symm)
    clear KA R2 S O h hgs
    have r0 := popCells W2 w.heap.size (it 0).s (it 0).d a0 a1
    go_wp2
    go_region
    go_wp2
    exact bodyPost_ret (v := .tuple #[.int .i64 (it 0).id, .agg #[.int .i64 (it 0).s, .int .i64 (it 0).d], .bool true]) (by simp [results, Tryd.results82, go_sem, r0.1, r0.2]) rfl ⟨_, _, _, rfl, h0, hmin, ⟨_, HF.1, rfl⟩, HF.2⟩
  · have hm0 : 0 < m := by omega
    have hm1 : (0 : Int) < (m : Int) := by omega
    have hidne : (it m).id ≠ (it 0).id := fun e => hm (S.atf.apart m 0 (by omega) (by omega) e)
    have em2 : (if (delF f (it 0).id (it m).id).isSome then m else m + 1) = m := by rw [delF_other _ hidne, S.atf.at' m (by omega)]; rfl
    have P1 := fun w R => put_any (b := b) (mb := mb) (g := g) (cap := cap) (n := m) (m := m) (it := it) (f := delF f (it 0).id) 0 (it m).id (it m).s (it m).d w R hm0 (by omega) hwfm
    rw [em2] at P1
    have HS2 : ∀ w', Rep w' b mb (.slice (some ⟨g, 0, none⟩) m cap) m (updI it 0 (it m)) (putF (delF f (it 0).id) (it m).id (.int .i64 (0 : Nat))) m → HS w' b mb (.slice (some ⟨g, 0, none⟩) m cap) m (updI it 0 (it m)) (putF (delF f (it 0).id) (it m).id (.int .i64 (0 : Nat))) (delH H (it 0).id) := by
      intro w' R
      refine ⟨R, S.atf.pop hm0, fun k hk => ?_, fun k hk => ?_, S.holds.pop S.atf.apart, by omega⟩
      · by_cases ek : k = 0
        · subst ek; rw [updI_i]; exact hwfm
        · rw [updI_k it _ ek]; exact S.wf k (by omega)
      · by_cases ek : k = 0
        · subst ek; rw [updI_i]; exact S.ok m (by omega)
        · rw [updI_k it _ ek]; exact S.ok k (by omega)
    have hsink : Sinking (updI it 0 (it m)) m 0 := Sinking.first O _
    obtain ⟨a0, a1, g0, g1, b0, b1, b2, l0, l1, l2⟩ := fr2
    clear S O h hgs em em2 hf0 fr
    go_wp2_with fail
    refine (P1 _ R2).mono ?_
    rintro e W3 ⟨rfl, R3, K3⟩
    have S3 := HS2 _ R3
    go_wp2_with fail
    refine (sink_any _ S3 hm0 hsink).mono ?_
    rintro e W4 ⟨rfl, ⟨it', f', S4, O4⟩, K4⟩
    have K5 : Keep (fun k => k = g ∨ k = mb) W2 W4 := K3.trans K4 (fun _ _ h => h)
    obtain ⟨a0, a1, g0, g1, b0, b1, b2, l0, l1, l2⟩ := (Fr.mk a0 a1 g0 g1 b0 b1 b2 l0 l1 l2 : Fr W2 w.heap.size (it 0) (it m)).keep K5 z2 (fun k hk e => by omega)
    have z4 : w.heap.size + 3 ≤ W4.heap.size := by have := K5.size; omega
    have KB : Keep (hb3 b mb (.slice (some ⟨g, 0, none⟩) (m + 1) cap)) w W4 := KA.trans K5 (fun k _ e => by
      rcases e with rfl | rfl
      · exact Or.inr (Or.inr rfl)
      · exact Or.inr (Or.inl rfl))
    have HF : HeapAt ((W4.setCell ⟨w.heap.size, 0, none⟩ (.int .i64 (it 0).s)).setCell ⟨w.heap.size, 1, none⟩ (.int .i64 (it 0).d)).drew b mb (.slice (some ⟨g, 0, none⟩) m cap) m (delH H (it 0).id) ∧ Keep (hb3 b mb (.slice (some ⟨g, 0, none⟩) (m + 1) cap)) w ((W4.setCell ⟨w.heap.size, 0, none⟩ (.int .i64 (it 0).s)).setCell ⟨w.heap.size, 1, none⟩ (.int .i64 (it 0).d)).drew := by
      have kk : Keep (fun k => k = w.heap.size) W4 ((W4.setCell ⟨w.heap.size, 0, none⟩ (.int .i64 (it 0).s)).setCell ⟨w.heap.size, 1, none⟩ (.int .i64 (it 0).d)).drew := (((Keep.refl (fun k => k = w.heap.size) W4).setCell (p := ⟨w.heap.size, 0, none⟩) (fun _ => rfl) _).setCell (p := ⟨w.heap.size, 1, none⟩) (fun _ => rfl) _).drew
      have hh : HeapAt W4 b mb (.slice (some ⟨g, 0, none⟩) m cap) m (delH H (it 0).id) := ⟨it', f', S4, O4⟩
      exact ⟨hh.keep kk (by omega) (by omega) (fun q hq => by simp only [Value.ownBlock, Option.some.injEq] at hq; omega), KB.trans kk (fun i hi e => by omega)⟩
    have r0 := popCells W4 w.heap.size (it 0).s (it 0).d a0 a1
    clear KA KB K3 K4 K5 R2 R3 S3 S4 P1 HS2
    go_wp2
    go_region
    go_wp2
    exact bodyPost_ret (v := .tuple #[.int .i64 (it 0).id, .agg #[.int .i64 (it 0).s, .int .i64 (it 0).d], .bool true]) (by simp [results, Tryd.results82, go_sem, r0.1, r0.2]) rfl ⟨_, _, _, rfl, h0, hmin, ⟨_, HF.1, rfl⟩, HF.2⟩
end Go.Proofs.YtfhicijgpdpfpaaDoor
/-
  Steps on a grid as edges; what a step costs; may one be in a cell?
-/
namespace Go.Proofs.YtfhicijgpdpfpaaDoor
open Go.RowKit

/-- one may go from a in direction k, and comes to b -/
def Edge (W H : Int) (bl : Nat → Bool) (a : Int) (k : Nat) (b : Int) : Prop := k < 8 ∧ inB W H a = true ∧ mayB W H bl (a % W) (a / W) k = true ∧ b = a + (stepY k * W + stepX k)

theorem Edge.in' {W H a b : Int} {bl : Nat → Bool} {k : Nat} (w1 : 1 ≤ W) (e : Edge W H bl a k b) : inB W H b = true := by
  rw [e.2.2.2]; exact (back_facts w1 e.1 e.2.2.1).1

theorem st_opp (k : Nat) : stS (opp k) = stS k ∧ stD (opp k) = stD k := by
  have : opp k % 2 = k % 2 := by unfold opp; omega
  unfold stS stD
  rw [this]
  exact ⟨rfl, rfl⟩

theorem Edge.back {W H : Int} {bl : Nat → Bool} (w1 : 1 ≤ W) (a : Int) (k : Nat) (b : Int) (e : Edge W H bl a k b) : ∃ k', Edge W H bl b k' a ∧ stS k' = stS k ∧ stD k' = stD k := by
  obtain ⟨h1, h2, h3, h4⟩ := e
  obtain ⟨f1, j, hj, hj2⟩ := back_facts w1 h1 h3
  have hm := mvs_at hj
  rw [hj2, ← h4] at hm
  refine ⟨opp k, ⟨opp_lt k, by rw [h4]; exact f1, hm.2, ?_⟩, st_opp k⟩
  rw [h4]; exact (back_home h1).symm

theorem Edge.one {W H a b c : Int} {bl : Nat → Bool} {k j : Nat} (e : Edge W H bl a k b) (f : Edge W H bl a j c) (h : j = k) : c = b := by
  rw [e.2.2.2, f.2.2.2, h]

theorem step_oct (d : Nat) (h : d < 8) : dst (dst 0 (stepX d)) (dst 0 (stepY d)) = stS d ∧ les (dst 0 (stepX d)) (dst 0 (stepY d)) = stD d := by
  have hks : d = 0 ∨ d = 1 ∨ d = 2 ∨ d = 3 ∨ d = 4 ∨ d = 5 ∨ d = 6 ∨ d = 7 := by omega
  rcases hks with rfl | rfl | rfl | rfl | rfl | rfl | rfl | rfl <;> decide

set_option maxHeartbeats 400000 in
theorem stepCost_any (d : Nat) (w : World) (h : StepsAt w) (hd : d < 8) :
    Calls Tryd.prog 47 #[.int .i64 d] w fun e w' => e = .returned (.agg #[.int .i64 (stS d), .int .i64 (stD d)]) ∧ Below w.heap.size w w' := by
  obtain ⟨b1, b2, b3, b4⟩ := step_bd d
  obtain ⟨e1, e2⟩ := step_oct d hd
  have hs := fun w' (hb : Below w.heap.size w w') (h0 : 0 < w.heap.size) => step_any d w' (h.below hb h0) hd
  have ho := fun w' => oct_any 0 0 (stepX d) (stepY d) w' (by unfold nearB; omega) (by unfold nearB; omega) (by unfold nearB; omega) (by unfold nearB; omega)
  rw [e1, e2] at ho
  have h0 : 0 < w.heap.size := World.block_lt_of_cell? w _ (h 0 (by decide)).1
  have HB : Below w.heap.size w (w.alloc (.cells #[.int .i64 0, .int .i64 0] 31)) := (Below.refl _ _).alloc (Nat.le_refl _) _
  generalize stepX d = dx at *
  generalize stepY d = dy at *
  clear e1 e2
  generalize stS d = cs at *
  generalize stD d = cd at *
  go_enter Tryd.func47, Tryd.ntmps47
  go_wp2_with (first | (go_at_call 58; refine (hs _ HB h0).mono ?_; rintro e w' ⟨rfl, m, rfl⟩) | (go_at_call 77; refine (ho _).mono ?_; rintro e w2 ⟨rfl, hb2⟩; obtain ⟨hq1, hq2⟩ := bcell hb2))
  have a0 : w2.cell? ⟨w.heap.size, 0, none⟩ = some (.int .i64 0) := (hq1 _ _ (by simp)).trans (World.cell?_alloc_at #[.int .i64 0, .int .i64 0] 31 w.heap.size 0 rfl)
  have a1 : w2.cell? ⟨w.heap.size, 1, none⟩ = some (.int .i64 0) := (hq1 _ _ (by simp)).trans (World.cell?_alloc_at #[.int .i64 0, .int .i64 0] 31 w.heap.size 1 rfl)
  have r0 := popCells w2 w.heap.size cs cd a0 a1
  have HB2 : Below w.heap.size w w2 := (below_drewN HB m).trans (hb2.mono (by simp))
  exact bodyPost_ret (v := .agg #[.int .i64 cs, .int .i64 cd]) (by simp [results, Tryd.results47, go_sem, r0.1, r0.2]) rfl ⟨rfl, (HB2.setCell (p := ⟨w.heap.size, 0, none⟩) (Nat.le_refl _) _).setCell (p := ⟨w.heap.size, 1, none⟩) (Nat.le_refl _) _⟩

set_option maxHeartbeats 400000 in
theorem check_out {b : Nat} {W H V : Int} {bl : Nat → Bool} (c : Int) (w : World) (g : GridAt w b W H V bl) (hr : inB W H c = false) :
    Calls Tryd.prog 45 #[.pointer (some ⟨b, 0, none⟩), .int .i64 c] w fun e w' => e = .returned (.iface 78 (.int .i64 1)) ∧ ∃ m, w' = w.drewN m := by
  go_enter Tryd.func45, Tryd.ntmps45
  go_wp2_with (go_at_call 53; refine (free_out c _ g hr).mono ?_; rintro e w' ⟨rfl, m, rfl⟩)
  go_ret
  exact ⟨rfl, _, rfl⟩
set_option maxHeartbeats 400000 in
theorem check_bl {b : Nat} {W H V : Int} {bl : Nat → Bool} (c : Nat) (w : World) (g : GridAt w b W H V bl) (hr : inB W H c = true) (hb : bl c = true) :
    Calls Tryd.prog 45 #[.pointer (some ⟨b, 0, none⟩), .int .i64 c] w fun e w' => e = .returned (.iface 78 (.int .i64 4)) ∧ ∃ m, w' = w.drewN m := by
  have hf := fun w g => free_in (b := b) (W := W) (H := H) (V := V) (bl := bl) c w g hr
  rw [hb] at hf
  go_enter Tryd.func45, Tryd.ntmps45
  go_wp2_with (go_at_call 53; refine (hf _ g).mono ?_; rintro e w' ⟨rfl, m, rfl⟩)
  go_ret
  exact ⟨rfl, _, rfl⟩
set_option maxHeartbeats 400000 in
theorem check_ok {b : Nat} {W H V : Int} {bl : Nat → Bool} (c : Nat) (w : World) (g : GridAt w b W H V bl) (hr : inB W H c = true) (hb : bl c = false) :
    Calls Tryd.prog 45 #[.pointer (some ⟨b, 0, none⟩), .int .i64 c] w fun e w' => e = .returned .nilIface ∧ ∃ m, w' = w.drewN m := by
  have hf := fun w g => free_in (b := b) (W := W) (H := H) (V := V) (bl := bl) c w g hr
  rw [hb] at hf
  go_enter Tryd.func45, Tryd.ntmps45
  go_wp2_with (go_at_call 53; refine (hf _ g).mono ?_; rintro e w' ⟨rfl, m, rfl⟩)
  go_ret
  exact ⟨rfl, _, rfl⟩
end Go.Proofs.YtfhicijgpdpfpaaDoor
/-
  Pushing, in one word for all cases.
-/
namespace Go.Proofs.YtfhicijgpdpfpaaDoor
open Go.RowKit

/-- does a push change the heap? -/
def pushB (H : Int → Option (Int × Int)) (a s d : Int) : Bool := match H a with | none => true | some c => decide (val s d < val c.1 c.2)
/-- what is there behind a push -/
def pushH (H : Int → Option (Int × Int)) (a s d : Int) : Int → Option (Int × Int) := if pushB H a s d then putH H a s d else H

theorem pushed (H : Int → Option (Int × Int)) (a s d : Int) : Pushed H a s d (pushH H a s d) := by
  unfold Pushed pushH pushB
  cases ha : H a with
  | none => left; exact ⟨rfl, fun h => (by cases h)⟩
  | some c =>
    obtain ⟨t, u⟩ := c
    by_cases hv : val s d < val t u
    · left
      refine ⟨by simp [hv], fun h => ?_⟩
      cases h; exact hv
    · right
      exact ⟨by simp [hv], t, u, rfl, by omega⟩

/-- a heap that has become this one -/
def HeapTo (w w' : World) (b mb : Nat) (v : Value) (n : Nat) (H : Int → Option (Int × Int)) : Prop :=
  ∃ v' n', HeapAt w' b mb v' n' H ∧ n' ≤ n + 1 ∧ ∀ g, v'.ownBlock = some g → v.ownBlock = some g ∨ w.heap.size ≤ g

theorem push_all {b mb n : Nat} {v : Value} {H : Int → Option (Int × Int)} (a s d : Int) (w : World) (h : HeapAt w b mb v n H) (hc : okC s d) (hwf : (Lit.int .i64 a).wf = true) (hn : n < 1000000) :
    Calls Tryd.prog 80 #[.pointer (some ⟨b, 0, none⟩), .int .i64 a, .agg #[.int .i64 s, .int .i64 d]] w fun e w' => e = .returned (.bool (pushB H a s d)) ∧ HeapTo w w' b mb v n (pushH H a s d) ∧ Keep (hb3 b mb v) w w' := by
  cases ha : H a with
  | none =>
    have e1 : pushB H a s d = true := by unfold pushB; rw [ha]
    have e2 : pushH H a s d = putH H a s d := by unfold pushH; rw [e1]; rfl
    rw [e1, e2]
    exact (push_new a s d w h ha hc hwf hn).mono fun e w' ⟨he, ⟨v', h', hl⟩, K⟩ => ⟨he, ⟨v', n + 1, h', Nat.le_refl _, fun g hg => by
      rcases hl with hl | ⟨g', hl, hg'⟩
      · exact Or.inl (by rw [← hl]; exact hg)
      · rw [hl] at hg; cases hg; exact Or.inr hg'⟩, K⟩
  | some c =>
    obtain ⟨t, u⟩ := c
    by_cases hv : val s d < val t u
    · have e1 : pushB H a s d = true := by unfold pushB; rw [ha]; exact decide_eq_true hv
      have e2 : pushH H a s d = putH H a s d := by unfold pushH; rw [e1]; rfl
      rw [e1, e2]
      exact (push_less a s d t u w h ha hc hv).mono fun e w' ⟨he, h', K⟩ => ⟨he, ⟨v, n, h', Nat.le_succ _, fun g hg => Or.inl hg⟩, K⟩
    · have e1 : pushB H a s d = false := by unfold pushB; rw [ha]; exact decide_eq_false hv
      have e2 : pushH H a s d = H := by unfold pushH; rw [e1]; rfl
      rw [e1, e2]
      exact (push_no a s d t u w h ha hc hv).mono fun e w' ⟨he, hb⟩ => ⟨he, ⟨v, n, h.below hb, Nat.le_succ _, fun g hg => Or.inl hg⟩, Keep.of_below hb⟩

theorem hb3_lt {w : World} {b mb n : Nat} {v : Value} {H : Int → Option (Int × Int)} (h : HeapAt w b mb v n H) {k : Nat} (hk : hb3 b mb v k) : k < w.heap.size := by
  obtain ⟨h1, h2, h3⟩ := h.blocks
  rcases hk with rfl | rfl | hk
  · exact h1
  · exact h2
  · exact h3 k hk
end Go.Proofs.YtfhicijgpdpfpaaDoor
/-
  A flood in memory; those beside a cell are pushed.
-/
namespace Go.Proofs.YtfhicijgpdpfpaaDoor
open Go.RowKit

/-- costs as values -/
def fv (F : Int → Option (Int × Int)) : Int → Option Value := fun a => (F a).map fun c => .agg #[.int .i64 c.1, .int .i64 c.2]
theorem fv_some {F : Int → Option (Int × Int)} {a s d : Int} (h : F a = some (s, d)) : fv F a = some (.agg #[.int .i64 s, .int .i64 d]) := by unfold fv; rw [h]; rfl
theorem fv_none {F : Int → Option (Int × Int)} {a : Int} (h : F a = none) : fv F a = none := by unfold fv; rw [h]; rfl
theorem fv_put (F : Int → Option (Int × Int)) (a s d : Int) : putF (fv F) a (.agg #[.int .i64 s, .int .i64 d]) = fv (putH F a s d) := by
  funext i
  unfold putF fv putH
  by_cases h : i = a
  · rw [if_pos h, if_pos h]; rfl
  · rw [if_neg h, if_neg h]

/-- a flood in block fb: its grid in gb, its costs in cb -/
structure FloodAt (w : World) (fb gb cb : Nat) (W H V : Int) (bl : Nat → Bool) (F : Int → Option (Int × Int)) (n : Nat) : Prop where
  p0 : w.cell? ⟨fb, 0, none⟩ = some (.pointer (some ⟨gb, 0, none⟩))
  p1 : w.cell? ⟨fb, 1, none⟩ = some (.map (some cb))
  ga : GridAt w gb W H V bl
  mp : MapF Tryd.prog 3 w cb (fv F) n
  st : StepsAt w

theorem GridAt.keep {D : Nat → Prop} {w w' : World} {b : Nat} {W H V : Int} {bl : Nat → Bool} (g : GridAt w b W H V bl) (K : Keep D w w') (h : ¬ D b) : GridAt w' b W H V bl := by
  have hb : b < w.heap.size := World.block_lt_of_cell? w _ g.c0
  exact ⟨g.w1, g.w2, g.h1, g.h2, (K.cell (p := ⟨b, 0, none⟩) hb h).trans g.c0, (K.cell (p := ⟨b, 1, none⟩) hb h).trans g.c1, (K.cell (p := ⟨b, 2, none⟩) hb h).trans g.c2, fun i hi => (K.cell (p := ⟨b, 3 + i, none⟩) hb h).trans (g.cs i hi)⟩
theorem StepsAt.pos {w : World} (s : StepsAt w) : 0 < w.heap.size := World.block_lt_of_cell? w _ (s 0 (by decide)).1
theorem StepsAt.keep {D : Nat → Prop} {w w' : World} (s : StepsAt w) (K : Keep D w w') (h : ¬ D 0) : StepsAt w' :=
  fun i hi => ⟨(K.cell (p := ⟨0, 2 * i, none⟩) s.pos h).trans (s i hi).1, (K.cell (p := ⟨0, 2 * i + 1, none⟩) s.pos h).trans (s i hi).2⟩
theorem FloodAt.blocks {w : World} {fb gb cb : Nat} {W H V : Int} {bl : Nat → Bool} {F : Int → Option (Int × Int)} {n : Nat} (f : FloodAt w fb gb cb W H V bl F n) : fb < w.heap.size ∧ gb < w.heap.size ∧ cb < w.heap.size ∧ 0 < w.heap.size :=
  ⟨World.block_lt_of_cell? w _ f.p0, World.block_lt_of_cell? w _ f.ga.c0, f.mp.lt, f.st.pos⟩
theorem FloodAt.keep {D : Nat → Prop} {w w' : World} {fb gb cb : Nat} {W H V : Int} {bl : Nat → Bool} {F : Int → Option (Int × Int)} {n : Nat} (f : FloodAt w fb gb cb W H V bl F n) (K : Keep D w w') (h1 : ¬ D fb) (h2 : ¬ D gb) (h3 : ¬ D cb) (h4 : ¬ D 0) : FloodAt w' fb gb cb W H V bl F n :=
  ⟨(K.cell (p := ⟨fb, 0, none⟩) f.blocks.1 h1).trans f.p0, (K.cell (p := ⟨fb, 1, none⟩) f.blocks.1 h1).trans f.p1, f.ga.keep K h2, f.mp.keep K h3, f.st.keep K h4⟩
theorem FloodAt.below {w w' : World} {fb gb cb : Nat} {W H V : Int} {bl : Nat → Bool} {F : Int → Option (Int × Int)} {n : Nat} (f : FloodAt w fb gb cb W H V bl F n) (hb : Below w.heap.size w w') : FloodAt w' fb gb cb W H V bl F n :=
  f.keep (D := fun _ => False) (Keep.of_below hb) id id id id

theorem Tryd.under113 : Tryd.prog.underlying 85 = some (.map 3 31) := by kernel_rfl
theorem zero43 (w : World) : (zeroValue 31).run Tryd.prog w = .ok (.agg #[.int .i64 0, .int .i64 0]) w := by kernel_rfl

theorem FloodAt.look1 {w : World} {fb gb cb : Nat} {W H V : Int} {bl : Nat → Bool} {F : Int → Option (Int × Int)} {n : Nat} (f : FloodAt w fb gb cb W H V bl F n) {a s d : Int} (ha : (Lit.int .i64 a).wf = true) (h : F a = some (s, d)) :
    (Instr.lookup 85 (.map (some cb)) (.int .i64 a) false).run Tryd.prog w = .ok (.agg #[.int .i64 s, .int .i64 d]) w := f.mp.look_some law3 Tryd.under113 (zero43 _) ha (fv_some h) false

theorem wf_cell {W H c : Int} (w1 : 1 ≤ W) (w2 : W ≤ 16) (h1 : 1 ≤ H) (h2 : H ≤ 16) (h : inB W H c = true) : (Lit.int .i64 c).wf = true := by
  have hc : 0 ≤ c ∧ c < W * H := of_decide_eq_true h
  obtain ⟨k1, k2⟩ := wh_bd w1 w2 h1 h2
  exact WalkArith.wf_i64 (by omega)

theorem moves_b {b : Nat} {W H V c : Int} {bl : Nat → Bool} {l : List Nat} (hl : DirsOf W H bl c l) (w : World) (g : GridAt w b W H V bl) (s : StepsAt w) (hr : inB W H c = true) (hb : b < w.heap.size) :
    Calls Tryd.prog 96 #[.pointer (some ⟨b, 0, none⟩), .int .i64 c] w fun e w' => ∃ A cap, e = .returned (.tuple #[.slice A l.length cap, .nilIface]) ∧ (OldRow w' A l.length (fun i => (l.getD i 0 : Nat)) ∧ ∀ g o, A = some ⟨g, o, none⟩ → w.heap.size ≤ g) ∧ Below w.heap.size w w' :=
  (moves_in c w g s hr hb).mono fun e w' ⟨v, he, hown, hbl⟩ => by
    rw [hl.eq] at hown
    obtain ⟨A, cap, rfl, hrow⟩ := row_of hown
    refine ⟨A, cap, he, ⟨hrow, fun g o e => ?_⟩, hbl⟩
    rcases hown.2 with ⟨hv, _⟩ | ⟨g', cap', cur, hv, hg, _⟩
    · simp only [Value.slice.injEq] at hv
      rw [hv.1] at e; cases e
    · simp only [Value.slice.injEq] at hv
      rw [hv.1] at e; cases e; exact hg

/-- those beside a cell have been pushed -/
def Beside (w w' : World) (b mb : Nat) (v : Value) (nh : Nat) (E : Int → Nat → Int → Prop) (o : Int) (F : Int → Option (Int × Int)) (D : Int → Nat → Prop) (N k : Nat) : Prop :=
  ∃ v' nh' H', HeapAt w' b mb v' nh' H' ∧ nh' ≤ nh + k ∧ Dij E o F H' D N ∧ (∀ g, v'.ownBlock = some g → v.ownBlock = some g ∨ w.heap.size ≤ g) ∧ Keep (hb3 b mb v) w w'

set_option maxHeartbeats 2000000 in
set_option maxRecDepth 1000000 in
theorem pushBeside_any {fb gb cb b mb n nh N : Nat} {W H V : Int} {bl : Nat → Bool} {F Hh : Int → Option (Int × Int)} {v : Value} {o : Int} (c s d : Int) (w : World) (FA : FloodAt w fb gb cb W H V bl F n) (HA : HeapAt w b mb v nh Hh) (hin : inB W H c = true) (hFc : F c = some (s, d))
    (apart : ∀ k, hb3 b mb v k → k ≠ fb ∧ k ≠ gb ∧ k ≠ cb ∧ k ≠ 0) (DJ : Dij (Edge W H bl) o F Hh (fun x _ => x ≠ c) (N + 1)) (mx : ∀ {x t u}, F x = some (t, u) → val t u ≤ val s d) (hv : val s d ≤ N * 54608393) (hN : N ≤ 256) (hnh : nh ≤ 900000) :
    Calls Tryd.prog 83 #[.pointer (some ⟨fb, 0, none⟩), .pointer (some ⟨b, 0, none⟩), .int .i64 c] w fun e w' => e = .returned (.tuple #[]) ∧ Beside w w' b mb v nh (Edge W H bl) o F (fun _ _ => True) (N + 1) 8 := by
  obtain ⟨l, hl⟩ := dirsOf (W := W) (H := H) bl c FA.ga.w1
  obtain ⟨hfb, hgb, hcb, h00⟩ := FA.blocks
  have w1 := FA.ga.w1
  have w2 := FA.ga.w2
  have h1 := FA.ga.h1
  have h2 := FA.ga.h2
  have hc : 0 ≤ c ∧ c < W * H := of_decide_eq_true hin
  have hWH := wh_bd w1 w2 h1 h2
  have hs0 := (DJ.sF hFc).1.nonneg
  have hsm := val_small hs0.1 hs0.2 (by omega)
  have hwc := wf_cell w1 w2 h1 h2 hin
  have p0 := FA.p0
  have hlen := hl.len
  go_enter Tryd.func83, Tryd.ntmps83
  go_wp2_with (go_at_call 96; refine (moves_b hl _ FA.ga FA.st hin hgb).mono ?_)
  rintro e wa ⟨A, cap, rfl, ⟨hrow, hnew⟩, hba⟩
  have hza := hba.size
  have FAa := FA.below hba
  have HAa := HA.below hba
  go_wp2
  go_loopw [24] (fun i wr => ∃ k : Nat, k ≤ l.length ∧ i = .int .i64 k ∧ Beside wa wr b mb v nh (Edge W H bl) o F (fun x j => x ≠ c ∨ j ∈ l.take k) (N + 1) k) (fun i _ => l.length - (intOf i).toNat)
  case atStart => exact ⟨0, Nat.zero_le _, rfl, v, nh, Hh, HAa, by omega, DJ.widen (fun _ _ h => by rcases h with h | h; exact h; simp at h), fun g hg => Or.inl hg, Keep.refl _ _⟩
  case round =>
    obtain ⟨k, hk, rfl, v', nh', H', HA', hn', DJ', hown', K'⟩ := hrel
    have apart' : ∀ i, hb3 b mb v' i → i ≠ fb ∧ i ≠ gb ∧ i ≠ cb ∧ i ≠ 0 := by
      rintro i (rfl | rfl | hi)
      · exact apart _ (Or.inl rfl)
      · exact apart _ (Or.inr (Or.inl rfl))
      · rcases hown' i hi with h | h
        · exact apart _ (Or.inr (Or.inr h))
        · omega
    have FA' := FAa.keep K' (fun h => (apart _ h).1 rfl) (fun h => (apart _ h).2.1 rfl) (fun h => (apart _ h).2.2.1 rfl) (fun h => (apart _ h).2.2.2 rfl)
    by_cases hlt : k < l.length
    · have hlt' : (k : Int) < (l.length : Int) := by omega
      obtain ⟨bs, os, rfl, hbs, hcell⟩ := hrow k hlt
      have hbn := hnew bs os rfl
      have hbk : ¬ hb3 b mb v bs := fun h => by have := hb3_lt HA h; omega
      have hcw : wr.cell? ⟨bs, os + k, none⟩ = some (.int .i64 ((l.getD k 0 : Nat) : Int)) := (K'.cell (p := ⟨bs, os + k, none⟩) hbs hbk).trans hcell
      clear hcell
      have hdk := hl.lt k hlt
      have hmay : mayB W H bl (c % W) (c / W) (l.getD k 0) = true := by
        have h0 : k < (mvs W H bl (c % W) (c / W) 8).length := by rw [hl.eq]; exact hlt
        have := (mvs_at h0).2
        rw [hl.eq] at this
        exact this
      have hed : Edge W H bl c (l.getD k 0) (c + (stepY (l.getD k 0) * W + stepX (l.getD k 0))) := ⟨hdk, hin, hmay, rfl⟩
      have hti := hed.in' w1
      have htake : ∀ j, j ∈ l.take (k + 1) → j ∈ l.take k ∨ j = l.getD k 0 := fun j hj => by
        rw [List.take_succ_eq_append_getElem hlt, List.mem_append, List.mem_singleton] at hj
        rcases hj with hj | hj
        · exact Or.inl hj
        · right; rw [getD_at _ _ hlt]; exact hj
      have hwt := wf_cell w1 w2 h1 h2 hti
      generalize l.getD k 0 = dk at *
      obtain ⟨t, ht⟩ : ∃ t, c + (stepY dk * W + stepX dk) = t := ⟨_, rfl⟩
      have q0 := FA'.p0
      have q1 := FA'.p1
      have hgb' := Nat.lt_of_lt_of_le (Nat.lt_of_lt_of_le hgb hza) K'.size
      cases hFt : F t with
      | some ct =>
        obtain ⟨ts, td⟩ := ct
        have DJ2 : Dij (Edge W H bl) o F H' (fun x j => x ≠ c ∨ j ∈ l.take (k + 1)) (N + 1) := by
          refine (DJ'.pass (b := t) (k := dk) hFc mx (by rw [hFt]; simp) (fun e h => by rw [← ht]; exact hed.one e h)).widen (fun {x j y s' d'} _ _ h => ?_)
          by_cases hx : x = c
          · rcases h with h | h
            · exact absurd hx h
            · rcases htake j h with h | h
              · exact Or.inl (Or.inr h)
              · exact Or.inr ⟨hx, h⟩
          · exact Or.inl (Or.inl hx)
        have HFt : Hid _ := hFt
        clear hFt DJ' htake
        go_wp2_with fail
        refine (to_v ht _ FA'.ga FA'.st hdk (by omega) (by omega)).mono ?_
        rintro e w' ⟨rfl, m, rfl⟩
        have HBm := below_drewN (Below.refl wr.heap.size wr) m
        have FA1 := FA'.below HBm
        have HA1 := HA'.below HBm
        have K1 := K'.below HBm
        clear FA' HA' K' HBm q0 q1 hcw hgb'
        generalize wr.drewN m = W1 at *
        have q1 := FA1.p1
        have hlook : (Instr.lookup 85 (.map (some cb)) (.int .i64 t) true).run Tryd.prog W1 = .ok (.tuple #[.agg #[.int .i64 ts, .int .i64 td], .bool true]) W1 := FA1.mp.look_some law3 Tryd.under113 (zero43 _) (by rw [← ht]; exact hwt) (fv_some HFt.out) true
        have HB2 : Below W1.heap.size W1 (W1.alloc (.cells #[.int .i64 ts, .int .i64 td] 31)) := (Below.refl _ _).alloc (Nat.le_refl _) _
        go_wp2
        go_roundw
        case rel => exact ⟨k + 1, by omega, by go_num, v', nh', H', HA1.below HB2, by omega, DJ2, hown', K1.below HB2⟩
        case measure => simp [intOf]; omega
      | none =>
        have hst := st_bd dk
        have hok : okC (s + stS dk) (d + stD dk) := by unfold okC; omega
        have hok1 : okC s d := by unfold okC; omega
        have hok2 : okC (stS dk) (stD dk) := by unfold okC; omega
        have DJ2 : Dij (Edge W H bl) o F (pushH H' t (s + stS dk) (d + stD dk)) (fun x j => x ≠ c ∨ j ∈ l.take (k + 1)) (N + 1) := by
          rw [ht] at hed
          refine (DJ'.push (b := t) (k := dk) hFc mx hv hed hFt (pushed H' t _ _) (fun e h => hed.one e h)).widen (fun {x j y s' d'} _ _ h => ?_)
          by_cases hx : x = c
          · rcases h with h | h
            · exact absurd hx h
            · rcases htake j h with h | h
              · exact Or.inl (Or.inr h)
              · exact Or.inr ⟨hx, h⟩
          · exact Or.inl (Or.inl hx)
        have HFt : Hid _ := hFt
        have HFc : Hid _ := hFc
        clear hFt DJ' htake
        go_wp2_with fail
        refine (to_v ht _ FA'.ga FA'.st hdk (by omega) (by omega)).mono ?_
        rintro e w' ⟨rfl, m, rfl⟩
        have HBm := below_drewN (Below.refl wr.heap.size wr) m
        have FA1 := FA'.below HBm
        have HA1 := HA'.below HBm
        have K1 := K'.below HBm
        clear FA' HA' K' HBm q0 q1 hcw hgb'
        generalize wr.drewN m = W1 at *
        have q1 := FA1.p1
        have hlook : (Instr.lookup 85 (.map (some cb)) (.int .i64 t) true).run Tryd.prog W1 = .ok (.tuple #[.agg #[.int .i64 0, .int .i64 0], .bool false]) W1 := FA1.mp.look_none law3 Tryd.under113 (zero43 _) (by rw [← ht]; exact hwt) (fv_none HFt.out) true
        have HB2 : Below W1.heap.size W1 (W1.alloc (.cells #[.int .i64 0, .int .i64 0] 31)) := (Below.refl _ _).alloc (Nat.le_refl _) _
        have FA2 := FA1.below HB2
        have HA2 := HA1.below HB2
        have K2 := K1.below HB2
        go_wp2
        clear hlook FA1 HA1 K1 HB2 q1
        generalize W1.alloc (.cells #[.int .i64 0, .int .i64 0] 31) = W2 at *
        have FAd : FloodAt W2.drew fb gb cb W H V bl F n := FA2.below (Below.refl _ _).drew
        have HAd : HeapAt W2.drew b mb v' nh' H' := HA2.below (Below.refl _ _).drew
        have Kd : Keep (hb3 b mb v) wa W2.drew := K2.drew
        have c1 := FAd.p1
        have l1 := FAd.look1 hwc HFc.out
        clear FA2 HA2 K2
        have hwt' : (Lit.int .i64 t).wf = true := by rw [← ht]; exact hwt
        go_region_held3 (fun w' => w'.cell? ⟨fb, 1, none⟩ = some (.map (some cb)) ∧ (Instr.lookup 85 (.map (some cb)) (.int .i64 c) false).run Tryd.prog w' = .ok (.agg #[.int .i64 s, .int .i64 d]) w') (first | (exact ⟨c1, l1⟩)) (first | (go_at_call 47; refine (stepCost_any dk _ FAd.st hdk).mono ?_; rintro e w3 ⟨rfl, hb3'⟩; have FAd := FAd.below hb3'; have HAd := HAd.below hb3'; have Kd := Kd.below hb3'; have c1 := FAd.p1; have l1 := FAd.look1 hwc HFc.out) | (go_at_call 27; refine (add_any s d (stS dk) (stD dk) _ hok1 hok2).mono ?_; rintro e w3 ⟨rfl, hb3'⟩; have FAd := FAd.below hb3'; have HAd := HAd.below hb3'; have Kd := Kd.below hb3'; have c1 := FAd.p1; have l1 := FAd.look1 hwc HFc.out) | (go_at_call 80; refine (push_all t (s + stS dk) (d + stD dk) _ HAd hok hwt' (by omega)).mono ?_; rintro e w5 ⟨rfl, T5, K5⟩; have FA5 := FAd.keep K5 (fun h => (apart' _ h).1 rfl) (fun h => (apart' _ h).2.1 rfl) (fun h => (apart' _ h).2.2.1 rfl) (fun h => (apart' _ h).2.2.2 rfl); have c1 := FA5.p1; have l1 := FA5.look1 hwc HFc.out))
        all_goals
          obtain ⟨v5, nh5, HA5, hn5, ho5⟩ := T5
          have hzd := Kd.size
          have HB5 : Beside wa w5 b mb v nh (Edge W H bl) o F (fun x j => x ≠ c ∨ j ∈ l.take (k + 1)) (N + 1) (k + 1) := by
            refine ⟨v5, nh5, _, HA5, by omega, DJ2, fun g hg => ?_, Kd.trans K5 (fun i hi h => ?_)⟩
            · rcases ho5 g hg with h | h
              · exact hown' g h
              · exact Or.inr (by omega)
            · rcases h with h | h | h
              · exact Or.inl h
              · exact Or.inr (Or.inl h)
              · rcases hown' i h with h | h
                · exact Or.inr (Or.inr h)
                · omega
          clear FAd HAd Kd FA5 K5 HA5 DJ2 ho5 hn5 c1 l1
          go_wp2
          go_roundw
          case rel => exact ⟨k + 1, by omega, by go_num, HB5⟩
          case measure => simp [intOf]; omega
    · have hlt' : ¬ (k : Int) < (l.length : Int) := by omega
      have HK : Hid (k = l.length) := by show k = l.length; omega
      have HF : Beside w wr b mb v nh (Edge W H bl) o F (fun _ _ => True) (N + 1) 8 := by
        refine ⟨v', nh', H', HA', by omega, DJ'.widen (fun {a j b' s' d'} hF e _ => ?_), fun g hg => ?_, (Keep.of_below hba).trans K' (fun _ _ h => h)⟩
        · by_cases ha : a = c
          · right
            rw [HK.out, List.take_length, ← hl.eq]
            subst ha
            exact mem_mvs.mpr ⟨e.1, e.2.2.1⟩
          · exact Or.inl ha
        · rcases hown' g hg with h | h
          · exact Or.inl h
          · exact Or.inr (by omega)
      clear DJ' HA' FA' K' hown'
      go_wp2
      go_end0
      exact ⟨rfl, HF⟩
end Go.Proofs.YtfhicijgpdpfpaaDoor
