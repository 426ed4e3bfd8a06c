/-
  What changing two items' places does.
-/
import Derived.Test.YtfhicijgpdpfpaaDoorBefore
namespace Go.Proofs.YtfhicijgpdpfpaaDoor
open Go.RowKit

theorem Keep.two {F : Nat → Prop} {w w' : World} (h : Keep F w w') (n : Nat) (hn : n + 1 + 1 ≤ w.heap.size) (hF : ∀ k, n ≤ k → ¬ F k) :
    (∀ o, w'.cell? ⟨n, o, none⟩ = w.cell? ⟨n, o, none⟩) ∧ (∀ o, w'.cell? ⟨n + 1, o, none⟩ = w.cell? ⟨n + 1, o, none⟩) :=
  ⟨fun o => h.cell (p := ⟨n, o, none⟩) (by show n < _; omega) (hF n (by omega)), fun o => h.cell (p := ⟨n + 1, o, none⟩) (by show n + 1 < _; omega) (hF (n + 1) (by omega))⟩

set_option maxHeartbeats 1000000 in
theorem swap_any {b mb g cap n m : Nat} {it : Nat → Item} {f : Int → Option Value} (i j : Nat) (w : World) (R : Rep w b mb (.slice (some ⟨g, 0, none⟩) n cap) n it f m) (hi : i < n) (hj : j < n) (hm : m ≤ 1000000)
    (ki : (Lit.int .i64 (it i).id).wf = true) (kj : (Lit.int .i64 (it j).id).wf = true) (fi : (f (it i).id).isSome = true) (fj : (f (it j).id).isSome = true) :
    Calls Tryd.prog 102 #[.pointer (some ⟨b, 0, none⟩), .int .i64 i, .int .i64 j] w fun e w' => e = .returned (.tuple #[]) ∧ Rep w' b mb (.slice (some ⟨g, 0, none⟩) n cap) n (swI it i j) (putF (putF f (it j).id (.int .i64 i)) (it i).id (.int .i64 j)) m ∧ Keep (fun k => k = g ∨ k = mb) w w' := by
  obtain ⟨hb, hmb, hbm, hgs⟩ := R.blocks
  obtain ⟨hg, hgb, hgm⟩ := hgs g rfl
  have R0 := R
  obtain ⟨c0, c1, f0, row, map, nb⟩ := R
  obtain ⟨q1, q2, q3⟩ := row.cells hi
  obtain ⟨p1, p2, p3⟩ := row.cells hj
  have h1 : (i : Int) < (n : Int) := by omega
  have h2 : (j : Int) < (n : Int) := by omega
  have hs := swI_upd it i j
  rw [hs]
  have e1 : (if (f (it j).id).isSome then m else m + 1) = m := if_pos fj
  have fi2 : (putF f (it j).id (.int .i64 i) (it i).id).isSome = true := by
    unfold putF; split
    · rfl
    · exact fi
  have e2 : (if (putF f (it j).id (.int .i64 i) (it i).id).isSome then m else m + 1) = m := if_pos fi2
  have P1 := fun w R => put_any (b := b) (mb := mb) (g := g) (cap := cap) (n := n) (m := m) (it := it) (f := f) i (it j).id (it j).s (it j).d w R hi hm kj
  have P2 := fun w R => put_any (b := b) (mb := mb) (g := g) (cap := cap) (n := n) (m := m) (it := updI it i (it j)) (f := putF f (it j).id (.int .i64 i)) j (it i).id (it i).s (it i).d w R hj hm ki
  rw [e1] at P1
  rw [e2] at P2
  have hR : ∀ w', Below w.heap.size w w' → Rep w' b mb (.slice (some ⟨g, 0, none⟩) n cap) n it f m := fun w' h => R0.below h
  clear map row nb hgs fi fj fi2 e1 e2 hs R0
  have eta1 : updI it i ⟨(it j).id, (it j).s, (it j).d⟩ = updI it i (it j) := rfl
  have eta2 : updI (updI it i (it j)) j ⟨(it i).id, (it i).s, (it i).d⟩ = updI (updI it i (it j)) j (it i) := rfl
  rw [eta1] at P1
  rw [eta2] at P2
  generalize updI (updI it i (it j)) j (it i) = it2 at *
  generalize updI it i (it j) = it1 at *
  generalize (it i).id = ia at *
  generalize (it i).s = sa at *
  generalize (it i).d = da at *
  generalize (it j).id = ib at *
  generalize (it j).s = sb at *
  generalize (it j).d = db at *
  generalize putF (putF f ib (.int .i64 i)) ia (.int .i64 j) = f2 at *
  generalize putF f ib (.int .i64 i) = f1 at *
  go_enter Tryd.func102, Tryd.ntmps102
  go_wp2
  go_region
  all_goals
    go_wp2_with (go_at_call 93; fail)
    have HB : Below w.heap.size w (((w.alloc (.cells #[.int .i64 ia, .int .i64 sa, .int .i64 da] 135)).alloc (.cells #[.int .i64 ib, .int .i64 sb, .int .i64 db] 135)).drew) := (((Below.refl _ _).alloc (Nat.le_refl _) _).alloc (by simp) _).drew
    have HB2 : Below w.heap.size w (((w.alloc (.cells #[.int .i64 ib, .int .i64 sb, .int .i64 db] 135)).alloc (.cells #[.int .i64 ia, .int .i64 sa, .int .i64 da] 135)).drew) := (((Below.refl _ _).alloc (Nat.le_refl _) _).alloc (by simp) _).drew
    refine (P1 _ (hR _ (by first | exact HB | exact HB2))).mono ?_
    rintro e w1 ⟨rfl, R1, K1⟩
    obtain ⟨k1, k2⟩ := K1.two w.heap.size (by simp) (fun k hk => by omega)
    have KA := (Keep.of_below (F := fun k => k = g ∨ k = mb) (show Below w.heap.size w _ by first | exact HB | exact HB2)).trans K1 (fun _ _ h => h)
    clear K1 HB HB2 hR P1
    go_wp2_with (go_at_call 93; fail)
    refine (P2 _ R1).mono ?_
    rintro e w2 ⟨rfl, R2, K2⟩
    have KB := KA.trans K2 (fun _ _ h => h)
    clear KA K2 R1 P2 k1 k2
    go_wp2
    go_end0
    exact ⟨rfl, R2, KB⟩
end Go.Proofs.YtfhicijgpdpfpaaDoor
