/-
  What pushing does.
-/
import Derived.Test.YtfhicijgpdpfpaaDoorHeap
namespace Go.Proofs.YtfhicijgpdpfpaaDoor
open Go.RowKit

theorem HS.mem {w : World} {b mb n : Nat} {v : Value} {it : Nat → Item} {f : Int → Option Value} {H : Int → Option (Int × Int)} (S : HS w b mb v n it f H) {a : Int} (ha : H a = none) : f a = none := by
  cases e : f a with
  | none => rfl
  | some v =>
    obtain ⟨i, hi, ea, _⟩ := S.atf.of a v e
    exact absurd ea (S.holds.gone ha i hi)

theorem AtF.last {it : Nat → Item} {n : Nat} {f : Int → Option Value} (h : AtF it n f) {x : Item} (hx : f x.id = none) : AtF (updI it n x) (n + 1) (putF f x.id (.int .i64 n)) := by
  refine ⟨fun k hk => ?_, fun a v hv => ?_⟩
  · by_cases e1 : k = n
    · subst e1; rw [updI_i, putF_same]
    · rw [updI_k it x e1, putF_other _ _ (fun e => by rw [← e, h.at' k (by omega)] at hx; cases hx)]
      exact h.at' k (by omega)
  · unfold putF at hv
    split at hv
    · rename_i e; cases hv; exact ⟨n, by omega, by rw [updI_i]; exact e.symm, rfl⟩
    · obtain ⟨k, hk, ea, ev⟩ := h.of a v hv
      exact ⟨k, by omega, by rw [updI_k it x (by omega)]; exact ea, ev⟩

theorem AtF.same {it : Nat → Item} {n i : Nat} {f : Int → Option Value} (h : AtF it n f) (hi : i < n) {x : Item} (hx : (it i).id = x.id) : AtF (updI it i x) n (putF f x.id (.int .i64 i)) := by
  have hp := h.apart
  refine ⟨fun k hk => ?_, fun a v hv => ?_⟩
  · by_cases e1 : k = i
    · subst e1; rw [updI_i, putF_same]
    · rw [updI_k it x e1, putF_other _ _ (fun e => e1 (hp k i hk hi (by rw [hx]; exact e)))]
      exact h.at' k hk
  · unfold putF at hv
    split at hv
    · rename_i e; cases hv; exact ⟨i, hi, by rw [updI_i]; exact e.symm, rfl⟩
    · rename_i e
      obtain ⟨k, hk, ea, ev⟩ := h.of a v hv
      refine ⟨k, hk, ?_, ev⟩
      rw [updI_k it x (fun q => e (by rw [← ea, q, hx]))]
      exact ea

theorem ltB_val {s d t u : Int} (h : okC s d) (k : okC t u) : ltB s d t u = true ↔ val s d < val t u := by
  unfold ltB
  rw [cmpC_val' s d t u h k, decide_eq_true_iff]
  exact cmpI_neg _ _
theorem ltB_false {s d t u : Int} (h : okC s d) (k : okC t u) (hn : ¬ val s d < val t u) : ltB s d t u = false := by
  cases e : ltB s d t u with
  | false => rfl
  | true => exact absurd ((ltB_val h k).mp e) hn

set_option maxHeartbeats 1000000 in
theorem push_no {b mb n : Nat} {v : Value} {H : Int → Option (Int × Int)} (a s d t u : Int) (w : World) (h : HeapAt w b mb v n H) (ha : H a = some (t, u)) (hc : okC s d) (hn : ¬ val s d < val t u) :
    Calls Tryd.prog 80 #[.pointer (some ⟨b, 0, none⟩), .int .i64 a, .agg #[.int .i64 s, .int .i64 d]] w fun e w' => e = .returned (.bool false) ∧ Below w.heap.size w w' := by
  obtain ⟨it, f, S, O⟩ := h.ex
  obtain ⟨i, hi, e⟩ := (S.holds a t u).mp ha
  obtain ⟨g, cap, rfl, _, _, hg⟩ := S.rep.row.pos (by omega)
  obtain ⟨q1, q2, q3⟩ := S.rep.row.cells hi
  have hk := S.ok i hi
  rw [e] at q1 q2 q3 hk
  have hlt := ltB_false hc hk hn
  have c0 := S.rep.c0
  have c1 := S.rep.c1
  have hb := S.rep.blocks.1
  have hwf := S.wf i hi
  rw [e] at hwf
  have hf := S.atf.at' i hi
  rw [e] at hf
  have HB0 : Below w.heap.size w (w.alloc (.cells #[.int .i64 s, .int .i64 d] 31)) := (Below.refl _ w).alloc (Nat.le_refl _) _
  have hl := ((S.rep.below HB0).map).look_some law3 Tryd.under51 (zero3 _) hwf hf true
  have h1 : (i : Int) < (n : Int) := by omega
  have s0 : ∀ x : Since (w.alloc (.cells #[.int .i64 s, .int .i64 d] 31)), x.u.cell? ⟨w.heap.size, 0, none⟩ = some (.int .i64 s) := fun x => (x.cell _ _ (by simp)).trans (World.cell?_alloc_at #[.int .i64 s, .int .i64 d] 31 w.heap.size 0 rfl)
  have s1 : ∀ x : Since (w.alloc (.cells #[.int .i64 s, .int .i64 d] 31)), x.u.cell? ⟨w.heap.size, 1, none⟩ = some (.int .i64 d) := fun x => (x.cell _ _ (by simp)).trans (World.cell?_alloc_at #[.int .i64 s, .int .i64 d] 31 w.heap.size 1 rfl)
  have s2 : ∀ x : Since (w.alloc (.cells #[.int .i64 s, .int .i64 d] 31)), x.u.cell? ⟨b, 0, none⟩ = some (.slice (some ⟨g, 0, none⟩) n cap) := fun x => (x.cell _ _ (by simp; omega)).trans ((HB0.cell (p := ⟨b, 0, none⟩) hb).trans c0)
  have s3 : ∀ x : Since (w.alloc (.cells #[.int .i64 s, .int .i64 d] 31)), x.u.cell? ⟨g, i * 3 + 1, none⟩ = some (.int .i64 t) := fun x => (x.cell _ _ (by simp; omega)).trans ((HB0.cell (p := ⟨g, i * 3 + 1, none⟩) hg).trans q2)
  have s4 : ∀ x : Since (w.alloc (.cells #[.int .i64 s, .int .i64 d] 31)), x.u.cell? ⟨g, i * 3 + 2, none⟩ = some (.int .i64 u) := fun x => (x.cell _ _ (by simp; omega)).trans ((HB0.cell (p := ⟨g, i * 3 + 2, none⟩) hg).trans q3)
  have hne := since_ne (w.alloc (.cells #[.int .i64 s, .int .i64 d] 31))
  clear S O h e ha q1 q2 q3
  go_enter Tryd.func80, Tryd.ntmps80
  go_wp2
  refine wp_region_since (by kernel_rfl) (by kernel_rfl) ?_
  repeat (go_big_quiet_step ((go_at_call 92; exact Calls.since_of (less_v hlt _ hc hk))))
  refine wpQuiet_nil ?_
  rintro _ ⟨x, rfl⟩
  go_wp2
  go_ret
  exact ⟨rfl, HB0.trans (x.h.mono (by simp))⟩
end Go.Proofs.YtfhicijgpdpfpaaDoor
