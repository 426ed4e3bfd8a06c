/-
  Texts laid together: Push, Push2.
-/
import Derived.Test.YtmnpplkjhnoglaaGreatDoorP31
/-
  What pushing does.
-/
namespace Go.Proofs.YtmnpplkjhnoglaaGreatDoor
open Go.RowKit

theorem HS.mem {w : World} {b mb n : Nat} {v : Value} {it : Nat → Item} {f : Int → Option Value} {H : Int → Option (Int × Int)} (S : HS w b mb v n it f H) {a : Int} (ha : H a = none) : f a = none := by
  cases e : f a with
  | none => rfl
  | some v =>
    obtain ⟨i, hi, ea, _⟩ := S.atf.of a v e
    exact absurd ea (S.holds.gone ha i hi)

theorem AtF.last {it : Nat → Item} {n : Nat} {f : Int → Option Value} (h : AtF it n f) {x : Item} (hx : f x.id = none) : AtF (updI it n x) (n + 1) (putF f x.id (.int .i64 n)) := by
  refine ⟨fun k hk => ?_, fun a v hv => ?_⟩
  · by_cases e1 : k = n
    · subst e1; rw [updI_i, putF_same]
    · rw [updI_k it x e1, putF_other _ _ (fun e => by rw [← e, h.at' k (by omega)] at hx; cases hx)]
      exact h.at' k (by omega)
  · unfold putF at hv
    split at hv
    · rename_i e; cases hv; exact ⟨n, by omega, by rw [updI_i]; exact e.symm, rfl⟩
    · obtain ⟨k, hk, ea, ev⟩ := h.of a v hv
      exact ⟨k, by omega, by rw [updI_k it x (by omega)]; exact ea, ev⟩

theorem AtF.same {it : Nat → Item} {n i : Nat} {f : Int → Option Value} (h : AtF it n f) (hi : i < n) {x : Item} (hx : (it i).id = x.id) : AtF (updI it i x) n (putF f x.id (.int .i64 i)) := by
  have hp := h.apart
  refine ⟨fun k hk => ?_, fun a v hv => ?_⟩
  · by_cases e1 : k = i
    · subst e1; rw [updI_i, putF_same]
    · rw [updI_k it x e1, putF_other _ _ (fun e => e1 (hp k i hk hi (by rw [hx]; exact e)))]
      exact h.at' k hk
  · unfold putF at hv
    split at hv
    · rename_i e; cases hv; exact ⟨i, hi, by rw [updI_i]; exact e.symm, rfl⟩
    · rename_i e
      obtain ⟨k, hk, ea, ev⟩ := h.of a v hv
      refine ⟨k, hk, ?_, ev⟩
      rw [updI_k it x (fun q => e (by rw [← ea, q, hx]))]
      exact ea

theorem ltB_val {s d t u : Int} (h : okC s d) (k : okC t u) : ltB s d t u = true ↔ val s d < val t u := by
  unfold ltB
  rw [cmpC_val' s d t u h k, decide_eq_true_iff]
  exact cmpI_neg _ _
theorem ltB_false {s d t u : Int} (h : okC s d) (k : okC t u) (hn : ¬ val s d < val t u) : ltB s d t u = false := by
  cases e : ltB s d t u with
  | false => rfl
  | true => exact absurd ((ltB_val h k).mp e) hn

set_option maxHeartbeats 1000000 in
theorem push_no {b mb n : Nat} {v : Value} {H : Int → Option (Int × Int)} (a s d t u : Int) (w : World) (h : HeapAt w b mb v n H) (ha : H a = some (t, u)) (hc : okC s d) (hn : ¬ val s d < val t u) :
    Calls Tryz.prog 129 #[.pointer (some ⟨b, 0, none⟩), .int .i64 a, .agg #[.int .i64 s, .int .i64 d]] w fun e w' => e = .returned (.bool false) ∧ Below w.heap.size w w' := by
  obtain ⟨it, f, S, O⟩ := h.ex
  obtain ⟨i, hi, e⟩ := (S.holds a t u).mp ha
  obtain ⟨g, cap, rfl, _, _, hg⟩ := S.rep.row.pos (by omega)
  obtain ⟨q1, q2, q3⟩ := S.rep.row.cells hi
  have hk := S.ok i hi
  rw [e] at q1 q2 q3 hk
  have hlt := ltB_false hc hk hn
  have c0 := S.rep.c0
  have c1 := S.rep.c1
  have hb := S.rep.blocks.1
  have hwf := S.wf i hi
  rw [e] at hwf
  have hf := S.atf.at' i hi
  rw [e] at hf
  have HB0 : Below w.heap.size w (w.alloc (.cells #[.int .i64 s, .int .i64 d] 65)) := (Below.refl _ w).alloc (Nat.le_refl _) _
  have hl := ((S.rep.below HB0).map).look_some law3 Tryz.under51 (zero3 _) hwf hf true
  have h1 : (i : Int) < (n : Int) := by omega
  have s0 : ∀ x : Since (w.alloc (.cells #[.int .i64 s, .int .i64 d] 65)), x.u.cell? ⟨w.heap.size, 0, none⟩ = some (.int .i64 s) := fun x => (x.cell _ _ (by simp)).trans (World.cell?_alloc_at #[.int .i64 s, .int .i64 d] 65 w.heap.size 0 rfl)
  have s1 : ∀ x : Since (w.alloc (.cells #[.int .i64 s, .int .i64 d] 65)), x.u.cell? ⟨w.heap.size, 1, none⟩ = some (.int .i64 d) := fun x => (x.cell _ _ (by simp)).trans (World.cell?_alloc_at #[.int .i64 s, .int .i64 d] 65 w.heap.size 1 rfl)
  have s2 : ∀ x : Since (w.alloc (.cells #[.int .i64 s, .int .i64 d] 65)), x.u.cell? ⟨b, 0, none⟩ = some (.slice (some ⟨g, 0, none⟩) n cap) := fun x => (x.cell _ _ (by simp; omega)).trans ((HB0.cell (p := ⟨b, 0, none⟩) hb).trans c0)
  have s3 : ∀ x : Since (w.alloc (.cells #[.int .i64 s, .int .i64 d] 65)), x.u.cell? ⟨g, i * 3 + 1, none⟩ = some (.int .i64 t) := fun x => (x.cell _ _ (by simp; omega)).trans ((HB0.cell (p := ⟨g, i * 3 + 1, none⟩) hg).trans q2)
  have s4 : ∀ x : Since (w.alloc (.cells #[.int .i64 s, .int .i64 d] 65)), x.u.cell? ⟨g, i * 3 + 2, none⟩ = some (.int .i64 u) := fun x => (x.cell _ _ (by simp; omega)).trans ((HB0.cell (p := ⟨g, i * 3 + 2, none⟩) hg).trans q3)
  have hne := since_ne (w.alloc (.cells #[.int .i64 s, .int .i64 d] 65))
  clear S O h e ha q1 q2 q3
  go_enter Tryz.func129, Tryz.ntmps129
  go_wp2
  refine wp_region_since (by kernel_rfl) (by kernel_rfl) ?_
  repeat (go_big_quiet_step ((go_at_call 107; exact Calls.since_of (less_v hlt _ hc hk))))
  refine wpQuiet_nil ?_
  rintro _ ⟨x, rfl⟩
  go_wp2
  go_ret
  exact ⟨rfl, HB0.trans (x.h.mono (by simp))⟩
end Go.Proofs.YtmnpplkjhnoglaaGreatDoor
/-
  What pushing does that changes the heap.
-/
namespace Go.Proofs.YtmnpplkjhnoglaaGreatDoor
open Go.RowKit

/-- the blocks of a heap -/
def hb3 (b mb : Nat) (v : Value) (k : Nat) : Prop := k = b ∨ k = mb ∨ v.ownBlock = some k

set_option maxHeartbeats 1000000 in
theorem push_less {b mb n : Nat} {v : Value} {H : Int → Option (Int × Int)} (a s d t u : Int) (w : World) (h : HeapAt w b mb v n H) (ha : H a = some (t, u)) (hc : okC s d) (hn : val s d < val t u) :
    Calls Tryz.prog 129 #[.pointer (some ⟨b, 0, none⟩), .int .i64 a, .agg #[.int .i64 s, .int .i64 d]] w fun e w' => e = .returned (.bool true) ∧ HeapAt w' b mb v n (putH H a s d) ∧ Keep (hb3 b mb v) w w' := by
  obtain ⟨it, f, S, O⟩ := h.ex
  obtain ⟨i, hi, e⟩ := (S.holds a t u).mp ha
  obtain ⟨g, cap, rfl, _, _, hg⟩ := S.rep.row.pos (by omega)
  obtain ⟨q1, q2, q3⟩ := S.rep.row.cells hi
  have hk := S.ok i hi
  have hrise : Rising (updI it i ⟨a, s, d⟩) n i := Rising.less O hi ⟨a, s, d⟩ (by rw [e]; unfold bef Item.v; simp only; omega)
  rw [e] at q1 q2 q3 hk
  have hlt := (ltB_val hc hk).mpr hn
  have c0 := S.rep.c0
  have c1 := S.rep.c1
  have hb := S.rep.blocks.1
  have hwf := S.wf i hi
  rw [e] at hwf
  have hf := S.atf.at' i hi
  rw [e] at hf
  have HB0 : Below w.heap.size w (w.alloc (.cells #[.int .i64 s, .int .i64 d] 65)) := (Below.refl _ w).alloc (Nat.le_refl _) _
  have hl := ((S.rep.below HB0).map).look_some law3 Tryz.under51 (zero3 _) hwf hf true
  have h1 : (i : Int) < (n : Int) := by omega
  have s0 : ∀ x : Since (w.alloc (.cells #[.int .i64 s, .int .i64 d] 65)), x.u.cell? ⟨w.heap.size, 0, none⟩ = some (.int .i64 s) := fun x => (x.cell _ _ (by simp)).trans (World.cell?_alloc_at #[.int .i64 s, .int .i64 d] 65 w.heap.size 0 rfl)
  have s1 : ∀ x : Since (w.alloc (.cells #[.int .i64 s, .int .i64 d] 65)), x.u.cell? ⟨w.heap.size, 1, none⟩ = some (.int .i64 d) := fun x => (x.cell _ _ (by simp)).trans (World.cell?_alloc_at #[.int .i64 s, .int .i64 d] 65 w.heap.size 1 rfl)
  have s2 : ∀ x : Since (w.alloc (.cells #[.int .i64 s, .int .i64 d] 65)), x.u.cell? ⟨b, 0, none⟩ = some (.slice (some ⟨g, 0, none⟩) n cap) := fun x => (x.cell _ _ (by simp; omega)).trans ((HB0.cell (p := ⟨b, 0, none⟩) hb).trans c0)
  have s3 : ∀ x : Since (w.alloc (.cells #[.int .i64 s, .int .i64 d] 65)), x.u.cell? ⟨g, i * 3 + 1, none⟩ = some (.int .i64 t) := fun x => (x.cell _ _ (by simp; omega)).trans ((HB0.cell (p := ⟨g, i * 3 + 1, none⟩) hg).trans q2)
  have s4 : ∀ x : Since (w.alloc (.cells #[.int .i64 s, .int .i64 d] 65)), x.u.cell? ⟨g, i * 3 + 2, none⟩ = some (.int .i64 u) := fun x => (x.cell _ _ (by simp; omega)).trans ((HB0.cell (p := ⟨g, i * 3 + 2, none⟩) hg).trans q3)
  have hne := since_ne (w.alloc (.cells #[.int .i64 s, .int .i64 d] 65))
  have em : (if (f a).isSome then n else n + 1) = n := by rw [hf]; rfl
  have P1 := fun w R => put_any (b := b) (mb := mb) (g := g) (cap := cap) (n := n) (m := n) (it := it) (f := f) i a s d w R hi S.bd hwf
  rw [em] at P1
  have HS2 : ∀ w', Rep w' b mb (.slice (some ⟨g, 0, none⟩) n cap) n (updI it i ⟨a, s, d⟩) (putF f a (.int .i64 i)) n → HS w' b mb (.slice (some ⟨g, 0, none⟩) n cap) n (updI it i ⟨a, s, d⟩) (putF f a (.int .i64 i)) (putH H a s d) := by
    intro w' R
    have ea : (it i).id = a := by rw [e]
    refine ⟨R, S.atf.same hi (x := ⟨a, s, d⟩) ea, fun k hk => ?_, fun k hk => ?_, S.holds.same S.atf.apart hi ea, S.bd⟩
    · by_cases ek : k = i
      · subst ek; rw [updI_i]; exact hwf
      · rw [updI_k it _ ek]; exact S.wf k hk
    · by_cases ek : k = i
      · subst ek; rw [updI_i]; exact hc
      · rw [updI_k it _ ek]; exact S.ok k hk
  have RB : ∀ w', Below w.heap.size w w' → Rep w' b mb (.slice (some ⟨g, 0, none⟩) n cap) n it f n := fun w' h => S.rep.below h
  clear S O h e ha q1 q2 q3 hf em
  go_enter Tryz.func129, Tryz.ntmps129
  go_wp2
  refine wp_region_since (by kernel_rfl) (by kernel_rfl) ?_
  repeat (go_big_quiet_step ((go_at_call 107; exact Calls.since_of (less_v hlt _ hc hk))))
  refine wpQuiet_nil ?_
  rintro _ ⟨x, rfl⟩
  have HB1 : Below w.heap.size w x.u := HB0.trans (x.h.mono (by simp))
  have t0 := s0 x
  have t1 := s1 x
  clear s0 s1 s2 s3 s4 hne
  go_wp2_with fail
  refine (P1 _ (RB _ HB1)).mono ?_
  rintro e w1 ⟨rfl, R1, K1⟩
  have S1 := HS2 _ R1
  go_wp2_with fail
  refine (rise_any _ S1 hrise).mono ?_
  rintro e w2 ⟨rfl, ⟨it', f', S2, O2⟩, K2⟩
  have KK : Keep (hb3 b mb (.slice (some ⟨g, 0, none⟩) n cap)) w w2 := by
    have k1 := (Keep.of_below (F := fun k => k = g ∨ k = mb) HB1).trans K1 (fun _ _ h => h)
    have k2 := k1.trans K2 (fun _ _ h => h)
    refine k2.mono (fun i _ h => ?_)
    rcases h with rfl | rfl
    · exact Or.inr (Or.inr rfl)
    · exact Or.inr (Or.inl rfl)
  clear K1 K2 R1 S1 HB1 HB0 P1 RB HS2
  go_wp2
  go_ret
  exact ⟨rfl, ⟨it', f', S2, O2⟩, KK⟩
end Go.Proofs.YtmnpplkjhnoglaaGreatDoor
