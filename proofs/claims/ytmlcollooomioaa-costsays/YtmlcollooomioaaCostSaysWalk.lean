/-
  The walk of 'CostSays': it returns true for every two costs and two places.
-/
import Derived.Test.YtmlcollooomioaaRef
namespace Go.Proofs.Ytmlcollooomioaa
open Go.RowKit

theorem bcell2 {W w1 : World} (hb : Below W.heap.size W w1) (n : Nat) (h : n + 2 ≤ W.heap.size) :
    (∀ o, w1.cell? ⟨n, o, none⟩ = W.cell? ⟨n, o, none⟩) ∧ (∀ o, w1.cell? ⟨n + 1, o, none⟩ = W.cell? ⟨n + 1, o, none⟩) :=
  ⟨fun o => hb.cell (p := ⟨n, o, none⟩) (by show n < _; omega), fun o => hb.cell (p := ⟨n + 1, o, none⟩) (by show n + 1 < _; omega)⟩
theorem scell2 (W : World) (n : Nat) (h : n + 2 ≤ W.heap.size) :
    (∀ (x : Since W) o, x.u.cell? ⟨n, o, none⟩ = W.cell? ⟨n, o, none⟩) ∧ (∀ (x : Since W) o, x.u.cell? ⟨n + 1, o, none⟩ = W.cell? ⟨n + 1, o, none⟩) ∧ Nonempty (Since W) :=
  ⟨fun x => (bcell2 x.h n h).1, fun x => (bcell2 x.h n h).2, since_ne W⟩

theorem oct_v {x y t u S D : Int} (hS : dst (dst x t) (dst y u) = S) (hD : les (dst x t) (dst y u) = D) (w : World) (hx : nearB x) (hy : nearB y) (ht : nearB t) (hu : nearB u) :
    Calls Try.prog 15 #[.int .i64 x, .int .i64 y, .int .i64 t, .int .i64 u] w fun e w' => e = .returned (.agg #[.int .i64 S, .int .i64 D]) ∧ Below w.heap.size w w' := hS ▸ hD ▸ oct_any x y t u w hx hy ht hu

set_option maxHeartbeats 400000 in
theorem costs_any (w : World) :
    Calls Try.prog 6 #[] w fun e w' => e = .returned (.bool true) ∧ Below w.heap.size w w' := by
  have l1 : ltB 7 0 0 5 = true := by decide
  have l2 : ltB 0 5 8 0 = true := by decide
  have o1 : dst (dst 0 3) (dst 0 (-5)) = 2 := by decide
  have o2 : les (dst 0 3) (dst 0 (-5)) = 3 := by decide
  have n0 : nearB 0 := by unfold nearB; omega
  have n1 : nearB 3 := by unfold nearB; omega
  have n2 : nearB (-5) := by unfold nearB; omega
  have k1 : okC 7 0 := by unfold okC; omega
  have k2 : okC 0 5 := by unfold okC; omega
  have k3 : okC 8 0 := by unfold okC; omega
  go_enter Try.func6, Try.ntmps6
  go_wp2_with (first | (go_at_call 12; (fail_if_success have := m1); refine (less_v l1 _ k1 k2).mono ?_; rintro e wa ⟨rfl, hba⟩; have m1 := trivial; have hza := hba.size) | (go_at_call 12; refine (less_v l2 _ k2 k3).mono ?_; rintro e wb ⟨rfl, hbb⟩; have hzb := hbb.size) | (go_at_call 15; refine (oct_v o1 o2 _ n0 n0 n1 n2).mono ?_; rintro e wc ⟨rfl, hbc⟩))
  go_ret
  exact ⟨rfl, (hba.trans (hbb.mono (by omega))).trans (hbc.mono (by omega))⟩

/-- what 'Check' answers -/
def chk (s d : Int) : Value := @ite Value (inC s d) (inC_dec s d) .nilIface (.iface 38 (.int .i64 1))
theorem check_v {s d : Int} {r : Value} (hr : chk s d = r) (w : World) :
    Calls Try.prog 8 #[.agg #[.int .i64 s, .int .i64 d]] w fun e w' => e = .returned r ∧ Below w.heap.size w w' := by
  subst hr
  unfold chk
  by_cases h : inC s d
  · rw [if_pos h]; exact check_ok s d w h
  · rw [if_neg h]; exact check_bad s d w h
theorem same_v {v : Value} {n : Int} (h : (v = .nilIface ∧ n = 0) ∨ (v = .iface 38 (.int .i64 1) ∧ n = 1)) (w : World) :
    Calls Try.prog 7 #[v, .int .i64 n] w fun e w' => e = .returned (.bool true) ∧ w' = w := by
  rcases h with ⟨rfl, rfl⟩ | ⟨rfl, rfl⟩
  · exact same_nil w
  · exact same_one w
theorem rcmp_v {s d t u r : Int} (hr : cmpC s d t u = r) (w : World) (h : okC s d) (k : okC t u) :
    Calls Try.prog 10 #[.agg #[.int .i64 s, .int .i64 d], .agg #[.int .i64 t, .int .i64 u]] w fun e w' => e = .returned (.int .i64 r) ∧ Below w.heap.size w w' := hr ▸ rcmp_any s d t u w h k
theorem rOct_v {x y t u S D : Int} (hS : dst (dst x t) (dst y u) = S) (hD : les (dst x t) (dst y u) = D) (w : World) (hx : nearB x) (hy : nearB y) (ht : nearB t) (hu : nearB u) :
    Calls Try.prog 16 #[.int .i64 x, .int .i64 y, .int .i64 t, .int .i64 u] w fun e w' => e = .returned (.agg #[.int .i64 S, .int .i64 D]) ∧ Below w.heap.size w w' := hS ▸ hD ▸ rOct_any x y t u w hx hy ht hu

theorem hb2 (w : World) (A B : Obj) : Below w.heap.size w ((w.alloc A).alloc B) :=
  ((Below.refl _ _).alloc (Nat.le_refl _) _).alloc (by simp) _

set_option maxHeartbeats 2000000 in
theorem costSays_ok (s d t u x y p q : Int) (w : World) (oa : okC s d) (ob : okC t u)
    (ca : chk s d = .nilIface) (fa : flt s d = 0) (cb : chk t u = .nilIface) (fb : flt t u = 0)
    (hcs : (ltB s d t u = true ∧ cmpC s d t u = -1) ∨ (ltB s d t u = false ∧ cmpC s d t u = 0) ∨ (ltB s d t u = false ∧ cmpC s d t u = 1)) :
    Calls Try.prog 3 #[.agg #[.int .i64 s, .int .i64 d], .agg #[.int .i64 t, .int .i64 u], .int .i64 x, .int .i64 y, .int .i64 p, .int .i64 q] w fun e w' => e = .returned (.bool true) ∧ Below w.heap.size w w' := by
  rcases hcs with ⟨hl, hk⟩ | ⟨hl, hk⟩ | ⟨hl, hk⟩
  all_goals
    go_enter Try.func3, Try.ntmps3
    go_wp2_with (go_at_call 6; refine (costs_any _).mono ?_; rintro e w1 ⟨rfl, hb1⟩; have hz1 := hb1.size; simp at hz1; have HB := (hb2 _ _ _).trans (hb1.mono (by simp; omega)); obtain ⟨c1a, c1b⟩ := bcell2 hb1 w.heap.size (by simp))
    obtain ⟨S1, S2, hne⟩ := scell2 w1 w.heap.size (by omega)
    refine wp_region_since (by kernel_rfl) (by kernel_rfl) ?_
    repeat (go_big_quiet_step (first | (go_at_call 8; exact Calls.since_of (check_v (by assumption) _)) | (go_at_call 9; exact Calls.since_of (fault_v (by assumption) _)) | (go_at_call 7; exact Calls.since_same (same_v (by first | exact .inl ⟨rfl, rfl⟩ | exact .inr ⟨rfl, rfl⟩) _))))
    refine wpQuiet_nil ?_
    rintro w2 ⟨⟨_, hb2⟩, rfl⟩
    have hz2 := hb2.size
    have HB := HB.trans (hb2.mono (by omega))
    obtain ⟨c2a, c2b⟩ := bcell2 hb2 w.heap.size (by omega)
    clear S1 S2 hne
    go_wp2
    obtain ⟨S1, S2, hne⟩ := scell2 w2 w.heap.size (by omega)
    refine wp_region_since (by kernel_rfl) (by kernel_rfl) ?_
    repeat (go_big_quiet_step ((go_at_call 9; exact Calls.since_of (fault_v (by assumption) _))))
    refine wpQuiet_nil ?_
    rintro w3 ⟨⟨_, hb3⟩, rfl⟩
    have hz3 := hb3.size
    have HB := HB.trans (hb3.mono (by omega))
    obtain ⟨c3a, c3b⟩ := bcell2 hb3 w.heap.size (by omega)
    clear S1 S2 hne
    go_wp2_with (go_at_call 10; refine (rcmp_v (by assumption) _ (by assumption) (by assumption)).mono ?_; rintro e w4 ⟨rfl, hb4⟩; have hz4 := hb4.size; have HB := HB.trans (hb4.mono (by omega)); obtain ⟨c4a, c4b⟩ := bcell2 hb4 w.heap.size (by omega))
    obtain ⟨S1, S2, hne⟩ := scell2 w4 w.heap.size (by omega)
    refine wp_region_since (by kernel_rfl) (by kernel_rfl) ?_
    repeat (go_big_quiet_step (first | (go_at_call 11; exact Calls.since_of (compare_v (by assumption) _ (by assumption) (by assumption))) | (go_at_call 12; exact Calls.since_of (less_v (by assumption) _ (by assumption) (by assumption))) | (go_at_call 13; exact Calls.since_of (add_any _ _ _ _ _ (by assumption) (by assumption))) | (go_at_call 14; exact Calls.since_of (plus_any _ _ _ _ _ (by assumption) (by assumption)))))
    refine wpQuiet_nil ?_
    rintro w5 ⟨⟨_, hb5⟩, rfl⟩
    have hz5 := hb5.size
    have HB := HB.trans (hb5.mono (by omega))
    clear S1 S2 hne
    go_wp2
    go_loop [73] (fun i => ∃ k : Nat, k ≤ 4 ∧ i = .int .i64 k ∧ ∀ j, j < k → nearB ([x, y, p, q].getD j 0)) (fun i => 4 - (intOf i).toNat)
    case atStart => exact ⟨0, by omega, rfl, fun j hj => absurd hj (Nat.not_lt_zero j)⟩
    case round =>
      obtain ⟨k, hk, rfl, hr⟩ := hrel
      have HB : Below w.heap.size w (w5.alloc (.cells #[.int .i64 x, .int .i64 y, .int .i64 p, .int .i64 q] 3)) := HB.alloc (by omega) _
      have hks : k = 0 ∨ k = 1 ∨ k = 2 ∨ k = 3 ∨ k = 4 := by omega
      rcases hks with rfl | rfl | rfl | rfl | rfl
      rotate_left 4
      · have rx : nearB x := hr 0 (by omega)
        have ry : nearB y := hr 1 (by omega)
        have rp : nearB p := hr 2 (by omega)
        have rq : nearB q := hr 3 (by omega)
        clear hr hk
        obtain ⟨S, hS⟩ : ∃ S, dst (dst x p) (dst y q) = S := ⟨_, rfl⟩
        obtain ⟨D, hD⟩ : ∃ D, les (dst x p) (dst y q) = D := ⟨_, rfl⟩
        go_wp2_with (first | (go_at_call 15; refine (oct_v (by assumption) (by assumption) _ (by assumption) (by assumption) (by assumption) (by assumption)).mono ?_; rintro e wa ⟨rfl, hba⟩; have hza := hba.size; simp at hza; have HBa := HB.trans (hba.mono (by simp; omega))) | (go_at_call 16; refine (rOct_v (by assumption) (by assumption) _ (by assumption) (by assumption) (by assumption) (by assumption)).mono ?_; rintro e wb ⟨rfl, hbb⟩; have HBb := HBa.trans (hbb.mono (by omega))))
        go_ret
        exact ⟨rfl, HBb⟩
      all_goals
        go_wp2
        all_goals first | (go_ret; exact ⟨rfl, HB⟩) | skip
        go_round
        case rel =>
          refine ⟨_, ?_, rfl, ?_⟩
          · decide
          · intro j hj
            rcases Nat.lt_succ_iff_lt_or_eq.mp hj with h | rfl
            · exact hr j h
            · simp only [List.getD_cons_zero, List.getD_cons_succ]; unfold nearB; constructor <;> omega
        case measure => simp [intOf]

set_option maxHeartbeats 2000000 in
theorem costSays_bad (s d t u x y p q : Int) (w : World)
    (hcs : (chk s d = .iface 38 (.int .i64 1) ∧ flt s d = 1 ∧ chk t u = .iface 38 (.int .i64 1) ∧ flt t u = 1) ∨ (chk s d = .iface 38 (.int .i64 1) ∧ flt s d = 1 ∧ chk t u = .nilIface ∧ flt t u = 0)
      ∨ (chk s d = .nilIface ∧ flt s d = 0 ∧ chk t u = .iface 38 (.int .i64 1) ∧ flt t u = 1)) :
    Calls Try.prog 3 #[.agg #[.int .i64 s, .int .i64 d], .agg #[.int .i64 t, .int .i64 u], .int .i64 x, .int .i64 y, .int .i64 p, .int .i64 q] w fun e w' => e = .returned (.bool true) ∧ Below w.heap.size w w' := by
  rcases hcs with ⟨ca, fa, cb, fb⟩ | ⟨ca, fa, cb, fb⟩ | ⟨ca, fa, cb, fb⟩
  all_goals
    go_enter Try.func3, Try.ntmps3
    go_wp2_with (go_at_call 6; refine (costs_any _).mono ?_; rintro e w1 ⟨rfl, hb1⟩; have hz1 := hb1.size; simp at hz1; have HB := (hb2 _ _ _).trans (hb1.mono (by simp; omega)); obtain ⟨c1a, c1b⟩ := bcell2 hb1 w.heap.size (by simp))
    obtain ⟨S1, S2, hne⟩ := scell2 w1 w.heap.size (by omega)
    refine wp_region_since (by kernel_rfl) (by kernel_rfl) ?_
    repeat (go_big_quiet_step (first | (go_at_call 8; exact Calls.since_of (check_v (by assumption) _)) | (go_at_call 9; exact Calls.since_of (fault_v (by assumption) _)) | (go_at_call 7; exact Calls.since_same (same_v (by first | exact .inl ⟨rfl, rfl⟩ | exact .inr ⟨rfl, rfl⟩) _))))
    refine wpQuiet_nil ?_
    rintro w2 ⟨⟨_, hb2⟩, rfl⟩
    have hz2 := hb2.size
    have HB := HB.trans (hb2.mono (by omega))
    obtain ⟨c2a, c2b⟩ := bcell2 hb2 w.heap.size (by omega)
    clear S1 S2 hne
    go_wp2
    obtain ⟨S1, S2, hne⟩ := scell2 w2 w.heap.size (by omega)
    refine wp_region_since (by kernel_rfl) (by kernel_rfl) ?_
    repeat (go_big_quiet_step ((go_at_call 9; exact Calls.since_of (fault_v (by assumption) _))))
    refine wpQuiet_nil ?_
    rintro w5 ⟨⟨_, hb5⟩, rfl⟩
    have hz5 := hb5.size
    have HB := HB.trans (hb5.mono (by omega))
    clear S1 S2 hne
    go_wp2
    go_loop [73] (fun i => ∃ k : Nat, k ≤ 4 ∧ i = .int .i64 k ∧ ∀ j, j < k → nearB ([x, y, p, q].getD j 0)) (fun i => 4 - (intOf i).toNat)
    case atStart => exact ⟨0, by omega, rfl, fun j hj => absurd hj (Nat.not_lt_zero j)⟩
    case round =>
      obtain ⟨k, hk, rfl, hr⟩ := hrel
      have HB : Below w.heap.size w (w5.alloc (.cells #[.int .i64 x, .int .i64 y, .int .i64 p, .int .i64 q] 3)) := HB.alloc (by omega) _
      have hks : k = 0 ∨ k = 1 ∨ k = 2 ∨ k = 3 ∨ k = 4 := by omega
      rcases hks with rfl | rfl | rfl | rfl | rfl
      rotate_left 4
      · have rx : nearB x := hr 0 (by omega)
        have ry : nearB y := hr 1 (by omega)
        have rp : nearB p := hr 2 (by omega)
        have rq : nearB q := hr 3 (by omega)
        clear hr hk
        obtain ⟨S, hS⟩ : ∃ S, dst (dst x p) (dst y q) = S := ⟨_, rfl⟩
        obtain ⟨D, hD⟩ : ∃ D, les (dst x p) (dst y q) = D := ⟨_, rfl⟩
        go_wp2_with (first | (go_at_call 15; refine (oct_v (by assumption) (by assumption) _ (by assumption) (by assumption) (by assumption) (by assumption)).mono ?_; rintro e wa ⟨rfl, hba⟩; have hza := hba.size; simp at hza; have HBa := HB.trans (hba.mono (by simp; omega))) | (go_at_call 16; refine (rOct_v (by assumption) (by assumption) _ (by assumption) (by assumption) (by assumption) (by assumption)).mono ?_; rintro e wb ⟨rfl, hbb⟩; have HBb := HBa.trans (hbb.mono (by omega))))
        go_ret
        exact ⟨rfl, HBb⟩
      all_goals
        go_wp2
        all_goals first | (go_ret; exact ⟨rfl, HB⟩) | skip
        go_round
        case rel =>
          refine ⟨_, ?_, rfl, ?_⟩
          · decide
          · intro j hj
            rcases Nat.lt_succ_iff_lt_or_eq.mp hj with h | rfl
            · exact hr j h
            · simp only [List.getD_cons_zero, List.getD_cons_succ]; unfold nearB; constructor <;> omega
        case measure => simp [intOf]

theorem costSays_any (s d t u x y p q : Int) (w : World) :
    Calls Try.prog 3 #[.agg #[.int .i64 s, .int .i64 d], .agg #[.int .i64 t, .int .i64 u], .int .i64 x, .int .i64 y, .int .i64 p, .int .i64 q] w fun e w' => e = .returned (.bool true) ∧ Below w.heap.size w w' := by
  by_cases ha : inC s d <;> by_cases hb : inC t u
  · refine costSays_ok s d t u x y p q w (inC_ok ha) (inC_ok hb) (by unfold chk; rw [if_pos ha]) (by unfold flt; rw [if_pos ha]) (by unfold chk; rw [if_pos hb]) (by unfold flt; rw [if_pos hb]) ?_
    have hk : cmpC s d t u = -1 ∨ cmpC s d t u = 0 ∨ cmpC s d t u = 1 := cmpI_cases _ _
    unfold ltB
    rcases hk with hk | hk | hk <;> simp [hk]
  · exact costSays_bad s d t u x y p q w (.inr (.inr ⟨by unfold chk; rw [if_pos ha], by unfold flt; rw [if_pos ha], by unfold chk; rw [if_neg hb], by unfold flt; rw [if_neg hb]⟩))
  · exact costSays_bad s d t u x y p q w (.inr (.inl ⟨by unfold chk; rw [if_neg ha], by unfold flt; rw [if_neg ha], by unfold chk; rw [if_pos hb], by unfold flt; rw [if_pos hb]⟩))
  · exact costSays_bad s d t u x y p q w (.inl ⟨by unfold chk; rw [if_neg ha], by unfold flt; rw [if_neg ha], by unfold chk; rw [if_neg hb], by unfold flt; rw [if_neg hb]⟩)
end Go.Proofs.Ytmlcollooomioaa
