/-
  Proved: for every three costs 'TopCost' returns true and its arguments read afterwards as they read before; no condition.
-/
import Derived.Test.YtmlcollooomioaaTopCostWalk
import Derived.ProofKit
import Derived.Lib.SmallJoins
namespace Go.Proofs.Ytmlcollooomioaa
open Go.ChangeShapes Go.WideShapes Go.ChangeAt Go.RowKit Go.Joins

set_option maxHeartbeats 1000000 in
theorem topCost_bad (s d t u p q : Int) (w : World)
    (hcs : ¬ inC s d ∨ (inC s d ∧ ¬ inC t u) ∨ (inC s d ∧ inC t u ∧ ¬ inC p q)) :
    Calls Try.prog 4 #[.agg #[.int .i64 s, .int .i64 d], .agg #[.int .i64 t, .int .i64 u], .agg #[.int .i64 p, .int .i64 q]] w fun e w' => e = .returned (.bool true) ∧ Below w.heap.size w w' := by
  have l0 : ltB 1 0 0 1 = true := by decide
  have k1 : okC 1 0 := by unfold okC; omega
  have k2 : okC 0 1 := by unfold okC; omega
  rcases hcs with ha | ⟨ha, hb⟩ | ⟨ha, hb, hc⟩
  all_goals
    go_enter Try.func4, Try.ntmps4
    go_wp2_with (first | (go_at_call 12; refine (less_v l0 _ k1 k2).mono ?_; rintro e w1 ⟨rfl, hb1⟩; have hz1 := hb1.size; simp at hz1; have HB := (hb0 _ _ _ _).trans (hb1.mono (by simp; omega)); obtain ⟨c1a, c1b, c1c⟩ := bcell3 hb1 w.heap.size (by simp)) | (go_at_call 8; refine (check_ok _ _ _ ?_).mono ?_; assumption; rintro e w4 ⟨rfl, hb4⟩; have hz4 := hb4.size; have HB := HB.trans (hb4.mono (by omega)); obtain ⟨c4a, c4b, c4c⟩ := bcell3 hb4 w.heap.size (by omega)) | (go_at_call 8; refine (check_bad _ _ _ ?_).mono ?_; assumption; rintro e w4 ⟨rfl, hb4⟩; have hz4 := hb4.size; have HB := HB.trans (hb4.mono (by omega)); obtain ⟨c4a, c4b, c4c⟩ := bcell3 hb4 w.heap.size (by omega)))
    go_ret
    exact ⟨rfl, HB⟩

theorem ltB_val (s d t u : Int) (h : okC s d) (k : okC t u) : ltB s d t u = decide (val s d < val t u) := by
  unfold ltB; rw [cmpC_val' s d t u h k]; exact decide_eq_decide.mpr (cmpI_neg _ _)

theorem topCost_any (s d t u p q : Int) (w : World) :
    Calls Try.prog 4 #[.agg #[.int .i64 s, .int .i64 d], .agg #[.int .i64 t, .int .i64 u], .agg #[.int .i64 p, .int .i64 q]] w fun e w' => e = .returned (.bool true) ∧ Below w.heap.size w w' := by
  by_cases ha : inC s d
  · by_cases hb : inC t u
    · by_cases hc : inC p q
      · refine topCost_ok s d t u p q w ha hb hc ?_
        have oa := inC_ok ha
        have ob := inC_ok hb
        have oc := inC_ok hc
        have hsum : cmpC (s + p) (d + q) (t + p) (u + q) = cmpC s d t u := by
          unfold cmpC
          rw [show s + p - (t + p) = s - t from by omega, show u + q - (d + q) = u - d from by omega]
        rw [hsum, ltB_val s d t u oa ob, ltB_val t u s d ob oa, ltB_val t u p q ob oc, ltB_val s d p q oa oc, cmpC_val' s d t u oa ob, cmpC_val' t u s d ob oa]
        rcases Int.lt_trichotomy (val s d) (val t u) with h | h | h
        · left
          refine ⟨by simp [h], by simp; omega, by unfold cmpI; rw [if_pos h], by unfold cmpI; rw [if_neg (by omega), if_pos h], by unfold cmpI; rw [if_pos h], ?_, ?_⟩
          · by_cases e : s = t
            · right
              refine ⟨e, fun e2 => ?_⟩
              subst e; subst e2; omega
            · left; exact e
          · by_cases g : val t u < val p q
            · left; simp [g]; omega
            · right; simp [g]
        · right; right
          unfold okC at oa ob
          obtain ⟨e1, e2⟩ := val_inj s d t u (by omega) (by omega) h
          subst e1; subst e2
          refine ⟨rfl, rfl, ?_, ?_, ?_⟩
          · unfold ltB cmpC; simp [cmpI, sqs]
          · unfold cmpC; simp [cmpI, sqs]
          · unfold cmpC; simp [cmpI, sqs]
        · right; left
          refine ⟨by simp; omega, by unfold cmpI; rw [if_neg (by omega), if_pos h], by unfold cmpI; rw [if_pos h], by unfold cmpI; rw [if_neg (by omega), if_pos h], ?_⟩
          by_cases e : s = t
          · right
            refine ⟨e, fun e2 => ?_⟩
            subst e; subst e2; omega
          · left; exact e
      · exact topCost_bad s d t u p q w (.inr (.inr ⟨ha, hb, hc⟩))
    · exact topCost_bad s d t u p q w (.inr (.inl ⟨ha, hb⟩))
  · exact topCost_bad s d t u p q w (.inl ha)

theorem Try.own : ownKnob Try.prog.godebug = none := by kernel_rfl
theorem Try.cells23 : Try.prog.cellsOf 23 = 2 := by kernel_rfl

set_option maxRecDepth 100000 in
theorem topCost_lifted (os : Os) (started : os.Started) (H : Type) (enc : TypeId × Value → H) :
    ReturnsInHanded {} Try.checked os 4 .any (Rows.topCostSpec.pre6 enc Try.prog Try.f4 Rows.topCostRow.domain false) (Rows.topCostSpec.post enc Try.prog Try.f4 false true false false) := by
  refine returnsInHanded_of_change (C := Try.checked) Try.own started (by kernel_rfl) Try.func4
    (ChangeSpec.witness6 (enc := enc) (C := Try.checked) false ⟨#[], #[.agg #[.int .i64 0, .int .i64 0], .agg #[.int .i64 0, .int .i64 0], .agg #[.int .i64 0, .int .i64 0]], []⟩ 8 (by kernel_rfl) (by kernel_rfl) (by kernel_rfl) (by kernel_rfl)) ?_
  intro W base args ds gs before hval0 hW hcnd _
  have hval : ∀ (j : Nat) t v, Try.f4.params[j]? = some t → args[j]? = some v → Value.okWide Try.prog W .any base t v := hval0
  have hW' := hW
  obtain ⟨p, q, hA0, hV, rfl, hfz, hnd⟩ := hW
  have hA : DataW.TrodAll enc Try.prog W 0 (fun _ => true) true Try.f4.params.toList args.toList ds p := hA0
  rw [Try.params4] at hA hval
  obtain ⟨v0, v1, v2, d0, d1, d2, p0, p1, p2, rfl, rfl, rfl, h0, h1, h2⟩ := trodAll_three hA
  obtain ⟨rfl, rfl⟩ := trodVars_none hV
  obtain ⟨c0, c1, y0, y1, m, rfl, rfl, rfl, hy0, hy1⟩ := open_agg2 Try.underlying23 (by kernel_rfl) Try.cells23 (hval 0 23 v0 rfl rfl) h0
  obtain ⟨a, e0, rfl, wa⟩ := DataW.trod_int Try.underlying3 hy0
  obtain ⟨b, e1, rfl, wb⟩ := DataW.trod_int Try.underlying3 hy1
  obtain ⟨c2, c3, y2, y3, m2, rfl, rfl, rfl, hy2, hy3⟩ := open_agg2 Try.underlying23 (by kernel_rfl) Try.cells23 (hval 1 23 v1 rfl rfl) h1
  obtain ⟨c, e2, rfl, wc⟩ := DataW.trod_int Try.underlying3 hy2
  obtain ⟨d, e3, rfl, wd⟩ := DataW.trod_int Try.underlying3 hy3
  obtain ⟨c4, c5, y4, y5, m4, rfl, rfl, rfl, hy4, hy5⟩ := open_agg2 Try.underlying23 (by kernel_rfl) Try.cells23 (hval 2 23 v2 rfl rfl) h2
  obtain ⟨f, e4, rfl, wf⟩ := DataW.trod_int Try.underlying3 hy4
  obtain ⟨g, e5, rfl, wg⟩ := DataW.trod_int Try.underlying3 hy5
  simp at e0 e1 e2 e3 e4 e5
  subst e0 e1 e2 e3 e4 e5
  clear hA0 hval0
  simp only [List.append_nil] at hW'
  have reads : ∀ (W' : World) (sp : Nat → Bool) (a b : Int), (Lit.int .i64 a).wf = true → (Lit.int .i64 b).wf = true → DataW.Trod enc Try.prog W' 0 sp true 23 (.agg #[.int .i64 a, .int .i64 b]) (.agg [.lit (.int .i64 a), .lit (.int .i64 b)]) [] := fun W' sp a b wa wb =>
    shut_agg2 (y0 := (.lit (.int .i64 a), [])) (y1 := (.lit (.int .i64 b), [])) Try.underlying23 (by kernel_rfl) Try.cells23 ⟨1, by simp [DataW.trod, Try.underlying3, wa]⟩ ⟨1, by simp [DataW.trod, Try.underlying3, wb]⟩
  refine (topCost_any a b c d f g W).mono fun e W' ⟨he, hg⟩ => ?_
  subst he
  exact ⟨_, rfl, _, _, _, [], [], [], hW', trodAll_mk1 (shut_bool Try.underlying4 _), trodAll_mk3 (reads _ _ a b wa wb) (reads _ _ c d wc wd) (reads _ _ f g wf wg), rfl, hg.frame _, fun h => by cases h⟩

theorem topCost_holds : Rows.TopCostSaid :=
  OpenClaim.holds_of_wide 4 Try.f4 rfl rfl rfl rfl rfl rfl rfl ⟨rfl, rfl, rfl, rfl, rfl⟩ rfl rfl rfl rfl rfl (by kernel_rfl) Try.func4 (by kernel_rfl)
    (of_decide_eq_true (by kernel_rfl)) (by unfold Func.isWrapper; first | (rw [if_pos (by decide +kernel)]; kernel_rfl) | (rw [if_neg (by decide +kernel)]; exact ⟨rfl, rfl⟩))
    (fun os started H enc _ => topCost_lifted os started H enc)

#print axioms topCost_holds
end Go.Proofs.Ytmlcollooomioaa
