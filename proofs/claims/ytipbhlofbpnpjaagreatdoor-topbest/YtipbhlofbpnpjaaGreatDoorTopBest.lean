/-
  Proved: for every plot, every number of levels and all asks 'TopBest' returns true and its arguments read afterwards as they read before. The listed variables (tables of strconv and math/bits, strconv's two errors, the tables of steps and of directions) read as the program's text lays them, which the given tie pays; no other condition. The tie speaks of the pruned copy of the project that the seat holds.
-/
import Derived.Test.YtipbhlofbpnpjaaGreatDoorTbW
import Derived.Test.YtipbhlofbpnpjaaGreatDoorQ41
namespace Go.Proofs.YtipbhlofbpnpjaaGreatDoor
open Go.ChangeShapes Go.WideShapes Go.ChangeAt Go.RowKit Go.Joins
set_option maxRecDepth 100000 in
theorem topBest_lifted (os : Os) (started : os.Started) (H : Type) (enc : TypeId × Value → H) :
    ReturnsInHanded {} Tryz.checked os 3 .any (fun w args => (Rows.topBestSpec.pre enc Tryz.prog Tryz.f3 [] false w args ∧ laidMetH Tryz.prog allLaid w) ∧ sizedMet enc Tryz.prog Tryz.f3 (OpenSpec.ofChange Rows.topBestSpec) false w args)
      (Rows.topBestSpec.post enc Tryz.prog Tryz.f3 false true false false) := by
  refine returnsInHanded_of_change_and (C := Tryz.checked) (X := fun w _ => laidMetH Tryz.prog allLaid w) (fun _ _ _ hh h => h.of_heap hh) Tryz.own started (by kernel_rfl) Tryz.func3
    (ChangeSpec.witness_shaped (enc := enc) (C := Tryz.checked) (os := os) (X := fun w _ => laidMetH Tryz.prog allLaid w) false (World.doorLaid Tryz.prog 80 os) #[.agg #[.int .i64 0, .int .i64 0, .slice none 0 0], .int .i64 0, .slice none 0 0] 8 rfl (World.shaped_of_RefB (by kernel_rfl) (by kernel_rfl)) (by kernel_rfl) (by kernel_rfl) (by kernel_rfl) (law_met os _)) ?_
  intro W base args ds gs before hval0 hW _ _ hL _
  have hval : ∀ (j : Nat) t v, Tryz.f3.params[j]? = some t → args[j]? = some v → Value.okWide Tryz.prog W .any base t v := hval0
  have hW' := hW
  obtain ⟨p, q, hA0, hV, rfl, hfz, hnd⟩ := hW
  have hA : DataW.TrodAll enc Tryz.prog W 0 (fun _ => true) true Tryz.f3.params.toList args.toList ds p := hA0
  rw [Tryz.params3] at hA hval
  obtain ⟨v0, vs0, d0, ds0, p0, q0, hargs, rfl, rfl, h0, r0⟩ := trodAll_cons hA
  obtain ⟨v1, vs1, d1, ds1, p1, q1, rfl, rfl, rfl, h1, r1⟩ := trodAll_cons r0
  obtain ⟨v2, vs2, d2, ds2, p2, q2, rfl, rfl, rfl, h2, r2⟩ := trodAll_cons r1
  obtain ⟨rfl, rfl, rfl⟩ := trodAll_nil r2
  obtain rfl : args = #[v0, v1, v2] := by cases args; simp_all
  obtain ⟨rfl, rfl⟩ := trodVars_none hV
  have k0 := h0
  have lt0 : ∀ x ∈ p0, x.block < W.heap.size := by obtain ⟨m, hm⟩ := k0; exact DataW.trod_lt m _ _ _ hm
  obtain ⟨c0, c1, c2, y0, y1, y2, m, rfl, hd, hp, hy0, hy1, hy2⟩ := open_agg3 Tryz.underlying24 (by kernel_rfl) Tryz.cells24 (hval 0 24 v0 rfl rfl) h0
  obtain ⟨a, e0, _, wa⟩ := DataW.trod_int Tryz.underlying3 hy0
  obtain ⟨b, e1, _, wb⟩ := DataW.trod_int Tryz.underlying3 hy1
  simp at e0 e1
  subst e0 e1
  obtain ⟨A, n, cap, xs, rfl, hm, hx⟩ := row_in hy2
  obtain ⟨i1, rfl, rfl, rfl, wi1⟩ := open_int Tryz.underlying3 (hval 1 3 v1 rfl rfl) h1
  have k2 := h2
  have lt2 : ∀ x ∈ p2, x.block < W.heap.size := by obtain ⟨m, hm⟩ := k2; exact DataW.trod_lt m _ _ _ hm
  obtain ⟨Aq2, nq2, cq2, rfl⟩ := okWide_slice Tryz.underlying25 (hval 2 25 v2 rfl rfl)
  obtain ⟨mq2, hq2⟩ := h2
  obtain ⟨A2, n2, cap2, fs2, ts2, eq2, hm2, hx2⟩ := asks_in (by simpa [Value.cells] using hq2)
  simp only [Value.slice.injEq] at eq2
  obtain ⟨rfl, rfl, rfl⟩ := eq2
  obtain ⟨E, s, dg⟩ := all_of hL
  clear hA0 hval0
  refine (topBest_any a b i1 A Aq2 n cap nq2 cq2 xs fs2 ts2 W E s dg hm hx hx2).mono fun e W' ⟨he, hg⟩ => ?_
  subst he
  exact ⟨_, rfl, _, _, _, [], _, [], hW', trodAll_mk1 (shut_bool Tryz.underlying4 _), (trodAll_cons_mk (Below.trod Tryz.laidOut (by kernel_rfl) (of_decide_eq_true (by kernel_rfl)) k0 hg lt0) (trodAll_cons_mk (shut_int Tryz.underlying3 wi1) (trodAll_cons_mk (Below.trod Tryz.laidOut (by kernel_rfl) (of_decide_eq_true (by kernel_rfl)) k2 hg lt2) trodAll_mk0))), rfl, hg.frame _, fun h => by cases h⟩
theorem topBest_k0 : (Rows.topBestRow.wf (OpenSpec.ofChange Rows.topBestSpec)) = true := by kernel_rfl
theorem topBest_k1 : (laidOutB Tryz.prog) = true := by kernel_rfl
theorem topBest_k2 : (mapsRowed Tryz.prog) = true := by kernel_rfl
theorem topBest_k3 : (Tryz.f3.params.all (Tryz.prog.readableRec ·)) = true := by kernel_rfl
theorem topBest_k4 : (namedTie Tryz.prog Rows.topBestRow.named Rows.topBestSpec.vars) = true := by kernel_rfl
theorem topBest_k5 : ((Rows.topBestRow.stops == [])) = true := by kernel_rfl
theorem topBest_k6 : ((Tryz.prog.stops == [])) = true := by kernel_rfl
theorem topBest_k7 : ((Rows.topBestRow.knobs == [])) = true := by kernel_rfl
theorem topBest_k8 : ((Tryz.prog.stopKnobs == [])) = true := by kernel_rfl
theorem topBest_k9 : ((Rows.topBestRow.inPlace == Tryz.prog.inPlace 3)) = true := by kernel_rfl
theorem topBest_k10 : ((Rows.topBestRow.unfollowed == Tryz.prog.unfollowed 3)) = true := by kernel_rfl
theorem topBest_k11 : ((Rows.topBestRow.recurses == Tryz.prog.recurses 3)) = true := by kernel_rfl
theorem topBest_k12 : ((Rows.topBestRow.named == Tryz.prog.varsNamed 3)) = true := by kernel_rfl
theorem topBest_k13 : ((Rows.topBestRow.maps == (Tryz.f3.params.toList ++ Rows.topBestSpec.plain.varTypes Tryz.prog).any (Tryz.prog.mapsRec ·))) = true := by kernel_rfl
theorem topBest_k14 : ((Rows.topBestRow.ifaces == (Tryz.f3.params.toList ++ Rows.topBestSpec.plain.varTypes Tryz.prog).any (Tryz.prog.ifacesRec ·))) = true := by kernel_rfl
theorem topBest_k15 : ((Rows.topBestRow.mapsOut == Tryz.prog.mapsAmong Tryz.f3.resultTypes.toList)) = true := by kernel_rfl
theorem topBest_k16 : ((Rows.topBestRow.loops == (Tryz.f3.params.toList ++ Rows.topBestSpec.plain.varTypes Tryz.prog).any (Tryz.prog.loopsFrom ·))) = true := by kernel_rfl
theorem topBest_k17 : ((Rows.topBestRow.wideKeys == (Tryz.f3.params.toList ++ Rows.topBestSpec.plain.varTypes Tryz.prog ++ Tryz.f3.resultTypes.toList).any (Tryz.prog.wideKeysFrom ·))) = true := by kernel_rfl
theorem topBest_k18 : (Rows.topBestSpec.vars.all (Tryz.prog.varReadable ·)) = true := by kernel_rfl
theorem topBest_k19 : (Tryz.f3.resultTypes.all (fun t => Tryz.prog.readableRec t && decide (t < Tryz.prog.types.size))) = true := by kernel_rfl
theorem topBest_k20 : ((Rows.topBestRow.ifacesOut == Tryz.f3.resultTypes.toList.any (Tryz.prog.ifacesRec ·))) = true := by kernel_rfl
theorem topBest_k21 : ((Rows.topBestRow.loopsOut == Tryz.f3.resultTypes.toList.any (Tryz.prog.loopsFrom ·))) = true := by kernel_rfl
theorem topBest_k22 : ((Rows.topBestRow.plainKeys == Tryz.prog.plainKeys)) = true := by kernel_rfl
theorem topBest_k23 : (Rows.topBestRow.shortTexts.isNone) = true := by kernel_rfl
theorem topBest_k24 : (Tryz.prog.stopsHeard) = true := by kernel_rfl
theorem topBest_k25 : (Tryz.prog.mayEnter) = true := by kernel_rfl
theorem topBest_k26 : ((Rows.topBestRow.lifted == Tryz.prog.liftsFinal)) = true := by kernel_rfl
theorem topBest_k27 : ((Tryz.prog.make == some Rows.topBestRow.make)) = true := by kernel_rfl
theorem topBest_k29 : ((Rows.topBestRow.pinned == Rows.topBestRow.pinnedBy)) = true := by kernel_rfl
theorem topBest_k30 : ((Rows.topBestRow.veiled == (Tryz.f3.params.toList ++ Rows.topBestSpec.plain.varTypes Tryz.prog ++ Tryz.f3.resultTypes.toList).any (Tryz.prog.veiledRec ·))) = true := by kernel_rfl
theorem topBest_k31 : (Rows.topBestRow.veiledFits Tryz.prog Tryz.f3.params.toList (Tryz.f3.params.toList ++ Rows.topBestSpec.plain.varTypes Tryz.prog ++ Tryz.f3.resultTypes.toList)) = true := by kernel_rfl
set_option maxRecDepth 100000 in
theorem topBest_facts : joinedFacts Tryz.prog 3 Tryz.f3 Rows.topBestSpec Rows.topBestRow = true := by
  unfold joinedFacts
  simp only [Bool.and_eq_true]
  exact ⟨⟨⟨⟨⟨⟨⟨⟨⟨⟨⟨⟨⟨⟨⟨⟨⟨⟨⟨⟨⟨⟨⟨⟨⟨⟨⟨⟨⟨⟨⟨topBest_k0, topBest_k1⟩, topBest_k2⟩, topBest_k3⟩, topBest_k4⟩, topBest_k5⟩, topBest_k6⟩, topBest_k7⟩, topBest_k8⟩, topBest_k9⟩, topBest_k10⟩, topBest_k11⟩, topBest_k12⟩, topBest_k13⟩, topBest_k14⟩, topBest_k15⟩, topBest_k16⟩, topBest_k17⟩, topBest_k18⟩, topBest_k19⟩, topBest_k20⟩, topBest_k21⟩, topBest_k22⟩, topBest_k23⟩, topBest_k24⟩, topBest_k25⟩, topBest_k26⟩, topBest_k27⟩, by kernel_rfl⟩, topBest_k29⟩, topBest_k30⟩, topBest_k31⟩
theorem topBest_fn : Tryz.prog.funcNamed Rows.topBestRow.func = some 3 := by kernel_rfl
theorem topBest_row : Rows.TopBestSaid :=
  OpenClaim.holds_of_wide 3 Tryz.f3 rfl rfl rfl rfl rfl rfl rfl ⟨rfl, rfl, rfl, rfl, rfl⟩ rfl rfl rfl rfl rfl topBest_fn Tryz.func3 topBest_facts
    (of_decide_eq_true (by kernel_rfl)) (by unfold Func.isWrapper; first | (rw [if_pos (by decide +kernel)]; kernel_rfl) | (rw [if_neg (by decide +kernel)]; exact ⟨rfl, rfl⟩))
    (fun os started H enc _ => topBest_lifted os started H enc)
theorem topBest_holds : Rows.TopBestCardSaid :=
  Claim7.holds_tied_plain_at .later [] [.data, .data, .data, .sentinel, .sentinel, .data, .data] true (true, "32ac046ada643940db23b7e471f9ecfa1de6b5ab47678be6288bf1eea9e556e3") true
    topBest_row (fun _ h => by cases h) (by kernel_rfl) (fun _ h => by cases h) topBest_row_tie rfl ⟨rfl, rfl⟩ (by kernel_rfl) rfl
    (fun f fn hf hfn => by
      obtain rfl : f = 3 := Option.some.inj ((show Tryz.prog.funcNamed "fellrunner/fellrunnertop.TopBest" = some 3 by kernel_rfl).symm.trans hf) |>.symm
      obtain rfl : fn = Tryz.f3 := (Option.some.inj (Tryz.func3.symm.trans hfn)).symm
      exact ⟨by kernel_rfl, fun j t ht => by
        rw [Tryz.params3] at ht
        have hm : t ∈ [24, 3, 25] := by simpa using Array.mem_of_getElem? ht
        have hall : ([24, 3, 25].all fun u => !Tryz.prog.wantsStandIn u) = true := by kernel_rfl
        exact (show Tryz.prog.wantsStandIn t = false by simpa using List.all_eq_true.1 hall t hm)⟩)
    (by kernel_rfl)
#print axioms topBest_holds
end Go.Proofs.YtipbhlofbpnpjaaGreatDoor
