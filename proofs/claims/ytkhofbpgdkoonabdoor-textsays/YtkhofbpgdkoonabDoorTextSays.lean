/-
  Proved: for every plot and every text 'TextSays' returns true and its arguments read afterwards as they read before; the listed variables of the Go library (tables of strconv and math/bits, strconv's two errors) and the grid's table of steps read as the program's text lays them, which the given tie pays; no other condition. The tie speaks of the pruned copy of the project that the seat holds.
-/
import Derived.Test.YtkhofbpgdkoonabDoorTextSaysWalk
import Derived.Test.YtkhofbpgdkoonabDoorEnvOf
import Derived.Test.YtkhofbpgdkoonabDoorSteps
import Derived.Test.YtkhofbpgdkoonabDoorTie
import Derived.Test.YtkhofbpgdkoonabDoorCards
import Derived.ChangeMaps5
import Derived.SevenTiedAt
import Derived.Lib.SmallJoins
namespace Go.Proofs.YtkhofbpgdkoonabDoor
open Go.ChangeShapes Go.WideShapes Go.ChangeAt Go.RowKit Go.Joins
open Go.ChangeMaps (open_string shut_string)

theorem Tryd.own : ownKnob Tryd.prog.godebug = none := by kernel_rfl
theorem Tryd.laidOut : laidOutB Tryd.prog = true := by kernel_rfl
theorem Tryd.cells24 : Tryd.prog.cellsOf 24 = 3 := by kernel_rfl

theorem lt_of_cell {w : World} {b o : Nat} {v : Value} (h : w.cell? ⟨b, o, none⟩ = some v) : b < w.heap.size := by
  by_cases hb : b < w.heap.size
  · exact hb
  · unfold World.cell? at h
    rw [Array.getElem?_eq_none (by simpa using hb)] at h
    simp at h

theorem str_of (s : ByteArray) : s = str s.data.toList := (Lib.mk_data s).symm

theorem textSays_any (W H : Int) (A : Option Addr) (n cap : Nat) (xs : Nat → Int) (s : ByteArray) (w : World) (E : Env w) (S : StepsAt w) (hm : n ≤ maxLen) (hx : OldRow w A n xs) :
    Calls Tryd.prog 3 #[.agg #[.int .i64 W, .int .i64 H, .slice A n cap], .string s] w fun e w' => e = .returned (.bool true) ∧ Below w.heap.size w w' := by
  have h0 : 0 < w.heap.size := by have := E.z; omega
  rw [str_of s]
  by_cases hn : 300 < (n : Int)
  · exact textSays_none W H A n cap _ w E S h0 fun w' => (laid_many W H A n cap w' hn hm).mono fun _ _ h => ⟨h⟩
  · cases hW : sideB W with
    | false => exact textSays_none W H A n cap _ w E S h0 fun w' => (laid_bad W H A n cap w' hn (.inl hW)).mono fun _ _ h => ⟨h⟩
    | true =>
      cases hH : sideB H with
      | false => exact textSays_none W H A n cap _ w E S h0 fun w' => (laid_bad W H A n cap w' hn (.inr ⟨hW, hH⟩)).mono fun _ _ h => ⟨h⟩
      | true =>
        have e1 : ((W.toNat : Nat) : Int) = W := by have : 1 ≤ W ∧ W ≤ 16 := of_decide_eq_true hW; omega
        have e2 : ((H.toNat : Nat) : Int) = H := by have : 1 ≤ H ∧ H ≤ 16 := of_decide_eq_true hH; omega
        rw [← e1] at hW
        rw [← e2] at hH
        have := textSays_ok W.toNat H.toNat A n cap xs s.data.toList w E S h0 hn hW hH hx
        rw [e1, e2] at this
        exact this

abbrev textLaid : List (String × DataW Unit) := [("math/bits.deBruijn32tab", Rows.laid_math_bits_deBruijn32tab), ("math/bits.deBruijn64tab", Rows.laid_math_bits_deBruijn64tab), ("internal/strconv.uint64pow10", Rows.laid_internal_strconv_uint64pow10), ("strconv.ErrRange", Rows.laid_strconv_ErrRange), ("strconv.ErrSyntax", Rows.laid_strconv_ErrSyntax), ("fellrunner/grid.steps", Rows.laid_fellrunner_grid_steps)]

theorem textSays_met (os : Os) (args : Array Value) : laidMetH Tryd.prog textLaid ((World.doorLaid Tryd.prog 75 os).forCall (fun _ _ => 0) ⟨#[], args, []⟩).memory :=
  laidMetH_of_parts3 (fuel := 8) (laidMet_of_run' 8 (by kernel_rfl) (by kernel_rfl)) (by kernel_rfl) (by kernel_rfl)

/-- a slice of integers that came in, as a row of old memory -/
theorem row_in {H : Type} {enc : TypeId × Value → H} {W : World} {sp : Nat → Bool} {held : Bool} {fuel : Nat} {c : Value} {x : DataW H × List MemPlace} (h : DataW.trod enc Tryd.prog W 0 sp held fuel 22 [c] = some x) :
    ∃ A n cap xs, c = .slice A n cap ∧ n ≤ maxLen ∧ OldRow W A n xs := by
  rcases open_ints Tryd.underlying22 Tryd.underlying3 (by kernel_rfl) h with ⟨hcs, _⟩ | ⟨a, l, cap, zs, hcs, _, hl, hm, hz, _, hcell, _⟩
  · simp at hcs
    exact ⟨none, 0, 0, fun _ => 0, hcs, by unfold maxLen; omega, fun i hi => absurd hi (Nat.not_lt_zero i)⟩
  · simp at hcs
    refine ⟨some a, l, cap, fun i => zs.getD i 0, hcs, Nat.le_trans hl hm, fun i hi => ?_⟩
    have hzl : i < zs.length := by rw [hz]; split <;> omega
    obtain ⟨b, off, rfl, hc⟩ := ints_at hcell (by omega)
    exact ⟨b, off, rfl, lt_of_cell (hc i hzl), hc i hzl⟩

set_option maxRecDepth 100000 in
theorem textSays_lifted (os : Os) (started : os.Started) (H : Type) (enc : TypeId × Value → H) :
    ReturnsInHanded {} Tryd.checked os 3 .any (fun w args => (Rows.textSaysSpec.pre enc Tryd.prog Tryd.f3 [] false w args ∧ laidMetH Tryd.prog textLaid w) ∧ sizedMet enc Tryd.prog Tryd.f3 (OpenSpec.ofChange Rows.textSaysSpec) false w args)
      (Rows.textSaysSpec.post enc Tryd.prog Tryd.f3 false true false false) := by
  refine returnsInHanded_of_change_and (C := Tryd.checked) (X := fun w _ => laidMetH Tryd.prog textLaid w) (fun _ _ _ hh h => h.of_heap hh) Tryd.own started (by kernel_rfl) Tryd.func3
    (ChangeSpec.witness_shaped (enc := enc) (C := Tryd.checked) (os := os) (X := fun w _ => laidMetH Tryd.prog textLaid w) false (World.doorLaid Tryd.prog 75 os) #[.agg #[.int .i64 0, .int .i64 0, .slice none 0 0], .string ⟨#[]⟩] 8 rfl (World.shaped_of_RefB (by kernel_rfl) (by kernel_rfl)) (by kernel_rfl) (by kernel_rfl) (by kernel_rfl) (textSays_met os _)) ?_
  intro W base args ds gs before hval0 hW _ _ hL _
  have hval : ∀ (j : Nat) t v, Tryd.f3.params[j]? = some t → args[j]? = some v → Value.okWide Tryd.prog W .any base t v := hval0
  have hW' := hW
  obtain ⟨p, q, hA0, hV, rfl, hfz, hnd⟩ := hW
  have hA : DataW.TrodAll enc Tryd.prog W 0 (fun _ => true) true Tryd.f3.params.toList args.toList ds p := hA0
  rw [Tryd.params3] at hA hval
  obtain ⟨v0, v1, d0, d1, p0, p1, rfl, rfl, rfl, h0, h1⟩ := trodAll_two hA
  obtain ⟨rfl, rfl⟩ := trodVars_none hV
  have k0 := h0
  have lt0 : ∀ x ∈ p0, x.block < W.heap.size := by obtain ⟨m, hm⟩ := k0; exact DataW.trod_lt m _ _ _ hm
  obtain ⟨c0, c1, c2, y0, y1, y2, m, rfl, hd, hp, hy0, hy1, hy2⟩ := open_agg3 Tryd.underlying24 (by kernel_rfl) Tryd.cells24 (hval 0 24 v0 rfl rfl) h0
  obtain ⟨a, e0, _, wa⟩ := DataW.trod_int Tryd.underlying3 hy0
  obtain ⟨b, e1, _, wb⟩ := DataW.trod_int Tryd.underlying3 hy1
  simp at e0 e1
  subst e0 e1
  obtain ⟨A, n, cap, xs, rfl, hm, hx⟩ := row_in hy2
  obtain ⟨s, rfl, rfl, rfl, hs⟩ := open_string Tryd.underlying9 (hval 1 9 v1 rfl rfl) h1
  rw [MakeChecks.laidMetH_plain _ _ _ (by kernel_rfl)] at hL
  have E := env_of hL
  have S := steps_of hL.tail.tail.tail.tail.tail
  clear hA0 hval0
  simp only [List.append_nil] at hW'
  refine (textSays_any a b A n cap xs s W E S hm hx).mono fun e W' ⟨he, hg⟩ => ?_
  subst he
  exact ⟨_, rfl, _, _, _, [], p0 ++ [], [], hW', trodAll_mk1 (shut_bool Tryd.underlying4 _), trodAll_mk2 (Below.trod Tryd.laidOut (by kernel_rfl) (of_decide_eq_true (by kernel_rfl)) k0 hg lt0) (shut_string Tryd.underlying9 hs), rfl, hg.frame _, fun h => by cases h⟩

theorem textSays_row : Rows.TextSaysSaid :=
  OpenClaim.holds_of_wide 3 Tryd.f3 rfl rfl rfl rfl rfl rfl rfl ⟨rfl, rfl, rfl, rfl, rfl⟩ rfl rfl rfl rfl rfl (by kernel_rfl) Tryd.func3 (by kernel_rfl)
    (of_decide_eq_true (by kernel_rfl)) (by unfold Func.isWrapper; first | (rw [if_pos (by decide +kernel)]; kernel_rfl) | (rw [if_neg (by decide +kernel)]; exact ⟨rfl, rfl⟩))
    (fun os started H enc _ => textSays_lifted os started H enc)

theorem textSays_holds : Rows.TextSaysCardSaid :=
  Claim7.holds_tied_plain_at .later [] [.data, .data, .data, .sentinel, .sentinel, .data] true (true, "d9caf7e75863e3782263493b6ba8cbfc6b9b518b03f029e441c68679f2461ebc") true
    textSays_row (fun _ h => by cases h) (by kernel_rfl) (fun _ h => by cases h) textSays_row_tie rfl ⟨rfl, rfl⟩ (by kernel_rfl) rfl
    (fun f fn hf hfn => by
      obtain rfl : f = 3 := Option.some.inj ((show Tryd.prog.funcNamed "fellrunner/fellrunnerlaw.TextSays" = some 3 by kernel_rfl).symm.trans hf) |>.symm
      obtain rfl : fn = Tryd.f3 := (Option.some.inj (Tryd.func3.symm.trans hfn)).symm
      exact ⟨by kernel_rfl, fun j t ht => by
        rw [Tryd.params3] at ht
        have hm : t ∈ [24, 9] := by simpa using Array.mem_of_getElem? ht
        have hall : ([24, 9].all fun u => !Tryd.prog.wantsStandIn u) = true := by kernel_rfl
        exact (show Tryd.prog.wantsStandIn t = false by simpa using List.all_eq_true.1 hall t hm)⟩)
    (by kernel_rfl)
#print axioms textSays_holds
end Go.Proofs.YtkhofbpgdkoonabDoor
