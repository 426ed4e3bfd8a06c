/-
  Texts laid together: Fr, TbW.
-/
import Derived.Test.YtipbhlofbpnpjaaGreatDoorP40
import Derived.Test.YtipbhlofbpnpjaaGreatDoorTie
import Derived.Test.YtipbhlofbpnpjaaGreatDoorCards
import Derived.ChangeMaps5
import Derived.SevenTiedAt
import Derived.Lib.SmallJoins
import Derived.Deep.Slices
namespace Go.Proofs.YtipbhlofbpnpjaaGreatDoor
open Go.ChangeShapes Go.WideShapes Go.ChangeAt Go.RowKit Go.Joins
theorem Tryz.own : ownKnob Tryz.prog.godebug = none := by kernel_rfl
theorem Tryz.laidOut : laidOutB Tryz.prog = true := by kernel_rfl
theorem Tryz.cells24 : Tryz.prog.cellsOf 24 = 3 := by kernel_rfl
theorem gSteps : Tryz.prog.globalNamed "fellrunner/grid.steps" = some 1 := by kernel_rfl
theorem tSteps : (Tryz.prog.globals[1]?).map (·.type) = some 253 := by kernel_rfl
theorem c252 : Tryz.prog.cellsOf 252 = 2 := by kernel_rfl
theorem c3' : Tryz.prog.cellsOf 3 = 1 := by kernel_rfl
theorem gDiag : Tryz.prog.globalNamed "fellrunner/reach.diagonalFirst" = some 0 := by kernel_rfl
theorem tDiag : (Tryz.prog.globals[0]?).map (·.type) = some 179 := by kernel_rfl
theorem c179 : Tryz.prog.cellsOf 179 = 8 := by kernel_rfl
theorem lt_of_cell {w : World} {b o : Nat} {v : Value} (h : w.cell? ⟨b, o, none⟩ = some v) : b < w.heap.size := World.block_lt_of_cell? w _ h
theorem steps_of {W : World} {r : List (String × DataW Unit)} (h : laidMet Tryz.prog (("fellrunner/grid.steps", Rows.laid_fellrunner_grid_steps) :: r) W) : StepsAt W := by
  obtain ⟨ps, ⟨g0, t0, cs0, f0, p0, q0, hg0, ht0, hv0, hd0, _, _⟩, _, _⟩ := h
  obtain rfl := Option.some.inj (gSteps.symm.trans hg0)
  obtain rfl := Option.some.inj (tSteps.symm.trans ht0)
  obtain ⟨xs, m, _, hx1, hlen, hn, hel⟩ := DataW.trod_array Tryz.underlying253 hd0
  simp only [Prod.mk.injEq] at hx1
  have hxa := hx1.1
  have key : ∀ i, i < 8 → cs0.toList[2 * i]? = some (.int .i64 (stepX i)) ∧ cs0.toList[2 * i + 1]? = some (.int .i64 (stepY i)) := by
    intro i hi
    have h1 := hel i hi
    rw [c252] at h1
    have hxi : ∃ p, xs[i]? = some (Lib.tabData .i64 [stepX i, stepY i], p) := by
      have hlt : i < xs.length := by omega
      refine ⟨xs[i].2, ?_⟩
      rw [List.getElem?_eq_getElem hlt]
      have e2 : (xs.map (·.1))[i]? = some xs[i].1 := by rw [List.getElem?_map, List.getElem?_eq_getElem hlt]; rfl
      simp only [Rows.laid_fellrunner_grid_steps, DataW.agg.injEq] at hxa
      rw [← hxa] at e2
      have hks : i = 0 ∨ i = 1 ∨ i = 2 ∨ i = 3 ∨ i = 4 ∨ i = 5 ∨ i = 6 ∨ i = 7 := by omega
      rcases hks with rfl | rfl | rfl | rfl | rfl | rfl | rfl | rfl <;>
        (simp at e2; exact congrArg some (Prod.ext e2.symm rfl))
    obtain ⟨p, hp⟩ := hxi
    rw [hp] at h1
    have h2 := Lib.cells_of_tab Tryz.underlying252 Tryz.underlying3 c3' c252 h1
    have a0 : ((cs0.toList.drop (i * 2)).take 2)[0]? = cs0.toList[2 * i]? := by
      rw [List.getElem?_take_of_lt (by decide), List.getElem?_drop]; congr 1; omega
    have a1 : ((cs0.toList.drop (i * 2)).take 2)[1]? = cs0.toList[2 * i + 1]? := by
      rw [List.getElem?_take_of_lt (by decide), List.getElem?_drop]; congr 1; omega
    rw [h2] at a0 a1
    exact ⟨a0.symm, a1.symm⟩
  have cell : ∀ i, W.cell? ⟨1, i, none⟩ = cs0.toList[i]? := fun i => by
    have := World.var?_cell hg0 hv0 i
    rw [this]; simp
  exact fun i hi => ⟨by rw [cell]; exact (key i hi).1, by rw [cell]; exact (key i hi).2⟩
theorem diag_of {W : World} {r : List (String × DataW Unit)} (h : laidMet Tryz.prog (("fellrunner/reach.diagonalFirst", Rows.laid_fellrunner_reach_diagonalFirst) :: r) W) : DiagAt W := by
  obtain ⟨ps, ⟨g0, t0, cs0, f0, p0, q0, hg0, ht0, hv0, hd0, _, _⟩, _, _⟩ := h
  obtain rfl := Option.some.inj (gDiag.symm.trans hg0)
  obtain rfl := Option.some.inj (tDiag.symm.trans ht0)
  have hd1 : DataW.trod (fun _ => ()) Tryz.prog W 0 (fun _ => true) false f0 179 cs0.toList = some (Lib.tabData .i64 [1, 3, 5, 7, 0, 2, 4, 6], p0) := hd0
  have h2 := Lib.cells_of_tab Tryz.underlying179 Tryz.underlying3 c3' c179 hd1
  intro i hi
  have := World.var?_cell hg0 hv0 i
  rw [this]
  have e : cs0[i]? = cs0.toList[i]? := by simp
  rw [e, h2]
  have hks : i = 0 ∨ i = 1 ∨ i = 2 ∨ i = 3 ∨ i = 4 ∨ i = 5 ∨ i = 6 ∨ i = 7 := by omega
  rcases hks with rfl | rfl | rfl | rfl | rfl | rfl | rfl | rfl <;> rfl
abbrev allLaid : List (String × DataW Unit) := [("math/bits.deBruijn32tab", Rows.laid_math_bits_deBruijn32tab), ("math/bits.deBruijn64tab", Rows.laid_math_bits_deBruijn64tab), ("internal/strconv.uint64pow10", Rows.laid_internal_strconv_uint64pow10), ("strconv.ErrRange", Rows.laid_strconv_ErrRange), ("strconv.ErrSyntax", Rows.laid_strconv_ErrSyntax), ("fellrunner/grid.steps", Rows.laid_fellrunner_grid_steps), ("fellrunner/reach.diagonalFirst", Rows.laid_fellrunner_reach_diagonalFirst)]
theorem all_of {W : World} (h : laidMetH Tryz.prog allLaid W) : Env W ∧ StepsAt W ∧ DiagAt W := by
  rw [MakeChecks.laidMetH_plain _ _ _ (by kernel_rfl)] at h
  have h5 := h.tail.tail.tail.tail.tail
  exact ⟨env_of h, steps_of h5, diag_of h5.tail⟩
theorem law_met (os : Os) (args : Array Value) : laidMetH Tryz.prog allLaid ((World.doorLaid Tryz.prog 80 os).forCall (fun _ _ => 0) ⟨#[], args, []⟩).memory :=
  laidMetH_of_parts3 (fuel := 8) (laidMet_of_run' 8 (by kernel_rfl) (by kernel_rfl)) (by kernel_rfl) (by kernel_rfl)
theorem row_in {H : Type} {enc : TypeId × Value → H} {W : World} {sp : Nat → Bool} {held : Bool} {fuel : Nat} {c : Value} {x : DataW H × List MemPlace} (h : DataW.trod enc Tryz.prog W 0 sp held fuel 22 [c] = some x) :
    ∃ A n cap xs, c = .slice A n cap ∧ n ≤ maxLen ∧ OldRow W A n xs := by
  rcases open_ints Tryz.underlying22 Tryz.underlying3 (by kernel_rfl) h with ⟨hcs, _⟩ | ⟨a, l, cap, zs, hcs, _, hl, hm, hz, _, hcell, _⟩
  · simp at hcs
    exact ⟨none, 0, 0, fun _ => 0, hcs, by unfold maxLen; omega, fun i hi => absurd hi (Nat.not_lt_zero i)⟩
  · simp at hcs
    refine ⟨some a, l, cap, fun i => zs.getD i 0, hcs, Nat.le_trans hl hm, fun i hi => ?_⟩
    have hzl : i < zs.length := by rw [hz]; split <;> omega
    obtain ⟨b, off, rfl, hc⟩ := ints_at hcell (by omega)
    exact ⟨b, off, rfl, lt_of_cell (hc i hzl), hc i hzl⟩
theorem c36 : Tryz.prog.cellsOf 36 = 2 := by kernel_rfl
def OldAsk (w : World) (A : Option Addr) (n : Nat) (fs ts : Nat → Int) : Prop := ∀ i, i < n → ∃ b o, A = some ⟨b, o, none⟩ ∧ b < w.heap.size ∧ w.cell? ⟨b, o + i * 2, none⟩ = some (.int .i64 (fs i)) ∧ w.cell? ⟨b, o + i * 2 + 1, none⟩ = some (.int .i64 (ts i))
theorem OldAsk.below {w w' : World} {A : Option Addr} {n : Nat} {fs ts : Nat → Int} (h : OldAsk w A n fs ts) (hb : Below w.heap.size w w') : OldAsk w' A n fs ts := fun i hi => by
  obtain ⟨b, o, h1, h2, h3, h4⟩ := h i hi
  exact ⟨b, o, h1, Nat.lt_of_lt_of_le h2 hb.size, (hb.cell (p := ⟨b, o + i * 2, none⟩) h2).trans h3, (hb.cell (p := ⟨b, o + i * 2 + 1, none⟩) h2).trans h4⟩
section
variable {H : Type} {enc : TypeId × Value → H} {W : World} {sp : Nat → Bool} {held : Bool}
theorem ask_in {fuel : Nat} {c1 c2 : Value} {x : DataW H × List MemPlace} (h : DataW.trod enc Tryz.prog W 0 sp held fuel 36 [c1, c2] = some x) : ∃ s d, c1 = .int .i64 s ∧ c2 = .int .i64 d := by
  obtain ⟨xs, n, _, _, _, hl, hf⟩ := DataW.trod_struct Tryz.underlying36 h
  have f0 : DataW.trod enc Tryz.prog W 0 sp held n 3 (([c1, c2].drop 0).take (Tryz.prog.cellsOf 3)) = xs[0]? := hf 0 _ rfl
  have f1 : DataW.trod enc Tryz.prog W 0 sp held n 3 (([c1, c2].drop 1).take (Tryz.prog.cellsOf 3)) = xs[1]? := hf 1 _ rfl
  have hl' : xs.length = 2 := hl
  rw [List.getElem?_eq_getElem (by omega), c3'] at f0 f1
  obtain ⟨s, e0, _⟩ := DataW.trod_int Tryz.underlying3 f0
  obtain ⟨d, e1, _⟩ := DataW.trod_int Tryz.underlying3 f1
  simp at e0 e1
  exact ⟨s, d, e0, e1⟩
theorem asks_in {fuel : Nat} {c : Value} {x : DataW H × List MemPlace} (h : DataW.trod enc Tryz.prog W 0 sp held fuel 25 [c] = some x) :
    ∃ A n cap fs ts, c = .slice A n cap ∧ n ≤ maxLen ∧ OldAsk W A n fs ts := by
  rcases Go.Deep.open_slice Tryz.underlying25 h with ⟨hcs, _⟩ | ⟨a, len, cap, m, k, D, Pl, hcs, _, hl, hm, hmm, _, hx⟩
  · simp at hcs
    exact ⟨none, 0, 0, fun _ => 0, fun _ => 0, hcs, by unfold maxLen; simp, fun i hi => absurd hi (Nat.not_lt_zero i)⟩
  · simp at hcs
    have hlm : len ≤ m := by rw [hmm]; split <;> omega
    rw [c36] at hx
    have hspot : 0 < len → a.spot = none := by
      intro h0
      obtain ⟨cs', h1, _⟩ := hx 0 (by omega)
      obtain ⟨_, hlen, hc⟩ := World.cells?_some h1
      have g0 := hc 0 (by omega)
      rw [Go.Deep.add_add, List.getElem?_eq_getElem (by omega)] at g0
      simpa [Addr.add] using World.cell?_spot g0
    have key : ∀ i, i < len → ∃ y : Int × Int, ∃ b o, a = ⟨b, o, none⟩ ∧ W.cell? ⟨b, o + i * 2, none⟩ = some (.int .i64 y.1) ∧ W.cell? ⟨b, o + i * 2 + 1, none⟩ = some (.int .i64 y.2) := by
      intro i hi
      obtain ⟨cs', h1, h2⟩ := hx i (by omega)
      obtain ⟨_, hlen, hc⟩ := World.cells?_some h1
      match cs', hlen with
      | [c0, c1], _ =>
        obtain ⟨y1, y2, rfl, rfl⟩ := ask_in h2
        have g0 := hc 0 (by omega)
        have g1 := hc 1 (by omega)
        rw [Go.Deep.add_add] at g0 g1
        simp at g0 g1
        have hs := hspot (by omega)
        obtain ⟨b, o, spot⟩ := a
        simp only at hs
        subst hs
        rw [Go.WideShapes.add_plain] at g0 g1
        exact ⟨(y1, y2), b, o, rfl, g0, by rw [Nat.add_assoc]; exact g1⟩
    obtain ⟨xs, hxs⟩ := @Go.Deep.choose_lt (Int × Int) ⟨(0, 0)⟩ len _ key
    refine ⟨some a, len, cap, fun i => (xs i).1, fun i => (xs i).2, hcs, Nat.le_trans hl hm, fun i hi => ?_⟩
    obtain ⟨b, o, rfl, h0, h1⟩ := hxs i hi
    exact ⟨b, o, rfl, lt_of_cell h0, h0, h1⟩
end
end Go.Proofs.YtipbhlofbpnpjaaGreatDoor
namespace Go.Proofs.YtipbhlofbpnpjaaGreatDoor
open Go.RowKit Go.Lib
set_option maxHeartbeats 4000000 in
set_option maxRecDepth 1000000 in
theorem topBest_any (W H most : Int) (A A2 : Option Addr) (n cap n2 cap2 : Nat) (xs fs ts : Nat → Int) (w : World) (E : Env w) (s : StepsAt w) (dg : DiagAt w) (hm : n ≤ maxLen) (hx : OldRow w A n xs) (hq : OldAsk w A2 n2 fs ts) :
    Calls Tryz.prog 3 #[.agg #[.int .i64 W, .int .i64 H, .slice A n cap], .int .i64 most, .slice A2 n2 cap2] w fun e w' => e = .returned (.bool true) ∧ Below w.heap.size w w' := by
  have hsp := s.pos
  have b0 : Below w.heap.size w (w.alloc (.cells #[.int .i64 W, .int .i64 H, .slice A n cap] 24)) := (Below.refl _ _).alloc (Nat.le_refl _) _
  have q : ∀ o, (w.alloc (.cells #[.int .i64 W, .int .i64 H, .slice A n cap] 24)).cell? ⟨w.heap.size, o, none⟩ = #[Value.int .i64 W, .int .i64 H, .slice A n cap][o]? := fun o => World.cell?_alloc_new ..
  have hwk := works_any _ (s.below b0 (by omega)) (dg.below b0)
  go_enter Tryz.func3, Tryz.ntmps3
  go_wp2_with fail
  have hz0 : w.heap.size < (w.alloc (.cells #[.int .i64 W, .int .i64 H, .slice A n cap] 24)).heap.size := by simp
  generalize w.alloc (.cells #[.int .i64 W, .int .i64 H, .slice A n cap] 24) = wa at *
  refine hwk.mono ?_
  rintro e wb ⟨rfl, hb1⟩
  have B1 := b0.trans (hb1.mono b0.size)
  have c0 := (hb1.cell (p := ⟨w.heap.size, 0, none⟩) hz0).trans (q 0)
  have c1 := (hb1.cell (p := ⟨w.heap.size, 1, none⟩) hz0).trans (q 1)
  have c2 := (hb1.cell (p := ⟨w.heap.size, 2, none⟩) hz0).trans (q 2)
  have hsv := serve_any W H most A n cap xs wb (E.grown B1) (s.below B1 (by omega)) hm (hx.below B1)
  clear hwk q b0 hb1 hz0
  go_wp2_with fail
  refine hsv.mono ?_
  rintro e wc ⟨hb2, hcs⟩
  have B2 := B1.trans (hb2.mono B1.size)
  clear hsv c0 c1 c2
  rcases hcs with ⟨p, rfl⟩ | ⟨sb, mb, lo, Wn, Hn, mN, V, bl, rfl, rfl, rfl, rfl, hmb, SR⟩
  · go_wp2
    go_ret
    exact ⟨rfl, B2⟩
  · by_cases h30 : (30 : Int) < (n2 : Int)
    · clear SR
      go_wp2
      go_ret
      exact ⟨rfl, B2⟩
    · have b3 : Below wc.heap.size wc (wc.alloc (.cells #[.pointer (some ⟨mb, 0, none⟩), .int .i64 (mN : Int)] 33)) := (Below.refl _ _).alloc (Nat.le_refl _) _
      have cx : (wc.alloc (.cells #[.pointer (some ⟨mb, 0, none⟩), .int .i64 (mN : Int)] 33)).cell? ⟨wc.heap.size, 0, none⟩ = some (.pointer (some ⟨mb, 0, none⟩)) := World.cell?_alloc_at #[.pointer (some ⟨mb, 0, none⟩), .int .i64 (mN : Int)] 33 wc.heap.size 0 rfl
      have B3 := B2.trans (b3.mono B2.size)
      have hS := SR.sv.below b3
      have hR := SR.ra.below b3 (World.block_lt_of_cell? _ _ SR.ra.c0)
      have hQ := hq.below B3
      have d3 := dg.below B3
      have lmb := World.block_lt_of_cell? _ _ hR.c0
      obtain ⟨w1, w2, h1, h2⟩ := hS.side
      obtain ⟨m1, m6⟩ := hS.mst
      have hev := nrm_eqv (W := Wn) (H := Hn) bl
      clear SR b3
      go_wp2
      generalize wc.alloc (.cells #[.pointer (some ⟨mb, 0, none⟩), .int .i64 (mN : Int)] 33) = wd at *
      generalize hxb : wc.heap.size = xb at *
      clear hxb
      have HQ : Hid (OldAsk wd A2 n2 fs ts) := hQ
      have HS : Hid (∀ w', Below wd.heap.size wd w' → ∀ a t, _) := fun w' hb a t => ask_any a t w' (hS.below hb) (d3.below hb)
      have HX : Hid (∀ w', Below wd.heap.size wd w' → ∀ (v : Value) (way : List Nat) (a t s d err : Int) (base : Nat), w'.ownsRow base 3 1 v way.length (vals way) → AnsR Wn Hn (nrm Wn Hn bl) mN a t way s d err → _) := fun w' hb v way a t s d err base ho hA => right_any (xb := xb) (v := v) (base := base) w' ((hb.cell (World.block_lt_of_cell? _ _ cx)).trans cx) (hR.below hb lmb) ho ((hA.right w' w1 w2 h1 h2 m1 m6).eqv hev)
      clear hQ hS hR cx hev
      go_loopw [11] (fun iv wr => ∃ i : Nat, i ≤ n2 ∧ iv = .int .i64 i ∧ Below wd.heap.size wd wr)
        (fun i _ => n2 - (intOf i).toNat)
      case atStart => exact ⟨0, Nat.zero_le _, rfl, Below.refl _ _⟩
      case round =>
        obtain ⟨i, hi, rfl, hB⟩ := hrel
        by_cases hlt : i < n2
        · obtain ⟨bA, oA, rfl, hbA, f0, t0⟩ := (HQ.out.below hB) i hlt
          have i1 : (i : Int) < (n2 : Int) := by omega
          generalize fs i = fa at *
          generalize ts i = tt at *
          have e0 : Below wr.heap.size wr wr.drew := (Below.refl _ _).drew
          have E0 := hB.trans (e0.mono hB.size)
          have CC : Hid (∀ w', Below wr.heap.size wr w' → w'.cell? ⟨bA, oA + i * 2, none⟩ = some (.int .i64 fa) ∧ w'.cell? ⟨bA, oA + i * 2 + 1, none⟩ = some (.int .i64 tt)) := fun w' h => ⟨(h.cell (World.block_lt_of_cell? wr _ f0)).trans f0, (h.cell (World.block_lt_of_cell? wr _ t0)).trans t0⟩
          go_upto_region 11 with fail
          clear f0 t0
          go_region_held3 (fun w' => w'.cell? ⟨bA, oA + i * 2, none⟩ = some (.int .i64 fa) ∧ w'.cell? ⟨bA, oA + i * 2 + 1, none⟩ = some (.int .i64 tt)) (first | exact CC.out _ e0 | exact CC.out _ e5 | exact CC.out _ e6)
            (first
              | (go_at_call 18; refine (HS.out _ E0 _ _).mono ?_; rintro r w5 ⟨v, way, sx, dx, er, rfl, ho, hA, hb5⟩; have e5 := e0.trans (hb5.mono e0.size); have E5 := hB.trans (e5.mono hB.size))
              | (go_at_call 17; refine (HX.out _ E5 _ _ _ _ _ _ _ _ ho hA).mono ?_; rintro r w6 ⟨rfl, hb6⟩; have e6 := e5.trans (hb6.mono e5.size)))
          have B6 := hB.trans (e6.mono hB.size)
          clear ho hA
          go_wp2
          go_roundw
          case rel => exact ⟨i + 1, by omega, by go_num, B6⟩
          case measure => simp [intOf]; omega
        · have e : i = n2 := by omega
          subst e
          go_wp2
          go_ret
          exact ⟨rfl, B3.trans (hB.mono B3.size)⟩
end Go.Proofs.YtipbhlofbpnpjaaGreatDoor
