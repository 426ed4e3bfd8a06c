/-
  Texts laid together: LsC, Steps, Frame.
-/
import Derived.Test.YtmnpplkjhnoglaaGreatDoorP52
import Derived.ProofKit
import Derived.LaidMore
import Derived.OpenShut
import Derived.Stop.Joined
import Derived.Lib.LaidTab
import Derived.Test.YtmnpplkjhnoglaaGreatDoorTie
import Derived.Test.YtmnpplkjhnoglaaGreatDoorCards
import Derived.ChangeMaps5
import Derived.SevenTiedAt
import Derived.Lib.SmallJoins
/-
  What 'LevelsSays' does at every plot and number of levels: it answers true.
-/
namespace Go.Proofs.YtmnpplkjhnoglaaGreatDoor
open Go.RowKit

set_option maxHeartbeats 40000000 in
set_option maxRecDepth 1000000 in
theorem levelsSays_any (W H most : Int) (A : Option Addr) (n cap : Nat) (xs : Nat → Int) (w : World) (s : StepsAt w) (hm : n ≤ maxLen) (hx : OldRow w A n xs) :
    Calls Tryz.prog 3 #[.agg #[.int .i64 W, .int .i64 H, .slice A n cap], .int .i64 most] w fun e w' => e = .returned (.bool true) ∧ Below w.heap.size w w' := by
  have b0 : Below w.heap.size w (w.alloc (.cells #[.int .i64 W, .int .i64 H, .slice A n cap] 24)) := (Below.refl _ _).alloc (Nat.le_refl _) _
  have q : ∀ o, (w.alloc (.cells #[.int .i64 W, .int .i64 H, .slice A n cap] 24)).cell? ⟨w.heap.size, o, none⟩ = #[Value.int .i64 W, .int .i64 H, .slice A n cap][o]? := fun o => by rw [World.cell?_alloc_new]
  have hz0 : (w.alloc (.cells #[.int .i64 W, .int .i64 H, .slice A n cap] 24)).heap.size = w.heap.size + 1 := by simp
  have hspos := s.pos
  go_enter Tryz.func3, Tryz.ntmps3
  go_wp2_with fail
  generalize w.alloc (.cells #[.int .i64 W, .int .i64 H, .slice A n cap] 24) = w1 at *
  have hh := stairs_any w1 (s.below b0 hspos)
  refine hh.mono ?_
  rintro e w2 ⟨rfl, hb2⟩
  have q0 := (hb2.cell (p := ⟨w.heap.size, 0, none⟩) (by show w.heap.size < _; omega)).trans (q 0)
  have q1 := (hb2.cell (p := ⟨w.heap.size, 1, none⟩) (by show w.heap.size < _; omega)).trans (q 1)
  have q2 := (hb2.cell (p := ⟨w.heap.size, 2, none⟩) (by show w.heap.size < _; omega)).trans (q 2)
  have B2 := b0.trans (hb2.mono b0.size)
  have hLd := laid_any W H A n cap xs w2 hm (hx.below B2)
  clear hh q hb2 hz0 b0 hx
  go_wp2_with fail
  clear q0 q1 q2
  refine hLd.mono ?_
  rintro e w3 ⟨hb3, hcs⟩
  have B3 := B2.trans (hb3.mono B2.size)
  clear hLd B2
  rcases hcs with rfl | ⟨rfl, hsz3, V, bl, hV, hB⟩
  · go_wp2
    go_quiet (fail)
    go_wp2
    go_ret
    exact ⟨rfl, below_drewN B3 _⟩
  · generalize w2.heap.size + 1 + 1 = mb2 at *
    generalize w2.heap.size + 1 = gb at *
    have hra := hB.ra
    have ra0 := hra.c0
    have ra1 := hra.c1
    have gw1 := hra.w1
    have gw2 := hra.w2
    have gh1 := hra.h1
    have gh2 := hra.h2
    have hwh := wh_bd hra.w1 hra.w2 hra.h1 hra.h2
    have hwr : IntKind.i64.wrap (W * H) = W * H := wrap_small (by omega) (by omega)
    clear hb3 hsz3
    by_cases h80 : 80 < W * H
    · clear hB hra
      go_wp2
      go_quiet (fail)
      go_wp2
      go_ret
      exact ⟨rfl, below_drewN B3 _⟩
    go_wp2
    go_quiet (fail)
    go_wp2_with fail
    have hb4 : Below w3.heap.size w3 (w3.drewN nq) := below_drewN (Below.refl _ _) _
    have hB4 := hB.below' hb4
    have B4 := B3.trans (hb4.mono B3.size)
    have gl : gb < (w3.drewN nq).heap.size := World.block_lt_of_cell? _ _ hB4.ga.c0
    clear hB hra ra0 ra1 hb4 B3 hwr
    generalize w3.drewN nq = w4 at *
    refine (new_graph w4 hB4.ga (s.below B4 hspos) gl).mono ?_
    rintro e w5 ⟨rb, pb, mbm, rfl, G5, _, _, _, hb5⟩
    have B5 := B4.trans (hb5.mono B4.size)
    by_cases hbad : most < 1 ∨ 6 < most
    · have hne := new_err (rb := rb) w5 hbad
      clear G5 hB4 hb5 B4
      go_wp2_with fail
      refine hne.mono ?_
      rintro e w6 ⟨rfl, hw6⟩
      replace hw6 := hw6.symm
      subst hw6
      have hse := same_err 1 w5 (by decide)
      clear hne
      rcases Decidable.em (most < 1) with h1 | h1
      · clear hbad
        go_wp2_with (go_at_call 11; refine hse.mono ?_; rintro e w' ⟨rfl, rfl⟩)
        go_ret
        exact ⟨rfl, B5⟩
      · have h6 : 6 < most := hbad.resolve_left h1
        clear hbad
        go_wp2_with (go_at_call 11; refine hse.mono ?_; rintro e w' ⟨rfl, rfl⟩)
        go_ret
        exact ⟨rfl, B5⟩
    · have hm1 : ¬ most < 1 := fun h => hbad (Or.inl h)
      have hm6 : ¬ 6 < most := fun h => hbad (Or.inr h)
      obtain ⟨mN, hmN⟩ : ∃ mN : Nat, most = (mN : Int) := ⟨most.toNat, by omega⟩
      subst hmN
      have HM : Hid (1 ≤ mN ∧ mN ≤ 6) := ⟨by omega, by omega⟩
      obtain ⟨es, hGE⟩ := gEs_ex W H bl gw1
      have HGE : Hid (GEs W H bl es) := hGE
      have hlv := new_levels (most := mN) w5 G5 hGE HM.out.1 HM.out.2
      clear hbad hGE
      go_wp2_with fail
      refine hlv.mono ?_
      rintro e w6 ⟨lb, rfl, L6, hb6⟩
      have B6 := B5.trans (hb6.mono B5.size)
      have hb46 := hb5.trans (hb6.mono hb5.size)
      have hB6 := hB4.below' hb46
      obtain ⟨vb, eb, k, st, f, hR, hO, V6⟩ := L6
      have HRD : Hid (Rds mN (crs W H bl (W * H).toNat) ⟨fun _ => 0, es⟩ k st ∧ Over mN (crs W H bl (W * H).toNat) k st) := ⟨hR, hO⟩
      have hrg := rgraph_any w6 hB6.ra (World.block_lt_of_cell? _ _ hB6.ra.c0)
      clear hlv G5 hb5 hb6 hb46 hB4 B4 B5 gl hR hO
      go_wp2_with fail
      refine hrg.mono ?_
      rintro e w7 ⟨rb2, mb3, A', AR, capA, R, f2, rfl, RG, ED, hb7⟩
      have hB7 := hB6.below' hb7
      have B7 := B6.trans (hb7.mono B6.size)
      have V7 := V6.below hb7
      have GM := RG.gm ED HGE.out
      have hcl : (crs W H bl (W * H).toNat).length ≤ 256 := by have := crs_len W H bl (W * H).toNat; omega
      have hcb : ∀ x ∈ crs W H bl (W * H).toNat, x < 256 := fun x hx => by have := (crs_mem.1 hx).1; omega
      have hrl := rlevels_any (most := mN) w7 GM (crs_rise W H bl _) hcb hcl (HGE.out.btw gw1 gw2 gh1 gh2) HM.out.1 HM.out.2
      clear hrg RG ED hb7 hB6 B6 V6 GM
      go_wp2_with fail
      refine hrl.mono ?_
      rintro e w8 ⟨lb2, vb2, eb2, k2, st2, f3, rfl, hR2, hO2, RL8, hb8⟩
      obtain ⟨ek, est⟩ := rounds_one HRD.out.1 HRD.out.2 hR2 hO2
      subst ek est
      have hB8 := hB7.below' hb8
      have B8 := B7.trans (hb8.mono B7.size)
      have V8 := V7.below hb8
      obtain ⟨hK, AS⟩ := asked HGE.out gw1 gw2 gh1 gh2 HM.out.2 HM.out.1 hR2
      have HES : Hid (Esy st.es) := (Btw.rds (show (0 : Int) ≤ 16 by omega) (HGE.out.btw gw1 gw2 gh1 gh2) hR2).lrd.esy
      have HAD : Hid (((sumB (addA st.es) (memS (crs W H bl (W * H).toNat)) 256 : Nat) : Int) / 2 = ((sumB (addU st.es) (memS (crs W H bl (W * H).toNat)) 256 : Nat) : Int)) := by
        have h := added_two HES.out (fun he => AS.to he) hcb (fun he => HES.out.off he)
        unfold Hid
        rw [h]
        push_cast
        omega
      have HAS : Hid (Asked (crs W H bl (W * H).toNat) es (k + 1) ⟨endL (k + 1) st, st.es⟩) := AS
      have HLN : Hid (∀ a, (st.es a).length ≤ 256) := fun a => AS.len hcb a
      have HV8 : Hid (LvAt w8 w5.heap.size lb vb eb (k + 1) (crs W H bl (W * H).toNat) ⟨endL (k + 1) st, st.es⟩ f) := V8
      have HR8 : Hid (RLv w8 lb2 vb2 eb2 (k + 1) (crs W H bl (W * H).toNat) ⟨endL (k + 1) st, st.es⟩ f3) := RL8
      have HB8 : Hid (Both w8 gb mb2 W H V bl) := hB8
      have HCB : Hid (∀ x ∈ crs W H bl (W * H).toNat, x < 256) := hcb
      clear hrl hb8 hB7 B7 V7 hR2 hO2 HRD AS V8 RL8 hB8 hcb hcl
      generalize crs W H bl (W * H).toNat = L at *
      go_upto_region 16 with fail
      go_cut [89] from 76 to 89 (fun bv wd => bv = .bool false ∧ Below w8.heap.size w8 wd)
      case first =>
        have hne := since_ne w8
        have t0 : ∀ x : Since w8, x.u.cell? ⟨lb2, 2, none⟩ = some (.int .i64 ((k + 1 : Nat) : Int)) := fun x => (HR8.out.below x.h).c2
        have h14 : Hid (∀ x : Since w8, _) := fun x => top_any x.u (HV8.out.below x.h)
        have h15 : Hid (∀ x : Since w8, Calls Tryz.prog 15 #[.pointer (some ⟨lb, 0, none⟩)] x.u fun e w' => e = .returned (.int .i64 ((sumB (addU st.es) (memS L) 256 : Nat) : Int)) ∧ Below x.u.heap.size x.u w') := fun x => by
          have h := added_any x.u (HV8.out.below x.h) HLN.out
          have e : (((sumB (addA (⟨endL (k + 1) st, st.es⟩ : LSt).es) (memS L) 256 : Nat) : Int) / 2) = ((sumB (addU st.es) (memS L) 256 : Nat) : Int) := HAD.out
          rw [e] at h
          exact h
        have h16 : Hid (∀ x : Since w8, Calls Tryz.prog 16 #[.pointer (some ⟨lb2, 0, none⟩)] x.u fun e w' => e = .returned (.int .i64 ((sumB (addU st.es) (memS L) 256 : Nat) : Int)) ∧ Below x.u.heap.size x.u w') := fun x => radded_any (st := ⟨endL (k + 1) st, st.es⟩) x.u (HR8.out.below x.h) HLN.out
        generalize ((sumB (addU st.es) (memS L) 256 : Nat) : Int) = zi at *
        generalize ((k + 1 : Nat) : Int) = T at *
        refine wp_region_since (by kernel_rfl) (by kernel_rfl) ?_
        repeat (go_big_quiet_step (first | (go_at_call 14; exact Calls.since_same (h14.out _)) | (go_at_call 15; exact Calls.since_of (h15.out _)) | (go_at_call 16; exact Calls.since_of (h16.out _))))
        clear t0 h14 h15 h16
        refine wpQuiet_nil ?_
        rintro _ ⟨x, rfl⟩
        go_wp2_with fail
        go_meet
        exact ⟨rfl, x.h⟩
      case rest =>
        obtain ⟨rfl, hb9⟩ := hcut
        have B9 := B8.trans (hb9.mono B8.size)
        clear B8
        go_wp2
        have HB9 : Hid (Below w8.heap.size w8 wc) := hb9
        clear hb9
        go_loopw [13] (fun cv wr => ∃ t : Nat, (t : Int) ≤ W * H + 2 ∧ cv = .int .i64 ((t : Int) - 1) ∧ Below w8.heap.size w8 wr ∧ Below w.heap.size w wr)
          (fun c _ => 300 - (intOf c + 1).toNat)
        case atStart => exact ⟨0, by omega, rfl, HB9.out, B9⟩
        case round =>
          clear B9 HB9
          obtain ⟨t, ht, rfl, hBr, hBw⟩ := hrel
          have hra := (HB8.out.below' hBr).ra
          have ra0 := hra.c0
          have ra1 := hra.c1
          have hwr : IntKind.i64.wrap (W * H) = W * H := wrap_small (by omega) (by omega)
          obtain ⟨tz, htz⟩ : ∃ tz : Int, tz = (t : Int) - 1 := ⟨_, rfl⟩
          have HTZ : Hid (tz = (t : Int) - 1) := htz
          have tz1 : -1 ≤ tz := by omega
          have tz2 : tz ≤ 82 := by omega
          rw [← htz]
          by_cases hlt : tz ≤ W * H
          · have hlt1 : (t : Int) + 1 ≤ W * H + 2 := by omega
            have HT1 : Hid ((((t + 1 : Nat) : Int)) ≤ W * H + 2 ∧ tz + 1 = ((t + 1 : Nat) : Int) - 1) := ⟨by omega, by omega⟩
            clear htz hra ht hlt1
            go_wp2_with fail
            go_quiet (fail)
            go_wp2_with fail
            have bD : Below wr.heap.size wr (wr.drewN nq) := below_drewN (Below.refl _ _) _
            have hBr := hBr.trans (bD.mono hBr.size)
            have hBw := hBw.trans (bD.mono hBw.size)
            clear bD ra0 ra1 hwr
            generalize wr.drewN nq = W2 at *
            have hwz : (Lit.int .i64 tz).wf = true := by
              by_cases e : tz = -1
              · subst e; rfl
              · exact wf_small (by omega) (by omega)
            by_cases hin : 0 ≤ tz ∧ tz.toNat ∈ L
            · obtain ⟨c, hc⟩ : ∃ c : Nat, tz = (c : Int) := ⟨tz.toNat, by omega⟩
              subst hc
              have hcL : c ∈ L := by have := hin.2; rwa [Int.toNat_natCast] at this
              have HCL : Hid (c ∈ L) := hcL
              have V2 := HV8.out.below hBr
              have hlev := level_yes W2 V2 hcL
              have hled := ledges_yes W2 V2 hcL (HLN.out c)
              have hUn : ∀ {e : LE}, e ∈ st.es c → ∃ way, Unp st.es 6 c e.to way := fun he => by
                obtain ⟨way, h1, _⟩ := HAS.out.way he
                exact ⟨way, h1⟩
              have HUN : Hid (∀ {e : LE}, e ∈ st.es c → ∃ way, Unp st.es 6 c e.to way) := hUn
              have hsm := HCB.out c hcL
              have hln := HLN.out c
              obtain ⟨lz, hlz⟩ : ∃ lz : Int, ((⟨endL (k + 1) st, st.es⟩ : LSt).lev c : Int) = lz := ⟨_, rfl⟩
              have HLZ : Hid (((⟨endL (k + 1) st, st.es⟩ : LSt).lev c : Int) = lz) := hlz
              rw [hlz] at hlev
              clear hin V2 hcL hUn hlz
              refine hlev.mono ?_
              rintro e w' ⟨rfl, hw'⟩
              replace hw' := hw'.symm
              subst hw'
              go_wp2_with fail
              refine hled.mono ?_
              rintro e w5' ⟨v5, rfl, own5, hb5⟩
              have own5 : w5'.ownsRow W2.heap.size 67 4 v5 (st.es c).length (lesV (st.es c)) := own5
              obtain ⟨A5, cap5, rfl, row5, _⟩ := rowL_of own5
              have Br5 := hBr.trans (hb5.mono hBr.size)
              have Bw5 := hBw.trans (hb5.mono hBw.size)
              have R5 := HR8.out.below Br5
              have c1 := R5.c1
              have c0 := R5.c0
              obtain ⟨A', cap', hf', row'⟩ := R5.yes c HCL.out
              have hf' : f3 (c : Int) = some (.slice A' (st.es c).length cap') := hf'
              have row' : RowL w5' A' (st.es c) := row'
              have h47 : (Instr.lookup 47 (.map (some eb2)) (.int .i64 (c : Int)) true).run Tryz.prog w5' = .ok (.tuple #[.slice A' (st.es c).length cap', .bool true]) w5' := R5.em.mp.look_some law3 Tryz.underM (zeroM _) hwz hf' true
              have h46 := R5.look HCL.out
              rw [HLZ.out] at h46
              have hsl := sameL_any (ca := cap5) (cb := cap') w5' row5 row' (by omega)
              clear hlev hled own5 hb5 hBr hBw R5 row5 row' hf'
              go_wp2_with fail
              refine hsl.mono ?_
              rintro e w6' ⟨rfl, hb6⟩
              have Br6 := Br5.trans (hb6.mono Br5.size)
              have Bw6 := Bw5.trans (hb6.mono Bw5.size)
              have hup := unpacked_any w6' (HV8.out.below Br6) (HR8.out.below Br6) HCL.out HAS.out.ord HAS.out.to HLN.out HUN.out
              clear hsl h47 h46 c1 c0 hb6 Br5 Bw5
              go_wp2_with fail
              refine hup.mono ?_
              rintro e w7' ⟨rfl, hb7⟩
              have Br7 := Br6.trans (hb7.mono Br6.size)
              have Bw7 := Bw6.trans (hb7.mono Bw6.size)
              clear hup hb7 Br6 Bw6
              go_wp2
              go_roundw
              case rel => exact ⟨t + 1, HT1.out.1, by rw [← HT1.out.2], Br7, Bw7⟩
              case measure => simp [intOf]; omega
            · have V2 := HV8.out.below hBr
              have hlev := level_no W2 V2 hin hwz
              have hled := ledges_no W2 V2 hin hwz
              have R2 := HR8.out.below hBr
              have c1 := R2.c1
              have h47 : (Instr.lookup 47 (.map (some eb2)) (.int .i64 tz) true).run Tryz.prog W2 = .ok (.tuple #[.slice none 0 0, .bool false]) W2 := R2.em.mp.look_none law3 Tryz.underM (zeroM _) hwz (R2.no tz hin) true
              have hse : Hid (∀ w, _) := fun w => same_err 5 w (by decide)
              clear V2 R2 hin
              refine hlev.mono ?_
              rintro e w' ⟨rfl, hw'⟩
              replace hw' := hw'.symm
              subst hw'
              go_wp2_with fail
              refine hled.mono ?_
              rintro e w' ⟨rfl, hw'⟩
              replace hw' := hw'.symm
              subst hw'
              clear hlev hled
              go_wp2_with (go_at_call 11; refine (hse.out _).mono ?_; rintro e w' ⟨rfl, rfl⟩)
              go_roundw
              case rel => exact ⟨t + 1, HT1.out.1, by rw [← HT1.out.2], hBr, hBw⟩
              case measure => simp [intOf]; omega
          · clear htz hra ht
            go_wp2_with fail
            go_quiet (fail)
            go_wp2
            go_ret
            exact ⟨rfl, below_drewN hBw _⟩
end Go.Proofs.YtmnpplkjhnoglaaGreatDoor
/-
  The table of steps, read off the row's listed variable.
-/
namespace Go.Proofs.YtmnpplkjhnoglaaGreatDoor
open Go.ChangeShapes Go.WideShapes Go.ChangeAt Go.RowKit

theorem gSteps : Tryz.prog.globalNamed "fellrunner/grid.steps" = some 0 := by kernel_rfl
theorem tSteps : (Tryz.prog.globals[0]?).map (·.type) = some 213 := by kernel_rfl
theorem c60 : Tryz.prog.cellsOf 212 = 2 := by kernel_rfl
theorem c3' : Tryz.prog.cellsOf 3 = 1 := by kernel_rfl
abbrev stepsLaid : List (String × DataW Unit) := [("fellrunner/grid.steps", Rows.laid_fellrunner_grid_steps)]

theorem lt_of_cell {w : World} {b o : Nat} {v : Value} (h : w.cell? ⟨b, o, none⟩ = some v) : b < w.heap.size := by
  by_cases hb : b < w.heap.size
  · exact hb
  · unfold World.cell? at h
    rw [Array.getElem?_eq_none (by simpa using hb)] at h
    simp at h

theorem steps_of {W : World} (h : laidMetH Tryz.prog stepsLaid W) : StepsAt W ∧ 0 < W.heap.size := by
  rw [MakeChecks.laidMetH_plain _ _ _ (by kernel_rfl)] at h
  obtain ⟨ps, ⟨g0, t0, cs0, f0, p0, q0, hg0, ht0, hv0, hd0, _, _⟩, _, _⟩ := h
  obtain rfl := Option.some.inj (gSteps.symm.trans hg0)
  obtain rfl := Option.some.inj (tSteps.symm.trans ht0)
  obtain ⟨xs, m, _, hx1, hlen, hn, hel⟩ := DataW.trod_array Tryz.underlying213 hd0
  simp only [Prod.mk.injEq] at hx1
  have hxa := hx1.1
  have key : ∀ i, i < 8 → cs0.toList[2 * i]? = some (.int .i64 (stepX i)) ∧ cs0.toList[2 * i + 1]? = some (.int .i64 (stepY i)) := by
    intro i hi
    have h1 := hel i hi
    rw [c60] at h1
    have hxi : ∃ p, xs[i]? = some (Lib.tabData .i64 [stepX i, stepY i], p) := by
      have hlt : i < xs.length := by omega
      refine ⟨xs[i].2, ?_⟩
      rw [List.getElem?_eq_getElem hlt]
      have e2 : (xs.map (·.1))[i]? = some xs[i].1 := by rw [List.getElem?_map, List.getElem?_eq_getElem hlt]; rfl
      simp only [Rows.laid_fellrunner_grid_steps, DataW.agg.injEq] at hxa
      rw [← hxa] at e2
      have hks : i = 0 ∨ i = 1 ∨ i = 2 ∨ i = 3 ∨ i = 4 ∨ i = 5 ∨ i = 6 ∨ i = 7 := by omega
      rcases hks with rfl | rfl | rfl | rfl | rfl | rfl | rfl | rfl <;>
        (simp at e2; exact congrArg some (Prod.ext e2.symm rfl))
    obtain ⟨p, hp⟩ := hxi
    rw [hp] at h1
    have h2 := Lib.cells_of_tab Tryz.underlying212 Tryz.underlying3 c3' c60 h1
    have a0 : ((cs0.toList.drop (i * 2)).take 2)[0]? = cs0.toList[2 * i]? := by
      rw [List.getElem?_take_of_lt (by decide), List.getElem?_drop]; congr 1; omega
    have a1 : ((cs0.toList.drop (i * 2)).take 2)[1]? = cs0.toList[2 * i + 1]? := by
      rw [List.getElem?_take_of_lt (by decide), List.getElem?_drop]; congr 1; omega
    rw [h2] at a0 a1
    exact ⟨a0.symm, a1.symm⟩
  have cell : ∀ i, W.cell? ⟨0, i, none⟩ = cs0.toList[i]? := fun i => by
    have := World.var?_cell hg0 hv0 i
    rw [this]; simp
  refine ⟨fun i hi => ⟨by rw [cell]; exact (key i hi).1, by rw [cell]; exact (key i hi).2⟩, ?_⟩
  exact lt_of_cell ((cell 0).trans (key 0 (by decide)).1)
end Go.Proofs.YtmnpplkjhnoglaaGreatDoor
/-
  What the frames of this seat's laws have in common: how lists that come in lie in memory.
-/
namespace Go.Proofs.YtmnpplkjhnoglaaGreatDoor
open Go.ChangeShapes Go.WideShapes Go.ChangeAt Go.RowKit Go.Joins

theorem Tryz.own : ownKnob Tryz.prog.godebug = none := by kernel_rfl
theorem Tryz.laidOut : laidOutB Tryz.prog = true := by kernel_rfl
theorem Tryz.cells24 : Tryz.prog.cellsOf 24 = 3 := by kernel_rfl

theorem law_met (os : Os) (args : Array Value) : laidMetH Tryz.prog stepsLaid ((World.doorLaid Tryz.prog 27 os).forCall (fun _ _ => 0) ⟨#[], args, []⟩).memory :=
  laidMetH_of_parts3 (fuel := 8) (laidMet_of_run' 8 (by kernel_rfl) (by kernel_rfl)) (by kernel_rfl) (by kernel_rfl)

/-- a slice of integers that came in, as a row of old memory -/
theorem row_in {H : Type} {enc : TypeId × Value → H} {W : World} {sp : Nat → Bool} {held : Bool} {fuel : Nat} {c : Value} {x : DataW H × List MemPlace} (h : DataW.trod enc Tryz.prog W 0 sp held fuel 22 [c] = some x) :
    ∃ A n cap xs, c = .slice A n cap ∧ n ≤ maxLen ∧ OldRow W A n xs := by
  rcases open_ints Tryz.underlying22 Tryz.underlying3 (by kernel_rfl) h with ⟨hcs, _⟩ | ⟨a, l, cap, zs, hcs, _, hl, hm, hz, _, hcell, _⟩
  · simp at hcs
    exact ⟨none, 0, 0, fun _ => 0, hcs, by unfold maxLen; omega, fun i hi => absurd hi (Nat.not_lt_zero i)⟩
  · simp at hcs
    refine ⟨some a, l, cap, fun i => zs.getD i 0, hcs, Nat.le_trans hl hm, fun i hi => ?_⟩
    have hzl : i < zs.length := by rw [hz]; split <;> omega
    obtain ⟨b, off, rfl, hc⟩ := ints_at hcell (by omega)
    exact ⟨b, off, rfl, lt_of_cell (hc i hzl), hc i hzl⟩

end Go.Proofs.YtmnpplkjhnoglaaGreatDoor
