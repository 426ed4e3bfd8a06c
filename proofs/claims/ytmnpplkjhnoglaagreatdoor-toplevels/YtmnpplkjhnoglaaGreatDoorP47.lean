/-
  Texts laid together: LvTop, Steps.
-/
import Derived.Test.YtmnpplkjhnoglaaGreatDoorP46
import Derived.Deep.CutRange
import Derived.ProofKit
import Derived.LaidMore
import Derived.OpenShut
import Derived.Stop.Joined
import Derived.Lib.LaidTab
/-
  What 'TopLevels' does at every plot: it answers true.
-/
namespace Go.Proofs.YtmnpplkjhnoglaaGreatDoor
open Go.RowKit

/-- levels of nine cells: Top is 2 -/
theorem lvd9 {w : World} {N lb : Nat} {es : Nat → List LE} (G : GEs 3 3 mid9 es) (h : Lvd w N lb 2 3 3 mid9 es) : w.cell? ⟨lb, 0, none⟩ = some (.int .i64 2) := by
  obtain ⟨vb, eb, k, st, f, h1, h2, V⟩ := h
  rw [corn9] at h1 h2
  have e := top9 G h1 h2
  subst e
  exact V.c0

set_option maxHeartbeats 8000000 in
set_option maxRecDepth 1000000 in
theorem topLevels_any (W H most : Int) (A : Option Addr) (n cap : Nat) (xs : Nat → Int) (w : World) (s : StepsAt w) (hm : n ≤ maxLen) (hx : OldRow w A n xs) :
    Calls Tryz.prog 4 #[.agg #[.int .i64 W, .int .i64 H, .slice A n cap], .int .i64 most] w fun e w' => e = .returned (.bool true) ∧ Below w.heap.size w w' := by
  have hs3 : sideB 3 = true := by decide
  have hG := gridAt_new 3 3 (w.alloc (.cells #[.int .i64 W, .int .i64 H, .slice A n cap] 24)) hs3 hs3
  have b0 : Below w.heap.size w (w.alloc (.cells #[.int .i64 W, .int .i64 H, .slice A n cap] 24)) := (Below.refl _ _).alloc (Nat.le_refl _) _
  have hb : Below w.heap.size w ((w.alloc (.cells #[.int .i64 W, .int .i64 H, .slice A n cap] 24)).alloc (.cells (gridC 3 3) 117)) := b0.alloc (by simp) _
  have e1 : (w.alloc (.cells #[.int .i64 W, .int .i64 H, .slice A n cap] 24)).heap.size = w.heap.size + 1 := by simp
  have hfr : Free ((w.alloc (.cells #[.int .i64 W, .int .i64 H, .slice A n cap] 24)).alloc (.cells (gridC 3 3) 117)) (w.heap.size + 1) := by
    have := free_alloc (w.alloc (.cells #[.int .i64 W, .int .i64 H, .slice A n cap] 24)) (gridC 3 3) 117 (w.heap.size + 1) (by simp)
    exact this
  have q : ∀ o, ((w.alloc (.cells #[.int .i64 W, .int .i64 H, .slice A n cap] 24)).alloc (.cells (gridC 3 3) 117)).cell? ⟨w.heap.size, o, none⟩ = #[Value.int .i64 W, .int .i64 H, .slice A n cap][o]? := fun o => by
    rw [World.cell?_alloc_old _ _ _ (by simp), World.cell?_alloc_new]
  rw [e1] at hG
  have hz0 : ((w.alloc (.cells #[.int .i64 W, .int .i64 H, .slice A n cap] 24)).alloc (.cells (gridC 3 3) 117)).heap.size = w.heap.size + 2 := by simp
  have hspos := s.pos
  obtain ⟨es9, hG9⟩ := gEs_ex 3 3 mid9 (by decide)
  go_enter Tryz.func4, Tryz.ntmps4
  go_wp2_with (go_at_call 21; refine (new_ok _ _ _ hs3 hs3).mono ?_; rintro e w' ⟨rfl, rfl⟩)
  generalize (w.alloc (.cells #[.int .i64 W, .int .i64 H, .slice A n cap] 24)).alloc (.cells (gridC 3 3) 117) = w0 at *
  clear e1 b0
  have hse := set_new 4 true w0 hG hfr (by decide) rfl (by decide) (by decide)
  refine hse.mono ?_
  rintro e w1 ⟨rfl, T1, g1, fr1⟩
  have B1 := T1.below hb (by omega)
  have q1 : ∀ o, w1.cell? ⟨w.heap.size, o, none⟩ = #[Value.int .i64 W, .int .i64 H, .slice A n cap][o]? := fun o => (T1.cell (p := ⟨w.heap.size, o, none⟩) (by show w.heap.size ≠ w.heap.size + 1; omega)).trans (q o)
  have hl1 : w.heap.size + 1 < w1.heap.size := World.block_lt_of_cell? _ _ g1.c0
  clear hse hG q T1 hfr fr1
  go_wp2_with fail
  refine (new_graph w1 g1 (s.below B1 hspos) hl1).mono ?_
  rintro e w2 ⟨rb, pb, mb, rfl, G2, _, _, _, hb2⟩
  have B2 := B1.trans (hb2.mono B1.size)
  have q2 : ∀ o, w2.cell? ⟨w.heap.size, o, none⟩ = #[Value.int .i64 W, .int .i64 H, .slice A n cap][o]? := fun o => (hb2.cell (p := ⟨w.heap.size, o, none⟩) (by show w.heap.size < _; omega)).trans (q1 o)
  have hzw2 : w.heap.size < w2.heap.size := by have := hb2.size; omega
  clear g1 q1
  have hlv := new_levels (most := 2) w2 G2 hG9 (by decide) (by decide)
  go_wp2_with fail
  refine hlv.mono ?_
  rintro e w3 ⟨lb, rfl, L3, hb3⟩
  have hc3 := lvd9 hG9 L3
  obtain ⟨vb3, eb3, k3, st3, f3, _, _, V3⟩ := L3
  have ht3 := top_any w3 V3
  have hk3 : ((k3 + 1 : Nat) : Int) = 2 := by
    have := V3.c0.symm.trans hc3
    simpa using this
  rw [hk3] at ht3
  have B3 := B2.trans (hb3.mono B2.size)
  have c0 : w3.cell? ⟨w.heap.size, 0, none⟩ = some (.int .i64 W) := (hb3.cell (p := ⟨w.heap.size, 0, none⟩) hzw2).trans (q2 0)
  have c1 : w3.cell? ⟨w.heap.size, 1, none⟩ = some (.int .i64 H) := (hb3.cell (p := ⟨w.heap.size, 1, none⟩) hzw2).trans (q2 1)
  have c2 : w3.cell? ⟨w.heap.size, 2, none⟩ = some (.slice A n cap) := (hb3.cell (p := ⟨w.heap.size, 2, none⟩) hzw2).trans (q2 2)
  clear hlv G2 q2 hb3 hb2 hb B1 B2 hl1 hzw2 hz0 V3 hk3 hc3 hG9
  have hLd := laid_any W H A n cap xs w3 hm (hx.below B3)
  go_wp2_with fail
  refine ht3.mono ?_
  rintro e w3' ⟨rfl, hw3⟩
  replace hw3 := hw3.symm
  subst hw3
  go_wp2_with fail
  refine hLd.mono ?_
  rintro e w4 ⟨hb4, hcs⟩
  have B4 := B3.trans (hb4.mono B3.size)
  clear hLd c0 c1 c2 ht3
  rcases hcs with rfl | ⟨rfl, hsz4, V, bl, hV, hB⟩
  · go_wp2
    go_quiet (fail)
    go_wp2
    go_ret
    exact ⟨rfl, below_drewN B4 _⟩
  · generalize w3.heap.size + 1 + 1 = mb2 at *
    generalize w3.heap.size + 1 = gb at *
    have hra := hB.ra
    have ra0 := hra.c0
    have ra1 := hra.c1
    have gw1 := hra.w1
    have gw2 := hra.w2
    have gh1 := hra.h1
    have gh2 := hra.h2
    have hwh := wh_bd hra.w1 hra.w2 hra.h1 hra.h2
    have gl : gb < w4.heap.size := World.block_lt_of_cell? _ _ hB.ga.c0
    have hwr : IntKind.i64.wrap (W * H) = W * H := wrap_small (by omega) (by omega)
    by_cases h100 : 100 < W * H
    · clear hB
      go_wp2
      go_quiet (fail)
      go_wp2
      go_ret
      exact ⟨rfl, below_drewN B4 _⟩
    by_cases hm1 : most < 1
    · clear hB
      go_wp2
      go_quiet (fail)
      go_wp2
      go_ret
      exact ⟨rfl, below_drewN B4 _⟩
    by_cases hm6 : 6 < most
    · clear hB
      go_wp2
      go_quiet (fail)
      go_wp2
      go_ret
      exact ⟨rfl, below_drewN B4 _⟩
    · obtain ⟨mN, hmN⟩ : ∃ mN : Nat, most = (mN : Int) := ⟨most.toNat, by omega⟩
      subst hmN
      go_wp2
      go_quiet (fail)
      go_wp2_with fail
      have hb5 : Below w4.heap.size w4 (w4.drewN nq) := below_drewN (Below.refl _ _) _
      have hB5 := hB.below' hb5
      have B5 := B4.trans (hb5.mono B4.size)
      have hz5 : w4.heap.size = (w4.drewN nq).heap.size := rfl
      clear hB hb5 hb4 hra ra0 ra1 h100 hwr
      generalize w4.drewN nq = w5 at *
      obtain ⟨es, hGE⟩ := gEs_ex W H bl gw1
      have HGE : Hid (GEs W H bl es) := hGE
      clear hGE
      refine (new_graph w5 hB5.ga (s.below B5 hspos) (by omega)).mono ?_
      rintro e w6 ⟨rb2, pb2, mbm, rfl, G6, _, _, _, hb6⟩
      have B6 := B5.trans (hb6.mono B5.size)
      have hlv := new_levels (most := mN) w6 G6 HGE.out (by omega) (by omega)
      clear hB5 hb6 B5
      go_wp2_with fail
      refine hlv.mono ?_
      rintro e w7 ⟨lb2, rfl, L7, hb7⟩
      obtain ⟨vb, eb, K, st, f, hR, _, V7⟩ := L7
      have G7 := G6.below hb7
      have B7 := B6.trans (hb7.mono B6.size)
      obtain ⟨hK, AS⟩ := asked HGE.out gw1 gw2 gh1 gh2 (by omega) (by omega) hR
      have hcr : Hid (∀ n, n ∈ crs W H bl (W * H).toNat → n < 256) := fun n hn => by
        have := (crs_mem.1 hn).1
        omega
      have hLL : (crs W H bl (W * H).toNat).length ≤ 256 := by have := crs_len W H bl (W * H).toNat; omega
      have hno := nodes_any w7 G7
      clear hlv hR G6 hb7 B6
      generalize (⟨endL (K + 1) st, st.es⟩ : LSt) = lv at *
      generalize K + 1 = T at *
      generalize crs W H bl (W * H).toNat = L at *
      have htp := top_any w7 V7
      have hTm : ¬ (mN : Int) < (T : Int) := by omega
      go_wp2_with fail
      refine htp.mono ?_
      rintro e w7' ⟨rfl, hw7⟩
      replace hw7 := hw7.symm
      subst hw7
      go_wp2_with fail
      refine hno.mono ?_
      rintro e w8 ⟨v8, rfl, hown8, hb8⟩
      have G8 := G7.below hb8
      have V8 := V7.below hb8
      have B8 := B7.trans (hb8.mono B7.size)
      obtain ⟨A8, cap8, rfl, _⟩ := row_of hown8
      have HAS : Hid (Asked L es T lv) := AS
      have HV8 : Hid (LvAt w8 w6.heap.size lb2 vb eb T L lv f) := V8
      have HG8 : Hid (GraphAt w8 rb2 pb2 mbm W H V bl) := G8
      have HO8 : Hid (w8.ownsRow w7.heap.size 3 1 (.slice A8 L.length cap8) L.length (vals L)) := hown8
      clear hno htp AS V8 G8 hown8 hb8 G7 V7 B7 hK hTm
      go_wp2
      go_loopw [13] (fun iv wr => ∃ (i : Nat), i ≤ L.length ∧ iv = .int .i64 i ∧ Below w8.heap.size w8 wr ∧ Below w.heap.size w wr)
        (fun i _ => L.length - (intOf i).toNat)
      case atStart => exact ⟨0, Nat.zero_le _, rfl, Below.refl _ _, B8⟩
      case round =>
        obtain ⟨i, hi, rfl, hBr, hBw⟩ := hrel
        by_cases hlt : i < L.length
        · have own := own_below HO8.out hBr
          obtain ⟨g0, hA0⟩ : ∃ g0, A8 = some ⟨g0, 0, none⟩ := by
            rcases own.2 with ⟨_, h0⟩ | ⟨g0, _, _, hv, _⟩
            · omega
            · exact ⟨g0, by cases hv; rfl⟩
          subst hA0
          have hcell := own_int own i hlt
          obtain ⟨n, hn⟩ : ∃ n, L[i]? = some n := ⟨L[i], List.getElem?_eq_getElem hlt⟩
          have hnk : L.getD i 0 = n := by
            rw [List.getD_eq_getElem?_getD, hn]; rfl
          rw [hnk] at hcell
          have hnL := List.mem_of_getElem? hn
          have i1 : (0 : Int) ≤ (i : Int) := by omega
          have i2 : (i : Int) < (L.length : Int) := by omega
          have Vr := HV8.out.below hBr
          have hlev := level_yes wr Vr hnL
          have hled := ledges_yes wr Vr hnL (HAS.out.len hcr.out n)
          have HNL : Hid (n ∈ L) := hnL
          obtain ⟨a1, a2⟩ := HAS.out.le n
          have a3 : ¬ (lv.lev n : Int) < 1 := by omega
          have a4 : ¬ (T : Int) < (lv.lev n : Int) := by omega
          have a3' : decide ((lv.lev n : Int) < 1) = false := decide_eq_false a3
          have a4' : decide (T < lv.lev n) = false := decide_eq_false (by omega)
          have HLE : Hid ((lv.es n).length ≤ 256) := HAS.out.len hcr.out n
          have HNK : Hid (L.getD i 0 = n) := hnk
          clear own hn hnk hnL a1 a2 Vr
          go_wp2_with fail
          refine hlev.mono ?_
          rintro e wl ⟨rfl, hwl⟩
          replace hwl := hwl.symm
          subst hwl
          go_wp2_with fail
          refine hled.mono ?_
          rintro e w9 ⟨v9, rfl, hown9, hb9⟩
          obtain ⟨A9, cap9, rfl, row9, _⟩ := rowL_of hown9
          have B9 := hBr.trans (hb9.mono hBr.size)
          have BW9 := hBw.trans (hb9.mono hBw.size)
          have htp := top_any w9 (HV8.out.below B9)
          have HR9 : Hid (RowL w9 A9 (lv.es n)) := row9
          clear hlev hled hown9 hb9 row9 hcell
          go_wp2_with fail
          refine htp.mono ?_
          rintro e wl ⟨rfl, hwl⟩
          replace hwl := hwl.symm
          subst hwl
          clear htp hBr hBw
          go_wp2
          go_loopw [18] (fun jv wr => ∃ (j : Nat), j ≤ (lv.es n).length ∧ jv = .int .i64 j ∧ Below w9.heap.size w9 wr ∧ Below w.heap.size w wr)
            (fun j _ => (lv.es n).length - (intOf j).toNat)
          case atStart => exact ⟨0, Nat.zero_le _, rfl, Below.refl _ _, BW9⟩
          case round =>
            clear BW9
            obtain ⟨j, hj, rfl, hBr, hBw⟩ := hrel
            by_cases hlt2 : j < (lv.es n).length
            · obtain ⟨e, he⟩ : ∃ e, (lv.es n)[j]? = some e := ⟨(lv.es n)[j], List.getElem?_eq_getElem hlt2⟩
              have hem := List.mem_of_getElem? he
              obtain ⟨b, o, rfl, q1, q2, q3, q4⟩ := (HR9.out.below hBr) j e he
              have j1 : (0 : Int) ≤ (j : Int) := by omega
              have j2 : (j : Int) < ((lv.es n).length : Int) := by omega
              have b10 : Below wr.heap.size wr (wr.alloc (.cells #[.int .i64 (e.to : Int), .int .i64 e.s, .int .i64 e.d, .int .i64 e.mid] 67)) := (Below.refl _ _).alloc (Nat.le_refl _) _
              have y0 : (wr.alloc (.cells #[.int .i64 (e.to : Int), .int .i64 e.s, .int .i64 e.d, .int .i64 e.mid] 67)).cell? ⟨wr.heap.size, 0, none⟩ = some (.int .i64 (e.to : Int)) := World.cell?_alloc_at _ _ _ 0 rfl
              have y1 : (wr.alloc (.cells #[.int .i64 (e.to : Int), .int .i64 e.s, .int .i64 e.d, .int .i64 e.mid] 67)).cell? ⟨wr.heap.size, 1, none⟩ = some (.int .i64 e.s) := World.cell?_alloc_at _ _ _ 1 rfl
              have y2 : (wr.alloc (.cells #[.int .i64 (e.to : Int), .int .i64 e.s, .int .i64 e.d, .int .i64 e.mid] 67)).cell? ⟨wr.heap.size, 2, none⟩ = some (.int .i64 e.d) := World.cell?_alloc_at _ _ _ 2 rfl
              have y3 : (wr.alloc (.cells #[.int .i64 (e.to : Int), .int .i64 e.s, .int .i64 e.d, .int .i64 e.mid] 67)).cell? ⟨wr.heap.size, 3, none⟩ = some (.int .i64 e.mid) := World.cell?_alloc_at _ _ _ 3 rfl
              have B10 := hBr.trans (b10.mono hBr.size)
              have BW10 := hBw.trans (b10.mono hBw.size)
              have C10 := B9.trans (B10.mono B9.size)
              have V10 := HV8.out.below C10
              have hlev := level_yes _ V10 (HAS.out.to hem).2
              have htp := top_any _ V10
              have hlm : Hid (∀ m, m ∈ L → _) := fun m (hm : m ∈ L) => level_yes _ V10 hm
              have HEM : Hid (e ∈ lv.es n) := hem
              have hcell := own_int (own_below HO8.out C10) i hlt
              rw [HNK.out] at hcell
              obtain ⟨way, U, wy0, wy1, wy2, wy3, PR⟩ := HAS.out.way hem
              have HW : Hid (Unp lv.es 6 n e.to way ∧ way[0]? = some n ∧ way[way.length - 1]? = some e.to ∧ Prc es way e.s e.d) := ⟨U, wy0, wy1, PR⟩
              have a5 := HAS.out.apart hem
              have a6 := HAS.out.mid hem
              clear b10 V10 he hem hBr hBw U wy0 wy1 PR
              go_wp2_with fail
              generalize wr.alloc (.cells #[.int .i64 (e.to : Int), .int .i64 e.s, .int .i64 e.d, .int .i64 e.mid] 67) = w10 at *
              generalize wr.heap.size = X at *
              refine hlev.mono ?_
              rintro r wl ⟨rfl, hwl⟩
              replace hwl := hwl.symm
              subst hwl
              clear hlev q1 q2 q3 q4
              have hMid0 : 0 ≤ e.mid → ∃ mn : Nat, e.mid = (mn : Int) ∧ mn ∈ L ∧ ¬ (lv.lev n : Int) ≤ (lv.lev mn : Int) ∧ ¬ (lv.lev e.to : Int) ≤ (lv.lev mn : Int) := fun h => by
                obtain ⟨p1, p2, p3⟩ := a6 h
                exact ⟨e.mid.toNat, by omega, p1, by omega, by omega⟩
              generalize lv.lev e.to = u at *
              have hT1 : u = lv.lev n → ¬ ((lv.lev n : Nat) : Int) < (T : Int) := fun h => by have := a5 h; omega
              have hne : ¬ u = lv.lev n → ¬ (u : Int) = ((lv.lev n : Nat) : Int) := fun h => by omega
              go_upto_region 28 with fail
              go_cut [172] from 143 to 221 (fun b wc => b = .bool false ∧ wc = w10)
              case first =>
                rcases Decidable.em (u = lv.lev n) with huk | huk
                · have hT2 := hT1 huk
                  subst huk
                  clear a5 a6 hT1 hne hMid0 hlm
                  go_wp2_with fail
                  refine htp.mono ?_
                  rintro r wl ⟨rfl, hwl⟩
                  replace hwl := hwl.symm
                  subst hwl
                  go_wp2_with fail
                  go_meet
                  exact ⟨congrArg Value.bool (decide_eq_false (by omega)), rfl⟩
                · have hn2 := hne huk
                  clear huk a5 a6 hT1 hne hMid0 hlm
                  go_wp2_with fail
                  go_meet
                  exact ⟨rfl, rfl⟩
              case rest =>
                obtain ⟨rfl, hwc⟩ := hcut
                replace hwc := hwc.symm
                subst hwc
                clear htp a5 a6 hT1 hne
                go_upto_if 175 with fail
                go_cut [22, 23] from 143 to 221 (fun _ _ wd => wd = w10)
                case first =>
                  rcases Decidable.em (0 ≤ e.mid) with hm | hm
                  · obtain ⟨mn, hmn, hmL, hv1, hv2⟩ := hMid0 hm
                    have hle := hlm.out mn hmL
                    rw [hmn] at y3
                    have HMN : Hid (e.mid = (mn : Int)) := hmn
                    clear hmn hmL hMid0 hlm
                    go_wp2_with fail
                    refine hle.mono ?_
                    rintro r wl ⟨rfl, hwl⟩
                    replace hwl := hwl.symm
                    subst hwl
                    go_wp2_with fail
                    go_meet
                    rfl
                  · clear hMid0 hlm
                    go_wp2_with fail
                    go_meet
                    rfl
                case rest =>
                  replace hcut := hcut.symm
                  subst hcut
                  clear hMid0 hlm
                  go_upto_region 34 with fail
                  go_cut [24, 21] from 143 to 221 (fun wv ev wd => ∃ g11 cap11, wv = .slice (some ⟨g11, 0, none⟩) way.length cap11 ∧ ev = .nilIface ∧ RowN wd g11 0 way ∧ Below w10.heap.size w10 wd)
                  case first =>
                    have b11 : Below w10.heap.size w10 w10.drew := (Below.refl _ _).drew
                    have C11 := C10.trans (b11.mono C10.size)
                    have hun := unpack_yes HAS.out.ord HAS.out.to (HAS.out.len hcr.out) hcr.out 6 n e.to way w10.drew (by omega) HW.out.1 (HV8.out.below C11)
                    have t0 : w10.drew.cell? ⟨g0, i, none⟩ = some (.int .i64 (n : Int)) := hcell
                    have t1 : w10.drew.cell? ⟨X, 0, none⟩ = some (.int .i64 (e.to : Int)) := y0
                    clear hcell y0 y1 y2 y3
                    go_region_with (go_at_call 24; refine hun.mono ?_; rintro r w11 ⟨v11, rfl, own11, hb11⟩)
                    all_goals
                      obtain ⟨g11, cap11, rfl, rn11, _, _, _, _⟩ := rowN_of own11 (by omega)
                      have D11 := b11.trans (hb11.mono b11.size)
                      clear hun t0 t1 own11 b11 hb11 C11
                      go_wp2_with fail
                      go_meet
                      exact ⟨g11, cap11, rfl, rfl, rn11, D11⟩
                  case rest =>
                    obtain ⟨g11, cap11, rfl, rfl, rn11, D11⟩ := hcut
                    have C12 := C10.trans (D11.mono C10.size)
                    have x0 := (D11.cell (World.block_lt_of_cell? _ _ hcell)).trans hcell
                    have x1 := (D11.cell (World.block_lt_of_cell? _ _ y0)).trans y0
                    have x2 := (D11.cell (World.block_lt_of_cell? _ _ y1)).trans y1
                    have x3 := (D11.cell (World.block_lt_of_cell? _ _ y2)).trans y2
                    clear hcell y0 y1 y2 y3
                    go_upto_region 35 with fail
                    go_cut [221] from 143 to 221 (fun b wd => b = .bool false ∧ Below wc.heap.size wc wd)
                    case first =>
                      have hne := since_ne wc
                      have kx : ∀ (x : Since wc) {y : Addr} {z : Value}, wc.cell? y = some z → x.u.cell? y = some z := fun x {y z} h => (x.h.cell (World.block_lt_of_cell? wc y h)).trans h
                      have t0 : ∀ x : Since wc, x.u.cell? ⟨g0, i, none⟩ = some (.int .i64 (n : Int)) := fun x => kx x x0
                      have t1 : ∀ x : Since wc, x.u.cell? ⟨X, 0, none⟩ = some (.int .i64 (e.to : Int)) := fun x => kx x x1
                      have t2 : ∀ x : Since wc, x.u.cell? ⟨X, 1, none⟩ = some (.int .i64 e.s) := fun x => kx x x2
                      have t3 : ∀ x : Since wc, x.u.cell? ⟨X, 2, none⟩ = some (.int .i64 e.d) := fun x => kx x x3
                      have hpr : Hid (∀ x : Since wc, _) := fun x => priced_yes (cap := cap11) x.u (HG8.out.below (C12.trans (x.h.mono C12.size))) HGE.out (rn11.below x.h) wy2 (by omega) HW.out.2.1 HW.out.2.2.1 HW.out.2.2.2
                      clear x0 x1 x2 x3 rn11 kx
                      refine wp_region_since (by kernel_rfl) (by kernel_rfl) ?_
                      repeat (go_big_quiet_step (first | (go_at_call 25; exact Calls.since_of (hpr.out _))))
                      refine wpQuiet_nil ?_
                      rintro _ ⟨x, rfl⟩
                      go_wp2_with fail
                      go_meet
                      exact ⟨rfl, x.h⟩
                    case rest =>
                      obtain ⟨rfl, hb12⟩ := hcut
                      have D13 := D11.trans (hb12.mono D11.size)
                      have B13 := B10.trans (D13.mono B10.size)
                      have BW13 := BW10.trans (D13.mono BW10.size)
                      clear x0 x1 x2 x3 hb12 C12 D11 D13 rn11
                      have hl256 : (lv.es n).length ≤ 256 := HAS.out.len hcr.out n
                      go_wp2
                      go_roundw
                      case rel => exact ⟨j + 1, by omega, by go_num, B13, BW13⟩
                      case measure => simp [intOf]; omega
            · have ej : j = (lv.es n).length := by omega
              subst ej
              go_wp2
              go_roundw
              case rel => exact ⟨i + 1, by omega, by go_num, B9.trans (hBr.mono B9.size), hBw⟩
              case measure => simp [intOf]; omega
        · have e : i = L.length := by omega
          subst e
          go_wp2
          go_ret
          exact ⟨rfl, hBw⟩
end Go.Proofs.YtmnpplkjhnoglaaGreatDoor
/-
  The table of steps, read off the row's listed variable.
-/
namespace Go.Proofs.YtmnpplkjhnoglaaGreatDoor
open Go.ChangeShapes Go.WideShapes Go.ChangeAt Go.RowKit

theorem gSteps : Tryz.prog.globalNamed "fellrunner/grid.steps" = some 0 := by kernel_rfl
theorem tSteps : (Tryz.prog.globals[0]?).map (·.type) = some 213 := by kernel_rfl
theorem c60 : Tryz.prog.cellsOf 212 = 2 := by kernel_rfl
theorem c3' : Tryz.prog.cellsOf 3 = 1 := by kernel_rfl
abbrev stepsLaid : List (String × DataW Unit) := [("fellrunner/grid.steps", Rows.laid_fellrunner_grid_steps)]

theorem lt_of_cell {w : World} {b o : Nat} {v : Value} (h : w.cell? ⟨b, o, none⟩ = some v) : b < w.heap.size := by
  by_cases hb : b < w.heap.size
  · exact hb
  · unfold World.cell? at h
    rw [Array.getElem?_eq_none (by simpa using hb)] at h
    simp at h

theorem steps_of {W : World} (h : laidMetH Tryz.prog stepsLaid W) : StepsAt W ∧ 0 < W.heap.size := by
  rw [MakeChecks.laidMetH_plain _ _ _ (by kernel_rfl)] at h
  obtain ⟨ps, ⟨g0, t0, cs0, f0, p0, q0, hg0, ht0, hv0, hd0, _, _⟩, _, _⟩ := h
  obtain rfl := Option.some.inj (gSteps.symm.trans hg0)
  obtain rfl := Option.some.inj (tSteps.symm.trans ht0)
  obtain ⟨xs, m, _, hx1, hlen, hn, hel⟩ := DataW.trod_array Tryz.underlying213 hd0
  simp only [Prod.mk.injEq] at hx1
  have hxa := hx1.1
  have key : ∀ i, i < 8 → cs0.toList[2 * i]? = some (.int .i64 (stepX i)) ∧ cs0.toList[2 * i + 1]? = some (.int .i64 (stepY i)) := by
    intro i hi
    have h1 := hel i hi
    rw [c60] at h1
    have hxi : ∃ p, xs[i]? = some (Lib.tabData .i64 [stepX i, stepY i], p) := by
      have hlt : i < xs.length := by omega
      refine ⟨xs[i].2, ?_⟩
      rw [List.getElem?_eq_getElem hlt]
      have e2 : (xs.map (·.1))[i]? = some xs[i].1 := by rw [List.getElem?_map, List.getElem?_eq_getElem hlt]; rfl
      simp only [Rows.laid_fellrunner_grid_steps, DataW.agg.injEq] at hxa
      rw [← hxa] at e2
      have hks : i = 0 ∨ i = 1 ∨ i = 2 ∨ i = 3 ∨ i = 4 ∨ i = 5 ∨ i = 6 ∨ i = 7 := by omega
      rcases hks with rfl | rfl | rfl | rfl | rfl | rfl | rfl | rfl <;>
        (simp at e2; exact congrArg some (Prod.ext e2.symm rfl))
    obtain ⟨p, hp⟩ := hxi
    rw [hp] at h1
    have h2 := Lib.cells_of_tab Tryz.underlying212 Tryz.underlying3 c3' c60 h1
    have a0 : ((cs0.toList.drop (i * 2)).take 2)[0]? = cs0.toList[2 * i]? := by
      rw [List.getElem?_take_of_lt (by decide), List.getElem?_drop]; congr 1; omega
    have a1 : ((cs0.toList.drop (i * 2)).take 2)[1]? = cs0.toList[2 * i + 1]? := by
      rw [List.getElem?_take_of_lt (by decide), List.getElem?_drop]; congr 1; omega
    rw [h2] at a0 a1
    exact ⟨a0.symm, a1.symm⟩
  have cell : ∀ i, W.cell? ⟨0, i, none⟩ = cs0.toList[i]? := fun i => by
    have := World.var?_cell hg0 hv0 i
    rw [this]; simp
  refine ⟨fun i hi => ⟨by rw [cell]; exact (key i hi).1, by rw [cell]; exact (key i hi).2⟩, ?_⟩
  exact lt_of_cell ((cell 0).trans (key 0 (by decide)).1)
end Go.Proofs.YtmnpplkjhnoglaaGreatDoor
