/-
  Texts laid together: RepW, Steps, Frame.
-/
import Derived.Test.YtcagpmglijockaaDoorP10
import Derived.ProofKit
import Derived.LaidMore
import Derived.OpenShut
import Derived.Stop.Joined
import Derived.Lib.LaidTab
import Derived.Test.YtcagpmglijockaaDoorTie
import Derived.Test.YtcagpmglijockaaDoorCards
import Derived.ChangeMaps5
import Derived.SevenTiedAt
import Derived.Lib.SmallJoins
/-
  What 'TopRepair' does at every plot and list: it answers true.
-/
namespace Go.Proofs.YtcagpmglijockaaDoor
open Go.RowKit

theorem laid_any (W H : Int) (A : Option Addr) (n cap : Nat) (xs : Nat → Int) (w : World) (hm : n ≤ maxLen) (hx : OldRow w A n xs) :
    Calls Tryd.prog 9 #[.agg #[.int .i64 W, .int .i64 H, .slice A n cap]] w fun e w' => Below w.heap.size w w' ∧ (e = .returned (.tuple #[.pointer none, .pointer none, .bool false]) ∨
      (e = .returned (.tuple #[.pointer (some ⟨w.heap.size + 1, 0, none⟩), .pointer (some ⟨w.heap.size + 1 + 1, 0, none⟩), .bool true]) ∧ w'.heap.size = w.heap.size + 3 ∧ ∃ V bl, V ≤ 300 ∧ Both w' (w.heap.size + 1) (w.heap.size + 1 + 1) W H V bl)) := by
  by_cases hn : 300 < (n : Int)
  · exact (laid_many W H A n cap w hn hm).mono fun e w' ⟨h1, h2⟩ => ⟨h2, Or.inl h1⟩
  · cases hW : sideB W with
    | false => exact (laid_bad W H A n cap w hn (.inl hW)).mono fun e w' ⟨h1, h2⟩ => ⟨h2, Or.inl h1⟩
    | true =>
      cases hH : sideB H with
      | false => exact (laid_bad W H A n cap w hn (.inr ⟨hW, hH⟩)).mono fun e w' ⟨h1, h2⟩ => ⟨h2, Or.inl h1⟩
      | true => exact (laid_ok W H A n cap xs w hn hW hH hx).mono fun e w' ⟨h1, h2, h3, h4⟩ => ⟨h2, Or.inr ⟨h1, h3, h4⟩⟩

theorem EdgeL.one {W H c : Int} {bl : Nat → Bool} {l l' : List Nat} (h : EdgeL W H bl c l) (h' : EdgeL W H bl c l') : l = l' := rise_eq h.1 h'.1 (fun n => (h.2 n).trans (h'.2 n).symm)

theorem Both.below' {w w' : World} {g m : Nat} {W H V : Int} {bl : Nat → Bool} (h : Both w g m W H V bl) (hb : Below w.heap.size w w') : Both w' g m W H V bl := by
  have hg : g < w.heap.size := World.block_lt_of_cell? w _ h.ga.c0
  have hm : m < w.heap.size := World.block_lt_of_cell? w _ h.ra.c0
  exact ⟨h.ga.below hb hg, fun o => (hb.frozen (p := ⟨g, o, none⟩) hg).trans (h.gf o), h.ra.below hb hm, fun o => (hb.frozen (p := ⟨m, o, none⟩) hm).trans (h.rf o), h.v1, h.ne⟩

theorem RefAt.keep {D : Nat → Prop} {w w' : World} {b : Nat} {W H V : Int} {bl : Nat → Bool} (g : RefAt w b W H V bl) (K : Keep D w w') (h : ¬ D b) : RefAt w' b W H V bl :=
  ⟨g.w1, g.w2, g.h1, g.h2, K.cellOf g.c0 h, K.cellOf g.c1 h, K.cellOf g.c2 h, fun i hi => K.cellOf (g.cs i hi) h⟩
theorem GraphAt.keep {F : Nat → Prop} {w w' : World} {rb pb mb : Nat} {W H V : Int} {bl : Nat → Bool} (G : GraphAt w rb pb mb W H V bl) (K : Keep F w w') (h1 : ¬ F rb) (h2 : ¬ F pb) (h3 : ¬ F mb) (h4 : ∀ g, pb < g → ¬ F g) : GraphAt w' rb pb mb W H V bl := by
  obtain ⟨f, G, E⟩ := G
  exact ⟨f, G.keep K h1 h2 h3, fun c => (E c).kept K (fun v l g _ _ _ hg => h4 g hg) rfl⟩
theorem GraphAt.lts {w : World} {rb pb mb : Nat} {W H V : Int} {bl : Nat → Bool} (G : GraphAt w rb pb mb W H V bl) : rb < w.heap.size ∧ pb < w.heap.size ∧ mb < w.heap.size := by
  obtain ⟨f, G, E⟩ := G
  exact G.lts

set_option maxHeartbeats 1000000 in
theorem one_graph (w : World) (s : StepsAt w) {b : Nat} (g : GridAt w b 3 3 0 (fun _ => false)) (hb : b < w.heap.size) :
    Calls Tryd.prog 7 #[.pointer (some ⟨b, 0, none⟩)] w fun e w' => ∃ rb pb mb, e = .returned (.pointer (some ⟨rb, 0, none⟩)) ∧ GraphAt w' rb pb mb 3 3 0 (fun _ => false) ∧ (0 < pb ∧ 0 < mb) ∧ (w.heap.size ≤ pb ∧ w.heap.size ≤ mb) ∧ Below w.heap.size w w' :=
  (new_graph w g s hb).mono fun e w' ⟨rb, pb, mb, h1, h2, h3, h4, h5, h6⟩ => ⟨rb, pb, mb, h1, h2, ⟨by omega, by omega⟩, ⟨h4, h5⟩, h6⟩
theorem crs_nine : (crs 3 3 (upd (fun _ => false) 4 true) ((3 : Int) * 3).toNat).length = 4 := by decide

set_option maxHeartbeats 8000000 in
set_option maxRecDepth 1000000 in
theorem topRepair_any (W H : Int) (A B : Option Addr) (n cap k cb : Nat) (xs ys : Nat → Int) (w : World) (s : StepsAt w) (hm : n ≤ maxLen) (hk : k ≤ maxLen) (hx : OldRow w A n xs) (hy : OldRow w B k ys) :
    Calls Tryd.prog 4 #[.agg #[.int .i64 W, .int .i64 H, .slice A n cap], .slice B k cb] w fun e w' => e = .returned (.bool true) ∧ Below w.heap.size w w' := by
  have hs3 : sideB 3 = true := by decide
  have hG := gridAt_new 3 3 (w.alloc (.cells #[.int .i64 W, .int .i64 H, .slice A n cap] 24)) hs3 hs3
  have b0 : Below w.heap.size w (w.alloc (.cells #[.int .i64 W, .int .i64 H, .slice A n cap] 24)) := (Below.refl _ _).alloc (Nat.le_refl _) _
  have hb : Below w.heap.size w ((w.alloc (.cells #[.int .i64 W, .int .i64 H, .slice A n cap] 24)).alloc (.cells (gridC 3 3) 55)) := b0.alloc (by simp) _
  have e1 : (w.alloc (.cells #[.int .i64 W, .int .i64 H, .slice A n cap] 24)).heap.size = w.heap.size + 1 := by simp
  have q : ∀ o, ((w.alloc (.cells #[.int .i64 W, .int .i64 H, .slice A n cap] 24)).alloc (.cells (gridC 3 3) 55)).cell? ⟨w.heap.size, o, none⟩ = #[Value.int .i64 W, .int .i64 H, .slice A n cap][o]? := fun o => by
    rw [World.cell?_alloc_old _ _ _ (by simp), World.cell?_alloc_new]
  rw [e1] at hG
  have hz0 : ((w.alloc (.cells #[.int .i64 W, .int .i64 H, .slice A n cap] 24)).alloc (.cells (gridC 3 3) 55)).heap.size = w.heap.size + 2 := by simp
  have hspos := s.pos
  go_enter Tryd.func4, Tryd.ntmps4
  go_wp2_with (go_at_call 5; refine (new_ok _ _ _ hs3 hs3).mono ?_; rintro e w' ⟨rfl, rfl⟩)
  generalize (w.alloc (.cells #[.int .i64 W, .int .i64 H, .slice A n cap] 24)).alloc (.cells (gridC 3 3) 55) = w0 at *
  clear e1 b0
  refine (one_graph w0 (s.below hb hspos) hG (by omega)).mono ?_
  rintro e w1 ⟨rb, pb, mb, rfl, G1, ⟨hp0, hm0⟩, ⟨hp1, hm1⟩, hb1⟩
  have B1 := hb.trans (hb1.mono hb.size)
  have q1 : ∀ o, w1.cell? ⟨w.heap.size, o, none⟩ = #[Value.int .i64 W, .int .i64 H, .slice A n cap][o]? := fun o => (hb1.cell (p := ⟨w.heap.size, o, none⟩) (by show w.heap.size < _; omega)).trans (q o)
  clear hG q
  have hse := gset_new (c := 4) true w1 G1 (s.below B1 hspos) (by decide) rfl (by decide) (by decide) (by omega) (by omega)
  go_wp2_with fail
  refine hse.mono ?_
  rintro e w2 ⟨rfl, G2, K2⟩
  have B2 : Below w.heap.size w w2 := B1.trans (K2.to_below B1.size (fun k e => by rcases e with e | e <;> omega))
  have q2 : ∀ o, w2.cell? ⟨w.heap.size, o, none⟩ = #[Value.int .i64 W, .int .i64 H, .slice A n cap][o]? := fun o => (K2.cell (p := ⟨w.heap.size, o, none⟩) (by show w.heap.size < _; have := hb1.size; omega) (by show ¬ (w.heap.size = pb ∨ w.heap.size = mb); omega)).trans (q1 o)
  have hzw2 : w.heap.size < w2.heap.size := by have := K2.size; have := hb1.size; omega
  clear hse G1 K2 q1
  have hno := nodes_any w2 G2
  have h4 := crs_nine
  go_wp2_with fail
  refine hno.mono ?_
  rintro e w3 ⟨v3, rfl, hown3, hb3⟩
  rw [h4] at hown3
  obtain ⟨A3, cap3, rfl⟩ : ∃ A3 cap3, v3 = .slice A3 4 cap3 := by
    rcases hown3.2 with ⟨rfl, h0⟩ | ⟨g', cap, cur, rfl, _⟩
    · omega
    · exact ⟨_, _, rfl⟩
  have B3 := B2.trans (hb3.mono B2.size)
  have c0 : w3.cell? ⟨w.heap.size, 0, none⟩ = some (.int .i64 W) := (hb3.cell (p := ⟨w.heap.size, 0, none⟩) hzw2).trans (q2 0)
  have c1 : w3.cell? ⟨w.heap.size, 1, none⟩ = some (.int .i64 H) := (hb3.cell (p := ⟨w.heap.size, 1, none⟩) hzw2).trans (q2 1)
  have c2 : w3.cell? ⟨w.heap.size, 2, none⟩ = some (.slice A n cap) := (hb3.cell (p := ⟨w.heap.size, 2, none⟩) hzw2).trans (q2 2)
  clear hno G2 hown3 q2 h4 hb3 hb1 hb B1 B2 hp0 hm0 hp1 hm1 hzw2 hz0
  have hLd := laid_any W H A n cap xs w3 hm (hx.below B3)
  go_wp2_with fail
  refine hLd.mono ?_
  rintro e w4 ⟨hb4, hcs⟩
  have B4 := B3.trans (hb4.mono B3.size)
  clear hLd c0 c1 c2
  rcases hcs with rfl | ⟨rfl, hsz4, V, bl, hV, hB⟩
  · go_wp2
    go_quiet (fail)
    go_wp2
    go_ret
    exact ⟨rfl, below_drewN B4 _⟩
  · have hz3 := B3.size
    have hge : w.heap.size ≤ w3.heap.size + 1 := by omega
    have hme : w.heap.size ≤ w3.heap.size + 1 + 1 := by omega
    generalize w3.heap.size + 1 + 1 = mb2 at *
    generalize w3.heap.size + 1 = gb at *
    have hra := hB.ra
    have ra0 := hra.c0
    have ra1 := hra.c1
    have hwh := wh_bd hra.w1 hra.w2 hra.h1 hra.h2
    have gw1 := hra.w1
    have gl : gb < w4.heap.size := World.block_lt_of_cell? _ _ hB.ga.c0
    have ml : mb2 < w4.heap.size := World.block_lt_of_cell? _ _ hra.c0
    have hwr : IntKind.i64.wrap (W * H) = W * H := wrap_small (by omega) (by omega)
    by_cases hk30 : (30 : Int) < (k : Int)
    · clear hB hra
      go_wp2
      go_quiet (fail)
      go_wp2
      go_ret
      exact ⟨rfl, below_drewN B4 _⟩
    · by_cases h100 : 100 < W * H
      · clear hB
        go_wp2
        go_quiet (fail)
        go_wp2
        go_ret
        exact ⟨rfl, below_drewN B4 _⟩
      · go_wp2
        go_quiet (fail)
        have g4 := hB.ga
        go_wp2_with fail
        have hb5 : Below w4.heap.size w4 (w4.drewN nq) := below_drewN (Below.refl _ _) _
        have hB5 := hB.below' hb5
        have B5 := B4.trans (hb5.mono B4.size)
        have hz5 : w4.heap.size = (w4.drewN nq).heap.size := rfl
        clear hB hb5 hb4 hra ra0 ra1 g4 h100 hwr
        generalize w4.drewN nq = w5 at *
        refine (new_graph w5 hB5.ga (s.below B5 hspos) (by omega)).mono ?_
        rintro e w6 ⟨rb2, pb2, mbm, rfl, G6, hr6, hp6, hm6, hb6⟩
        have hB6 := hB5.below' hb6
        have B6 := B5.trans (hb6.mono B5.size)
        have hz6 := B5.size
        clear hB5 hb6 B5
        have hgl : gb < w5.heap.size ∧ mb2 < w5.heap.size := by omega
        go_wp2
        go_loopw [12] (fun iv wr => ∃ (j : Nat) (V' : Int) (bl' : Nat → Bool), j ≤ k ∧ iv = .int .i64 j ∧ Both wr gb mb2 W H V' bl' ∧ GraphAt wr rb2 pb2 mbm W H V' bl' ∧ V' ≤ 300 + j ∧ Below w.heap.size w wr)
          (fun i _ => k - (intOf i).toNat)
        case atStart => exact ⟨0, V, bl, Nat.zero_le _, rfl, hB6, G6, by omega, B6⟩
        case round =>
          obtain ⟨j, V', bl', hj, rfl, hB, G, hV', hBl⟩ := hrel
          by_cases hlt : j < k
          · obtain ⟨ba, oa, rfl, hba, hcw⟩ := hy j hlt
            have HCW : Hid (∀ w', Below w.heap.size w w' → w'.cell? ⟨ba, oa + j, none⟩ = some (.int .i64 (ys j))) := fun w' hb' => (hb'.cell (p := ⟨ba, oa + j, none⟩) hba).trans hcw
            clear hcw
            generalize ys j = c at *
            have hcell := HCW.out wr hBl
            have i1 : (0 : Int) ≤ (j : Int) := by omega
            have i2 : (j : Int) < (k : Int) := by omega
            have hv0 := hB.v1
            cases hin : inB W H c with
            | false =>
              have his := ris_out c wr hB.ra hin
              go_wp2_with fail
              refine his.mono ?_
              rintro e w7 ⟨rfl, m7, rfl⟩
              clear his
              have hb7 : Below wr.heap.size wr (wr.drewN m7) := below_drewN (Below.refl _ _) _
              go_wp2
              go_roundw
              case rel => exact ⟨j + 1, V', bl', by omega, by go_num, hB.below' hb7, G.below hb7, by omega, hBl.trans (hb7.mono hBl.size)⟩
              case measure => simp [intOf]; omega
            | true =>
              have hci : 0 ≤ c ∧ c < W * H := of_decide_eq_true hin
              obtain ⟨cn, rfl⟩ : ∃ cn : Nat, c = cn := ⟨c.toNat, by omega⟩
              obtain ⟨v, hv⟩ : ∃ v, bl' cn = !v := ⟨!bl' cn, by simp⟩
              have his := ris_in cn wr hB.ra hin
              go_wp2_with fail
              refine his.mono ?_
              rintro e w7 ⟨rfl, m7, hw7⟩
              clear his
              have hb7 : Below wr.heap.size wr w7 := by rw [hw7]; exact below_drewN (Below.refl _ _) _
              have hB7 := hB.below' hb7
              have G7 := G.below hb7
              have B7 := hBl.trans (hb7.mono hBl.size)
              have hcell7 := HCW.out w7 B7
              have hbc := hB7.ra.cs cn (by omega)
              rw [hv] at hbc
              have i3 : (cn : Int) < 256 := by omega
              have hzl := hBl.size
              clear hw7 hB G hBl hb7 hcell
              go_wp2
              go_quiet (fail)
              have hb8 : Below w7.heap.size w7 (w7.drewN nq) := below_drewN (Below.refl _ _) _
              have hB8 := hB7.below' hb8
              have G8 := G7.below hb8
              have B8 := B7.trans (hb8.mono B7.size)
              have hcell8 := HCW.out _ B8
              clear hb8 hB7 G7 B7 hcell7 hbc
              generalize w7.drewN nq = w8 at *
              have hse := set_new cn v w8 hB8.ga hB8.gf hin hv (by omega) (by omega)
              go_wp2_with fail
              refine hse.mono ?_
              rintro e w9 ⟨rfl, T9, g9, fr9⟩
              have K9 := T9.keep
              have G9 := G8.keep K9 (show rb2 ≠ gb by omega) (show pb2 ≠ gb by omega) (show mbm ≠ gb by omega) (fun g hg => show g ≠ gb by omega)
              have ra9 := hB8.ra.touch T9 hB8.ne.symm
              have rf9 : Free w9 mb2 := fun o => (T9.frozen (p := ⟨mb2, o, none⟩) hB8.ne.symm).trans (hB8.rf o)
              have B9 := T9.below B8 hge
              have hcell9 := HCW.out _ B9
              have hne := hB8.ne
              have hgs := G9.lts
              clear hse hB8 G8 B8 hcell8 K9 T9
              have hgs9 := gset_new (c := cn) v w9 G9 (s.below B9 hspos) hin hv (by omega) (by omega) (by omega) (by omega)
              go_wp2_with fail
              refine hgs9.mono ?_
              rintro e w10 ⟨rfl, G10, K10⟩
              have g10 := g9.keep K10 (show ¬ (gb = pb2 ∨ gb = mbm) by omega)
              have hg9 : gb < w9.heap.size := World.block_lt_of_cell? _ _ g9.c0
              have fr10 : Free w10 gb := fun o => (K10.frozen (p := ⟨gb, o, none⟩) hg9 (show ¬ (gb = pb2 ∨ gb = mbm) by omega)).trans (fr9 o)
              have hm9 : mb2 < w9.heap.size := World.block_lt_of_cell? _ _ ra9.c0
              have ra10 := ra9.keep K10 (show ¬ (mb2 = pb2 ∨ mb2 = mbm) by omega)
              have rf10 : Free w10 mb2 := fun o => (K10.frozen (p := ⟨mb2, o, none⟩) hm9 (show ¬ (mb2 = pb2 ∨ mb2 = mbm) by omega)).trans (rf9 o)
              have B10 : Below w.heap.size w w10 := B9.trans (K10.to_below B9.size (fun q e => by rcases e with e | e <;> omega))
              have hcell10 := HCW.out _ B10
              clear hgs9 g9 fr9 ra9 rf9 G9 K10 hcell9 B9
              have hrs := rset_new cn v w10 ra10 rf10 hin hv (by omega) (by omega)
              go_wp2_with fail
              refine hrs.mono ?_
              rintro e w11 ⟨rfl, T11, ra11, rf11⟩
              have G11 := G10.keep T11.keep (show rb2 ≠ mb2 by omega) (show pb2 ≠ mb2 by omega) (show mbm ≠ mb2 by omega) (fun g hg => show g ≠ mb2 by omega)
              have hB11 : Both w11 gb mb2 W H (V' + 1) (upd bl' cn v) := ⟨g10.touch T11 hne, fun o => (T11.frozen (p := ⟨gb, o, none⟩) hne).trans (fr10 o), ra11, rf11, by omega, hne⟩
              have B11 := T11.below B10 hme
              clear hrs G10 g10 fr10 ra10 rf10 hcell10 T11 ra11 rf11 B10
              go_wp2
              go_roundw
              case rel => exact ⟨j + 1, V' + 1, upd bl' cn v, by omega, by go_num, hB11, G11, by omega, B11⟩
              case measure => simp [intOf]; omega
          · have e : j = k := by omega
            subst e
            have g7 := hB.ga
            have gl7 : gb < wr.heap.size := World.block_lt_of_cell? _ _ g7.c0
            go_wp2_with fail
            refine (new_graph wr g7 (s.below hBl hspos) gl7).mono ?_
            rintro e w7 ⟨rb3, pb3, mb3, rfl, G7', _, _, _, hb7⟩
            have G7 := G.below hb7
            have B7 := hBl.trans (hb7.mono hBl.size)
            clear hB G hBl hb7 g7 gl7
            go_wp2_with fail
            refine (nodes_any w7 G7).mono ?_
            rintro e w8 ⟨v8, rfl, hown8, hb8⟩
            obtain ⟨A8, cap8, rfl, hrow8⟩ := row_of hown8
            have G8 := G7.below hb8
            have G8' := G7'.below hb8
            have B8 := B7.trans (hb8.mono B7.size)
            clear G7 G7' hb8 B7 hown8
            go_wp2_with fail
            refine (nodes_any w8 G8').mono ?_
            rintro e w9 ⟨v9, rfl, hown9, hb9⟩
            obtain ⟨A9, cap9, rfl, hrow9⟩ := row_of hown9
            have G9 := G8.below hb9
            have G9' := G8'.below hb9
            have B9 := B8.trans (hb9.mono B8.size)
            have hrow8' := hrow8.below hb9
            have hLL := crs_len W H bl' (W * H).toNat
            have HC : Hid (∀ i, i < (crs W H bl' (W * H).toNat).length → cornB W H bl' (((crs W H bl' (W * H).toNat).getD i 0 : Nat) : Int) = true) := fun i hi => (crs_mem.1 (by rw [getD_at _ _ hi]; exact List.getElem_mem hi)).2
            clear G8 G8' hb9 B8 hown9 hrow8
            generalize crs W H bl' (W * H).toNat = L at *
            go_wp2_with fail
            refine (sameRows (by omega) hrow8' hrow9).mono ?_
            rintro e w10 ⟨rfl, m10, hw10⟩
            have hb10 : Below w9.heap.size w9 w10 := by rw [hw10]; exact below_drewN (Below.refl _ _) _
            have G10 := G9.below hb10
            have G10' := G9'.below hb10
            have B10 := B9.trans (hb10.mono B9.size)
            have hrow10 := hrow8'.below hb10
            clear G9 G9' hrow8' hrow9 hb10 hw10 B9
            go_wp2
            go_loopw [16] (fun iv wr => ∃ (j : Nat), j ≤ L.length ∧ iv = .int .i64 j ∧ GraphAt wr rb2 pb2 mbm W H V' bl' ∧ GraphAt wr rb3 pb3 mb3 W H V' bl' ∧ OldRow wr A8 L.length (fun i => (L.getD i 0 : Nat)) ∧ Below w.heap.size w wr)
              (fun i _ => L.length - (intOf i).toNat)
            case atStart => exact ⟨0, Nat.zero_le _, rfl, G10, G10', hrow10, B10⟩
            case round =>
              obtain ⟨i, hi, rfl, G, G', hrow, hBl⟩ := hrel
              by_cases hlt : i < L.length
              · obtain ⟨ba, oa, rfl, hba, hcell⟩ := hrow i hlt
                have hcn := HC.out i hlt
                have hcb : (0 : Int) ≤ ((L.getD i 0 : Nat) : Int) ∧ ((L.getD i 0 : Nat) : Int) < W * H := of_decide_eq_true (cornC_in gw1 (cornB_iff.1 hcn))
                have hcell' : wr.cell? ⟨ba, oa + i, none⟩ = some (.int .i64 ((L.getD i 0 : Nat) : Int)) := hcell
                clear hcell
                generalize ((L.getD i 0 : Nat) : Int) = c at *
                have i1 : (0 : Int) ≤ (i : Int) := by omega
                have i2 : (i : Int) < (L.length : Int) := by omega
                have hwf := wf_small hcb.1 (show c < 256 by omega)
                have he1 := edges_yes wr G hcn hwf
                go_wp2_with fail
                refine he1.mono ?_
                rintro e w11 ⟨v11, l, rfl, hown11, hL, hb11⟩
                have G'1 := G'.below hb11
                have hcell11 := (hb11.cell (World.block_lt_of_cell? _ _ hcell')).trans hcell'
                have he2 := edges_yes w11 G'1 hcn hwf
                clear he1 hcell'
                go_wp2_with fail
                refine he2.mono ?_
                rintro e w12 ⟨v12, l2, rfl, hown12, hL2, hb12⟩
                have hLe : l2 = l := hL2.one hL
                subst hLe
                obtain ⟨A11, c11, rfl, hE11⟩ := rowE_of (own_below hown11 hb12)
                obtain ⟨A12, c12, rfl, hE12⟩ := rowE_of hown12
                have hle := hL.len gw1 hwh.2
                have b12 := hb11.trans (hb12.mono hb11.size)
                have G12 := G.below b12
                have G12' := G'.below b12
                have B12 := hBl.trans (b12.mono hBl.size)
                have hrow12 := hrow.below b12
                clear he2 hown11 hown12 hL hL2 hb11 hb12 b12 G G' G'1 hrow hBl hcell11
                go_wp2_with fail
                refine (sameE_any w12 hE11 hE12 (by omega)).mono ?_
                rintro e w13 ⟨rfl, m13, hw13⟩
                have hb13 : Below w12.heap.size w12 w13 := by rw [hw13]; exact below_drewN (Below.refl _ _) _
                have G13 := G12.below hb13
                have G13' := G12'.below hb13
                have B13 := B12.trans (hb13.mono B12.size)
                have hrow13 := hrow12.below hb13
                clear hE11 hE12 hw13 hb13 G12 G12' B12 hrow12
                go_wp2
                go_roundw
                case rel => exact ⟨i + 1, by omega, by go_num, G13, G13', hrow13, B13⟩
                case measure => simp [intOf]; omega
              · have e : i = L.length := by omega
                subst e
                go_wp2
                go_ret
                exact ⟨rfl, hBl⟩
end Go.Proofs.YtcagpmglijockaaDoor
/-
  The table of steps, read off the row's listed variable.
-/
namespace Go.Proofs.YtcagpmglijockaaDoor
open Go.ChangeShapes Go.WideShapes Go.ChangeAt Go.RowKit

theorem gSteps : Tryd.prog.globalNamed "fellrunner/grid.steps" = some 0 := by kernel_rfl
theorem tSteps : (Tryd.prog.globals[0]?).map (·.type) = some 125 := by kernel_rfl
theorem c60 : Tryd.prog.cellsOf 124 = 2 := by kernel_rfl
theorem c3' : Tryd.prog.cellsOf 3 = 1 := by kernel_rfl
abbrev stepsLaid : List (String × DataW Unit) := [("fellrunner/grid.steps", Rows.laid_fellrunner_grid_steps)]

theorem lt_of_cell {w : World} {b o : Nat} {v : Value} (h : w.cell? ⟨b, o, none⟩ = some v) : b < w.heap.size := by
  by_cases hb : b < w.heap.size
  · exact hb
  · unfold World.cell? at h
    rw [Array.getElem?_eq_none (by simpa using hb)] at h
    simp at h

theorem steps_of {W : World} (h : laidMetH Tryd.prog stepsLaid W) : StepsAt W ∧ 0 < W.heap.size := by
  rw [MakeChecks.laidMetH_plain _ _ _ (by kernel_rfl)] at h
  obtain ⟨ps, ⟨g0, t0, cs0, f0, p0, q0, hg0, ht0, hv0, hd0, _, _⟩, _, _⟩ := h
  obtain rfl := Option.some.inj (gSteps.symm.trans hg0)
  obtain rfl := Option.some.inj (tSteps.symm.trans ht0)
  obtain ⟨xs, m, _, hx1, hlen, hn, hel⟩ := DataW.trod_array Tryd.underlying125 hd0
  simp only [Prod.mk.injEq] at hx1
  have hxa := hx1.1
  have key : ∀ i, i < 8 → cs0.toList[2 * i]? = some (.int .i64 (stepX i)) ∧ cs0.toList[2 * i + 1]? = some (.int .i64 (stepY i)) := by
    intro i hi
    have h1 := hel i hi
    rw [c60] at h1
    have hxi : ∃ p, xs[i]? = some (Lib.tabData .i64 [stepX i, stepY i], p) := by
      have hlt : i < xs.length := by omega
      refine ⟨xs[i].2, ?_⟩
      rw [List.getElem?_eq_getElem hlt]
      have e2 : (xs.map (·.1))[i]? = some xs[i].1 := by rw [List.getElem?_map, List.getElem?_eq_getElem hlt]; rfl
      simp only [Rows.laid_fellrunner_grid_steps, DataW.agg.injEq] at hxa
      rw [← hxa] at e2
      have hks : i = 0 ∨ i = 1 ∨ i = 2 ∨ i = 3 ∨ i = 4 ∨ i = 5 ∨ i = 6 ∨ i = 7 := by omega
      rcases hks with rfl | rfl | rfl | rfl | rfl | rfl | rfl | rfl <;>
        (simp at e2; exact congrArg some (Prod.ext e2.symm rfl))
    obtain ⟨p, hp⟩ := hxi
    rw [hp] at h1
    have h2 := Lib.cells_of_tab Tryd.underlying124 Tryd.underlying3 c3' c60 h1
    have a0 : ((cs0.toList.drop (i * 2)).take 2)[0]? = cs0.toList[2 * i]? := by
      rw [List.getElem?_take_of_lt (by decide), List.getElem?_drop]; congr 1; omega
    have a1 : ((cs0.toList.drop (i * 2)).take 2)[1]? = cs0.toList[2 * i + 1]? := by
      rw [List.getElem?_take_of_lt (by decide), List.getElem?_drop]; congr 1; omega
    rw [h2] at a0 a1
    exact ⟨a0.symm, a1.symm⟩
  have cell : ∀ i, W.cell? ⟨0, i, none⟩ = cs0.toList[i]? := fun i => by
    have := World.var?_cell hg0 hv0 i
    rw [this]; simp
  refine ⟨fun i hi => ⟨by rw [cell]; exact (key i hi).1, by rw [cell]; exact (key i hi).2⟩, ?_⟩
  exact lt_of_cell ((cell 0).trans (key 0 (by decide)).1)
end Go.Proofs.YtcagpmglijockaaDoor
/-
  What the frames of this seat's laws have in common: how lists that come in lie in memory.
-/
namespace Go.Proofs.YtcagpmglijockaaDoor
open Go.ChangeShapes Go.WideShapes Go.ChangeAt Go.RowKit Go.Joins

theorem Tryd.own : ownKnob Tryd.prog.godebug = none := by kernel_rfl
theorem Tryd.laidOut : laidOutB Tryd.prog = true := by kernel_rfl
theorem Tryd.cells24 : Tryd.prog.cellsOf 24 = 3 := by kernel_rfl

theorem law_met (os : Os) (args : Array Value) : laidMetH Tryd.prog stepsLaid ((World.doorLaid Tryd.prog 22 os).forCall (fun _ _ => 0) ⟨#[], args, []⟩).memory :=
  laidMetH_of_parts3 (fuel := 8) (laidMet_of_run' 8 (by kernel_rfl) (by kernel_rfl)) (by kernel_rfl) (by kernel_rfl)

/-- a slice of integers that came in, as a row of old memory -/
theorem row_in {H : Type} {enc : TypeId × Value → H} {W : World} {sp : Nat → Bool} {held : Bool} {fuel : Nat} {c : Value} {x : DataW H × List MemPlace} (h : DataW.trod enc Tryd.prog W 0 sp held fuel 22 [c] = some x) :
    ∃ A n cap xs, c = .slice A n cap ∧ n ≤ maxLen ∧ OldRow W A n xs := by
  rcases open_ints Tryd.underlying22 Tryd.underlying3 (by kernel_rfl) h with ⟨hcs, _⟩ | ⟨a, l, cap, zs, hcs, _, hl, hm, hz, _, hcell, _⟩
  · simp at hcs
    exact ⟨none, 0, 0, fun _ => 0, hcs, by unfold maxLen; omega, fun i hi => absurd hi (Nat.not_lt_zero i)⟩
  · simp at hcs
    refine ⟨some a, l, cap, fun i => zs.getD i 0, hcs, Nat.le_trans hl hm, fun i hi => ?_⟩
    have hzl : i < zs.length := by rw [hz]; split <;> omega
    obtain ⟨b, off, rfl, hc⟩ := ints_at hcell (by omega)
    exact ⟨b, off, rfl, lt_of_cell (hc i hzl), hc i hzl⟩

end Go.Proofs.YtcagpmglijockaaDoor
