/-
  Texts laid together: SameE, RepW, SpanP, SpanW, GraW.
-/
import Derived.Test.YtcagpmglijockaaDoorP11
import Derived.Deep.RegionHeld3
/-
  Two lists of edges that lie alike: the reference's 'SameEdges'.
-/
namespace Go.Proofs.YtcagpmglijockaaDoor
open Go.RowKit

/-- edges in memory that was there -/
def OldEdges (w : World) (A : Option Addr) (W a : Int) (l : List Nat) : Prop := ∀ i, i < l.length → ∃ b, A = some ⟨b, 0, none⟩ ∧ b < w.heap.size ∧ w.cell? ⟨b, i * 4, none⟩ = some (.int .i64 ((l.getD i 0 : Nat) : Int)) ∧ w.cell? ⟨b, i * 4 + 1, none⟩ = some (.int .i64 (octS W a ((l.getD i 0 : Nat) : Int))) ∧ w.cell? ⟨b, i * 4 + 2, none⟩ = some (.int .i64 (octD W a ((l.getD i 0 : Nat) : Int))) ∧ w.cell? ⟨b, i * 4 + 3, none⟩ = some (.int .i64 (-1))
theorem OldEdges.below {w w' : World} {A : Option Addr} {W a : Int} {l : List Nat} (h : OldEdges w A W a l) (hb : Below w.heap.size w w') : OldEdges w' A W a l := fun i hi => by
  obtain ⟨b, e, h0, h1, h2, h3, h4⟩ := h i hi
  exact ⟨b, e, Nat.lt_of_lt_of_le h0 hb.size, (hb.cell (p := ⟨b, i * 4, none⟩) h0).trans h1, (hb.cell (p := ⟨b, i * 4 + 1, none⟩) h0).trans h2, (hb.cell (p := ⟨b, i * 4 + 2, none⟩) h0).trans h3, (hb.cell (p := ⟨b, i * 4 + 3, none⟩) h0).trans h4⟩
theorem rowE_of {w : World} {base : Nat} {v : Value} {W a : Int} {l : List Nat} (h : w.ownsRow base 77 4 v l.length (edgesV W a l)) : ∃ A cap, v = .slice A l.length cap ∧ OldEdges w A W a l := by
  rcases h.2 with ⟨rfl, h0⟩ | ⟨g, cap, cur, rfl, _, hg, _⟩
  · exact ⟨none, 0, by rw [h0], fun i hi => by omega⟩
  · refine ⟨_, _, rfl, fun i hi => ?_⟩
    obtain ⟨e0, e1, e2, e3⟩ := edgesV_at W a l i hi
    exact ⟨g, rfl, (Array.getElem?_eq_some_iff.1 hg).1, (h.cellAt _ (by omega)).trans e0, (h.cellAt _ (by omega)).trans e1, (h.cellAt _ (by omega)).trans e2, (h.cellAt _ (by omega)).trans e3⟩

set_option maxHeartbeats 2000000 in
set_option maxRecDepth 1000000 in
theorem sameE_any {A B : Option Addr} {ca cb : Nat} {W a : Int} {l : List Nat} (w : World) (hA : OldEdges w A W a l) (hB : OldEdges w B W a l) (hl : l.length ≤ 1000) :
    Calls Tryd.prog 16 #[.slice A l.length ca, .slice B l.length cb] w fun e w' => e = .returned (.bool true) ∧ ∃ m, w' = w.drewN m := by
  go_enter Tryd.func16, Tryd.ntmps16
  go_wp2
  go_loopw [5] (fun iv wr => ∃ k : Nat, k ≤ l.length ∧ iv = .int .i64 k ∧ ∃ m, wr = w.drewN m) (fun i _ => l.length - (intOf i).toNat)
  case atStart => exact ⟨0, Nat.zero_le _, rfl, 0, rfl⟩
  case round =>
    obtain ⟨k, hk, rfl, m, rfl⟩ := hrel
    by_cases hlt : k < l.length
    · obtain ⟨ba, rfl, a0, a1, a2, a3, a4⟩ := hA k hlt
      obtain ⟨bb, rfl, b0, b1, b2, b3, b4⟩ := hB k hlt
      have i1 : (0 : Int) ≤ (k : Int) := by omega
      have i2 : (k : Int) < (l.length : Int) := by omega
      generalize octS W a ((l.getD k 0 : Nat) : Int) = es at *
      generalize octD W a ((l.getD k 0 : Nat) : Int) = ed at *
      generalize ((l.getD k 0 : Nat) : Int) = zz at *
      have a1 : (w.drewN m).cell? ⟨ba, k * 4, none⟩ = some (.int .i64 zz) := a1
      have a2 : (w.drewN m).cell? ⟨ba, k * 4 + 1, none⟩ = some (.int .i64 es) := a2
      have a3 : (w.drewN m).cell? ⟨ba, k * 4 + 2, none⟩ = some (.int .i64 ed) := a3
      have a4 : (w.drewN m).cell? ⟨ba, k * 4 + 3, none⟩ = some (.int .i64 (-1)) := a4
      have b1 : (w.drewN m).cell? ⟨bb, k * 4, none⟩ = some (.int .i64 zz) := b1
      have b2 : (w.drewN m).cell? ⟨bb, k * 4 + 1, none⟩ = some (.int .i64 es) := b2
      have b3 : (w.drewN m).cell? ⟨bb, k * 4 + 2, none⟩ = some (.int .i64 ed) := b3
      have b4 : (w.drewN m).cell? ⟨bb, k * 4 + 3, none⟩ = some (.int .i64 (-1)) := b4
      have hE : Hid (∃ m', (w.drewN m) = w.drewN m') := ⟨m, rfl⟩
      generalize w.drewN m = w1 at *
      go_wp2
      go_quiet (fail)
      go_wp2
      go_roundw
      case rel =>
        obtain ⟨m', hm'⟩ := hE.out
        exact ⟨k + 1, by omega, by go_num, _, by rw [hm', World.drewN_drewN]⟩
      case measure => simp [intOf]; omega
    · have e : k = l.length := by omega
      subst e
      go_wp2
      go_ret
      exact ⟨rfl, m, rfl⟩
end Go.Proofs.YtcagpmglijockaaDoor
/-
  What 'TopRepair' does at every plot and list: it answers true.
-/
namespace Go.Proofs.YtcagpmglijockaaDoor
open Go.RowKit

theorem laid_any (W H : Int) (A : Option Addr) (n cap : Nat) (xs : Nat → Int) (w : World) (hm : n ≤ maxLen) (hx : OldRow w A n xs) :
    Calls Tryd.prog 9 #[.agg #[.int .i64 W, .int .i64 H, .slice A n cap]] w fun e w' => Below w.heap.size w w' ∧ (e = .returned (.tuple #[.pointer none, .pointer none, .bool false]) ∨
      (e = .returned (.tuple #[.pointer (some ⟨w.heap.size + 1, 0, none⟩), .pointer (some ⟨w.heap.size + 1 + 1, 0, none⟩), .bool true]) ∧ w'.heap.size = w.heap.size + 3 ∧ ∃ V bl, V ≤ 300 ∧ Both w' (w.heap.size + 1) (w.heap.size + 1 + 1) W H V bl)) := by
  by_cases hn : 300 < (n : Int)
  · exact (laid_many W H A n cap w hn hm).mono fun e w' ⟨h1, h2⟩ => ⟨h2, Or.inl h1⟩
  · cases hW : sideB W with
    | false => exact (laid_bad W H A n cap w hn (.inl hW)).mono fun e w' ⟨h1, h2⟩ => ⟨h2, Or.inl h1⟩
    | true =>
      cases hH : sideB H with
      | false => exact (laid_bad W H A n cap w hn (.inr ⟨hW, hH⟩)).mono fun e w' ⟨h1, h2⟩ => ⟨h2, Or.inl h1⟩
      | true => exact (laid_ok W H A n cap xs w hn hW hH hx).mono fun e w' ⟨h1, h2, h3, h4⟩ => ⟨h2, Or.inr ⟨h1, h3, h4⟩⟩

theorem EdgeL.one {W H c : Int} {bl : Nat → Bool} {l l' : List Nat} (h : EdgeL W H bl c l) (h' : EdgeL W H bl c l') : l = l' := rise_eq h.1 h'.1 (fun n => (h.2 n).trans (h'.2 n).symm)

theorem Both.below' {w w' : World} {g m : Nat} {W H V : Int} {bl : Nat → Bool} (h : Both w g m W H V bl) (hb : Below w.heap.size w w') : Both w' g m W H V bl := by
  have hg : g < w.heap.size := World.block_lt_of_cell? w _ h.ga.c0
  have hm : m < w.heap.size := World.block_lt_of_cell? w _ h.ra.c0
  exact ⟨h.ga.below hb hg, fun o => (hb.frozen (p := ⟨g, o, none⟩) hg).trans (h.gf o), h.ra.below hb hm, fun o => (hb.frozen (p := ⟨m, o, none⟩) hm).trans (h.rf o), h.v1, h.ne⟩

theorem RefAt.keep {D : Nat → Prop} {w w' : World} {b : Nat} {W H V : Int} {bl : Nat → Bool} (g : RefAt w b W H V bl) (K : Keep D w w') (h : ¬ D b) : RefAt w' b W H V bl :=
  ⟨g.w1, g.w2, g.h1, g.h2, K.cellOf g.c0 h, K.cellOf g.c1 h, K.cellOf g.c2 h, fun i hi => K.cellOf (g.cs i hi) h⟩
theorem GraphAt.keep {F : Nat → Prop} {w w' : World} {rb pb mb : Nat} {W H V : Int} {bl : Nat → Bool} (G : GraphAt w rb pb mb W H V bl) (K : Keep F w w') (h1 : ¬ F rb) (h2 : ¬ F pb) (h3 : ¬ F mb) (h4 : ∀ g, pb < g → ¬ F g) : GraphAt w' rb pb mb W H V bl := by
  obtain ⟨f, G, E⟩ := G
  exact ⟨f, G.keep K h1 h2 h3, fun c => (E c).kept K (fun v l g _ _ _ hg => h4 g hg) rfl⟩
theorem GraphAt.lts {w : World} {rb pb mb : Nat} {W H V : Int} {bl : Nat → Bool} (G : GraphAt w rb pb mb W H V bl) : rb < w.heap.size ∧ pb < w.heap.size ∧ mb < w.heap.size := by
  obtain ⟨f, G, E⟩ := G
  exact G.lts

set_option maxHeartbeats 1000000 in
theorem one_graph (w : World) (s : StepsAt w) {b : Nat} (g : GridAt w b 3 3 0 (fun _ => false)) (hb : b < w.heap.size) :
    Calls Tryd.prog 7 #[.pointer (some ⟨b, 0, none⟩)] w fun e w' => ∃ rb pb mb, e = .returned (.pointer (some ⟨rb, 0, none⟩)) ∧ GraphAt w' rb pb mb 3 3 0 (fun _ => false) ∧ (0 < pb ∧ 0 < mb) ∧ (w.heap.size ≤ pb ∧ w.heap.size ≤ mb) ∧ Below w.heap.size w w' :=
  (new_graph w g s hb).mono fun e w' ⟨rb, pb, mb, h1, h2, h3, h4, h5, h6⟩ => ⟨rb, pb, mb, h1, h2, ⟨by omega, by omega⟩, ⟨h4, h5⟩, h6⟩
theorem crs_nine : (crs 3 3 (upd (fun _ => false) 4 true) ((3 : Int) * 3).toNat).length = 4 := by decide

set_option maxHeartbeats 8000000 in
set_option maxRecDepth 1000000 in
theorem topRepair_any (W H : Int) (A B : Option Addr) (n cap k cb : Nat) (xs ys : Nat → Int) (w : World) (s : StepsAt w) (hm : n ≤ maxLen) (hk : k ≤ maxLen) (hx : OldRow w A n xs) (hy : OldRow w B k ys) :
    Calls Tryd.prog 4 #[.agg #[.int .i64 W, .int .i64 H, .slice A n cap], .slice B k cb] w fun e w' => e = .returned (.bool true) ∧ Below w.heap.size w w' := by
  have hs3 : sideB 3 = true := by decide
  have hG := gridAt_new 3 3 (w.alloc (.cells #[.int .i64 W, .int .i64 H, .slice A n cap] 24)) hs3 hs3
  have b0 : Below w.heap.size w (w.alloc (.cells #[.int .i64 W, .int .i64 H, .slice A n cap] 24)) := (Below.refl _ _).alloc (Nat.le_refl _) _
  have hb : Below w.heap.size w ((w.alloc (.cells #[.int .i64 W, .int .i64 H, .slice A n cap] 24)).alloc (.cells (gridC 3 3) 55)) := b0.alloc (by simp) _
  have e1 : (w.alloc (.cells #[.int .i64 W, .int .i64 H, .slice A n cap] 24)).heap.size = w.heap.size + 1 := by simp
  have q : ∀ o, ((w.alloc (.cells #[.int .i64 W, .int .i64 H, .slice A n cap] 24)).alloc (.cells (gridC 3 3) 55)).cell? ⟨w.heap.size, o, none⟩ = #[Value.int .i64 W, .int .i64 H, .slice A n cap][o]? := fun o => by
    rw [World.cell?_alloc_old _ _ _ (by simp), World.cell?_alloc_new]
  rw [e1] at hG
  have hz0 : ((w.alloc (.cells #[.int .i64 W, .int .i64 H, .slice A n cap] 24)).alloc (.cells (gridC 3 3) 55)).heap.size = w.heap.size + 2 := by simp
  have hspos := s.pos
  go_enter Tryd.func4, Tryd.ntmps4
  go_wp2_with (go_at_call 5; refine (new_ok _ _ _ hs3 hs3).mono ?_; rintro e w' ⟨rfl, rfl⟩)
  generalize (w.alloc (.cells #[.int .i64 W, .int .i64 H, .slice A n cap] 24)).alloc (.cells (gridC 3 3) 55) = w0 at *
  clear e1 b0
  refine (one_graph w0 (s.below hb hspos) hG (by omega)).mono ?_
  rintro e w1 ⟨rb, pb, mb, rfl, G1, ⟨hp0, hm0⟩, ⟨hp1, hm1⟩, hb1⟩
  have B1 := hb.trans (hb1.mono hb.size)
  have q1 : ∀ o, w1.cell? ⟨w.heap.size, o, none⟩ = #[Value.int .i64 W, .int .i64 H, .slice A n cap][o]? := fun o => (hb1.cell (p := ⟨w.heap.size, o, none⟩) (by show w.heap.size < _; omega)).trans (q o)
  clear hG q
  have hse := gset_new (c := 4) true w1 G1 (s.below B1 hspos) (by decide) rfl (by decide) (by decide) (by omega) (by omega)
  go_wp2_with fail
  refine hse.mono ?_
  rintro e w2 ⟨rfl, G2, K2⟩
  have B2 : Below w.heap.size w w2 := B1.trans (K2.to_below B1.size (fun k e => by rcases e with e | e <;> omega))
  have q2 : ∀ o, w2.cell? ⟨w.heap.size, o, none⟩ = #[Value.int .i64 W, .int .i64 H, .slice A n cap][o]? := fun o => (K2.cell (p := ⟨w.heap.size, o, none⟩) (by show w.heap.size < _; have := hb1.size; omega) (by show ¬ (w.heap.size = pb ∨ w.heap.size = mb); omega)).trans (q1 o)
  have hzw2 : w.heap.size < w2.heap.size := by have := K2.size; have := hb1.size; omega
  clear hse G1 K2 q1
  have hno := nodes_any w2 G2
  have h4 := crs_nine
  go_wp2_with fail
  refine hno.mono ?_
  rintro e w3 ⟨v3, rfl, hown3, hb3⟩
  rw [h4] at hown3
  obtain ⟨A3, cap3, rfl⟩ : ∃ A3 cap3, v3 = .slice A3 4 cap3 := by
    rcases hown3.2 with ⟨rfl, h0⟩ | ⟨g', cap, cur, rfl, _⟩
    · omega
    · exact ⟨_, _, rfl⟩
  have B3 := B2.trans (hb3.mono B2.size)
  have c0 : w3.cell? ⟨w.heap.size, 0, none⟩ = some (.int .i64 W) := (hb3.cell (p := ⟨w.heap.size, 0, none⟩) hzw2).trans (q2 0)
  have c1 : w3.cell? ⟨w.heap.size, 1, none⟩ = some (.int .i64 H) := (hb3.cell (p := ⟨w.heap.size, 1, none⟩) hzw2).trans (q2 1)
  have c2 : w3.cell? ⟨w.heap.size, 2, none⟩ = some (.slice A n cap) := (hb3.cell (p := ⟨w.heap.size, 2, none⟩) hzw2).trans (q2 2)
  clear hno G2 hown3 q2 h4 hb3 hb1 hb B1 B2 hp0 hm0 hp1 hm1 hzw2 hz0
  have hLd := laid_any W H A n cap xs w3 hm (hx.below B3)
  go_wp2_with fail
  refine hLd.mono ?_
  rintro e w4 ⟨hb4, hcs⟩
  have B4 := B3.trans (hb4.mono B3.size)
  clear hLd c0 c1 c2
  rcases hcs with rfl | ⟨rfl, hsz4, V, bl, hV, hB⟩
  · go_wp2
    go_quiet (fail)
    go_wp2
    go_ret
    exact ⟨rfl, below_drewN B4 _⟩
  · have hz3 := B3.size
    have hge : w.heap.size ≤ w3.heap.size + 1 := by omega
    have hme : w.heap.size ≤ w3.heap.size + 1 + 1 := by omega
    generalize w3.heap.size + 1 + 1 = mb2 at *
    generalize w3.heap.size + 1 = gb at *
    have hra := hB.ra
    have ra0 := hra.c0
    have ra1 := hra.c1
    have hwh := wh_bd hra.w1 hra.w2 hra.h1 hra.h2
    have gw1 := hra.w1
    have gl : gb < w4.heap.size := World.block_lt_of_cell? _ _ hB.ga.c0
    have ml : mb2 < w4.heap.size := World.block_lt_of_cell? _ _ hra.c0
    have hwr : IntKind.i64.wrap (W * H) = W * H := wrap_small (by omega) (by omega)
    by_cases hk30 : (30 : Int) < (k : Int)
    · clear hB hra
      go_wp2
      go_quiet (fail)
      go_wp2
      go_ret
      exact ⟨rfl, below_drewN B4 _⟩
    · by_cases h100 : 100 < W * H
      · clear hB
        go_wp2
        go_quiet (fail)
        go_wp2
        go_ret
        exact ⟨rfl, below_drewN B4 _⟩
      · go_wp2
        go_quiet (fail)
        have g4 := hB.ga
        go_wp2_with fail
        have hb5 : Below w4.heap.size w4 (w4.drewN nq) := below_drewN (Below.refl _ _) _
        have hB5 := hB.below' hb5
        have B5 := B4.trans (hb5.mono B4.size)
        have hz5 : w4.heap.size = (w4.drewN nq).heap.size := rfl
        clear hB hb5 hb4 hra ra0 ra1 g4 h100 hwr
        generalize w4.drewN nq = w5 at *
        refine (new_graph w5 hB5.ga (s.below B5 hspos) (by omega)).mono ?_
        rintro e w6 ⟨rb2, pb2, mbm, rfl, G6, hr6, hp6, hm6, hb6⟩
        have hB6 := hB5.below' hb6
        have B6 := B5.trans (hb6.mono B5.size)
        have hz6 := B5.size
        clear hB5 hb6 B5
        have hgl : gb < w5.heap.size ∧ mb2 < w5.heap.size := by omega
        go_wp2
        go_loopw [12] (fun iv wr => ∃ (j : Nat) (V' : Int) (bl' : Nat → Bool), j ≤ k ∧ iv = .int .i64 j ∧ Both wr gb mb2 W H V' bl' ∧ GraphAt wr rb2 pb2 mbm W H V' bl' ∧ V' ≤ 300 + j ∧ Below w.heap.size w wr)
          (fun i _ => k - (intOf i).toNat)
        case atStart => exact ⟨0, V, bl, Nat.zero_le _, rfl, hB6, G6, by omega, B6⟩
        case round =>
          obtain ⟨j, V', bl', hj, rfl, hB, G, hV', hBl⟩ := hrel
          by_cases hlt : j < k
          · obtain ⟨ba, oa, rfl, hba, hcw⟩ := hy j hlt
            have HCW : Hid (∀ w', Below w.heap.size w w' → w'.cell? ⟨ba, oa + j, none⟩ = some (.int .i64 (ys j))) := fun w' hb' => (hb'.cell (p := ⟨ba, oa + j, none⟩) hba).trans hcw
            clear hcw
            generalize ys j = c at *
            have hcell := HCW.out wr hBl
            have i1 : (0 : Int) ≤ (j : Int) := by omega
            have i2 : (j : Int) < (k : Int) := by omega
            have hv0 := hB.v1
            cases hin : inB W H c with
            | false =>
              have his := ris_out c wr hB.ra hin
              go_wp2_with fail
              refine his.mono ?_
              rintro e w7 ⟨rfl, m7, rfl⟩
              clear his
              have hb7 : Below wr.heap.size wr (wr.drewN m7) := below_drewN (Below.refl _ _) _
              go_wp2
              go_roundw
              case rel => exact ⟨j + 1, V', bl', by omega, by go_num, hB.below' hb7, G.below hb7, by omega, hBl.trans (hb7.mono hBl.size)⟩
              case measure => simp [intOf]; omega
            | true =>
              have hci : 0 ≤ c ∧ c < W * H := of_decide_eq_true hin
              obtain ⟨cn, rfl⟩ : ∃ cn : Nat, c = cn := ⟨c.toNat, by omega⟩
              obtain ⟨v, hv⟩ : ∃ v, bl' cn = !v := ⟨!bl' cn, by simp⟩
              have his := ris_in cn wr hB.ra hin
              go_wp2_with fail
              refine his.mono ?_
              rintro e w7 ⟨rfl, m7, hw7⟩
              clear his
              have hb7 : Below wr.heap.size wr w7 := by rw [hw7]; exact below_drewN (Below.refl _ _) _
              have hB7 := hB.below' hb7
              have G7 := G.below hb7
              have B7 := hBl.trans (hb7.mono hBl.size)
              have hcell7 := HCW.out w7 B7
              have hbc := hB7.ra.cs cn (by omega)
              rw [hv] at hbc
              have i3 : (cn : Int) < 256 := by omega
              have hzl := hBl.size
              clear hw7 hB G hBl hb7 hcell
              go_wp2
              go_quiet (fail)
              have hb8 : Below w7.heap.size w7 (w7.drewN nq) := below_drewN (Below.refl _ _) _
              have hB8 := hB7.below' hb8
              have G8 := G7.below hb8
              have B8 := B7.trans (hb8.mono B7.size)
              have hcell8 := HCW.out _ B8
              clear hb8 hB7 G7 B7 hcell7 hbc
              generalize w7.drewN nq = w8 at *
              have hse := set_new cn v w8 hB8.ga hB8.gf hin hv (by omega) (by omega)
              go_wp2_with fail
              refine hse.mono ?_
              rintro e w9 ⟨rfl, T9, g9, fr9⟩
              have K9 := T9.keep
              have G9 := G8.keep K9 (show rb2 ≠ gb by omega) (show pb2 ≠ gb by omega) (show mbm ≠ gb by omega) (fun g hg => show g ≠ gb by omega)
              have ra9 := hB8.ra.touch T9 hB8.ne.symm
              have rf9 : Free w9 mb2 := fun o => (T9.frozen (p := ⟨mb2, o, none⟩) hB8.ne.symm).trans (hB8.rf o)
              have B9 := T9.below B8 hge
              have hcell9 := HCW.out _ B9
              have hne := hB8.ne
              have hgs := G9.lts
              clear hse hB8 G8 B8 hcell8 K9 T9
              have hgs9 := gset_new (c := cn) v w9 G9 (s.below B9 hspos) hin hv (by omega) (by omega) (by omega) (by omega)
              go_wp2_with fail
              refine hgs9.mono ?_
              rintro e w10 ⟨rfl, G10, K10⟩
              have g10 := g9.keep K10 (show ¬ (gb = pb2 ∨ gb = mbm) by omega)
              have hg9 : gb < w9.heap.size := World.block_lt_of_cell? _ _ g9.c0
              have fr10 : Free w10 gb := fun o => (K10.frozen (p := ⟨gb, o, none⟩) hg9 (show ¬ (gb = pb2 ∨ gb = mbm) by omega)).trans (fr9 o)
              have hm9 : mb2 < w9.heap.size := World.block_lt_of_cell? _ _ ra9.c0
              have ra10 := ra9.keep K10 (show ¬ (mb2 = pb2 ∨ mb2 = mbm) by omega)
              have rf10 : Free w10 mb2 := fun o => (K10.frozen (p := ⟨mb2, o, none⟩) hm9 (show ¬ (mb2 = pb2 ∨ mb2 = mbm) by omega)).trans (rf9 o)
              have B10 : Below w.heap.size w w10 := B9.trans (K10.to_below B9.size (fun q e => by rcases e with e | e <;> omega))
              have hcell10 := HCW.out _ B10
              clear hgs9 g9 fr9 ra9 rf9 G9 K10 hcell9 B9
              have hrs := rset_new cn v w10 ra10 rf10 hin hv (by omega) (by omega)
              go_wp2_with fail
              refine hrs.mono ?_
              rintro e w11 ⟨rfl, T11, ra11, rf11⟩
              have G11 := G10.keep T11.keep (show rb2 ≠ mb2 by omega) (show pb2 ≠ mb2 by omega) (show mbm ≠ mb2 by omega) (fun g hg => show g ≠ mb2 by omega)
              have hB11 : Both w11 gb mb2 W H (V' + 1) (upd bl' cn v) := ⟨g10.touch T11 hne, fun o => (T11.frozen (p := ⟨gb, o, none⟩) hne).trans (fr10 o), ra11, rf11, by omega, hne⟩
              have B11 := T11.below B10 hme
              clear hrs G10 g10 fr10 ra10 rf10 hcell10 T11 ra11 rf11 B10
              go_wp2
              go_roundw
              case rel => exact ⟨j + 1, V' + 1, upd bl' cn v, by omega, by go_num, hB11, G11, by omega, B11⟩
              case measure => simp [intOf]; omega
          · have e : j = k := by omega
            subst e
            have g7 := hB.ga
            have gl7 : gb < wr.heap.size := World.block_lt_of_cell? _ _ g7.c0
            go_wp2_with fail
            refine (new_graph wr g7 (s.below hBl hspos) gl7).mono ?_
            rintro e w7 ⟨rb3, pb3, mb3, rfl, G7', _, _, _, hb7⟩
            have G7 := G.below hb7
            have B7 := hBl.trans (hb7.mono hBl.size)
            clear hB G hBl hb7 g7 gl7
            go_wp2_with fail
            refine (nodes_any w7 G7).mono ?_
            rintro e w8 ⟨v8, rfl, hown8, hb8⟩
            obtain ⟨A8, cap8, rfl, hrow8⟩ := row_of hown8
            have G8 := G7.below hb8
            have G8' := G7'.below hb8
            have B8 := B7.trans (hb8.mono B7.size)
            clear G7 G7' hb8 B7 hown8
            go_wp2_with fail
            refine (nodes_any w8 G8').mono ?_
            rintro e w9 ⟨v9, rfl, hown9, hb9⟩
            obtain ⟨A9, cap9, rfl, hrow9⟩ := row_of hown9
            have G9 := G8.below hb9
            have G9' := G8'.below hb9
            have B9 := B8.trans (hb9.mono B8.size)
            have hrow8' := hrow8.below hb9
            have hLL := crs_len W H bl' (W * H).toNat
            have HC : Hid (∀ i, i < (crs W H bl' (W * H).toNat).length → cornB W H bl' (((crs W H bl' (W * H).toNat).getD i 0 : Nat) : Int) = true) := fun i hi => (crs_mem.1 (by rw [getD_at _ _ hi]; exact List.getElem_mem hi)).2
            clear G8 G8' hb9 B8 hown9 hrow8
            generalize crs W H bl' (W * H).toNat = L at *
            go_wp2_with fail
            refine (sameRows (by omega) hrow8' hrow9).mono ?_
            rintro e w10 ⟨rfl, m10, hw10⟩
            have hb10 : Below w9.heap.size w9 w10 := by rw [hw10]; exact below_drewN (Below.refl _ _) _
            have G10 := G9.below hb10
            have G10' := G9'.below hb10
            have B10 := B9.trans (hb10.mono B9.size)
            have hrow10 := hrow8'.below hb10
            clear G9 G9' hrow8' hrow9 hb10 hw10 B9
            go_wp2
            go_loopw [16] (fun iv wr => ∃ (j : Nat), j ≤ L.length ∧ iv = .int .i64 j ∧ GraphAt wr rb2 pb2 mbm W H V' bl' ∧ GraphAt wr rb3 pb3 mb3 W H V' bl' ∧ OldRow wr A8 L.length (fun i => (L.getD i 0 : Nat)) ∧ Below w.heap.size w wr)
              (fun i _ => L.length - (intOf i).toNat)
            case atStart => exact ⟨0, Nat.zero_le _, rfl, G10, G10', hrow10, B10⟩
            case round =>
              obtain ⟨i, hi, rfl, G, G', hrow, hBl⟩ := hrel
              by_cases hlt : i < L.length
              · obtain ⟨ba, oa, rfl, hba, hcell⟩ := hrow i hlt
                have hcn := HC.out i hlt
                have hcb : (0 : Int) ≤ ((L.getD i 0 : Nat) : Int) ∧ ((L.getD i 0 : Nat) : Int) < W * H := of_decide_eq_true (cornC_in gw1 (cornB_iff.1 hcn))
                have hcell' : wr.cell? ⟨ba, oa + i, none⟩ = some (.int .i64 ((L.getD i 0 : Nat) : Int)) := hcell
                clear hcell
                generalize ((L.getD i 0 : Nat) : Int) = c at *
                have i1 : (0 : Int) ≤ (i : Int) := by omega
                have i2 : (i : Int) < (L.length : Int) := by omega
                have hwf := wf_small hcb.1 (show c < 256 by omega)
                have he1 := edges_yes wr G hcn hwf
                go_wp2_with fail
                refine he1.mono ?_
                rintro e w11 ⟨v11, l, rfl, hown11, hL, hb11⟩
                have G'1 := G'.below hb11
                have hcell11 := (hb11.cell (World.block_lt_of_cell? _ _ hcell')).trans hcell'
                have he2 := edges_yes w11 G'1 hcn hwf
                clear he1 hcell'
                go_wp2_with fail
                refine he2.mono ?_
                rintro e w12 ⟨v12, l2, rfl, hown12, hL2, hb12⟩
                have hLe : l2 = l := hL2.one hL
                subst hLe
                obtain ⟨A11, c11, rfl, hE11⟩ := rowE_of (own_below hown11 hb12)
                obtain ⟨A12, c12, rfl, hE12⟩ := rowE_of hown12
                have hle := hL.len gw1 hwh.2
                have b12 := hb11.trans (hb12.mono hb11.size)
                have G12 := G.below b12
                have G12' := G'.below b12
                have B12 := hBl.trans (b12.mono hBl.size)
                have hrow12 := hrow.below b12
                clear he2 hown11 hown12 hL hL2 hb11 hb12 b12 G G' G'1 hrow hBl hcell11
                go_wp2_with fail
                refine (sameE_any w12 hE11 hE12 (by omega)).mono ?_
                rintro e w13 ⟨rfl, m13, hw13⟩
                have hb13 : Below w12.heap.size w12 w13 := by rw [hw13]; exact below_drewN (Below.refl _ _) _
                have G13 := G12.below hb13
                have G13' := G12'.below hb13
                have B13 := B12.trans (hb13.mono B12.size)
                have hrow13 := hrow12.below hb13
                clear hE11 hE12 hw13 hb13 G12 G12' B12 hrow12
                go_wp2
                go_roundw
                case rel => exact ⟨i + 1, by omega, by go_num, G13, G13', hrow13, B13⟩
                case measure => simp [intOf]; omega
              · have e : i = L.length := by omega
                subst e
                go_wp2
                go_ret
                exact ⟨rfl, hBl⟩
end Go.Proofs.YtcagpmglijockaaDoor
/-
  What the statement's 'spanned' leans on: floods exist; directly near, by floods; what its walk holds in memory.
-/
namespace Go.Proofs.YtcagpmglijockaaDoor
open Go.RowKit

/-- from every cell there are least costs: the reference's flood finds them -/
theorem best_ex {b : Nat} {W H V : Int} {bl : Nat → Bool} (w : World) (g : RefAt w b W H V bl) {c : Int} (hr : inB W H c = true) : ∃ F, Best (Edge W H bl) c F := by
  have hc : 0 ≤ c ∧ c < W * H := of_decide_eq_true hr
  obtain ⟨n, rfl⟩ : ∃ n : Nat, c = n := ⟨c.toNat, by omega⟩
  obtain ⟨e, w', fr, h, _⟩ := rflood_any n w g (World.block_lt_of_cell? _ _ g.c0) hr []
  obtain ⟨F, _, hB, _⟩ := h
  exact ⟨F, hB⟩
theorem bests_ex {b : Nat} {W H V : Int} {bl : Nat → Bool} (w : World) (g : RefAt w b W H V bl) : ∃ Fl : Int → Int → Option (Int × Int), ∀ c, CornC W H bl c → Best (Edge W H bl) c (Fl c) := by
  have h : ∀ c, ∃ F, CornC W H bl c → Best (Edge W H bl) c F := fun c => by
    by_cases hc : CornC W H bl c
    · obtain ⟨F, hF⟩ := best_ex w g (cornC_in g.w1 hc)
      exact ⟨F, fun _ => hF⟩
    · exact ⟨fun _ => none, fun h => absurd h hc⟩
  exact ⟨fun c => Classical.choose (h c), fun c => Classical.choose_spec (h c)⟩

section
variable {W H : Int} {bl : Nat → Bool}
theorem oct_sum {a b : Int} (w1 : 1 ≤ W) (w2 : W ≤ 16) (h2 : H ≤ 16) (ha : inB W H a = true) (hb : inB W H b = true) : octS W a b + octD W a b ≤ 16 := by
  obtain ⟨p1, p2, p3, p4⟩ := place_bd w1 ha
  obtain ⟨q1, q2, q3, q4⟩ := place_bd w1 hb
  have hx : 0 ≤ dst (a % W) (b % W) ∧ dst (a % W) (b % W) ≤ 16 := by unfold dst; split <;> omega
  have hy : 0 ≤ dst (a / W) (b / W) ∧ dst (a / W) (b / W) ≤ 16 := by unfold dst; split <;> omega
  unfold octS octD
  generalize dst (a % W) (b % W) = X at *
  generalize dst (a / W) (b / W) = Y at *
  unfold dst les
  split <;> omega
theorem oct_few {a b : Int} (w1 : 1 ≤ W) (w2 : W ≤ 16) (h2 : H ≤ 16) (ha : inB W H a = true) (hb : inB W H b = true) : octV W a b ≤ 873734288 := by
  have h := oct_sum w1 w2 h2 ha hb
  have n1 := octS_nonneg W a b
  have n2 := octD_nonneg W a b
  unfold octV val
  omega
/-- directly near, by what all cost from both -/
theorem dirF_of {Fl : Int → Int → Option (Int × Int)} (w1 : 1 ≤ W) {a b : Int} (hS : octS W a b ≤ 1000) (hD : octD W a b ≤ 1000) (BA : Best (Edge W H bl) a (Fl a)) (BB : Best (Edge W H bl) b (Fl b)) : DirF W H bl Fl a b ↔ Dir W H bl a b := by
  constructor
  · rintro ⟨h1, h2⟩
    refine ⟨(near_iff w1 hS hD BA).2 h1, fun k hk hc => ?_⟩
    obtain ⟨s, d, t, u, k1, k2, k3, k4⟩ := (on_iff w1 hS hD BA BB k).1 hk
    by_cases e1 : k = a
    · exact Or.inl e1
    · by_cases e2 : k = b
      · exact Or.inr e2
      · exact absurd ⟨k3, k4⟩ (h2 k s d t u hc e1 e2 k1 k2)
  · rintro ⟨h1, h2⟩
    refine ⟨(near_iff w1 hS hD BA).1 h1, fun k s d t u hc e1 e2 k1 k2 k3 => ?_⟩
    rcases h2 k ((on_iff w1 hS hD BA BB k).2 ⟨s, d, t, u, k1, k2, k3.1, k3.2⟩) hc with e | e
    · exact e1 e
    · exact e2 e
/-- over no edge of a corner it is nearer -/
def Rlx (W H : Int) (bl : Nat → Bool) (B : Int → Option (Int × Int)) (a : Int) : Prop :=
  ∀ c s d, Dir W H bl a c → cornB W H bl c = true → c ≠ a → B a = some (s, d) → ∃ s' d', B c = some (s', d') ∧ val s' d' ≤ val (s + octS W a c) (d + octD W a c)
theorem Done.of_rlx {Fl : Int → Int → Option (Int × Int)} {B : Int → Option (Int × Int)} (w1 : 1 ≤ W) (w2 : W ≤ 16) (h1 : 1 ≤ H) (h2 : H ≤ 16) (hF : ∀ c, CornC W H bl c → Best (Edge W H bl) c (Fl c)) (h : ∀ a, CornC W H bl a → Rlx W H bl B a) : Done W H bl Fl B := by
  intro a c s d ha hc hne hd hB
  have hs := oct_small w1 w2 h1 h2 (cornC_in w1 ha) (cornC_in w1 hc)
  exact h a ha c s d ((dirF_of w1 (by omega) (by omega) (hF a ha) (hF c hc)).1 hd) (cornB_iff.2 hc) (Ne.symm hne) hB
theorem crs_top (w1 : 1 ≤ W) (hwh : W * H ≤ 256) : crs W H bl 256 = crs W H bl (W * H).toNat := by
  refine rise_eq (crs_rise _ _ _ _) (crs_rise _ _ _ _) (fun n => ?_)
  rw [crs_mem, crs_mem]
  constructor
  · rintro ⟨h1, h2⟩
    have h3 : 0 ≤ (n : Int) ∧ (n : Int) < W * H := of_decide_eq_true (cornC_in w1 (cornB_iff.1 h2))
    exact ⟨by omega, h2⟩
  · rintro ⟨h1, h2⟩
    exact ⟨by omega, h2⟩
end

theorem Tryd.underB : Tryd.prog.underlying 73 = some (.map 3 69) := by kernel_rfl
theorem zeroB (w : World) : (zeroValue 69).run Tryd.prog w = .ok (.agg #[.int .i64 0, .int .i64 0]) w := by kernel_rfl
theorem builtB : Tryd.prog.built 69 [] = some #[.int .i64 0, .int .i64 0] := by kernel_rfl

/-- what 'spanned' holds in memory -/
structure SpE (w : World) (rb pb mb bb cb ib : Nat) (W H V : Int) (bl : Nat → Bool) (A : Option Addr) (L : List Nat) (F B : Int → Option (Int × Int)) : Prop where
  gr : GraphAt w rb pb mb W H V bl
  lab : LabAt w cb ib F
  row : OldRow w A L.length (fun i => (L.getD i 0 : Nat))
  mp : MapF Tryd.prog 3 w bb (fv B) (cnt B 256)
  bd : ∀ x, (B x).isSome = true → 0 ≤ x ∧ x < 256
  ne : mb ≠ bb
theorem SpE.below {w w' : World} {rb pb mb bb cb ib : Nat} {W H V : Int} {bl : Nat → Bool} {A : Option Addr} {L : List Nat} {F B : Int → Option (Int × Int)} (h : SpE w rb pb mb bb cb ib W H V bl A L F B) (hb : Below w.heap.size w w') : SpE w' rb pb mb bb cb ib W H V bl A L F B :=
  ⟨h.gr.below hb, h.lab.below hb, h.row.below hb, h.mp.keep (F := fun _ => False) (Keep.of_below hb) id, h.bd, h.ne⟩
theorem GraphAt.turn {w w' : World} {rb pb mb bb n : Nat} {W H V : Int} {bl : Nat → Bool} {f : Int → Option Value} (G : GraphAt w rb pb mb W H V bl) (M : MapF Tryd.prog 3 w bb f n) (hne : mb ≠ bb) (K : Keep (fun k => k = bb) w w') : GraphAt w' rb pb mb W H V bl := by
  obtain ⟨g, G, E⟩ := G
  have h1 : rb ≠ bb := fun e => by
    have h := M.cell 0
    rw [← e, G.p0] at h; cases h
  have h2 : pb ≠ bb := fun e => by
    have h := M.cell 0
    rw [← e, G.ga.c0] at h; cases h
  exact ⟨g, G.keep K h1 h2 hne, fun c => (E c).kept K (fun v l g' _ ho hg _ => own_map ho M g' hg) rfl⟩
theorem SpE.put {w w' : World} {rb pb mb bb cb ib : Nat} {W H V a s d : Int} {bl : Nat → Bool} {A : Option Addr} {L : List Nat} {F B : Int → Option (Int × Int)} (h : SpE w rb pb mb bb cb ib W H V bl A L F B) (h0 : 0 ≤ a) (h1 : a < 256)
    (hm : MapF Tryd.prog 3 w' bb (putF (fv B) a (.agg #[.int .i64 s, .int .i64 d])) (if (fv B a).isSome then cnt B 256 else cnt B 256 + 1)) (ht : w.mapTurned w' bb) : SpE w' rb pb mb bb cb ib W H V bl A L F (putH B a s d) := by
  have K := turned_keep ht
  have hcb : ∀ {q : Nat} {v : Value} {o : Nat}, w.cell? ⟨q, o, none⟩ = some v → q ≠ bb := fun {q v o} hq e => by
    have h := h.mp.cell o
    rw [← e, hq] at h; cases h
  refine ⟨h.gr.turn h.mp h.ne K, h.lab.keep K (hcb (h.lab.c0 0 (by decide))) (hcb (h.lab.i0 0 (by decide))), fun i hi => ?_, ?_, fun x hx => ?_, h.ne⟩
  · obtain ⟨b, o, e, k1, k2⟩ := h.row i hi
    exact ⟨b, o, e, Nat.lt_of_lt_of_le k1 K.size, K.cellOf k2 (hcb k2)⟩
  · rw [fv_put] at hm
    cases hB : B a with
    | none =>
      rw [fv_none hB] at hm
      rw [cnt_put B a s d 256 h0 h1 hB]; exact hm
    | some c =>
      obtain ⟨s', d'⟩ := c
      rw [fv_some hB] at hm
      rw [cnt_again B a s d 256 (by rw [hB]; rfl)]; exact hm
  · unfold putH at hx
    by_cases e : x = a
    · rw [e]; exact ⟨h0, h1⟩
    · rw [if_neg e] at hx; exact h.bd x hx
theorem SpE.room {w : World} {rb pb mb bb cb ib : Nat} {W H V : Int} {bl : Nat → Bool} {A : Option Addr} {L : List Nat} {F B : Int → Option (Int × Int)} (_h : SpE w rb pb mb bb cb ib W H V bl A L F B) : cnt B 256 < maxLen := by
  have := cnt_le B 256
  unfold maxLen
  omega
end Go.Proofs.YtcagpmglijockaaDoor
/-
  What corners cost over edges is what they cost over cells: the statement's 'spanned'.
-/
namespace Go.Proofs.YtcagpmglijockaaDoor
open Go.RowKit

theorem mkmapB (w : World) : (Instr.makeMap 73 none).run Tryd.prog w = .ok (.map (some w.heap.size)) (w.alloc (.map #[] 0)) := by kernel_rfl
theorem size_setCells' (b : Nat) : ∀ (vs : List Value) (o : Nat) (w : World), (w.setCells b o vs).heap.size = w.heap.size
  | [], _, _ => rfl
  | v :: vs, o, w => by
    show ((w.setCell ⟨b, o, none⟩ v).setCells b (o + 1) vs).heap.size = _
    rw [size_setCells' b vs]
    simp
theorem fv_empty : fv (fun _ => none) = fun _ => none := by funext i; rfl
theorem cnt_one (o s d : Int) (h0 : 0 ≤ o) (h : o < 256) : cnt (putH (fun _ => none) o s d) 256 = 1 := by rw [cnt_put _ _ _ _ 256 h0 h rfl, cnt_none]

theorem OldEdges.keep {F : Nat → Prop} {w w' : World} {A : Option Addr} {W a : Int} {l : List Nat} (h : OldEdges w A W a l) (K : Keep F w w') (hF : ∀ b o v, w.cell? ⟨b, o, none⟩ = some v → ¬ F b) : OldEdges w' A W a l := fun i hi => by
  obtain ⟨b, e, h0, h1, h2, h3, h4⟩ := h i hi
  exact ⟨b, e, Nat.lt_of_lt_of_le h0 K.size, K.cellOf h1 (hF _ _ _ h1), K.cellOf h2 (hF _ _ _ h2), K.cellOf h3 (hF _ _ _ h3), K.cellOf h4 (hF _ _ _ h4)⟩

set_option maxHeartbeats 8000000 in
set_option maxRecDepth 1000000 in
theorem spanned_any {rb pb mb M cap o : Nat} {W H V : Int} {bl : Nat → Bool} {A : Option Addr} {L : List Nat} {Fl : Int → Int → Option (Int × Int)} (w : World) (G : GraphAt w rb pb mb W H V bl) (g : RefAt w M W H V bl) (hrow : OldRow w A L.length (fun i => (L.getD i 0 : Nat)))
    (hL : crs W H bl (W * H).toNat = L) (ho : cornB W H bl o = true) (hFl : ∀ c, CornC W H bl c → Best (Edge W H bl) c (Fl c)) :
    Calls Tryd.prog 10 #[.pointer (some ⟨rb, 0, none⟩), .pointer (some ⟨M, 0, none⟩), .slice A L.length cap, .int .i64 (o : Int)] w fun e w' => e = .returned (.bool true) ∧ Below w.heap.size w w' := by
  have gw1 := g.w1
  have gw2 := g.w2
  have gh1 := g.h1
  have gh2 := g.h2
  have hwh := wh_bd g.w1 g.w2 g.h1 g.h2
  have hoc := cornB_iff.1 ho
  have hoin := cornC_in gw1 hoc
  have hob : 0 ≤ (o : Int) ∧ (o : Int) < W * H := of_decide_eq_true hoin
  have hwo := wf_small hob.1 (show (o : Int) < 256 by omega)
  have HL : Hid (crs W H bl (W * H).toNat = L) := hL
  have HC : Hid (∀ i, i < L.length → cornB W H bl ((L.getD i 0 : Nat) : Int) = true) := fun i hi => (crs_mem.1 (show L.getD i 0 ∈ crs W H bl (W * H).toNat by rw [hL, getD_at _ _ hi]; exact List.getElem_mem hi)).2
  have HA : Hid (∀ a, CornC W H bl a → ∃ i, i < L.length ∧ a = ((L.getD i 0 : Nat) : Int)) := fun a ha => by
    have h1 : 0 ≤ a ∧ a < W * H := of_decide_eq_true (cornC_in gw1 ha)
    have hm : a.toNat ∈ L := by rw [← hL]; exact crs_mem.2 ⟨by omega, by rw [Int.toNat_of_nonneg h1.1]; exact cornB_iff.2 ha⟩
    obtain ⟨i, hi, h⟩ := List.getElem_of_mem hm
    exact ⟨i, hi, by rw [getD_at _ _ hi, h]; omega⟩
  have hLL : L.length ≤ 256 := by rw [← hL]; have := crs_len W H bl (W * H).toNat; omega
  have HFl : Hid (∀ c, CornC W H bl c → Best (Edge W H bl) c (Fl c)) := hFl
  have Ml : M < w.heap.size := World.block_lt_of_cell? _ _ g.c0
  have hfl1 := rflood_any o w g Ml hoin
  clear hL hFl
  go_enter Tryd.func10, Tryd.ntmps10
  go_wp2_with fail
  refine hfl1.mono ?_
  rintro e w1 ⟨F, rfl, BF, hb1⟩
  have HF : Hid (F = Fl o) := BF.unique (HFl.out o hoc)
  have HBF : Hid (Best (Edge W H bl) (o : Int) F) := BF
  obtain ⟨t54, t55, LA, hbL⟩ := lab_laid w1 F
  have o1 := costL_one F
  have o2 := isL_one F
  have hcl := costL_len F
  have hil := isL_len F
  have b2 := hb1.trans (hbL.mono hb1.size)
  have G2 := G.below b2
  have row2 := hrow.below b2
  clear hfl1 hb1 hbL g G hrow BF
  generalize costL F = cs at *
  generalize isL F = is' at *
  have hsc := run_storeCells_cells (P := Tryd.prog) (w1.heap.size + 1) 0 is' 0 (((w1.alloc (.cells zC 70)).alloc (.cells zB 38)).setCells w1.heap.size 0 cs) (fun j hj => by simpa using (t55 j (by omega)).1) (fun j hj => by simpa using (t55 j (by omega)).2) o2
  simp only [Nat.add_zero] at hsc
  have hmm := @run_makeMap Tryd.prog
  have hbt := builtB
  have hM0 : MapF Tryd.prog 3 (((((w1.alloc (.cells zC 70)).alloc (.cells zB 38)).setCells w1.heap.size 0 cs).setCells (w1.heap.size + 1) 0 is').alloc (.map #[] 0)) ((((w1.alloc (.cells zC 70)).alloc (.cells zB 38)).setCells w1.heap.size 0 cs).setCells (w1.heap.size + 1) 0 is').heap.size (fv fun _ => none) 0 := by rw [fv_empty]; exact MapF.made ((((w1.alloc (.cells zC 70)).alloc (.cells zB 38)).setCells w1.heap.size 0 cs).setCells (w1.heap.size + 1) 0 is') Tryd.prog 3
  have hzz : ((((w1.alloc (.cells zC 70)).alloc (.cells zB 38)).setCells w1.heap.size 0 cs).setCells (w1.heap.size + 1) 0 is').heap.size = w1.heap.size + 1 + 1 := by rw [size_setCells', size_setCells']; simp
  have b3 : Below ((((w1.alloc (.cells zC 70)).alloc (.cells zB 38)).setCells w1.heap.size 0 cs).setCells (w1.heap.size + 1) 0 is').heap.size ((((w1.alloc (.cells zC 70)).alloc (.cells zB 38)).setCells w1.heap.size 0 cs).setCells (w1.heap.size + 1) 0 is') (((((w1.alloc (.cells zC 70)).alloc (.cells zB 38)).setCells w1.heap.size 0 cs).setCells (w1.heap.size + 1) 0 is').alloc (.map #[] 0)) := (Below.refl _ _).alloc (Nat.le_refl _) _
  have hz1 : w.heap.size ≤ ((((w1.alloc (.cells zC 70)).alloc (.cells zB 38)).setCells w1.heap.size 0 cs).setCells (w1.heap.size + 1) 0 is').heap.size := b2.size
  have hmbl := G2.lts
  have hM1 := hM0
  rw [hzz] at hM1
  go_wp2_with (first | (refine wpList_alloc54 rfl rfl ?_) | (refine wpList_alloc55 rfl rfl ?_) | (refine wpList_store_mid rfl 70 _ _ rfl _ _ cs.toArray rfl rfl (th_of hcl t54) (in_of hcl info54) (all_oneCell_toArray o1) ?_) | (refine wpList_store_mid rfl 38 _ _ rfl _ _ is'.toArray rfl rfl (th_of hil t55) (in_of hil info55) (all_oneCell_toArray o2) ?_) | (refine wpList_ins rfl _ _ _ 73 rfl 3 69 law3 Tryd.underB (w1.heap.size + 1 + 1) _ _ (by first | rfl | (rw [hzz]; rfl)) hM1 (by unfold maxLen; omega) o (.agg #[.int .i64 0, .int .i64 0]) rfl rfl hwo ?_; intro w3 hm3 ht3; go_frame) | go_in)
  clear hsc o1 o2 hcl hil t54 t55 hmm hM1
  rw [← hzz] at hm3 ht3 ⊢
  generalize ((((w1.alloc (.cells zC 70)).alloc (.cells zB 38)).setCells w1.heap.size 0 cs).setCells (w1.heap.size + 1) 0 is') = w2 at *
  generalize w1.heap.size = C1 at *
  generalize C1 + 1 = I1 at *
  have E3 : SpE w3 rb pb mb w2.heap.size C1 I1 W H V bl A L F (putH (fun _ => none) o 0 0) := by
    have E0 : SpE (w2.alloc (.map #[] 0)) rb pb mb w2.heap.size C1 I1 W H V bl A L F (fun _ => none) := ⟨G2.below b3, LA.below b3, row2.below b3, by rw [cnt_none]; exact hM0, fun x h => (by cases h), by omega⟩
    exact E0.put hob.1 (by omega) (by rw [cnt_none]; exact hm3) ht3
  have B3 : Below w.heap.size w w3 := ((b2.alloc hz1 _).grown ht3.grown (by simp; omega) (fun k e => by cases e; exact hz1))
  have S0 := Span.start hoc
  generalize hbb : w2.heap.size = bb at *
  clear hm3 ht3 hM0 b3 G2 LA row2 b2 hbb hzz
  go_wp2
  go_loopg [12] (pot2 (putH (fun _ => none) (o : Int) 0 0) 256 + 1) (fun gk av wr => ∃ (ag : Bool) (B : Int → Option (Int × Int)), av = .bool ag ∧ gk = pot2 B 256 + (if ag then 1 else 0) ∧ SpE wr rb pb mb bb C1 I1 W H V bl A L F B ∧ Hid (Span W H bl o B) ∧ Hid (ag = false → ∀ i, i < L.length → Rlx W H bl B ((L.getD i 0 : Nat) : Int)) ∧ Below w.heap.size w wr)
  case atStart => exact ⟨true, _, rfl, rfl, E3, S0, fun h => (by cases h), B3⟩
  case round =>
    obtain ⟨ag, B, rfl, hgk, E, hSp, hdone, hBl⟩ := hrel
    cases ag with
    | true =>
      clear hdone
      go_wp2
      go_loopw [12, 13] (fun av iv wr => ∃ (ag : Bool) (i : Nat) (B' : Int → Option (Int × Int)), av = .bool ag ∧ iv = .int .i64 i ∧ i ≤ L.length ∧ SpE wr rb pb mb bb C1 I1 W H V bl A L F B' ∧ Hid (Span W H bl o B') ∧ Hid (ag = true → pot2 B' 256 < pot2 B 256) ∧ Hid (ag = false → B' = B ∧ ∀ j, j < i → Rlx W H bl B ((L.getD j 0 : Nat) : Int)) ∧ Below w.heap.size w wr)
        (fun _ i _ => L.length - (intOf i).toNat)
      case atStart => exact ⟨false, 0, B, rfl, rfl, Nat.zero_le _, E, hSp, fun h => (by cases h), fun _ => ⟨rfl, fun j hj => absurd hj (Nat.not_lt_zero j)⟩, hBl⟩
      case round =>
        obtain ⟨ag, i, B1, rfl, rfl, hi, E1, hSp1, hpot, hfal, hBl1⟩ := hrel
        by_cases hlt : i < L.length
        · obtain ⟨ba, oa, rfl, hba, hcell⟩ := E1.row i hlt
          have hcn := HC.out i hlt
          have hcell' : wr.cell? ⟨ba, oa + i, none⟩ = some (.int .i64 ((L.getD i 0 : Nat) : Int)) := hcell
          clear hcell
          have HNX : Hid (∀ j, j < i + 1 → j < i ∨ ((L.getD j 0 : Nat) : Int) = ((L.getD i 0 : Nat) : Int)) := fun j hj => by
            by_cases e : j = i
            · subst e; exact Or.inr rfl
            · exact Or.inl (by omega)
          generalize ((L.getD i 0 : Nat) : Int) = a at *
          have haC := cornB_iff.1 hcn
          have hain := cornC_in gw1 haC
          have hab : 0 ≤ a ∧ a < W * H := of_decide_eq_true hain
          have hwf := wf_small hab.1 (show a < 256 by omega)
          have i1 : (0 : Int) ≤ (i : Int) := by omega
          have i2 : (i : Int) < (L.length : Int) := by omega
          cases hBa : B1 a with
          | none =>
            have hlk : (Instr.lookup 73 (.map (some bb)) (.int .i64 a) true).run Tryd.prog wr = .ok (.tuple #[.agg #[.int .i64 0, .int .i64 0], .bool false]) wr := E1.mp.look_none law3 Tryd.underB (zeroB _) hwf (fv_none hBa) true
            have b4 : Below wr.heap.size wr (wr.alloc (.cells #[.int .i64 0, .int .i64 0] 69)) := (Below.refl _ _).alloc (Nat.le_refl _) _
            have E4 := E1.below b4
            have B4 := hBl1.trans (b4.mono hBl1.size)
            have hcell4 := (b4.cell (World.block_lt_of_cell? _ _ hcell')).trans hcell'
            have hed := edges_yes (wr.alloc (.cells #[.int .i64 0, .int .i64 0] 69)) E4.gr hcn hwf
            have HRX : Hid (ag = false → B1 = B ∧ ∀ j, j < i + 1 → Rlx W H bl B ((L.getD j 0 : Nat) : Int)) := fun h => by
              obtain ⟨e1, e2⟩ := hfal.out h
              refine ⟨e1, fun j hj => ?_⟩
              rcases HNX.out j hj with h1 | h1
              · exact e2 j h1
              · rw [h1]
                intro c s d _ _ _ hB
                rw [← e1, hBa] at hB
                cases hB
            go_wp2_with fail
            refine hed.mono ?_
            rintro e w5 ⟨v5, l, rfl, hown5, hEL, hb5⟩
            obtain ⟨A5, c5, rfl, hE5⟩ := rowE_of hown5
            have hle := hEL.len gw1 hwh.2
            have E5 := E4.below hb5
            have B5 := B4.trans (hb5.mono B4.size)
            clear hed hlk b4 E4 B4 hown5 hb5 hcell4 hcell' hE5 hEL
            go_wp2
            go_loopw [12, 18] (fun av kv wr => av = .bool ag ∧ kv = .int .i64 0 ∧ SpE wr rb pb mb bb C1 I1 W H V bl (some ⟨ba, oa, none⟩) L F B1 ∧ Below w.heap.size w wr) (fun _ _ _ => 0)
            case atStart => exact ⟨rfl, rfl, E5, B5⟩
            case round =>
              obtain ⟨rfl, rfl, E6, B6⟩ := hrel
              go_wp2
              all_goals
                go_roundw
                case rel => exact ⟨ag, i + 1, B1, rfl, by go_num, by omega, E6, hSp1, hpot, HRX, B6⟩
                case measure => simp [intOf]; omega
          | some p =>
            obtain ⟨s, d⟩ := p
            have hlk : (Instr.lookup 73 (.map (some bb)) (.int .i64 a) true).run Tryd.prog wr = .ok (.tuple #[.agg #[.int .i64 s, .int .i64 d], .bool true]) wr := E1.mp.look_some law3 Tryd.underB (zeroB _) hwf (fv_some hBa) true
            have b4 : Below wr.heap.size wr (wr.alloc (.cells #[.int .i64 s, .int .i64 d] 69)) := (Below.refl _ _).alloc (Nat.le_refl _) _
            have E4 := E1.below b4
            have B4 := hBl1.trans (b4.mono hBl1.size)
            have sl4 := Slot.new wr s d
            have hcell4 := (b4.cell (World.block_lt_of_cell? _ _ hcell')).trans hcell'
            have hed := edges_yes (wr.alloc (.cells #[.int .i64 s, .int .i64 d] 69)) E4.gr hcn hwf
            go_wp2_with fail
            refine hed.mono ?_
            rintro e w5 ⟨v5, l, rfl, hown5, hEL, hb5⟩
            obtain ⟨A5, c5, rfl, hE5⟩ := rowE_of hown5
            have hle := hEL.len gw1 hwh.2
            have HEL : Hid (EdgeL W H bl a l) := hEL
            have E5 := E4.below hb5
            have B5 := B4.trans (hb5.mono B4.size)
            have sl5 := sl4.below hb5
            have hsX : w.heap.size ≤ wr.heap.size := hBl1.size
            clear hed hlk b4 E4 B4 hown5 hb5 hcell4 hcell' hEL sl4
            generalize wr.heap.size = X at *
            go_wp2
            go_loopw [12, 18] (fun av kv wr => ∃ (ag2 : Bool) (k : Nat) (B2 : Int → Option (Int × Int)), av = .bool ag2 ∧ kv = .int .i64 k ∧ k ≤ l.length ∧ SpE wr rb pb mb bb C1 I1 W H V bl (some ⟨ba, oa, none⟩) L F B2 ∧ Hid (Span W H bl o B2) ∧ Hid (B2 a = some (s, d)) ∧ Hid (ag2 = true → pot2 B2 256 < pot2 B 256) ∧
                Hid (ag2 = false → (B2 = B ∧ ∀ j, j < i → Rlx W H bl B ((L.getD j 0 : Nat) : Int)) ∧ ∀ j, j < k → ∃ s' d', B ((l.getD j 0 : Nat) : Int) = some (s', d') ∧ val s' d' ≤ val (s + octS W a ((l.getD j 0 : Nat) : Int)) (d + octD W a ((l.getD j 0 : Nat) : Int))) ∧ Slot wr X s d ∧ OldEdges wr A5 W a l ∧ Below w.heap.size w wr)
              (fun _ i _ => l.length - (intOf i).toNat)
            case atStart =>
              refine ⟨ag, 0, B1, rfl, rfl, Nat.zero_le _, E5, hSp1, hBa, ?_, fun h => ⟨hfal.out h, fun j hj => absurd hj (Nat.not_lt_zero j)⟩, sl5, hE5, B5⟩
              exact hpot
            case round =>
              obtain ⟨ag2, k, B2, rfl, rfl, hk, E6, hSp2, hB2a, hpot2, hfal2, sl6, hE6, B6⟩ := hrel
              by_cases hlk : k < l.length
              · obtain ⟨be, rfl, hbe, e1, e2, e3, e4⟩ := hE6 k hlk
                have hmem : l.getD k 0 ∈ l := by rw [getD_at _ _ hlk]; exact List.getElem_mem hlk
                obtain ⟨hdir, hpc⟩ := (HEL.out.2 _).1 hmem
                rw [Bool.and_eq_true] at hpc
                have hne : ((l.getD k 0 : Nat) : Int) ≠ a := of_decide_eq_true hpc.1
                have hcc := hpc.2
                obtain ⟨c, hce⟩ : ∃ c : Int, ((l.getD k 0 : Nat) : Int) = c := ⟨_, rfl⟩
                have HCC : Hid (((l.getD k 0 : Nat) : Int) = c) := hce
                rw [hce] at hne hcc hdir e1 e2 e3
                clear hpc hmem hce
                have hcin := cornC_in gw1 (cornB_iff.1 hcc)
                have hcb2 : 0 ≤ c ∧ c < W * H := of_decide_eq_true hcin
                have hwc := wf_small hcb2.1 (show c < 256 by omega)
                have hosm := oct_small gw1 gw2 gh1 gh2 hain hcin
                have hnear : Wk (Edge W H bl) a c (octS W a c) (octD W a c) := hdir.1.elim fun z hz => Nr.of_on gw1 (by omega) (by omega) hz
                have hon1 := octS_nonneg W a c
                have hon2 := octD_nonneg W a c
                obtain ⟨sm1, sm2, _⟩ := hSp2.out.small hB2a.out
                obtain ⟨sm3, sm4⟩ := hSp2.out.ok hB2a.out
                have ok1 : okC s d := by unfold okC; omega
                have ok2 : okC (octS W a c) (octD W a c) := by unfold okC; omega
                have ok3 : okC (s + octS W a c) (d + octD W a c) := by unfold okC; omega
                have hadd := fun w => plus_any s d (octS W a c) (octD W a c) w ok1 ok2
                have i3 : (0 : Int) ≤ (k : Int) := by omega
                have i4 : (k : Int) < (l.length : Int) := by omega
                have x0 : wr.drew.cell? ⟨X, 0, none⟩ = some (.int .i64 s) := sl6.c0
                have x1 : wr.drew.cell? ⟨X, 1, none⟩ = some (.int .i64 d) := sl6.c1
                have y0 : wr.drew.cell? ⟨be, k * 4 + 1, none⟩ = some (.int .i64 (octS W a c)) := e2
                have y1 : wr.drew.cell? ⟨be, k * 4 + 2, none⟩ = some (.int .i64 (octD W a c)) := e3
                have CC : ∀ w', Below wr.drew.heap.size wr.drew w' → w'.cell? ⟨X, 0, none⟩ = some (.int .i64 s) ∧ w'.cell? ⟨X, 1, none⟩ = some (.int .i64 d) ∧ w'.cell? ⟨be, k * 4 + 1, none⟩ = some (.int .i64 (octS W a c)) ∧ w'.cell? ⟨be, k * 4 + 2, none⟩ = some (.int .i64 (octD W a c)) :=
                  fun w' hb' => ⟨(hb'.cell (World.block_lt_of_cell? _ _ x0)).trans x0, (hb'.cell (World.block_lt_of_cell? _ _ x1)).trans x1, (hb'.cell (World.block_lt_of_cell? _ _ y0)).trans y0, (hb'.cell (World.block_lt_of_cell? _ _ y1)).trans y1⟩
                have HBx : Below wr.drew.heap.size wr.drew wr.drew := Below.refl _ _
                have hbbw : w.heap.size ≤ bb := hz1
                clear e1 e2 e3 e4
                go_wp2
                go_region_held3 (fun w' => w'.cell? ⟨X, 0, none⟩ = some (.int .i64 s) ∧ w'.cell? ⟨X, 1, none⟩ = some (.int .i64 d) ∧ w'.cell? ⟨be, k * 4 + 1, none⟩ = some (.int .i64 (octS W a c)) ∧ w'.cell? ⟨be, k * 4 + 2, none⟩ = some (.int .i64 (octD W a c)))
                  (first | (exact CC _ HBx) | (exact CC _ (HBx.alloc HBx.size _)) | (exact CC _ ((HBx.setCell (p := ⟨wr.heap.size, 0, none⟩) (Nat.le_refl _) _).setCell (p := ⟨wr.heap.size, 1, none⟩) (Nat.le_refl _) _)) | (exact CC _ ((HBx.alloc HBx.size _).setCell HBx.size _)) | (exact CC _ (((HBx.alloc HBx.size _).setCell HBx.size _).setCell HBx.size _)) | (go_keep))
                  (first | (go_at_call 26; refine (hadd _).mono ?_; rintro e w5 ⟨rfl, hb5⟩; have HBx : Below wr.drew.heap.size wr.drew w5 := (by first | exact hb5 | exact (HBx.alloc HBx.size _).trans (hb5.mono (by simp))); obtain ⟨hc5, hf5⟩ := bcell hb5; have hz5 := hb5.size; simp at hz5))
                all_goals
                  first
                    | (have z0 : w5.cell? ⟨wr.heap.size, 0, none⟩ = some (.int .i64 0) := (hc5 _ _ (by simp)).trans (World.cell?_alloc_at (w := wr) #[.int .i64 0, .int .i64 0] 69 wr.heap.size 0 rfl)
                       have z1 : w5.cell? ⟨wr.heap.size, 1, none⟩ = some (.int .i64 0) := (hc5 _ _ (by simp)).trans (World.cell?_alloc_at (w := wr) #[.int .i64 0, .int .i64 0] 69 wr.heap.size 1 rfl)
                       have z2 : w5.frozen? ⟨wr.heap.size, 0, none⟩ = false := (hf5 _ _ (by simp)).trans (free_alloc wr #[.int .i64 0, .int .i64 0] 69 wr.heap.size (Nat.le_refl _) 0)
                       have z3 : w5.frozen? ⟨wr.heap.size, 1, none⟩ = false := (hf5 _ _ (by simp)).trans (free_alloc wr #[.int .i64 0, .int .i64 0] 69 wr.heap.size (Nat.le_refl _) 1)
                       have slD := (Slot.mk z0 z1 z2 z3).set (s + octS W a c) (d + octD W a c)
                       have b6 := (HBx.setCell (p := ⟨wr.heap.size, 0, none⟩) (Nat.le_refl _) (.int .i64 (s + octS W a c))).setCell (p := ⟨wr.heap.size, 1, none⟩) (Nat.le_refl _) (.int .i64 (d + octD W a c))
                       clear z0 z1 z2 z3
                       generalize (w5.setCell ⟨wr.heap.size, 0, none⟩ (.int .i64 (s + octS W a c))).setCell ⟨wr.heap.size, 1, none⟩ (.int .i64 (d + octD W a c)) = W6 at *
                       obtain ⟨DB, hDB'⟩ : ∃ DB, wr.heap.size = DB := ⟨_, rfl⟩
                       rw [hDB'] at slD ⊢)
                    | (have slD := Slot.new w5 (s + octS W a c) (d + octD W a c)
                       have b6 := HBx.alloc HBx.size (.cells #[.int .i64 (s + octS W a c), .int .i64 (d + octD W a c)] 69)
                       generalize w5.alloc (.cells #[.int .i64 (s + octS W a c), .int .i64 (d + octD W a c)] 69) = W6 at *
                       obtain ⟨DB, hDB'⟩ : ∃ DB, w5.heap.size = DB := ⟨_, rfl⟩
                       rw [hDB'] at slD ⊢)
                  have b6 : Below wr.heap.size wr W6 := ⟨b6.os, b6.tape, b6.output, b6.size, b6.block⟩
                  have E7 := E6.below b6
                  have sl7 := sl6.below b6
                  have hE7 := hE6.below b6
                  have B7 := B6.trans (b6.mono B6.size)
                  clear hDB' E6 sl6 hE6 B6 b6 x0 x1 y0 y1 CC HBx hb5 hc5 hf5 hz5 hadd
                  obtain ⟨_, e, _, f1, _⟩ := hE7 k hlk
                  cases e
                  rw [HCC.out] at f1
                  cases hBc : B2 c with
                  | none =>
                    have hlu : (Instr.lookup 73 (.map (some bb)) (.int .i64 c) true).run Tryd.prog W6 = .ok (.tuple #[.agg #[.int .i64 0, .int .i64 0], .bool false]) W6 := E7.mp.look_none law3 Tryd.underB (zeroB _) hwc (fv_none hBc) true
                    have b7 : Below W6.heap.size W6 (W6.alloc (.cells #[.int .i64 0, .int .i64 0] 69)) := (Below.refl _ _).alloc (Nat.le_refl _) _
                    have HBT : ∀ s' d', B2 c = some (s', d') → val (s + octS W a c) (d + octD W a c) < val s' d' := fun s' d' h => by rw [hBc] at h; cases h
                    go_wp2_with fail
                    have E7 := E7.below b7
                    have sl7 := sl7.below b7
                    have slD := slD.below b7
                    have hE7 := hE7.below b7
                    have B7 := B7.trans (b7.mono B7.size)
                    clear hlu b7 f1
                    generalize W6.alloc (.cells #[.int .i64 0, .int .i64 0] 69) = W7 at *
                    have E7d : SpE W7.drew rb pb mb bb C1 I1 W H V bl (some ⟨ba, oa, none⟩) L F B2 := E7.below (Below.refl _ _).drew
                    have B7d : Below w.heap.size w W7.drew := ⟨B7.os, B7.tape, B7.output, B7.size, B7.block⟩
                    have slD : Slot W7.drew DB (s + octS W a c) (d + octD W a c) := slD.below (Below.refl _ _).drew
                    have sl7 : Slot W7.drew X s d := sl7.below (Below.refl _ _).drew
                    have hE7 : OldEdges W7.drew (some ⟨be, 0, none⟩) W a l := hE7.below (Below.refl _ _).drew
                    have e0 : W7.drew.cell? ⟨be, k * 4, none⟩ = some (.int .i64 c) := by
                      obtain ⟨_, e, _, h1, _⟩ := hE7 k hlk
                      cases e
                      rw [HCC.out] at h1
                      exact h1
                    have D0 := slD.c0
                    have D1 := slD.c1
                    obtain ⟨w8, hrun8, hm8, ht8⟩ := E7d.mp.store law3 Tryd.underB E7d.room hwc (.agg #[.int .i64 (s + octS W a c), .int .i64 (d + octD W a c)])
                    have E8 := E7d.put hcb2.1 (by omega) hm8 ht8
                    have B8 : Below w.heap.size w w8 := B7d.grown ht8.grown B7d.size (fun k e => by cases e; exact hbbw)
                    have hkb : ∀ b o v, W7.drew.cell? ⟨b, o, none⟩ = some v → ¬ (b = bb) := fun b o v hq e => by
                      have h := E7d.mp.cell o
                      rw [← e, hq] at h; cases h
                    have sl8 := sl7.keep (turned_keep ht8) (hkb _ _ _ sl7.c0)
                    have hE8 := hE7.keep (turned_keep ht8) hkb
                    obtain ⟨hS8, hP8⟩ := hSp2.out.better hB2a.out hnear (cornB_iff.1 hcc) ⟨hcb2.1, by omega⟩ (oct_few gw1 gw2 gh2 hain hcin) HBT
                    have HS8 : Hid (Span W H bl o (putH B2 c (s + octS W a c) (d + octD W a c))) := hS8
                    have HB8 : Hid (putH B2 c (s + octS W a c) (d + octD W a c) a = some (s, d)) := by unfold putH Hid; rw [if_neg (Ne.symm hne)]; exact hB2a.out
                    have HP8 : Hid (true = true → pot2 (putH B2 c (s + octS W a c) (d + octD W a c)) 256 < pot2 B 256) := fun _ => by
                      cases hag : ag2 with
                      | true => exact Nat.lt_trans hP8 (hpot2.out hag)
                      | false => rw [← ((hfal2.out hag).1).1]; exact hP8
                    clear E7 E7d B7 B7d hm8 ht8 hkb hE7 sl7 slD hS8 hP8
                    go_region
                    go_wp2
                    go_roundw
                    case rel => exact ⟨true, k + 1, _, rfl, by go_num, by omega, E8, HS8, HB8, HP8, fun h => (by cases h), sl8, hE8, B8⟩
                    case measure => simp [intOf]; omega
                  | some p =>
                    obtain ⟨t, u⟩ := p
                    have hlu : (Instr.lookup 73 (.map (some bb)) (.int .i64 c) true).run Tryd.prog W6 = .ok (.tuple #[.agg #[.int .i64 t, .int .i64 u], .bool true]) W6 := E7.mp.look_some law3 Tryd.underB (zeroB _) hwc (fv_some hBc) true
                    have b7 : Below W6.heap.size W6 (W6.alloc (.cells #[.int .i64 t, .int .i64 u] 69)) := (Below.refl _ _).alloc (Nat.le_refl _) _
                    have slZ := Slot.new W6 t u
                    have slD2 := slD.below b7
                    have D0 := slD2.c0
                    have D1 := slD2.c1
                    have Z0 := slZ.c0
                    have Z1 := slZ.c1
                    obtain ⟨tm1, tm2, _⟩ := hSp2.out.small hBc
                    obtain ⟨tm3, tm4⟩ := hSp2.out.ok hBc
                    have ok4 : okC t u := by unfold okC; omega
                    have hcv := fun w => rcmp_any (s + octS W a c) (d + octD W a c) t u w ok3 ok4
                    have hcm := cmpC_val (s + octS W a c) (d + octD W a c) t u (by omega) (by omega)
                    by_cases hlv : val (s + octS W a c) (d + octD W a c) < val t u
                    · have hc0 : cmpC (s + octS W a c) (d + octD W a c) t u < 0 := by rw [hcm]; exact (cmpI_neg _ _).2 hlv
                      have HBT : ∀ s' d', B2 c = some (s', d') → val (s + octS W a c) (d + octD W a c) < val s' d' := fun s' d' h => by rw [hBc] at h; cases h; exact hlv
                      generalize cmpC (s + octS W a c) (d + octD W a c) t u = cr at *
                      clear hcm
                      go_wp2_with fail
                      refine (hcv _).mono ?_
                      rintro e W7 ⟨rfl, hb7⟩
                      have b8 := b7.trans (hb7.mono b7.size)
                      have E7 := E7.below b8
                      have sl7 := sl7.below b8
                      have slD := slD.below b8
                      have hE7 := hE7.below b8
                      have B7 := B7.trans (b8.mono B7.size)
                      clear hlu b7 hb7 b8 f1 hcv slZ slD2 D0 D1 Z0 Z1
                      go_wp2_with fail
                      have E7d : SpE W7.drew rb pb mb bb C1 I1 W H V bl (some ⟨ba, oa, none⟩) L F B2 := E7.below (Below.refl _ _).drew
                      have B7d : Below w.heap.size w W7.drew := ⟨B7.os, B7.tape, B7.output, B7.size, B7.block⟩
                      have slD : Slot W7.drew DB (s + octS W a c) (d + octD W a c) := slD.below (Below.refl _ _).drew
                      have sl7 : Slot W7.drew X s d := sl7.below (Below.refl _ _).drew
                      have hE7 : OldEdges W7.drew (some ⟨be, 0, none⟩) W a l := hE7.below (Below.refl _ _).drew
                      have e0 : W7.drew.cell? ⟨be, k * 4, none⟩ = some (.int .i64 c) := by
                        obtain ⟨_, e, _, h1, _⟩ := hE7 k hlk
                        cases e
                        rw [HCC.out] at h1
                        exact h1
                      have D0 := slD.c0
                      have D1 := slD.c1
                      obtain ⟨w8, hrun8, hm8, ht8⟩ := E7d.mp.store law3 Tryd.underB E7d.room hwc (.agg #[.int .i64 (s + octS W a c), .int .i64 (d + octD W a c)])
                      have E8 := E7d.put hcb2.1 (by omega) hm8 ht8
                      have B8 : Below w.heap.size w w8 := B7d.grown ht8.grown B7d.size (fun k e => by cases e; exact hbbw)
                      have hkb : ∀ b o v, W7.drew.cell? ⟨b, o, none⟩ = some v → ¬ (b = bb) := fun b o v hq e => by
                        have h := E7d.mp.cell o
                        rw [← e, hq] at h; cases h
                      have sl8 := sl7.keep (turned_keep ht8) (hkb _ _ _ sl7.c0)
                      have hE8 := hE7.keep (turned_keep ht8) hkb
                      obtain ⟨hS8, hP8⟩ := hSp2.out.better hB2a.out hnear (cornB_iff.1 hcc) ⟨hcb2.1, by omega⟩ (oct_few gw1 gw2 gh2 hain hcin) HBT
                      have HS8 : Hid (Span W H bl o (putH B2 c (s + octS W a c) (d + octD W a c))) := hS8
                      have HB8 : Hid (putH B2 c (s + octS W a c) (d + octD W a c) a = some (s, d)) := by unfold putH Hid; rw [if_neg (Ne.symm hne)]; exact hB2a.out
                      have HP8 : Hid (true = true → pot2 (putH B2 c (s + octS W a c) (d + octD W a c)) 256 < pot2 B 256) := fun _ => by
                        cases hag : ag2 with
                        | true => exact Nat.lt_trans hP8 (hpot2.out hag)
                        | false => rw [← ((hfal2.out hag).1).1]; exact hP8
                      clear E7 E7d B7 B7d hm8 ht8 hkb hE7 sl7 slD hS8 hP8
                      go_region
                      go_wp2
                      go_roundw
                      case rel => exact ⟨true, k + 1, _, rfl, by go_num, by omega, E8, HS8, HB8, HP8, fun h => (by cases h), sl8, hE8, B8⟩
                      case measure => simp [intOf]; omega
                    · have hc0 : ¬ cmpC (s + octS W a c) (d + octD W a c) t u < 0 := by rw [hcm]; exact fun h => hlv ((cmpI_neg _ _).1 h)
                      generalize cmpC (s + octS W a c) (d + octD W a c) t u = cr at *
                      clear hcm
                      have HX : Hid (ag2 = false → (B2 = B ∧ ∀ j, j < i → Rlx W H bl B ((L.getD j 0 : Nat) : Int)) ∧ ∀ j, j < k + 1 → ∃ s' d', B ((l.getD j 0 : Nat) : Int) = some (s', d') ∧ val s' d' ≤ val (s + octS W a ((l.getD j 0 : Nat) : Int)) (d + octD W a ((l.getD j 0 : Nat) : Int))) := fun h => by
                        obtain ⟨q1, q2⟩ := hfal2.out h
                        refine ⟨q1, fun j hj => ?_⟩
                        by_cases e : j = k
                        · subst e
                          rw [HCC.out, ← q1.1, hBc]
                          exact ⟨t, u, rfl, by omega⟩
                        · exact q2 j (by omega)
                      go_wp2_with fail
                      refine (hcv _).mono ?_
                      rintro e W7 ⟨rfl, hb7⟩
                      have b8 := b7.trans (hb7.mono b7.size)
                      have E7 := E7.below b8
                      have sl7 := sl7.below b8
                      have hE7 := hE7.below b8
                      have B7 := B7.trans (b8.mono B7.size)
                      clear hlu b7 hb7 b8 f1 hcv slZ slD2 D0 D1 Z0 Z1 slD
                      go_wp2
                      go_roundw
                      case rel => exact ⟨ag2, k + 1, B2, rfl, by go_num, by omega, E7, hSp2, hB2a, hpot2, HX, sl7, hE7, B7⟩
                      case measure => simp [intOf]; omega
              · have e : k = l.length := by omega
                subst e
                have HRX : Hid (ag2 = false → B2 = B ∧ ∀ j, j < i + 1 → Rlx W H bl B ((L.getD j 0 : Nat) : Int)) := fun h => by
                  obtain ⟨⟨e1, e2⟩, e3⟩ := hfal2.out h
                  refine ⟨e1, fun j hj => ?_⟩
                  rcases HNX.out j hj with h1 | h1
                  · exact e2 j h1
                  · rw [h1]
                    intro c s' d' hd hc hne hB
                    rw [← e1, hB2a.out] at hB
                    cases hB
                    have hcb : 0 ≤ c ∧ c < W * H := of_decide_eq_true (cornC_in gw1 (cornB_iff.1 hc))
                    have hm : c.toNat ∈ l := (HEL.out.2 c.toNat).2 (by rw [Int.toNat_of_nonneg hcb.1]; exact ⟨hd, by rw [hc]; simp [hne]⟩)
                    obtain ⟨q, hq, hqe⟩ := List.getElem_of_mem hm
                    have := e3 q hq
                    rw [getD_at _ _ hq, hqe, Int.toNat_of_nonneg hcb.1] at this
                    exact this
                go_wp2
                go_roundw
                case rel => exact ⟨ag2, i + 1, B2, rfl, by go_num, by omega, E6, hSp2, hpot2, HRX, B6⟩
                case measure => simp [intOf]; omega
        · have e : i = L.length := by omega
          subst e
          go_wp2
          go_roundg (pot2 B1 256 + (if ag then 1 else 0))
          case measure =>
            rw [hgk]
            cases ag with
            | true => have := hpot.out rfl; simp; omega
            | false => rw [(hfal.out rfl).1]; simp
          case rel => exact ⟨ag, B1, rfl, rfl, E1, hSp1, fun h => by rw [(hfal.out h).1]; exact (hfal.out h).2, hBl1⟩
    | false =>
      have hBF : ∀ x, CornC W H bl x → B x = F x := fun x hx => by
        rw [HF.out]
        exact hSp.out.eq gw1 HFl.out (Done.of_rlx gw1 gw2 gh1 gh2 HFl.out (fun a ha => by
          obtain ⟨i, hi, rfl⟩ := HA.out a ha
          exact hdone.out rfl i hi)) hoc hx
      have HBF : Hid (∀ x, CornC W H bl x → B x = F x) := hBF
      have hcnt : cnt B 256 ≤ L.length := by
        have := cnt_crs (W := W) (H := H) (bl := bl) (B := B) (fun x hx => by
          obtain ⟨p, hp⟩ := Option.isSome_iff_exists.1 hx
          exact cornB_iff.2 (hSp.out.snd (s := p.1) (d := p.2) hp).2.1) 256
        rw [crs_top gw1 hwh.2, HL.out] at this
        exact this
      clear hBF hdone
      go_wp2
      go_loopw [22] (fun iv wr => ∃ i : Nat, i ≤ L.length ∧ iv = .int .i64 i ∧ SpE wr rb pb mb bb C1 I1 W H V bl A L F B ∧ Below w.heap.size w wr) (fun i _ => L.length - (intOf i).toNat)
      case atStart => exact ⟨0, Nat.zero_le _, rfl, E, hBl⟩
      case round =>
        obtain ⟨i, hi, rfl, E1, B1⟩ := hrel
        by_cases hlt : i < L.length
        · obtain ⟨ba, oa, rfl, hba, hcell⟩ := E1.row i hlt
          have hcn := HC.out i hlt
          have hcell' : wr.cell? ⟨ba, oa + i, none⟩ = some (.int .i64 ((L.getD i 0 : Nat) : Int)) := hcell
          clear hcell
          generalize L.getD i 0 = n at *
          have hab : 0 ≤ (n : Int) ∧ (n : Int) < W * H := of_decide_eq_true (cornC_in gw1 (cornB_iff.1 hcn))
          have hn2 : n < 256 := by omega
          have hwf := wf_small hab.1 (show (n : Int) < 256 by omega)
          have hBn := HBF.out n (cornB_iff.1 hcn)
          have i1 : (0 : Int) ≤ (i : Int) := by omega
          have i2 : (i : Int) < (L.length : Int) := by omega
          have i3 : (n : Int) < 256 := by omega
          cases hFn : F (n : Int) with
          | none =>
            have hlk : (Instr.lookup 73 (.map (some bb)) (.int .i64 n) true).run Tryd.prog wr = .ok (.tuple #[.agg #[.int .i64 0, .int .i64 0], .bool false]) wr := E1.mp.look_none law3 Tryd.underB (zeroB _) hwf (fv_none (hBn.trans hFn)) true
            have b4 : Below wr.heap.size wr (wr.alloc (.cells #[.int .i64 0, .int .i64 0] 69)) := (Below.refl _ _).alloc (Nat.le_refl _) _
            have E4 := E1.below b4
            have B4 := B1.trans (b4.mono B1.size)
            have hcell4 := (b4.cell (World.block_lt_of_cell? _ _ hcell')).trans hcell'
            have k1 := E4.lab.i0 n hn2
            rw [hFn] at k1
            have k1 : (wr.alloc (.cells #[.int .i64 0, .int .i64 0] 69)).cell? ⟨I1, n, none⟩ = some (.bool false) := k1
            clear hBn
            go_wp2
            generalize wr.alloc (.cells #[.int .i64 0, .int .i64 0] 69) = w4 at *
            clear hcell' hlk b4 E1 B1
            go_quiet (fail)
            go_wp2
            go_roundw
            case rel => exact ⟨i + 1, by omega, by go_num, E4.below (below_drewN (Below.refl _ _) _), below_drewN B4 _⟩
            case measure => simp [intOf]; omega
          | some p =>
            obtain ⟨s, d⟩ := p
            have hlk : (Instr.lookup 73 (.map (some bb)) (.int .i64 n) true).run Tryd.prog wr = .ok (.tuple #[.agg #[.int .i64 s, .int .i64 d], .bool true]) wr := E1.mp.look_some law3 Tryd.underB (zeroB _) hwf (fv_some (hBn.trans hFn)) true
            have b4 : Below wr.heap.size wr (wr.alloc (.cells #[.int .i64 s, .int .i64 d] 69)) := (Below.refl _ _).alloc (Nat.le_refl _) _
            have E4 := E1.below b4
            have B4 := B1.trans (b4.mono B1.size)
            have sl4 := Slot.new wr s d
            have hcell4 := (b4.cell (World.block_lt_of_cell? _ _ hcell')).trans hcell'
            have k1 := E4.lab.i0 n hn2
            rw [hFn] at k1
            have k1 : (wr.alloc (.cells #[.int .i64 s, .int .i64 d] 69)).cell? ⟨I1, n, none⟩ = some (.bool true) := k1
            have k2 := E4.lab.c0 n hn2
            have k3 := E4.lab.c1 n hn2
            rw [(lab_some hFn).1] at k2
            rw [(lab_some hFn).2] at k3
            have s0 := sl4.c0
            have s1 := sl4.c1
            clear hBn
            go_wp2
            generalize wr.alloc (.cells #[.int .i64 s, .int .i64 d] 69) = w4 at *
            clear hcell' hlk b4 E1 B1 sl4
            go_quiet (fail)
            go_wp2
            go_roundw
            case rel => exact ⟨i + 1, by omega, by go_num, E4.below (below_drewN (Below.refl _ _) _), below_drewN B4 _⟩
            case measure => simp [intOf]; omega
        · have e : i = L.length := by omega
          subst e
          have hlen := fun ty => E1.mp.len (t := 73) Tryd.underB ty
          have hcnt' : ((cnt B 256 : Nat) : Int) ≤ (L.length : Int) := by omega
          generalize cnt B 256 = cn at *
          go_wp2
          go_ret
          exact ⟨by simp, B1⟩
end Go.Proofs.YtcagpmglijockaaDoor
/-
  What 'TopGraph' does at every plot: it answers true.
-/
namespace Go.Proofs.YtcagpmglijockaaDoor
open Go.RowKit

set_option maxHeartbeats 8000000 in
set_option maxRecDepth 1000000 in
theorem topGraph_any (W H : Int) (A : Option Addr) (n cap : Nat) (xs : Nat → Int) (w : World) (s : StepsAt w) (hm : n ≤ maxLen) (hx : OldRow w A n xs) :
    Calls Tryd.prog 3 #[.agg #[.int .i64 W, .int .i64 H, .slice A n cap]] w fun e w' => e = .returned (.bool true) ∧ Below w.heap.size w w' := by
  have hs3 : sideB 3 = true := by decide
  have hG := gridAt_new 3 3 (w.alloc (.cells #[.int .i64 W, .int .i64 H, .slice A n cap] 24)) hs3 hs3
  have b0 : Below w.heap.size w (w.alloc (.cells #[.int .i64 W, .int .i64 H, .slice A n cap] 24)) := (Below.refl _ _).alloc (Nat.le_refl _) _
  have hb : Below w.heap.size w ((w.alloc (.cells #[.int .i64 W, .int .i64 H, .slice A n cap] 24)).alloc (.cells (gridC 3 3) 55)) := b0.alloc (by simp) _
  have e1 : (w.alloc (.cells #[.int .i64 W, .int .i64 H, .slice A n cap] 24)).heap.size = w.heap.size + 1 := by simp
  have hfr : Free ((w.alloc (.cells #[.int .i64 W, .int .i64 H, .slice A n cap] 24)).alloc (.cells (gridC 3 3) 55)) (w.heap.size + 1) := by
    have := free_alloc (w.alloc (.cells #[.int .i64 W, .int .i64 H, .slice A n cap] 24)) (gridC 3 3) 55 (w.heap.size + 1) (by simp)
    exact this
  have q : ∀ o, ((w.alloc (.cells #[.int .i64 W, .int .i64 H, .slice A n cap] 24)).alloc (.cells (gridC 3 3) 55)).cell? ⟨w.heap.size, o, none⟩ = #[Value.int .i64 W, .int .i64 H, .slice A n cap][o]? := fun o => by
    rw [World.cell?_alloc_old _ _ _ (by simp), World.cell?_alloc_new]
  rw [e1] at hG
  have hz0 : ((w.alloc (.cells #[.int .i64 W, .int .i64 H, .slice A n cap] 24)).alloc (.cells (gridC 3 3) 55)).heap.size = w.heap.size + 2 := by simp
  have hspos := s.pos
  go_enter Tryd.func3, Tryd.ntmps3
  go_wp2_with (go_at_call 5; refine (new_ok _ _ _ hs3 hs3).mono ?_; rintro e w' ⟨rfl, rfl⟩)
  generalize (w.alloc (.cells #[.int .i64 W, .int .i64 H, .slice A n cap] 24)).alloc (.cells (gridC 3 3) 55) = w0 at *
  clear e1 b0
  have hse := set_new 4 true w0 hG hfr (by decide) rfl (by decide) (by decide)
  refine hse.mono ?_
  rintro e w1 ⟨rfl, T1, g1, fr1⟩
  have B1 := T1.below hb (by omega)
  have q1 : ∀ o, w1.cell? ⟨w.heap.size, o, none⟩ = #[Value.int .i64 W, .int .i64 H, .slice A n cap][o]? := fun o => (T1.cell (p := ⟨w.heap.size, o, none⟩) (by show w.heap.size ≠ w.heap.size + 1; omega)).trans (q o)
  have hl1 : w.heap.size + 1 < w1.heap.size := World.block_lt_of_cell? _ _ g1.c0
  clear hse hG q T1 hfr fr1
  go_wp2_with fail
  refine (new_graph w1 g1 (s.below B1 hspos) hl1).mono ?_
  rintro e w2 ⟨rb, pb, mb, rfl, G2, _, _, _, hb2⟩
  have B2 := B1.trans (hb2.mono B1.size)
  have q2 : ∀ o, w2.cell? ⟨w.heap.size, o, none⟩ = #[Value.int .i64 W, .int .i64 H, .slice A n cap][o]? := fun o => (hb2.cell (p := ⟨w.heap.size, o, none⟩) (by show w.heap.size < _; omega)).trans (q1 o)
  have hzw2 : w.heap.size < w2.heap.size := by have := hb2.size; omega
  clear g1 q1
  have hno := nodes_any w2 G2
  have h4 := crs_nine
  go_wp2_with fail
  refine hno.mono ?_
  rintro e w3 ⟨v3, rfl, hown3, hb3⟩
  rw [h4] at hown3
  obtain ⟨A3, cap3, rfl⟩ : ∃ A3 cap3, v3 = .slice A3 4 cap3 := by
    rcases hown3.2 with ⟨rfl, h0⟩ | ⟨g', cap, cur, rfl, _⟩
    · omega
    · exact ⟨_, _, rfl⟩
  have B3 := B2.trans (hb3.mono B2.size)
  have c0 : w3.cell? ⟨w.heap.size, 0, none⟩ = some (.int .i64 W) := (hb3.cell (p := ⟨w.heap.size, 0, none⟩) hzw2).trans (q2 0)
  have c1 : w3.cell? ⟨w.heap.size, 1, none⟩ = some (.int .i64 H) := (hb3.cell (p := ⟨w.heap.size, 1, none⟩) hzw2).trans (q2 1)
  have c2 : w3.cell? ⟨w.heap.size, 2, none⟩ = some (.slice A n cap) := (hb3.cell (p := ⟨w.heap.size, 2, none⟩) hzw2).trans (q2 2)
  clear hno G2 hown3 q2 h4 hb3 hb2 hb B1 B2 hl1 hzw2 hz0
  have hLd := laid_any W H A n cap xs w3 hm (hx.below B3)
  go_wp2_with fail
  refine hLd.mono ?_
  rintro e w4 ⟨hb4, hcs⟩
  have B4 := B3.trans (hb4.mono B3.size)
  clear hLd c0 c1 c2
  rcases hcs with rfl | ⟨rfl, hsz4, V, bl, hV, hB⟩
  · go_wp2
    go_quiet (fail)
    go_wp2
    go_ret
    exact ⟨rfl, below_drewN B4 _⟩
  · generalize w3.heap.size + 1 + 1 = mb2 at *
    generalize w3.heap.size + 1 = gb at *
    have hra := hB.ra
    have ra0 := hra.c0
    have ra1 := hra.c1
    have hwh := wh_bd hra.w1 hra.w2 hra.h1 hra.h2
    have gl : gb < w4.heap.size := World.block_lt_of_cell? _ _ hB.ga.c0
    have ml : mb2 < w4.heap.size := World.block_lt_of_cell? _ _ hra.c0
    have hwr : IntKind.i64.wrap (W * H) = W * H := wrap_small (by omega) (by omega)
    by_cases h80 : 80 < W * H
    · clear hB
      go_wp2
      go_quiet (fail)
      go_wp2
      go_ret
      exact ⟨rfl, below_drewN B4 _⟩
    · go_wp2
      go_quiet (fail)
      go_wp2_with fail
      have hb5 : Below w4.heap.size w4 (w4.drewN nq) := below_drewN (Below.refl _ _) _
      have hB5 := hB.below' hb5
      have B5 := B4.trans (hb5.mono B4.size)
      have hz5 : w4.heap.size = (w4.drewN nq).heap.size := rfl
      clear hB hb5 hb4 hra ra0 ra1 h80 hwr
      generalize w4.drewN nq = w5 at *
      obtain ⟨Fl, hFl⟩ := bests_ex w5 hB5.ra
      have HFl : Hid (∀ c, CornC W H bl c → Best (Edge W H bl) c (Fl c)) := hFl
      clear hFl
      refine (new_graph w5 hB5.ga (s.below B5 hspos) (by omega)).mono ?_
      rintro e w6 ⟨rb2, pb2, mbm, rfl, G6, _, _, _, hb6⟩
      have hB6 := hB5.below' hb6
      have B6 := B5.trans (hb6.mono B5.size)
      clear hB5 hb6 B5
      go_wp2_with fail
      refine (nodes_any w6 G6).mono ?_
      rintro e w7 ⟨v7, rfl, hown7, hb7⟩
      obtain ⟨A7, cap7, rfl, hrow7⟩ := row_of hown7
      have G7 := G6.below hb7
      have ra7 := (hB6.below' hb7).ra
      have B7 := B6.trans (hb7.mono B6.size)
      have HC : Hid (∀ i, i < (crs W H bl (W * H).toNat).length → cornB W H bl (((crs W H bl (W * H).toNat).getD i 0 : Nat) : Int) = true) := fun i hi => (crs_mem.1 (by rw [getD_at _ _ hi]; exact List.getElem_mem hi)).2
      obtain ⟨L, hL⟩ : ∃ L, crs W H bl (W * H).toNat = L := ⟨_, rfl⟩
      rw [hL] at hrow7 HC
      rw [hL]
      have HL : Hid (crs W H bl (W * H).toNat = L) := hL
      have hLL : L.length ≤ 256 := by rw [← hL]; have := crs_len W H bl (W * H).toNat; omega
      clear hL G6 hB6 hown7 hb7 B6
      go_wp2
      go_loopw [10] (fun iv wr => ∃ (i : Nat), i ≤ L.length ∧ iv = .int .i64 i ∧ GraphAt wr rb2 pb2 mbm W H V bl ∧ RefAt wr mb2 W H V bl ∧ OldRow wr A7 L.length (fun i => (L.getD i 0 : Nat)) ∧ Below w.heap.size w wr)
        (fun i _ => L.length - (intOf i).toNat)
      case atStart => exact ⟨0, Nat.zero_le _, rfl, G7, ra7, hrow7, B7⟩
      case round =>
        obtain ⟨i, hi, rfl, G, ra, hrow, hBl⟩ := hrel
        by_cases hlt : i < L.length
        · obtain ⟨ba, oa, rfl, hba, hcell⟩ := hrow i hlt
          have hcn := HC.out i hlt
          have hcell' : wr.cell? ⟨ba, oa + i, none⟩ = some (.int .i64 ((L.getD i 0 : Nat) : Int)) := hcell
          clear hcell
          generalize L.getD i 0 = c at *
          have i1 : (0 : Int) ≤ (i : Int) := by omega
          have i2 : (i : Int) < (L.length : Int) := by omega
          have hsp := spanned_any (cap := cap7) wr G ra hrow HL.out hcn HFl.out
          go_wp2_with fail
          refine hsp.mono ?_
          rintro e w8 ⟨rfl, hb8⟩
          have G8 := G.below hb8
          have ra8 := ra.below hb8 (World.block_lt_of_cell? _ _ ra.c0)
          have hrow8 := hrow.below hb8
          have B8 := hBl.trans (hb8.mono hBl.size)
          clear hsp hb8 G ra hrow hBl hcell'
          go_wp2
          go_roundw
          case rel => exact ⟨i + 1, by omega, by go_num, G8, ra8, hrow8, B8⟩
          case measure => simp [intOf]; omega
        · have e : i = L.length := by omega
          subst e
          go_wp2
          go_ret
          exact ⟨rfl, hBl⟩
end Go.Proofs.YtcagpmglijockaaDoor
