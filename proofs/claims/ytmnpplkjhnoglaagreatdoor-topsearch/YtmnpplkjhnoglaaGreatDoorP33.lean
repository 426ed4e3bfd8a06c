/-
  Texts laid together: LvPrc, Lv9, SdA.
-/
import Derived.Test.YtmnpplkjhnoglaaGreatDoorP32
import Derived.Deep.RegionHeld3
import Derived.BigQuiet
/-
  A way over edges of the graph, and what it costs: the statement's 'priced'.
-/
namespace Go.Proofs.YtmnpplkjhnoglaaGreatDoor
open Go.RowKit Go.Maps Go.Lib

theorem Prc.next {es : Nat → List LE} {way : List Nat} {k x y : Nat} {s d : Int} (h : Prc es (way.drop k) s d) (hx : way[k]? = some x) (hy : way[k + 1]? = some y) : ∃ e ∈ es x, e.to = y ∧ Prc es (way.drop (k + 1)) (s - e.s) (d - e.d) := by
  obtain ⟨h1, e1⟩ := List.getElem?_eq_some_iff.1 hx
  obtain ⟨h2, e2⟩ := List.getElem?_eq_some_iff.1 hy
  rw [List.drop_eq_getElem_cons h1, List.drop_eq_getElem_cons h2, e1, e2] at h
  obtain ⟨e, k1, k2, k3⟩ := h
  refine ⟨e, k1, k2, ?_⟩
  rw [List.drop_eq_getElem_cons h2, e2]
  exact k3
theorem Prc.last {es : Nat → List LE} {way : List Nat} {k : Nat} {s d : Int} (h : Prc es (way.drop k) s d) (hk : k + 1 = way.length) : s = 0 ∧ d = 0 := by
  rw [List.drop_eq_getElem_cons (show k < way.length by omega), List.drop_eq_nil_of_le (show way.length ≤ k + 1 by omega)] at h
  exact h
theorem Rsg.at {l : List LE} (h : Rsg l) {i j : Nat} {e f : LE} (he : l[i]? = some e) (hf : l[j]? = some f) (ht : e.to = f.to) : i = j := by
  obtain ⟨h1, e1⟩ := List.getElem?_eq_some_iff.1 he
  obtain ⟨h2, e2⟩ := List.getElem?_eq_some_iff.1 hf
  have hp := List.pairwise_iff_getElem.1 h
  by_cases hij : i = j
  · exact hij
  · rcases Nat.lt_or_gt_of_ne hij with h3 | h3
    · have := hp i j h1 h2 h3; rw [e1, e2] at this; omega
    · have := hp j i h2 h1 h3; rw [e1, e2] at this; omega
theorem RowN.cell {w : World} {a o : Nat} {l : List Nat} (h : RowN w a o l) {j x : Nat} (hj : l[j]? = some x) : w.cell? ⟨a, o + j, none⟩ = some (.int .i64 (x : Int)) := by
  have := h j (.int .i64 (x : Int)) (by unfold vals; rw [List.getElem?_map, hj]; rfl)
  rw [Addr.add_lit] at this
  exact this
theorem RowN.cell0 {w : World} {a : Nat} {l : List Nat} (h : RowN w a 0 l) {j x : Nat} (hj : l[j]? = some x) : w.cell? ⟨a, j, none⟩ = some (.int .i64 (x : Int)) := by
  have := h.cell hj
  rwa [Nat.zero_add] at this

set_option maxHeartbeats 8000000 in
set_option maxRecDepth 1000000 in
theorem priced_yes {rb pb mb g cap a b : Nat} {W H V s d : Int} {bl : Nat → Bool} {es : Nat → List LE} {way : List Nat} (w : World) (G : GraphAt w rb pb mb W H V bl) (hG : GEs W H bl es) (hw : RowN w g 0 way) (h2 : 2 ≤ way.length) (h3 : way.length ≤ 300) (ha : way[0]? = some a) (hb : way[way.length - 1]? = some b) (hp : Prc es way s d) :
    Calls Tryz.prog 25 #[.pointer (some ⟨rb, 0, none⟩), .slice (some ⟨g, 0, none⟩) way.length cap, .int .i64 (a : Int), .int .i64 (b : Int), .agg #[.int .i64 s, .int .i64 d]] w fun e w' => e = .returned (.bool true) ∧ Below w.heap.size w w' := by
  obtain ⟨w1, w2, h1, h2'⟩ : 1 ≤ W ∧ W ≤ 16 ∧ 1 ≤ H ∧ H ≤ 16 := by
    obtain ⟨f, G, _⟩ := G
    exact ⟨G.ga.w1, G.ga.w2, G.ga.h1, G.ga.h2⟩
  have hwh := wh_bd w1 w2 h1 h2'
  have HE : Hid (∀ {a : Nat} {e : LE}, e ∈ es a → cornB W H bl a = true ∧ a < 256 ∧ 0 ≤ e.s ∧ 0 ≤ e.d ∧ e.s ≤ 16 ∧ e.d ≤ 16) := fun {a e} he => by
    have hB := hG.btw w1 w2 h1 h2'
    have := crs_mem.1 (hB.cor.ends he).1
    exact ⟨this.2, by omega, hB.bd he⟩
  have HR : Hid (∀ n, Rsg (es n)) := fun n => hG.esy.ord n
  have HEE : Hid (∀ (n : Nat), cornB W H bl n = true → ∀ l, EdgeL W H bl (n : Int) l → edgesV W (n : Int) l = lesV (es n) ∧ l.length = (es n).length ∧ (es n).length ≤ 256) := fun n hn l hl => by
    obtain ⟨l', h1, h2⟩ := hG.1 n hn
    have e := hl.one h1
    subst e
    have := hl.len w1 hwh.2
    rw [h2, lesV_edges, List.length_map]
    exact ⟨rfl, rfl, this⟩
  have HGA : Hid (GraphAt w rb pb mb W H V bl) := G
  have HW : Hid (RowN w g 0 way) := hw
  have B0 : Below w.heap.size w ((w.alloc (.cells #[.int .i64 s, .int .i64 d] 65)).alloc (.cells #[.int .i64 0, .int .i64 0] 65)) := ((Below.refl _ _).alloc (Nat.le_refl _) _).alloc (by simp) _
  have b1 : Below w.heap.size w (w.alloc (.cells #[.int .i64 s, .int .i64 d] 65)) := (Below.refl _ _).alloc (Nat.le_refl _) _
  have z0 := (hw.below b1).cell0 ha
  have z1 := (hw.below b1).cell0 hb
  have i1 : (0 : Int) ≤ (way.length : Int) - 1 := by omega
  have i2 : (way.length : Int) - 1 < (way.length : Int) := by omega
  have i3 : (0 : Int) < (way.length : Int) := by omega
  have i4 : ¬ (way.length : Int) < 2 := by omega
  have i5 : ((way.length : Int) - 1).toNat = way.length - 1 := by omega
  have S0 : Slot ((w.alloc (.cells #[.int .i64 s, .int .i64 d] 65)).alloc (.cells #[.int .i64 0, .int .i64 0] 65)) w.heap.size s d := (Slot.new w s d).below ((Below.refl _ _).alloc (Nat.le_refl _) _)
  have S1 : Slot ((w.alloc (.cells #[.int .i64 s, .int .i64 d] 65)).alloc (.cells #[.int .i64 0, .int .i64 0] 65)) (w.heap.size + 1) 0 0 := by
    have := Slot.new (w.alloc (.cells #[.int .i64 s, .int .i64 d] 65)) 0 0
    simpa using this
  have HP : Hid (Prc es (way.drop 0) (s - 0) (d - 0)) := by
    unfold Hid
    rw [Int.sub_zero, Int.sub_zero]
    exact hp
  clear G hG hw ha hb hp
  go_enter Tryz.func25, Tryz.ntmps25
  go_wp2
  generalize (w.alloc (.cells #[.int .i64 s, .int .i64 d] 65)).alloc (.cells #[.int .i64 0, .int .i64 0] 65) = w0 at *
  have hs0 : w.heap.size + 2 ≤ w0.heap.size := by
    have := World.block_lt_of_cell? _ _ S1.c0
    simp at this
    omega
  clear z0 z1 b1 i1 i2 i3 i4 i5
  go_loopw [12] (fun iv wr => ∃ (k : Nat) (S D : Int), k + 1 ≤ way.length ∧ iv = .int .i64 ((k : Int) + 1) ∧ Slot wr w.heap.size s d ∧ Slot wr (w.heap.size + 1) S D ∧ Hid (Prc es (way.drop k) (s - S) (d - D)) ∧ Hid (0 ≤ S ∧ S ≤ 16 * k ∧ 0 ≤ D ∧ D ≤ 16 * k) ∧ w.heap.size + 2 ≤ wr.heap.size ∧ Below w.heap.size w wr)
    (fun i _ => way.length - (intOf i).toNat)
  case atStart => exact ⟨0, 0, 0, by omega, rfl, S0, S1, HP.out, by unfold Hid; decide, hs0, B0⟩
  case round =>
    clear S0 S1 HP hs0 B0
    obtain ⟨k, S, D, hk, rfl, S0, S1, HP, HB, hsz, hB⟩ := hrel
    by_cases hlt : k + 1 < way.length
    · obtain ⟨x, hx⟩ : ∃ x, way[k]? = some x := ⟨way[k], List.getElem?_eq_getElem (by omega)⟩
      obtain ⟨y, hy⟩ : ∃ y, way[k + 1]? = some y := ⟨way[k + 1], List.getElem?_eq_getElem hlt⟩
      obtain ⟨e, he, het, hp'⟩ := HP.out.next hx hy
      have HP' : Hid (Prc es (way.drop (k + 1)) (s - S - e.s) (d - D - e.d)) := hp'
      have G := HGA.out.below hB
      have hww := HW.out.below hB
      have z0 := hww.cell0 hx
      have z1 := hww.cell0 hy
      obtain ⟨hxc, hxb, f1, f2, f3, f4⟩ := HE.out he
      have hwx := wf_small (a := (x : Int)) (by omega) (by omega)
      obtain ⟨g1, g2, g3, g4⟩ := HB.out
      have okS : okC S D := by unfold okC; omega
      have okE : okC e.s e.d := by unfold okC; omega
      have HS : Hid (0 ≤ S + e.s ∧ S + e.s ≤ 16 * ((k + 1 : Nat) : Int) ∧ 0 ≤ D + e.d ∧ D + e.d ≤ 16 * ((k + 1 : Nat) : Int)) := by unfold Hid; omega
      have hed := edges_yes wr G hxc hwx
      have i1 : (0 : Int) ≤ (k : Int) := by omega
      have i2 : (k : Int) < (way.length : Int) := by omega
      have i3 : ((k : Int) + 1) < (way.length : Int) := by omega
      have i4 : (0 : Int) ≤ (k : Int) + 1 := by omega
      have HI : Hid (e ∈ es x) := he
      have HT : Hid (e.to = y) := het
      have HEX := HEE.out x hxc
      clear hx hy he het hp' g1 g2 g3 g4 HB G hww
      go_wp2_with fail
      refine hed.mono ?_
      rintro r w5 ⟨v5, l5, rfl, hown5, hEL, hb5⟩
      obtain ⟨q1, q2, q3⟩ := HEX l5 hEL
      rw [q1, q2] at hown5
      obtain ⟨A5, c5, rfl, row5, hA5⟩ := rowL_of hown5
      have B5 := hB.trans (hb5.mono hB.size)
      have T0 := S0.below hb5
      have T1 := S1.below hb5
      have hs5 := Nat.le_trans hsz hb5.size
      have HA5 : Hid (∀ b o, A5 = some ⟨b, o, none⟩ → w.heap.size + 2 ≤ b) := fun b o hA => by
        rcases hA5 with ⟨h1, _⟩ | ⟨g, h1, _, h3, _⟩
        · rw [h1] at hA; cases hA
        · rw [h1] at hA; cases hA; omega
      have z1' := (hb5.cell (World.block_lt_of_cell? _ _ z1)).trans z1
      obtain ⟨q, hq⟩ : ∃ q, (es x)[q]? = some e := List.getElem?_of_mem HI.out
      have hR := HR.out x
      generalize es x = le at *
      have hql : q < le.length := (List.getElem?_eq_some_iff.1 hq).1
      have HQ : Hid (∀ j e', le[j]? = some e' → (e'.to = y ↔ j = q) ∧ (j = q → e' = e)) := fun j e' hj => by
        constructor
        · constructor
          · intro h
            exact hR.at hj hq (h.trans HT.out.symm)
          · rintro rfl
            rw [hq] at hj; cases hj; exact HT.out
        · rintro rfl
          rw [hq] at hj; cases hj; rfl
      have HGW : Hid (g < w.heap.size) := World.block_lt_of_cell? _ _ (HW.out.cell0 (j := 0) (x := way[0]) (List.getElem?_eq_getElem (by omega)))
      clear hed HEX hown5 hEL hb5 q1 q2 S0 S1 hA5 z0 z1 hR hq HI HP hB hsz
      go_wp2
      go_loopw [15, 16] (fun fv jv wq => ∃ (j : Nat) (f : Bool) (S' D' : Int), j ≤ le.length ∧ fv = .bool f ∧ jv = .int .i64 j ∧ Slot wq w.heap.size s d ∧ Slot wq (w.heap.size + 1) S' D' ∧ RowL wq A5 le ∧ wq.cell? ⟨g, k + 1, none⟩ = some (.int .i64 (y : Int)) ∧ Hid ((j ≤ q ∧ f = false ∧ S' = S ∧ D' = D) ∨ (q < j ∧ f = true ∧ S' = S + e.s ∧ D' = D + e.d)) ∧ w.heap.size + 2 ≤ wq.heap.size ∧ Below w.heap.size w wq)
        (fun _ i _ => le.length - (intOf i).toNat)
      case atStart => exact ⟨0, false, S, D, Nat.zero_le _, rfl, rfl, T0, T1, row5, z1', Or.inl ⟨Nat.zero_le _, rfl, rfl, rfl⟩, hs5, B5⟩
      case round =>
        clear T0 T1 row5 z1' hs5 B5
        obtain ⟨j, f, S', D', hj, rfl, rfl, T0, T1, row, z1, HF, hsz, hB⟩ := hrel
        by_cases hlt2 : j < le.length
        · obtain ⟨e', he'⟩ : ∃ e', le[j]? = some e' := ⟨le[j], List.getElem?_eq_getElem hlt2⟩
          obtain ⟨hq1, hq2⟩ := HQ.out j e' he'
          obtain ⟨bb, o, rfl, p0, p1, p2, p3⟩ := row j e' he'
          have j1 : (0 : Int) ≤ (j : Int) := by omega
          have j2 : (j : Int) < (le.length : Int) := by omega
          by_cases hjq : j = q
          · have ee := hq2 hjq
            subst ee
            have hty : (e'.to : Int) = (y : Int) := by rw [hq1.2 hjq]
            obtain ⟨rfl, rfl, rfl⟩ : f = false ∧ S' = S ∧ D' = D := by
              rcases HF.out with ⟨_, h⟩ | ⟨h, _⟩
              · exact h
              · omega
            rw [hty] at p0
            have HJ : Hid (j = q) := hjq
            clear hq1 hq2 hty he' HF hjq
            go_wp2_with fail
            go_quiet (fail)
            have b8 : Below wr.heap.size wr (wr.drewN nq) := below_drewN (Below.refl _ _) _
            have T8 := T0.below b8
            have T9 := T1.below b8
            have row8 := row.below b8
            have B8 := hB.trans (b8.mono hB.size)
            have hs8 := Nat.le_trans hsz b8.size
            have n1 : (wr.drewN nq).cell? ⟨bb, o + j * 4 + 1, none⟩ = some (.int .i64 e'.s) := p1
            have n2 : (wr.drewN nq).cell? ⟨bb, o + j * 4 + 2, none⟩ = some (.int .i64 e'.d) := p2
            have n3 : (wr.drewN nq).cell? ⟨g, k + 1, none⟩ = some (.int .i64 (y : Int)) := z1
            have hbbs := HA5.out bb o rfl
            clear b8 T0 T1 row p0 p1 p2 p3 z1 hB hsz
            generalize wr.drewN nq = w8 at *
            go_wp2_with fail
            have b9 : Below w8.heap.size w8 w8.drew := (Below.refl _ _).drew
            have U0 := T8.below b9
            have U1 := T9.below b9
            have row9 := row8.below b9
            have B9 := B8.trans (b9.mono B8.size)
            have hs9 := Nat.le_trans hs8 b9.size
            have v0 : w8.drew.cell? ⟨w.heap.size + 1, 0, none⟩ = some (.int .i64 S') := U1.c0
            have v1 : w8.drew.cell? ⟨w.heap.size + 1, 1, none⟩ = some (.int .i64 D') := U1.c1
            have v2 : w8.drew.cell? ⟨bb, o + j * 4 + 1, none⟩ = some (.int .i64 e'.s) := n1
            have v3 : w8.drew.cell? ⟨bb, o + j * 4 + 2, none⟩ = some (.int .i64 e'.d) := n2
            have v4 : w8.drew.cell? ⟨g, k + 1, none⟩ = some (.int .i64 (y : Int)) := n3
            have hpl := plus_any S' D' e'.s e'.d w8.drew okS okE
            clear b9 T8 T9 row8 B8 n1 n2 n3 hs8
            go_region_with (first
                | (go_at_call 64; refine hpl.mono ?_; rintro r w10 ⟨rfl, hb10⟩; have u0 := (hb10.cell (World.block_lt_of_cell? _ _ v0)).trans v0; have u1 := (hb10.cell (World.block_lt_of_cell? _ _ v1)).trans v1; have u2 := (hb10.cell (World.block_lt_of_cell? _ _ v2)).trans v2; have u3 := (hb10.cell (World.block_lt_of_cell? _ _ v3)).trans v3; have X0 := U0.below hb10; have X1 := U1.below hb10; have zz0 := X1.z0; have zz1 := X1.z1; have row10 := row9.below hb10; have B10 := B9.trans (hb10.mono B9.size); have hs10 := Nat.le_trans hs9 hb10.size; have u4 := (hb10.cell (World.block_lt_of_cell? _ _ v4)).trans v4; have K11 := keepTwo w10 (w.heap.size + 1) (.int .i64 (S' + e'.s)) (.int .i64 (D' + e'.d)); have x2 := K11.cellOf u2 (show ¬ bb = w.heap.size + 1 by omega); have x3 := K11.cellOf u3 (show ¬ bb = w.heap.size + 1 by omega)))
            all_goals
              have X2 := X1.set (S' + e'.s) (D' + e'.d)
              have X3 := X0.keep K11 (show ¬ w.heap.size = w.heap.size + 1 by omega)
              have row11 := row10.keep K11 (fun b o' h => by cases h; show ¬ bb = w.heap.size + 1; omega)
              have x4 := K11.cellOf u4 (show ¬ g = w.heap.size + 1 by have := HGW.out; omega)
              have B11 : Below w.heap.size w _ := B10.trans (K11.to_below B10.size (fun q h => by omega))
              have hs11 := Nat.le_trans hs10 K11.size
              clear hpl hb10 U0 U1 v0 v1 v2 v3 v4 u0 u1 u2 u3 u4 X0 X1 zz0 zz1 row9 row10 B9 B10 hs9 hs10 K11 x2 x3
              generalize (w10.setCell ⟨w.heap.size + 1, 0, none⟩ (.int .i64 (S' + e'.s))).setCell ⟨w.heap.size + 1, 1, none⟩ (.int .i64 (D' + e'.d)) = w11 at *
              go_wp2
              go_roundw
              case rel => exact ⟨j + 1, true, S' + e'.s, D' + e'.d, by omega, rfl, by go_num, X3, X2, row11, x4, Or.inr ⟨by have := HJ.out; omega, rfl, rfl, rfl⟩, hs11, B11⟩
              case measure => simp [intOf]; omega
          · have hty : ¬ (e'.to : Int) = (y : Int) := fun h => hjq (hq1.1 (by omega))
            have HF' : Hid ((j + 1 ≤ q ∧ f = false ∧ S' = S ∧ D' = D) ∨ (q < j + 1 ∧ f = true ∧ S' = S + e.s ∧ D' = D + e.d)) := by
              rcases HF.out with ⟨h1, h⟩ | ⟨h1, h⟩
              · exact Or.inl ⟨by omega, h⟩
              · exact Or.inr ⟨by omega, h⟩
            clear hq1 hq2 he' HF
            go_wp2_with fail
            go_quiet (fail)
            go_wp2
            have b9 : Below wr.heap.size wr (wr.drewN nq) := below_drewN (Below.refl _ _) _
            go_roundw
            case rel => exact ⟨j + 1, f, S', D', by omega, rfl, by go_num, T0.below b9, T1.below b9, row.below b9, z1, HF'.out, hsz, hB.trans (b9.mono hB.size)⟩
            case measure => simp [intOf]; omega
        · have ej : j = le.length := by omega
          subst ej
          obtain ⟨rfl, rfl, rfl⟩ : f = true ∧ S' = S + e.s ∧ D' = D + e.d := by
            rcases HF.out with ⟨h, _⟩ | ⟨_, h⟩
            · omega
            · exact h
          have HPN : Hid (Prc es (way.drop (k + 1)) (s - (S + e.s)) (d - (D + e.d))) := by
            have := HP'.out
            unfold Hid
            rwa [show s - (S + e.s) = s - S - e.s by omega, show d - (D + e.d) = d - D - e.d by omega]
          clear HF HP'
          go_wp2
          go_roundw
          case rel => exact ⟨k + 1, S + e.s, D + e.d, by omega, by go_num, T0, T1, HPN.out, HS.out, hsz, hB⟩
          case measure => simp [intOf]; omega
    · obtain ⟨r1, r2⟩ := HP.out.last (by omega)
      have eS : S = s := by omega
      have eD : D = d := by omega
      subst eS eD
      have c0 := S0.c0
      have c1 := S0.c1
      have c2 := S1.c0
      have c3 := S1.c1
      have ek : ¬ ((k : Int) + 1) < (way.length : Int) := by omega
      clear HP HB r1 r2 S0 S1
      go_wp2
      go_ret
      exact ⟨rfl, hB⟩
end Go.Proofs.YtmnpplkjhnoglaaGreatDoor
/-
  Closed facts of nine cells, the middle one blocked; what 'TopLevels' asks of levels.
-/
namespace Go.Proofs.YtmnpplkjhnoglaaGreatDoor
open Go.RowKit

/-- the middle of nine cells is blocked -/
def mid9 : Nat → Bool := upd (fun _ => false) 4 true
theorem corn9 : crs 3 3 mid9 (3 * 3 : Int).toNat = [0, 2, 6, 8] := by decide
theorem moreF_few (p : LE → LE → Bool) (n : Nat) : ∀ l : List LE, l.length ≤ 3 → (moreF p n l).length ≤ l.length
  | [], _ => Nat.le_refl _
  | [a], _ => by simp [moreF]
  | [a, b], _ => by
    have := List.length_filter_le (p a) [b]
    simp only [moreF, List.length_append, List.length_map, List.length_cons, List.length_nil, List.filter_nil] at this ⊢
    omega
  | [a, b, c], _ => by
    have h1 := List.length_filter_le (p a) [b, c]
    have h2 := List.length_filter_le (p b) [c]
    simp only [moreF, List.length_append, List.length_map, List.length_cons, List.length_nil, List.filter_nil] at h1 h2 ⊢
    omega
  | _ :: _ :: _ :: _ :: _, h => by simp at h
theorem few9 {es : Nat → List LE} (G : GEs 3 3 mid9 es) : (es 0).length ≤ 3 := by
  have hm : ∀ e ∈ es 0, e.to ∈ [2, 6, 8] := fun e he => by
    obtain ⟨_, k2, _, k4, _⟩ := G.mem he
    have h4 : 0 ≤ (e.to : Int) ∧ (e.to : Int) < 3 * 3 := of_decide_eq_true (cornC_in (by decide) (cornB_iff.1 k2))
    have h5 : e.to ∈ crs 3 3 mid9 (3 * 3 : Int).toNat := crs_mem.2 ⟨by omega, k2⟩
    rw [corn9] at h5
    simp only [List.mem_cons, List.not_mem_nil, or_false] at h5 ⊢
    rcases h5 with h | h | h | h
    · exact absurd h k4
    · exact Or.inl h
    · exact Or.inr (Or.inl h)
    · exact Or.inr (Or.inr h)
  have hR := G.esy.ord 0
  have hr : ((es 0).map LE.to).Pairwise (· < ·) := by
    rw [List.pairwise_map]
    exact hR
  have he : (es 0).map LE.to = [2, 6, 8].filter (fun x => decide (x ∈ (es 0).map LE.to)) :=
    rise_eq hr (List.Pairwise.filter _ (by decide)) (fun n => by
      rw [List.mem_filter, decide_eq_true_iff]
      constructor
      · intro h
        obtain ⟨e, he, rfl⟩ := List.mem_map.1 h
        exact ⟨hm e he, h⟩
      · exact fun h => h.2)
  have h1 := congrArg List.length he
  have h2 := List.length_filter_le (fun x => decide (x ∈ (es 0).map LE.to)) [2, 6, 8]
  rw [List.length_map] at h1
  rw [h1]
  exact h2
theorem top9 {es : Nat → List LE} (G : GEs 3 3 mid9 es) {k : Nat} {st : LSt} (h : Rds 2 [0, 2, 6, 8] ⟨fun _ => 0, es⟩ k st) (ho : Over 2 [0, 2, 6, 8] k st) : k = 1 := by
  cases k with
  | zero =>
    exfalso
    have e : st = ⟨fun _ => 0, es⟩ := h
    subst e
    rcases ho with ho | ⟨s3, n3, st1, nr1, g1, g2, ht, _, hg⟩
    · omega
    · have hg1 : g1 = false := by
        cases g1 with
        | false => rfl
        | true => exact absurd hg (by simp)
      subst hg1
      rcases ht with ⟨h1, _⟩ | ⟨_, p, _, h1 | h1⟩
      · rcases h1 with h1 | h1
        · exact absurd h1 (Nat.lt_irrefl _)
        · cases h1
      · have hl : (feF ⟨fun _ => 0, es⟩ 0).length ≤ 3 := Nat.le_trans (List.length_filter_le _ _) (few9 G)
        have := moreF_few p 0 _ hl
        omega
      · cases h1.2.2.2
  | succ k =>
    obtain ⟨_, _, _, h2, _⟩ := h
    omega
/-- what is asked of levels, as numbers -/
structure Asked (L : List Nat) (es : Nat → List LE) (T : Nat) (st : LSt) : Prop where
  le : ∀ n, 1 ≤ st.lev n ∧ st.lev n ≤ T
  to : ∀ {a e}, e ∈ st.es a → a ∈ L ∧ e.to ∈ L
  apart : ∀ {a e}, e ∈ st.es a → st.lev e.to = st.lev a → ¬ st.lev a < T
  mid : ∀ {a e}, e ∈ st.es a → 0 ≤ e.mid → e.mid.toNat ∈ L ∧ st.lev e.mid.toNat < st.lev a ∧ st.lev e.mid.toNat < st.lev e.to
  way : ∀ {a e}, e ∈ st.es a → ∃ way, Unp st.es 6 a e.to way ∧ way[0]? = some a ∧ way[way.length - 1]? = some e.to ∧ 2 ≤ way.length ∧ way.length ≤ 65 ∧ Prc es way e.s e.d
  ord : ∀ a, Rsg (st.es a)
  len : (∀ n ∈ L, n < 256) → ∀ a, (st.es a).length ≤ 256
theorem asked {W H : Int} {bl : Nat → Bool} {es : Nat → List LE} (G : GEs W H bl es) (w1 : 1 ≤ W) (w2 : W ≤ 16) (h1 : 1 ≤ H) (h2 : H ≤ 16) {most k : Nat} {st : LSt} (m6 : most ≤ 6) (m1 : 1 ≤ most) (h : Rds most (crs W H bl (W * H).toNat) ⟨fun _ => 0, es⟩ k st) : k + 1 ≤ most ∧ Asked (crs W H bl (W * H).toNat) es (k + 1) ⟨endL (k + 1) st, st.es⟩ := by
  have B0 := G.btw w1 w2 h1 h2
  have B := Btw.rds (show (0 : Int) ≤ 16 by omega) B0 h
  have hk : k + 1 ≤ most := by
    cases k with
    | zero => omega
    | succ k =>
      obtain ⟨_, _, _, h2, _⟩ := h
      omega
  refine ⟨hk, B.lrd.end_le, B.cor.ends, B.lrd.end_apart, fun {a e} he hm => ?_, fun {a e} he => ?_, B.lrd.esy.ord, fun hb a => ?_⟩
  · obtain ⟨q1, q2⟩ := B.lrd.end_mid he hm
    refine ⟨B.cor.lev ?_, q1, q2⟩
    have := (B.lrd.end_le a).2
    unfold endL at q1 this
    split at q1
    · omega
    · omega
  · obtain ⟨way, l, u1, u2, u3, u4, u5⟩ := unpack B.lrd (fun he hm => Rds.own B0.lrd h he hm) 6 a e he (by have := (B.lrd.end_le a).2; omega)
    have u6 := u1.two
    refine ⟨way, u1, by rw [u2]; rfl, ?_, u6.1, by have : (2:Nat) ^ 6 = 64 := rfl; omega, u5⟩
    rw [← List.getLast?_eq_getElem?]
    exact u4
  · exact LayOk.len (L := crs W H bl (W * H).toNat) (fun a => ⟨B.lrd.esy.ord a, fun e he => (B.cor.ends he).2⟩) hb a
end Go.Proofs.YtmnpplkjhnoglaaGreatDoor
/-
  A side of a search as it lies in memory; what a corner costs is lowered: package search's 'lower'.
-/
namespace Go.Proofs.YtmnpplkjhnoglaaGreatDoor
open Go.RowKit

/-- what a map of corners ahead holds -/
def av (A : Int → Option Int) : Int → Option Value := fun a => (A a).map fun n => .int .i64 n
theorem av_some {A : Int → Option Int} {a n : Int} (h : A a = some n) : av A a = some (.int .i64 n) := by unfold av; rw [h]; rfl
theorem av_none {A : Int → Option Int} {a : Int} (h : A a = none) : av A a = none := by unfold av; rw [h]; rfl
theorem av_put (A : Int → Option Int) (a n : Int) : putF (av A) a (.int .i64 n) = av (putA A a n) := by
  funext i
  unfold putF av putA
  by_cases e : i = a
  · rw [if_pos e, if_pos e]; rfl
  · rw [if_neg e, if_neg e]
/-- the blocks of a side: itself, its costs, those ahead, its heap and that one's map -/
structure SBk where
  sb : Nat
  cb : Nat
  ab : Nat
  hb : Nat
  mb : Nat
/-- a side in memory; all its blocks from N on -/
structure SideAt (w : World) (N : Nat) (k : SBk) (lb r : Nat) (gv v : Value) (nh na : Nat) (x : SS) : Prop where
  c0 : w.cell? ⟨k.sb, 0, none⟩ = some (.pointer (some ⟨lb, 0, none⟩))
  c1 : w.cell? ⟨k.sb, 1, none⟩ = some (.int .i64 (r : Int))
  c2 : w.cell? ⟨k.sb, 2, none⟩ = some gv
  c3 : w.cell? ⟨k.sb, 3, none⟩ = some (.map (some k.cb))
  c4 : w.cell? ⟨k.sb, 4, none⟩ = some (.map (some k.ab))
  c5 : w.cell? ⟨k.sb, 5, none⟩ = some (.pointer (some ⟨k.hb, 0, none⟩))
  fm : MapF Tryz.prog 3 w k.cb (fv x.F) (cnt x.F 256)
  am : MapF Tryz.prog 3 w k.ab (av x.A) na
  hp : HeapAt w k.hb k.mb v nh x.H
  nb : N ≤ k.sb ∧ N ≤ k.cb ∧ N ≤ k.ab ∧ N ≤ k.hb ∧ N ≤ k.mb
  n1 : k.sb ≠ k.cb ∧ k.sb ≠ k.ab ∧ k.sb ≠ k.hb ∧ k.sb ≠ k.mb
  n2 : k.cb ≠ k.ab ∧ k.cb ≠ k.hb ∧ k.cb ≠ k.mb
  n3 : k.ab ≠ k.hb ∧ k.ab ≠ k.mb
  vo : ∀ g, v.ownBlock = some g → N ≤ g ∧ g ≠ k.sb ∧ g ≠ k.cb ∧ g ≠ k.ab
/-- the blocks that a side's functions write -/
def sb5 (k : SBk) (v : Value) (g : Nat) : Prop := g = k.cb ∨ g = k.ab ∨ hb3 k.hb k.mb v g
section
variable {w w' : World} {N : Nat} {k : SBk} {lb r : Nat} {gv v v' : Value} {nh nh' na : Nat} {x : SS}
theorem SideAt.keep {F : Nat → Prop} (S : SideAt w N k lb r gv v nh na x) (K : Keep F w w') (h0 : ¬ F k.sb) (h1 : ∀ g, sb5 k v g → ¬ F g) : SideAt w' N k lb r gv v nh na x :=
  ⟨K.cellOf S.c0 h0, K.cellOf S.c1 h0, K.cellOf S.c2 h0, K.cellOf S.c3 h0, K.cellOf S.c4 h0, K.cellOf S.c5 h0, S.fm.keep K (h1 _ (Or.inl rfl)), S.am.keep K (h1 _ (Or.inr (Or.inl rfl))), S.hp.keep K (h1 _ (Or.inr (Or.inr (Or.inl rfl)))) (h1 _ (Or.inr (Or.inr (Or.inr (Or.inl rfl))))) (fun g hg => h1 g (Or.inr (Or.inr (Or.inr (Or.inr hg))))), S.nb, S.n1, S.n2, S.n3, S.vo⟩
theorem SideAt.below (S : SideAt w N k lb r gv v nh na x) (hb : Below w.heap.size w w') : SideAt w' N k lb r gv v nh na x := S.keep (F := fun _ => False) (Keep.of_below hb) id (fun _ _ => id)
theorem SideAt.from (S : SideAt w N k lb r gv v nh na x) : ∀ g, sb5 k v g → N ≤ g ∧ g ≠ k.sb := by
  obtain ⟨a1, a2, a3, a4, a5⟩ := S.nb
  obtain ⟨b1, b2, b3, b4⟩ := S.n1
  rintro g (rfl | rfl | rfl | rfl | h)
  · exact ⟨a2, fun e => b1 e.symm⟩
  · exact ⟨a3, fun e => b2 e.symm⟩
  · exact ⟨a4, fun e => b3 e.symm⟩
  · exact ⟨a5, fun e => b4 e.symm⟩
  · exact ⟨(S.vo g h).1, (S.vo g h).2.1⟩
theorem SideAt.to_below (S : SideAt w N k lb r gv v nh na x) (K : Keep (sb5 k v) w w') : Below N w w' := K.to_below (by have := S.nb.1; have : k.sb < w.heap.size := World.block_lt_of_cell? _ _ S.c0; omega) (fun g hg => (S.from g hg).1)
/-- costs were written -/
theorem SideAt.cost (S : SideAt w N k lb r gv v nh na x) {F' : Int → Option (Int × Int)} (K : Keep (fun g => g = k.cb) w w') (fm : MapF Tryz.prog 3 w' k.cb (fv F') (cnt F' 256)) : SideAt w' N k lb r gv v nh na ⟨F', x.A, x.H⟩ := by
  obtain ⟨b1, b2, b3, b4⟩ := S.n1
  obtain ⟨d1, d2, d3⟩ := S.n2
  exact ⟨K.cellOf S.c0 b1, K.cellOf S.c1 b1, K.cellOf S.c2 b1, K.cellOf S.c3 b1, K.cellOf S.c4 b1, K.cellOf S.c5 b1, fm, S.am.keep K (fun e => d1 e.symm), S.hp.keep K (fun e => d2 e.symm) (fun e => d3 e.symm) (fun g hg => (S.vo g hg).2.2.1), S.nb, S.n1, S.n2, S.n3, S.vo⟩
/-- those ahead were written -/
theorem SideAt.ahead (S : SideAt w N k lb r gv v nh na x) {A' : Int → Option Int} {na' : Nat} (K : Keep (fun g => g = k.ab) w w') (am : MapF Tryz.prog 3 w' k.ab (av A') na') : SideAt w' N k lb r gv v nh na' ⟨x.F, A', x.H⟩ := by
  obtain ⟨b1, b2, b3, b4⟩ := S.n1
  obtain ⟨d1, d2, d3⟩ := S.n2
  obtain ⟨e1, e2⟩ := S.n3
  exact ⟨K.cellOf S.c0 b2, K.cellOf S.c1 b2, K.cellOf S.c2 b2, K.cellOf S.c3 b2, K.cellOf S.c4 b2, K.cellOf S.c5 b2, S.fm.keep K d1, am, S.hp.keep K (fun e => e1 e.symm) (fun e => e2 e.symm) (fun g hg => (S.vo g hg).2.2.2), S.nb, S.n1, S.n2, S.n3, S.vo⟩
/-- the heap was written -/
theorem SideAt.heap (S : SideAt w N k lb r gv v nh na x) {H' : Int → Option (Int × Int)} (K : Keep (hb3 k.hb k.mb v) w w') (hp : HeapAt w' k.hb k.mb v' nh' H') (ho : ∀ g, v'.ownBlock = some g → v.ownBlock = some g ∨ w.heap.size ≤ g) (hN : N ≤ w.heap.size) : SideAt w' N k lb r gv v' nh' na ⟨x.F, x.A, H'⟩ := by
  obtain ⟨b1, b2, b3, b4⟩ := S.n1
  obtain ⟨d1, d2, d3⟩ := S.n2
  obtain ⟨e1, e2⟩ := S.n3
  have ls : k.sb < w.heap.size := World.block_lt_of_cell? _ _ S.c0
  have lc := S.fm.lt
  have la := S.am.lt
  have hs : ¬ hb3 k.hb k.mb v k.sb := by
    rintro (h | h | h)
    · exact b3 h
    · exact b4 h
    · exact (S.vo _ h).2.1 rfl
  have hc : ¬ hb3 k.hb k.mb v k.cb := by
    rintro (h | h | h)
    · exact d2 h
    · exact d3 h
    · exact (S.vo _ h).2.2.1 rfl
  have ha : ¬ hb3 k.hb k.mb v k.ab := by
    rintro (h | h | h)
    · exact e1 h
    · exact e2 h
    · exact (S.vo _ h).2.2.2 rfl
  refine ⟨K.cellOf S.c0 hs, K.cellOf S.c1 hs, K.cellOf S.c2 hs, K.cellOf S.c3 hs, K.cellOf S.c4 hs, K.cellOf S.c5 hs, S.fm.keep K hc, S.am.keep K ha, hp, S.nb, S.n1, S.n2, S.n3, fun g hg => ?_⟩
  rcases ho g hg with h | h
  · exact S.vo g h
  · exact ⟨by omega, by omega, by omega, by omega⟩
end
/-- what a guess answers, whatever else has been written from N on -/
def GsOk (w0 : World) (N gf : Nat) (cs : List Value) (g : Int → Int × Int) : Prop := (∀ (args : Array Value) (w : World), (callFunc gf args).run Tryz.prog w = .ok (.enter gf args) w) ∧ ∀ (w : World) (n : Nat), Below N w0 w → n < 256 → Calls Tryz.prog gf (.int .i64 (n : Int) :: cs).toArray w fun e w' => e = .returned (.agg #[.int .i64 (g n).1, .int .i64 (g n).2]) ∧ Below w.heap.size w w'

set_option maxHeartbeats 2000000 in
set_option maxRecDepth 1000000 in
theorem lower_any {N Ng gf : Nat} {k : SBk} {lb r nh na n : Nat} {v : Value} {cs : List Value} {g : Int → Int × Int} {x : SS} {s d : Int} (w0 w : World) (S : SideAt w N k lb r (.func (.func gf) #[] cs.toArray) v nh na x) (hg : GsOk w0 Ng gf cs g) (hNN : Ng ≤ N) (hB : Below Ng w0 w) (hn : n < 256) (hc : okC s d) (hF : ∀ {p q}, x.F (n : Int) = some (p, q) → okC p q) (hgn : okC (g n).1 (g n).2) (hk : okC (s + (g n).1) (d + (g n).2)) (hnh : nh < 1000000) :
    Calls Tryz.prog 103 #[.pointer (some ⟨k.sb, 0, none⟩), .int .i64 (n : Int), .agg #[.int .i64 s, .int .i64 d]] w fun e w' => e = .returned (.bool (pushB x.F (n : Int) s d)) ∧ ∃ v' nh', SideAt w' N k lb r (.func (.func gf) #[] cs.toArray) v' nh' na (lowS g x (n : Int) s d) ∧ nh' ≤ nh + 1 ∧ Keep (sb5 k v) w w' ∧ ∀ g, v'.ownBlock = some g → v.ownBlock = some g ∨ w.heap.size ≤ g := by
  have hwn := wf_small (a := (n : Int)) (by omega) (by omega)
  have b0 : Below w.heap.size w (w.alloc (.cells #[.int .i64 s, .int .i64 d] 65)) := (Below.refl _ _).alloc (Nat.le_refl _) _
  have S0 := S.below b0
  have sl0 := Slot.new w s d
  have q3 := S0.c3
  have l0 := sl0.c0
  have l1 := sl0.c1
  have hcn := cnt_le x.F 256
  have hNw : N ≤ w.heap.size := by have := S.nb.1; have : k.sb < w.heap.size := World.block_lt_of_cell? _ _ S.c0; omega
  obtain ⟨gs, gd, hgq⟩ : ∃ gs gd, g (n : Int) = (gs, gd) := ⟨_, _, rfl⟩
  have hlow : pushB x.F (n : Int) s d = true → lowS g x (n : Int) s d = ⟨putH x.F (n : Int) s d, x.A, pushH x.H (n : Int) (s + gs) (d + gd)⟩ := fun h => by
    unfold lowS; rw [if_pos h, hgq]
  rw [hgq] at hgn hk
  have hnsb : ¬ hb3 k.hb k.mb v k.sb := fun h => (S.from _ (Or.inr (Or.inr h))).2 rfl
  have hnw : ¬ hb3 k.hb k.mb v w.heap.size := fun h => absurd (hb3_lt S.hp h) (Nat.lt_irrefl _)
  cases hx : x.F (n : Int) with
  | none =>
    have hl : (Instr.lookup 125 (.map (some k.cb)) (.int .i64 (n : Int)) true).run Tryz.prog (w.alloc (.cells #[.int .i64 s, .int .i64 d] 65)) = .ok (.tuple #[.agg #[.int .i64 0, .int .i64 0], .bool false]) (w.alloc (.cells #[.int .i64 s, .int .i64 d] 65)) := S0.fm.look_none law3 Tryz.underK (zeroK _) hwn (fv_none hx) true
    have e1 : pushB x.F (n : Int) s d = true := pushB_iff.2 (fun p q h => by rw [hx] at h; cases h)
    rw [hlow e1, e1]
    have hcq : ∀ {ww : World} {f : Int → Option Value}, MapF Tryz.prog 3 ww k.cb f (if (fv x.F (n : Int)).isSome then cnt x.F 256 else cnt x.F 256 + 1) → MapF Tryz.prog 3 ww k.cb f (cnt (putH x.F (n : Int) s d) 256) := fun h => by
      rw [fv_none hx] at h
      rw [cnt_put x.F (n : Int) s d 256 (by omega) (by omega) hx]; exact h
    have bA := b0.alloc b0.size (.cells #[.int .i64 0, .int .i64 0] 65)
    have slA : Slot ((w.alloc (.cells #[.int .i64 s, .int .i64 d] 65)).alloc (.cells #[.int .i64 0, .int .i64 0] 65)) w.heap.size s d := sl0.below ((Below.refl _ _).alloc (Nat.le_refl _) _)
    clear hlow e1 hF
    go_enter Tryz.func103, Tryz.ntmps103
    go_wp2_with fail
    clear hl S0 q3 l0 l1
    generalize (w.alloc (.cells #[.int .i64 s, .int .i64 d] 65)).alloc (.cells #[.int .i64 0, .int .i64 0] 65) = wA at *
    have S1 := (S.below bA).below (w' := wA.drew) ((Below.refl _ _).drew)
    have sl1 : Slot wA.drew w.heap.size s d := slA.below ((Below.refl _ _).drew)
    obtain ⟨w2, hrun2, hm2, ht2⟩ := S1.fm.store law3 Tryz.underK (by unfold maxLen; omega) hwn (.agg #[.int .i64 s, .int .i64 d])
    have BN1 : Below N w wA.drew := (bA.mono hNw).drew
    have q3 := S1.c3
    have l0 := sl1.c0
    have l1 := sl1.c1
    go_region
    go_wp2_with fail
    have K2 := turned_keep ht2
    have S2 := S1.cost (F' := putH x.F (n : Int) s d) K2 (by rw [← fv_put]; exact hcq hm2)
    have B2 : Below N w w2 := BN1.trans (K2.to_below (Nat.le_trans hNw BN1.size) (fun g hg => by rw [hg]; exact S.nb.2.1))
    have sl2 := sl1.keep K2 (by have := S.fm.lt; omega)
    have K03 : Keep (sb5 k v) w w2.drew := ((((Keep.of_below bA).drew : Keep (sb5 k v) w wA.drew).trans K2 (fun _ _ h => Or.inl h))).drew
    have S3 := S2.below (w' := w2.drew) ((Below.refl _ _).drew)
    have B3 : Below N w w2.drew := B2.drew
    have sl3 : Slot w2.drew w.heap.size s d := sl2.below ((Below.refl _ _).drew)
    have t0 := S3.c2
    have t1 := S3.c5
    have t2 := sl3.c0
    have t3 := sl3.c1
    have hgs := hg.2 w2.drew n (hB.trans (B3.mono hNN)) hn
    rw [hgq] at hgs
    have hcf := hg.1 (.int .i64 (n : Int) :: cs).toArray w2.drew
    have hadd : Hid (∀ w10, _) := fun w10 => add_any s d gs gd w10 hc hgn
    have hpush : Hid (∀ w11, HeapAt w11 k.hb k.mb v nh x.H → _) := fun w11 h => push_all (n : Int) (s + gs) (d + gd) w11 h hk hwn hnh
    have HS3 : Hid _ := S3
    have hNz : N ≤ w2.drew.heap.size := Nat.le_trans hNw B3.size
    clear S3 S2 S1 S sl3 sl2 sl1 sl0 slA K2 ht2 hm2 hrun2 BN1 B2 bA b0 hcq q3 l0 l1
    go_region_held3 (fun w' => w'.cell? ⟨k.sb, 2, none⟩ = some (.func (.func gf) #[] cs.toArray) ∧ w'.cell? ⟨k.sb, 5, none⟩ = some (.pointer (some ⟨k.hb, 0, none⟩)) ∧ w'.cell? ⟨w.heap.size, 0, none⟩ = some (.int .i64 s) ∧ w'.cell? ⟨w.heap.size, 1, none⟩ = some (.int .i64 d)) (first | exact ⟨t0, t1, t2, t3⟩ | exact ⟨u0, u1, u2, u3⟩ | exact ⟨x0, x1, x2, x3⟩ | exact ⟨z0, z1, z2, z3⟩)
      (first
        | (go_at_call 106; refine (hadd.out w10).mono ?_; rintro r w11 ⟨rfl, hb11⟩; have x0 := (hb11.cell (World.block_lt_of_cell? _ _ u0)).trans u0; have x1 := (hb11.cell (World.block_lt_of_cell? _ _ u1)).trans u1; have x2 := (hb11.cell (World.block_lt_of_cell? _ _ u2)).trans u2; have x3 := (hb11.cell (World.block_lt_of_cell? _ _ u3)).trans u3; have b11 := hb10.trans (hb11.mono hb10.size))
        | (go_at_call 129; refine (hpush.out w11 (HS3.out.hp.below b11)).mono ?_; rintro r w12 ⟨rfl, HT12, K12⟩; have z0 := K12.cellOf x0 hnsb; have z1 := K12.cellOf x1 hnsb; have z2 := K12.cellOf x2 hnw; have z3 := K12.cellOf x3 hnw)
        | (refine hgs.mono ?_; rintro r w10 ⟨rfl, hb10⟩; have u0 := (hb10.cell (World.block_lt_of_cell? _ _ t0)).trans t0; have u1 := (hb10.cell (World.block_lt_of_cell? _ _ t1)).trans t1; have u2 := (hb10.cell (World.block_lt_of_cell? _ _ t2)).trans t2; have u3 := (hb10.cell (World.block_lt_of_cell? _ _ t3)).trans t3))
    obtain ⟨v12, n12, hp12, hle12, ho12⟩ := HT12
    have S12 := (HS3.out.below b11).heap K12 hp12 ho12 (Nat.le_trans hNz b11.size)
    have K04 := K03.below b11
    have K05 := K04.trans K12 (fun _ _ h => Or.inr (Or.inr h))
    have HO : Hid (∀ g, v12.ownBlock = some g → v.ownBlock = some g ∨ w.heap.size ≤ g) := fun g hg => by
      rcases ho12 g hg with h | h
      · exact Or.inl h
      · exact Or.inr (Nat.le_trans K04.size h)
    clear t0 t1 t2 t3 u0 u1 u2 u3 x0 x1 x2 x3 z0 z1 z2 z3 K12 hp12 ho12 HS3 hgs hcf hadd hpush hb10 hb11 b11 B3 K03 K04
    go_wp2
    go_ret
    exact ⟨rfl, v12, n12, S12, hle12, K05, HO.out⟩
  | some c =>
    obtain ⟨p, q⟩ := c
    have hl : (Instr.lookup 125 (.map (some k.cb)) (.int .i64 (n : Int)) true).run Tryz.prog (w.alloc (.cells #[.int .i64 s, .int .i64 d] 65)) = .ok (.tuple #[.agg #[.int .i64 p, .int .i64 q], .bool true]) (w.alloc (.cells #[.int .i64 s, .int .i64 d] 65)) := S0.fm.look_some law3 Tryz.underK (zeroK _) hwn (fv_some hx) true
    have okp := hF hx
    have b1 := b0.alloc b0.size (.cells #[.int .i64 p, .int .i64 q] 65)
    have sl2 : Slot ((w.alloc (.cells #[.int .i64 s, .int .i64 d] 65)).alloc (.cells #[.int .i64 p, .int .i64 q] 65)) w.heap.size s d := sl0.below ((Below.refl _ _).alloc (Nat.le_refl _) _)
    have sl3 : Slot ((w.alloc (.cells #[.int .i64 s, .int .i64 d] 65)).alloc (.cells #[.int .i64 p, .int .i64 q] 65)) (w.heap.size + 1) p q := by
      have h := Slot.new (w.alloc (.cells #[.int .i64 s, .int .i64 d] 65)) p q
      have e : (w.alloc (.cells #[.int .i64 s, .int .i64 d] 65)).heap.size = w.heap.size + 1 := by simp
      rw [e] at h; exact h
    have m0 := sl2.c0
    have m1 := sl2.c1
    have m2 := sl3.c0
    have m3 := sl3.c1
    have hlt := less_v (r := pushB x.F (n : Int) s d) (s := s) (d := d) (t := p) (u := q) (by
      unfold pushB
      rw [hx]
      show ltB s d p q = decide (val s d < val p q)
      cases hb : ltB s d p q with
      | true => exact (decide_eq_true ((ltB_val hc okp).1 hb)).symm
      | false => exact (decide_eq_false (fun h => by rw [(ltB_val hc okp).2 h] at hb; cases hb)).symm) ((w.alloc (.cells #[.int .i64 s, .int .i64 d] 65)).alloc (.cells #[.int .i64 p, .int .i64 q] 65)) hc okp
    cases e1 : pushB x.F (n : Int) s d with
    | false =>
      have hlx : lowS g x (n : Int) s d = x := by unfold lowS; rw [e1]; rfl
      rw [hlx]
      rw [e1] at hlt
      clear hlow hx hF hlx
      go_enter Tryz.func103, Tryz.ntmps103
      go_wp2_with fail
      refine hlt.mono ?_
      rintro e w3 ⟨rfl, hb3'⟩
      have b3 := b1.trans (hb3'.mono b1.size)
      have S3 := S.below b3
      clear hlt hl S0 q3 l0 l1 m0 m1 m2 m3 sl2 sl3 hb3' b1
      go_wp2
      go_ret
      exact ⟨rfl, v, nh, S3, by omega, Keep.of_below b3, fun _ h => Or.inl h⟩
    | true =>
    rw [hlow e1]
    rw [e1] at hlt
    have hcq : ∀ {ww : World} {f : Int → Option Value}, MapF Tryz.prog 3 ww k.cb f (if (fv x.F (n : Int)).isSome then cnt x.F 256 else cnt x.F 256 + 1) → MapF Tryz.prog 3 ww k.cb f (cnt (putH x.F (n : Int) s d) 256) := fun h => by
      rw [fv_some hx] at h
      rw [cntG_again x.F (n : Int) s d 256 (by rw [hx]; rfl)]; exact h
    clear hlow hx hF e1
    go_enter Tryz.func103, Tryz.ntmps103
    go_wp2_with fail
    refine hlt.mono ?_
    rintro e wA ⟨rfl, hbA⟩
    have bA := b1.trans (hbA.mono b1.size)
    have slA := sl2.below hbA
    clear hlt hl S0 q3 l0 l1 m0 m1 m2 m3 sl2 sl3 hbA b1
    go_wp2_with fail
    have S1 := (S.below bA).below (w' := wA.drew) ((Below.refl _ _).drew)
    have sl1 : Slot wA.drew w.heap.size s d := slA.below ((Below.refl _ _).drew)
    obtain ⟨w2, hrun2, hm2, ht2⟩ := S1.fm.store law3 Tryz.underK (by unfold maxLen; omega) hwn (.agg #[.int .i64 s, .int .i64 d])
    have BN1 : Below N w wA.drew := (bA.mono hNw).drew
    have q3 := S1.c3
    have l0 := sl1.c0
    have l1 := sl1.c1
    go_region
    go_wp2_with fail
    have K2 := turned_keep ht2
    have S2 := S1.cost (F' := putH x.F (n : Int) s d) K2 (by rw [← fv_put]; exact hcq hm2)
    have B2 : Below N w w2 := BN1.trans (K2.to_below (Nat.le_trans hNw BN1.size) (fun g hg => by rw [hg]; exact S.nb.2.1))
    have sl2 := sl1.keep K2 (by have := S.fm.lt; omega)
    have K03 : Keep (sb5 k v) w w2.drew := ((((Keep.of_below bA).drew : Keep (sb5 k v) w wA.drew).trans K2 (fun _ _ h => Or.inl h))).drew
    have S3 := S2.below (w' := w2.drew) ((Below.refl _ _).drew)
    have B3 : Below N w w2.drew := B2.drew
    have sl3 : Slot w2.drew w.heap.size s d := sl2.below ((Below.refl _ _).drew)
    have t0 := S3.c2
    have t1 := S3.c5
    have t2 := sl3.c0
    have t3 := sl3.c1
    have hgs := hg.2 w2.drew n (hB.trans (B3.mono hNN)) hn
    rw [hgq] at hgs
    have hcf := hg.1 (.int .i64 (n : Int) :: cs).toArray w2.drew
    have hadd : Hid (∀ w10, _) := fun w10 => add_any s d gs gd w10 hc hgn
    have hpush : Hid (∀ w11, HeapAt w11 k.hb k.mb v nh x.H → _) := fun w11 h => push_all (n : Int) (s + gs) (d + gd) w11 h hk hwn hnh
    have HS3 : Hid _ := S3
    have hNz : N ≤ w2.drew.heap.size := Nat.le_trans hNw B3.size
    clear S3 S2 S1 S sl3 sl2 sl1 sl0 slA K2 ht2 hm2 hrun2 BN1 B2 bA b0 hcq q3 l0 l1
    go_region_held3 (fun w' => w'.cell? ⟨k.sb, 2, none⟩ = some (.func (.func gf) #[] cs.toArray) ∧ w'.cell? ⟨k.sb, 5, none⟩ = some (.pointer (some ⟨k.hb, 0, none⟩)) ∧ w'.cell? ⟨w.heap.size, 0, none⟩ = some (.int .i64 s) ∧ w'.cell? ⟨w.heap.size, 1, none⟩ = some (.int .i64 d)) (first | exact ⟨t0, t1, t2, t3⟩ | exact ⟨u0, u1, u2, u3⟩ | exact ⟨x0, x1, x2, x3⟩ | exact ⟨z0, z1, z2, z3⟩)
      (first
        | (go_at_call 106; refine (hadd.out w10).mono ?_; rintro r w11 ⟨rfl, hb11⟩; have x0 := (hb11.cell (World.block_lt_of_cell? _ _ u0)).trans u0; have x1 := (hb11.cell (World.block_lt_of_cell? _ _ u1)).trans u1; have x2 := (hb11.cell (World.block_lt_of_cell? _ _ u2)).trans u2; have x3 := (hb11.cell (World.block_lt_of_cell? _ _ u3)).trans u3; have b11 := hb10.trans (hb11.mono hb10.size))
        | (go_at_call 129; refine (hpush.out w11 (HS3.out.hp.below b11)).mono ?_; rintro r w12 ⟨rfl, HT12, K12⟩; have z0 := K12.cellOf x0 hnsb; have z1 := K12.cellOf x1 hnsb; have z2 := K12.cellOf x2 hnw; have z3 := K12.cellOf x3 hnw)
        | (refine hgs.mono ?_; rintro r w10 ⟨rfl, hb10⟩; have u0 := (hb10.cell (World.block_lt_of_cell? _ _ t0)).trans t0; have u1 := (hb10.cell (World.block_lt_of_cell? _ _ t1)).trans t1; have u2 := (hb10.cell (World.block_lt_of_cell? _ _ t2)).trans t2; have u3 := (hb10.cell (World.block_lt_of_cell? _ _ t3)).trans t3))
    obtain ⟨v12, n12, hp12, hle12, ho12⟩ := HT12
    have S12 := (HS3.out.below b11).heap K12 hp12 ho12 (Nat.le_trans hNz b11.size)
    have K04 := K03.below b11
    have K05 := K04.trans K12 (fun _ _ h => Or.inr (Or.inr h))
    have HO : Hid (∀ g, v12.ownBlock = some g → v.ownBlock = some g ∨ w.heap.size ≤ g) := fun g hg => by
      rcases ho12 g hg with h | h
      · exact Or.inl h
      · exact Or.inr (Nat.le_trans K04.size h)
    clear t0 t1 t2 t3 u0 u1 u2 u3 x0 x1 x2 x3 z0 z1 z2 z3 K12 hp12 ho12 HS3 hgs hcf hadd hpush hb10 hb11 b11 B3 K03 K04
    go_wp2
    go_ret
    exact ⟨rfl, v12, n12, S12, hle12, K05, HO.out⟩
end Go.Proofs.YtmnpplkjhnoglaaGreatDoor
