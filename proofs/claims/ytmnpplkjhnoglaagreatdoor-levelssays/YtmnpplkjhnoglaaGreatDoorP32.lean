/-
  Texts laid together: LvCat, LvUnp, RCost.
-/
import Derived.Test.YtmnpplkjhnoglaaGreatDoorP31
/-
  Two lists of numbers, one behind the other: slices.Concat.
-/
namespace Go.Proofs.YtmnpplkjhnoglaaGreatDoor
open Go.RowKit Go.Maps Go.Lib

/-- numbers that can be read -/
def RowN (w : World) (a o : Nat) (l : List Nat) : Prop := ∀ j u, (vals l)[j]? = some u → w.cell? ((⟨a, o, none⟩ : Addr).add j) = some u
theorem RowN.below {w w' : World} {a o : Nat} {l : List Nat} (h : RowN w a o l) (hb : Below w.heap.size w w') : RowN w' a o l := fun j u hj => by
  have h1 := h j u hj
  rw [Addr.add_lit] at h1 ⊢
  exact (hb.cell (World.block_lt_of_cell? _ _ h1)).trans h1
theorem vals_len (l : List Nat) : (vals l).length = l.length := by simp [vals]
theorem vals_one (l : List Nat) : ∀ u ∈ vals l, u.oneCell' = true := by
  intro u hu
  simp [vals] at hu
  obtain ⟨n, _, rfl⟩ := hu
  rfl
theorem vals_app (l l' : List Nat) : vals (l ++ l') = vals l ++ vals l' := by simp [vals]

set_option maxHeartbeats 2000000 in
set_option maxRecDepth 100000 in
theorem grow_nil {n : Nat} (w : World) (h1 : 0 < n) (h2 : n ≤ 1000) : Calls Tryz.prog 100 #[.slice none 0 0, .int .i64 (n : Int)] w fun e w' => ∃ v, e = .returned v ∧ w'.ownsRow w.heap.size 3 1 v 0 (vals []) ∧ Below w.heap.size w w' := by
  obtain ⟨i0, hi0, hz0, hz1, hz2⟩ := info_parts Tryz.info3
  obtain ⟨G, hG⟩ : ∃ G, G = grownCap w n 0 3 := ⟨_, rfl⟩
  have hold : (Builtin.firstCells i0.size 0 (.slice none 0 0)).run Tryz.prog w.drew = .ok ([] : List Value).toArray w.drew := by
    simp [Builtin.firstCells]
  obtain ⟨ROW, hROW⟩ : ∃ ROW : Array Value, ROW = ([] : List Value).toArray ++ Builtin.zeroCells (Value.int .i64 0).cells n ++ Builtin.zeroCells (Value.int .i64 0).cells (G - n) := ⟨_, rfl⟩
  have hGn : n ≤ G := by rw [hG]; exact grownCap_ge w _ _ _
  have hGm : G ≤ maxLen := by rw [hG]; exact grownCap_le_maxLen w _ _ _ (by unfold maxLen; omega)
  have hrz : ∀ ty, (Builtin.append_ #[22, 3] ty #[.slice none 0 0, .int .i64 (n : Int)]).run Tryz.prog w = .ok (.slice (some ⟨w.heap.size, 0, none⟩) n G) (w.drew.alloc (.cells ROW 3)) := fun ty => by
    have h := Lib.run_append_grow_zeros w 22 3 ty 3 i0 _ .i64 .i64 Tryz.underlying22 law3 hi0 hz0 none 0 0 [] hold n h1 (by omega) (by omega) (by omega) (by rw [hz2]; omega) (by rw [hz2, Nat.zero_add]; exact growslice_fits (by omega) (by omega))
    rw [Nat.zero_add, ← hG] at h
    rw [hROW]; exact h
  have hRl : ROW.size = G * 1 := by
    rw [hROW]
    simp [Builtin.zeroCells, Value.cells]
    omega
  have hG63 : G ≤ 9223372036854775807 := by unfold maxLen at hGm; omega
  have n1 : (0 : Int) < (n : Int) := by omega
  have HRL : Hid _ := hRl
  have HGM : Hid _ := hGm
  clear hG hROW hold hRl hGm
  go_enter Tryz.func100, Tryz.ntmps100
  go_wp2_with (at_builtin; refine Lib.wpList_append_run _ rfl _ _ _ _ rfl _ _ rfl rfl _ _ (hrz _) ?_)
  go_wp2
  go_ret
  refine ⟨_, rfl, ⟨rfl, Or.inr ⟨w.heap.size, G, ROW, rfl, Nat.le_refl _, heap_alloc_new w _, Nat.zero_le _, HGM.out, HRL.out, by simp [vals]⟩⟩, ((Below.refl _ _).drew).alloc (Nat.le_refl _) _⟩

set_option maxHeartbeats 4000000 in
set_option maxRecDepth 100000 in
theorem concat_two {g a1 o1 c1 a2 o2 c2 : Nat} {l1 l2 : List Nat} (w : World) (q0 : w.cell? ⟨g, 0, none⟩ = some (.slice (some ⟨a1, o1, none⟩) l1.length c1)) (q1 : w.cell? ⟨g, 1, none⟩ = some (.slice (some ⟨a2, o2, none⟩) l2.length c2)) (r1 : RowN w a1 o1 l1) (r2 : RowN w a2 o2 l2) (h1 : 0 < l1.length) (h2 : 0 < l2.length) (b1 : l1.length ≤ 300) (b2 : l2.length ≤ 300) :
    Calls Tryz.prog 63 #[.slice (some ⟨g, 0, none⟩) 2 2] w fun e w' => ∃ v, e = .returned v ∧ w'.ownsRow w.heap.size 3 1 v (l1 ++ l2).length (vals (l1 ++ l2)) ∧ Below w.heap.size w w' := by
  obtain ⟨i0, hi, hz0, hz1, hz2⟩ := info_parts Tryz.info3
  have hlt1 : a1 < w.heap.size := by
    have := r1 0 _ (List.getElem?_eq_getElem (by rw [vals_len]; omega))
    rw [Addr.add_lit] at this
    exact World.block_lt_of_cell? _ _ this
  have hlt2 : a2 < w.heap.size := by
    have := r2 0 _ (List.getElem?_eq_getElem (by rw [vals_len]; omega))
    rw [Addr.add_lit] at this
    exact World.block_lt_of_cell? _ _ this
  have hgl : g < w.heap.size := World.block_lt_of_cell? _ _ q0
  have HR1 : Hid (RowN w a1 o1 l1) := r1
  have HR2 : Hid (RowN w a2 o2 l2) := r2
  have HLA : Hid ((l1 ++ l2).length = l1.length + l2.length) := List.length_append
  clear r1 r2
  go_enter Tryz.func63, Tryz.ntmps63
  go_wp2
  go_loopw [3, 11] (fun sv iv wr => Hid (wr = w) ∧ ((sv = .int .i64 0 ∧ iv = .int .i64 0) ∨ (sv = .int .i64 (l1.length : Int) ∧ iv = .int .i64 1) ∨ (sv = .int .i64 ((l1.length : Int) + (l2.length : Int)) ∧ iv = .int .i64 2)))
    (fun _ i _ => 2 - (intOf i).toNat)
  case atStart => exact ⟨(rfl : _ = _), Or.inl ⟨rfl, rfl⟩⟩
  case round =>
    obtain ⟨hww, h | h | h⟩ := hrel
    all_goals
      have hww := hww.out
      subst hww
    · obtain ⟨rfl, rfl⟩ := h
      go_wp2
      go_roundw
      case rel => exact ⟨by first | exact trivial | exact rfl, Or.inr (Or.inl ⟨rfl, rfl⟩)⟩
      case measure => simp [intOf]
    · obtain ⟨rfl, rfl⟩ := h
      go_wp2
      go_roundw
      case rel => exact ⟨by first | exact trivial | exact rfl, Or.inr (Or.inr ⟨rfl, rfl⟩)⟩
      case measure => simp [intOf]
    · obtain ⟨rfl, rfl⟩ := h
      obtain ⟨WB, hWB⟩ : ∃ WB, WB = wr := ⟨_, rfl⟩
      subst hWB
      have hgw := grow_nil (n := l1.length + l2.length) WB (by omega) (by omega)
      rw [Int.natCast_add] at hgw
      go_wp2_with fail
      refine hgw.mono ?_
      rintro e w5 ⟨v5, rfl, own5, hb5⟩
      clear hgw
      have z5 := hb5.size
      go_wp2
      go_loopw [6, 27] (fun nv iv wq => Below WB.heap.size WB wq ∧ ((iv = .int .i64 0 ∧ wq.ownsRow WB.heap.size 3 1 nv 0 (vals [])) ∨ (iv = .int .i64 1 ∧ wq.ownsRow WB.heap.size 3 1 nv l1.length (vals l1)) ∨ (iv = .int .i64 2 ∧ wq.ownsRow WB.heap.size 3 1 nv (l1 ++ l2).length (vals (l1 ++ l2)))))
        (fun _ i _ => 2 - (intOf i).toNat)
      case atStart => exact ⟨hb5, Or.inl ⟨rfl, own5⟩⟩
      case round =>
        clear own5 hb5 z5
        obtain ⟨hB, h | h | h⟩ := hrel
        · obtain ⟨rfl, own5⟩ := h
          have p := (hB.cell (p := ⟨g, 0, none⟩) hgl).trans q0
          have src := HR1.out.below hB
          have z := hB.size
          go_wp2_with (at_builtin; refine wpList_append_own _ rfl _ _ 22 rfl WB.heap.size 3 i0 (.int .i64 0) 1 8 Tryz.underlying22 hi hz0 hz1 hz2 rfl (by decide) _ _ _ rfl own5 ⟨a1, o1, none⟩ l1.length c1 (vals l1) rfl ?c0 src (vals_one _) ?c3 ?c4 ?c5 ?_)
          case c0 => rw [vals_len]; omega
          case c3 => unfold maxLen; omega
          case c4 => omega
          case c5 => exact z
          intro v' w6 hown' hgrow _
          have B6 : Below WB.heap.size WB w6 := hB.grown hgrow z (fun q hq => (own5.lt q hq).1)
          have O6 : w6.ownsRow WB.heap.size 3 1 v' l1.length (vals l1) := by simpa [vals] using hown'
          clear hown' hgrow own5 hB src
          go_wp2
          go_roundw
          case rel => exact ⟨B6, Or.inr (Or.inl ⟨rfl, O6⟩)⟩
          case measure => simp [intOf]
        · obtain ⟨rfl, own5⟩ := h
          have p := (hB.cell (p := ⟨g, 1, none⟩) hgl).trans q1
          have src := HR2.out.below hB
          have z := hB.size
          go_wp2_with (at_builtin; refine wpList_append_own _ rfl _ _ 22 rfl WB.heap.size 3 i0 (.int .i64 0) 1 8 Tryz.underlying22 hi hz0 hz1 hz2 rfl (by decide) _ _ _ rfl own5 ⟨a2, o2, none⟩ l2.length c2 (vals l2) rfl ?c0 src (vals_one _) ?c3 ?c4 ?c5 ?_)
          case c0 => rw [vals_len]; omega
          case c3 => unfold maxLen; omega
          case c4 => omega
          case c5 => exact z
          intro v' w6 hown' hgrow _
          have B6 : Below WB.heap.size WB w6 := hB.grown hgrow z (fun q hq => (own5.lt q hq).1)
          have O6 : w6.ownsRow WB.heap.size 3 1 v' (l1 ++ l2).length (vals (l1 ++ l2)) := by rw [vals_app, HLA.out]; exact hown'
          clear hown' hgrow own5 hB src
          go_wp2
          go_roundw
          case rel => exact ⟨B6, Or.inr (Or.inr ⟨rfl, O6⟩)⟩
          case measure => simp [intOf]
        · obtain ⟨rfl, own5⟩ := h
          go_wp2
          go_ret
          exact ⟨_, rfl, own5, hB⟩
end Go.Proofs.YtmnpplkjhnoglaaGreatDoor
/-
  An edge taken apart: package levels' 'Unpack'.
-/
namespace Go.Proofs.YtmnpplkjhnoglaaGreatDoor
open Go.RowKit Go.Maps Go.Lib

theorem Unp.two {es : Nat → List LE} : ∀ {f a b : Nat} {way : List Nat}, Unp es f a b way → 2 ≤ way.length ∧ way.length ≤ 2 ^ f + 1
  | 0, _, _, _, h => h.elim
  | f + 1, a, b, way, ⟨e, _, _, h⟩ => by
    have hp : 1 ≤ 2 ^ f := Nat.one_le_two_pow
    rcases h with ⟨_, rfl⟩ | ⟨_, w1, w2, h1, h2, rfl⟩
    · simp only [List.length_cons, List.length_nil, Nat.pow_succ]
      omega
    · have k1 := Unp.two h1
      have k2 := Unp.two h2
      rw [List.length_append, List.length_tail, Nat.pow_succ]
      omega
/-- where it stands -/
theorem place_of {l : List LE} (hR : Rsg l) {e : LE} (he : e ∈ l) : hasL l e.to = true ∧ l[posL l e.to]? = some e := by
  have h := (hasL_iff hR (t := e.to)).2 ⟨e, he, rfl⟩
  refine ⟨h, ?_⟩
  unfold hasL at h
  cases hx : l[posL l e.to]? with
  | none => rw [hx] at h; cases h
  | some x =>
    rw [hx] at h
    have := hR.one (List.mem_of_getElem? hx) he (of_decide_eq_true h)
    rw [this]
set_option maxHeartbeats 400000 in
theorem isAdded_any (w : World) (et es ed em : Int) : Calls Tryz.prog 54 #[.agg #[.int .i64 et, .int .i64 es, .int .i64 ed, .int .i64 em]] w fun e w' => e = .returned (.bool (decide (0 ≤ em))) ∧ Below w.heap.size w w' := by
  have B0 : Below w.heap.size w (w.alloc (.cells #[.int .i64 et, .int .i64 es, .int .i64 ed, .int .i64 em] 67)) := (Below.refl _ _).alloc (Nat.le_refl _) _
  go_enter Tryz.func54, Tryz.ntmps54
  go_wp2
  go_ret
  exact ⟨by simp, B0⟩
theorem rowN_of {w : World} {base : Nat} {v : Value} {l : List Nat} (h : w.ownsRow base 3 1 v l.length (vals l)) (hl : 0 < l.length) : ∃ g cap, v = .slice (some ⟨g, 0, none⟩) l.length cap ∧ RowN w g 0 l ∧ base ≤ g ∧ g < w.heap.size ∧ l.length ≤ cap ∧ cap ≤ 9223372036854775807 := by
  rcases h.2 with ⟨_, h0⟩ | ⟨g, cap, cur, rfl, hb, hg, h1, h2, _⟩
  · omega
  · exact ⟨g, cap, rfl, fun j u hj => h.cells (g := g) rfl j u hj, hb, (Array.getElem?_eq_some_iff.1 hg).1, h1, by unfold maxLen at h2; omega⟩
theorem RowN.tail {w : World} {a o : Nat} {l : List Nat} (h : RowN w a o l) : RowN w a (o + 1) l.tail := fun j u hj => by
  have h1 := h (j + 1) u (by
    cases l with
    | nil => simp [vals] at hj
    | cons x l => simpa [vals] using hj)
  rw [Addr.add_lit] at h1 ⊢
  rw [show o + 1 + j = o + (j + 1) by omega]
  exact h1

set_option maxHeartbeats 8000000 in
set_option maxRecDepth 1000000 in
theorem unpack_yes {N lb vb eb top : Nat} {L : List Nat} {st : LSt} {f : Int → Option Value} (hR : ∀ a, Rsg (st.es a)) (hC : ∀ {a e}, e ∈ st.es a → a ∈ L ∧ e.to ∈ L) (hl : ∀ a, (st.es a).length ≤ 256) (hLb : ∀ n ∈ L, n < 256) : ∀ (F a b : Nat) (way : List Nat) (w : World), F ≤ 7 → Unp st.es F a b way → LvAt w N lb vb eb top L st f →
    Calls Tryz.prog 24 #[.pointer (some ⟨lb, 0, none⟩), .int .i64 (a : Int), .int .i64 (b : Int)] w fun e w' => ∃ v, e = .returned (.tuple #[v, .nilIface]) ∧ w'.ownsRow w.heap.size 3 1 v way.length (vals way) ∧ Below w.heap.size w w'
  | 0, _, _, _, _, _, hu, _ => hu.elim
  | F + 1, a, b, way, w, hF, hu, V => by
    obtain ⟨e, he, het, hcase⟩ := hu
    subst het
    have haL := (hC he).1
    have hwa := wf_small (a := (a : Int)) (by omega) (by have := hLb a haL; omega)
    obtain ⟨A, cap, hl1, row1, hf1⟩ := V.edges haL
    have c2 := V.c2
    have hpl := place_any (cap := cap) (t := e.to) w row1 (hl a) (hR a)
    obtain ⟨hh, hp⟩ := place_of (hR a) he
    rw [hh] at hpl
    have hps : posL (st.es a) e.to < (st.es a).length := (List.getElem?_eq_some_iff.1 hp).1
    generalize posL (st.es a) e.to = ps at *
    clear hh
    go_enter Tryz.func24, Tryz.ntmps24
    go_wp2_with fail
    refine hpl.mono ?_
    rintro r w1 ⟨rfl, hb1⟩
    have V1 := V.below hb1
    have c21 := V1.c2
    have row2 := row1.below hb1
    have hl2 : (Instr.lookup 47 (.map (some eb)) (.int .i64 (a : Int)) false).run Tryz.prog w1 = .ok (.slice A (st.es a).length cap) w1 := V1.em.look_some law3 Tryz.underM (zeroM _) hwa hf1 false
    obtain ⟨bb, o, rfl, q1, q2, q3, q4⟩ := row2 ps e hp
    have p1 : (0 : Int) ≤ (ps : Int) := by omega
    have p2 : (ps : Int) < ((st.es a).length : Int) := by omega
    have b2 : Below w1.heap.size w1 (w1.alloc (.cells #[.int .i64 (e.to : Int), .int .i64 e.s, .int .i64 e.d, .int .i64 e.mid] 67)) := (Below.refl _ _).alloc (Nat.le_refl _) _
    have y3 : (w1.alloc (.cells #[.int .i64 (e.to : Int), .int .i64 e.s, .int .i64 e.d, .int .i64 e.mid] 67)).cell? ⟨w1.heap.size, 3, none⟩ = some (.int .i64 e.mid) := World.cell?_alloc_at _ _ _ 3 rfl
    have hia := isAdded_any (w1.alloc (.cells #[.int .i64 (e.to : Int), .int .i64 e.s, .int .i64 e.d, .int .i64 e.mid] 67)) (e.to : Int) e.s e.d e.mid
    have B2 := hb1.trans (b2.mono hb1.size)
    clear hpl hl1 c2 row1 row2 hp hf1
    rcases hcase with ⟨hm, rfl⟩ | ⟨hm, y1, y2, u1, u2, rfl⟩
    · rw [decide_eq_false (by omega)] at hia
      go_wp2_with fail
      refine hia.mono ?_
      rintro r w3 ⟨rfl, hb3⟩
      have B3 := B2.trans (hb3.mono B2.size)
      clear hia hb3
      go_wp2
      go_ret2
      refine ⟨_, rfl, ?_, B3.alloc B3.size _⟩
      have := World.ownsRow_lit (base := w.heap.size) (e := 3) (size := 1) w3 #[.int .i64 (a : Int), .int .i64 (e.to : Int)] 2 B3.size (by unfold maxLen; omega) rfl
      exact this
    · obtain ⟨mn, hmn⟩ : ∃ mn : Nat, e.mid = (mn : Int) := ⟨e.mid.toNat, by omega⟩
      have hmt : e.mid.toNat = mn := by omega
      rw [hmt] at u1 u2
      rw [decide_eq_true hm, hmn] at hia
      rw [hmn] at y3 q4
      have k1 := u1.two
      have k2 := u2.two
      have hF2 : 2 ^ F ≤ 64 := by
        have := Nat.pow_le_pow_right (show 0 < 2 by decide) (show F ≤ 6 by omega)
        simpa using this
      rw [hmn] at B2
      have HN : Hid (e.mid = (mn : Int)) := hmn
      clear hmn hmt hm
      go_wp2_with fail
      refine hia.mono ?_
      rintro r w3 ⟨rfl, hb3⟩
      have B3 := B2.trans (hb3.mono B2.size)
      have V3 := V.below B3
      have z3 := (hb3.cell (World.block_lt_of_cell? _ _ y3)).trans y3
      have hu1 := unpack_yes hR hC hl hLb F a mn y1 w3 (by omega) u1 V3
      clear hia hb3 y3 b2
      go_wp2_with fail
      refine hu1.mono ?_
      rintro r w4 ⟨v4, rfl, own4, hb4⟩
      have B4 := B3.trans (hb4.mono B3.size)
      have V4 := V.below B4
      have z4 := (hb4.cell (World.block_lt_of_cell? _ _ z3)).trans z3
      have hu2 := unpack_yes hR hC hl hLb F mn e.to y2 w4 (by omega) u2 V4
      obtain ⟨g4, cap4, rfl, r4, hg4, hg4', hc4, hc4'⟩ := rowN_of own4 (by omega)
      clear hu1 own4 hb4 V3 z3
      go_wp2_with fail
      refine hu2.mono ?_
      rintro r w5 ⟨v5, rfl, own5, hb5⟩
      have B5 := B4.trans (hb5.mono B4.size)
      obtain ⟨g5, cap5, rfl, r5, hg5, hg5', hc5, hc5'⟩ := rowN_of own5 (by omega)
      have r45 := r4.below hb5
      have t5 := r5.tail
      have hcap : ¬ cap5 = 1 := by omega
      have hy0 : 0 < y2.length := by omega
      have hy1 : 1 ≤ y2.length := by omega
      have hy2 : (1 : Int) ≤ (y2.length : Int) := by omega
      have hl1 : y1.length ≤ 300 := by omega
      have hl1' : 0 < y1.length := by omega
      have hl2 : y2.length ≤ 300 := by omega
      have hl2' : 2 ≤ y2.length := by omega
      have htl : Hid (y2.length - 1 = y2.tail.length) := by unfold Hid; rw [List.length_tail]
      clear hu2 own5 hb5 V4 z4 r4 r5 k1 k2 hF2
      go_wp2_with fail
      have b6 : Below w5.heap.size w5 (w5.alloc (.cells #[.slice (some ⟨g4, 0, none⟩) y1.length cap4, .slice (some ⟨g5, 1, none⟩) (y2.length - 1) (cap5 - 1)] 22)) := (Below.refl _ _).alloc (Nat.le_refl _) _
      have q0 : (w5.alloc (.cells #[.slice (some ⟨g4, 0, none⟩) y1.length cap4, .slice (some ⟨g5, 1, none⟩) (y2.length - 1) (cap5 - 1)] 22)).cell? ⟨w5.heap.size, 0, none⟩ = some (.slice (some ⟨g4, 0, none⟩) y1.length cap4) := World.cell?_alloc_at _ _ _ 0 rfl
      have q1 : (w5.alloc (.cells #[.slice (some ⟨g4, 0, none⟩) y1.length cap4, .slice (some ⟨g5, 1, none⟩) (y2.length - 1) (cap5 - 1)] 22)).cell? ⟨w5.heap.size, 1, none⟩ = some (.slice (some ⟨g5, 1, none⟩) y2.tail.length (cap5 - 1)) := by
        rw [World.cell?_alloc_at _ _ _ 1 rfl]
        exact congrArg some (congrArg (fun z => Value.slice (some ⟨g5, 1, none⟩) z (cap5 - 1)) htl)
      have e1 : 0 < y2.tail.length := by rw [List.length_tail]; omega
      have e2 : y2.tail.length ≤ 300 := by rw [List.length_tail]; omega
      have hcat := concat_two (l1 := y1) (l2 := y2.tail) _ q0 q1 (r45.below b6) (t5.below b6) hl1' e1 hl1 e2
      have B6 := B5.trans (b6.mono B5.size)
      refine hcat.mono ?_
      rintro r w6 ⟨v6, rfl, own6, hb6⟩
      have B7 := B6.trans (hb6.mono B6.size)
      clear hcat q0 q1 e1 e2
      go_wp2
      go_ret2
      refine ⟨_, rfl, ?_, B7⟩
      exact own_base own6 B6.size
end Go.Proofs.YtmnpplkjhnoglaaGreatDoor
/-
  What the reference's functions about costs do, and 'same', 'costs'.
-/
namespace Go.Proofs.YtmnpplkjhnoglaaGreatDoor
open Go.RowKit

set_option maxHeartbeats 400000 in
theorem plus_any (s d t u : Int) (w : World) (h : okC s d) (k : okC t u) :
    Calls Tryz.prog 64 #[.agg #[.int .i64 s, .int .i64 d], .agg #[.int .i64 t, .int .i64 u]] w fun e w' => e = .returned (.agg #[.int .i64 (s + t), .int .i64 (d + u)]) ∧ Below w.heap.size w w' := by
  obtain ⟨h1, h2, h3, h4⟩ := h
  obtain ⟨k1, k2, k3, k4⟩ := k
  go_enter Tryz.func64, Tryz.ntmps64
  go_wp2
  exact bodyPost_ret (v := .agg #[.int .i64 (s + t), .int .i64 (d + u)]) (by simp [results, Tryz.results64, go_sem]) rfl ⟨rfl, ((((Below.refl _ _).alloc (Nat.le_refl _) _).alloc (by simp) _).alloc (by simp; omega) _)⟩

theorem neg_sq (x : Int) : -x * -x = x * x := by rw [Int.neg_mul, Int.mul_neg, Int.neg_neg]
theorem irr_pos (x y : Int) (hx : 0 ≤ x) (hy : 0 ≤ y) (hq : y < 38613965) (h : x * x = 2 * (y * y)) : x = 0 := by
  have a := pos_lt x y hx hy hq
  have b := pos_gt x y hx hy hq
  have e : 38613965 * x = 54608393 * y := by
    rcases Int.lt_trichotomy (38613965 * x) (54608393 * y) with k | k | k
    · have := a.mpr k; omega
    · exact k
    · have := b.mpr k; omega
  exact (no_mid x y e (Int.lt_of_lt_of_le (by decide) hy) hq).1
theorem irr (x y : Int) (h1 : -38613965 < y) (h2 : y < 38613965) (h : x * x = 2 * (y * y)) : x = 0 := by
  by_cases hx : 0 ≤ x <;> by_cases hy : 0 ≤ y
  · exact irr_pos x y hx hy h2 h
  · exact irr_pos x (-y) hx (by omega) (by omega) (by rw [neg_sq]; exact h)
  · have := irr_pos (-x) y (by omega) hy h2 (by rw [neg_sq]; exact h)
    omega
  · have := irr_pos (-x) (-y) (by omega) (by omega) (by omega) (by rw [neg_sq, neg_sq]; exact h)
    omega
theorem sq_pos (x : Int) : x = 0 ∨ 0 < x * x := by
  by_cases h : x = 0
  · left; exact h
  · right
    have := mul_self_nonneg x
    by_cases g : x * x = 0
    · exact absurd (sq_zero x g) h
    · omega
/-- what decides: the differences' signs and squares -/
theorem cmpC_of (s d t u r : Int) (h1 : -38613965 < d - u) (h2 : d - u < 38613965)
    (H : ∀ X Y : Int, (s - t = 0 ∨ 0 < X) → (d - u = 0 ∨ 0 < Y) → (s - t = 0 → X = 0) → (d - u = 0 → Y = 0) → (X = 2 * Y → s - t = 0) → X = (s - t) * (s - t) → Y = (d - u) * (d - u) →
      ∀ A B : Int, (s - t < 0 → A = -X) → (¬ s - t < 0 → A = X) → (d - u > 0 → B = -Y) → (¬ d - u > 0 → B = Y) → (r = -1 ∧ A < 2 * B) ∨ (r = 0 ∧ A = 2 * B) ∨ (r = 1 ∧ 2 * B < A)) :
    cmpC s d t u = r := by
  have h := H _ _ (sq_pos (s - t)) (sq_pos (d - u)) (fun e => by rw [e]; rfl) (fun e => by rw [e]; rfl) (irr (s - t) (d - u) h1 h2) rfl rfl (if s - t < 0 then -((s - t) * (s - t)) else (s - t) * (s - t)) (if d - u > 0 then -((d - u) * (d - u)) else (d - u) * (d - u)) (fun e => by rw [if_pos e]) (fun e => by rw [if_neg e]) (fun e => by rw [if_pos e]) (fun e => by rw [if_neg e])
  have e1 : sqs (s - t) = if s - t < 0 then -((s - t) * (s - t)) else (s - t) * (s - t) := by unfold sqs; rw [Int.neg_mul]
  have e2 : sqs (u - d) = if d - u > 0 then -((d - u) * (d - u)) else (d - u) * (d - u) := by
    have n : u - d = -(d - u) := by omega
    rw [n, sqs_neg]
    unfold sqs
    rw [Int.neg_mul]
    by_cases c : d - u < 0
    · rw [if_pos c, if_neg (by omega), Int.neg_neg]
    · rw [if_neg c]
      by_cases c2 : d - u > 0
      · rw [if_pos c2]
      · rw [if_neg c2]
        have : d - u = 0 := by omega
        rw [this]; rfl
  unfold cmpC cmpI
  rw [e1, e2]
  rcases h with ⟨rfl, h⟩ | ⟨rfl, h⟩ | ⟨rfl, h⟩
  · rw [if_pos h]
  · rw [h, if_neg (by omega)]; simp
  · rw [if_neg (by omega), if_pos h]

theorem ret_int {k : IntKind} {a b : Int} (h : a = b) : Ending.returned (.int k a) = .returned (.int k b) := by rw [h]

set_option maxHeartbeats 1000000 in
theorem rcmp_any (s d t u : Int) (w : World) (h : okC s d) (k : okC t u) :
    Calls Tryz.prog 66 #[.agg #[.int .i64 s, .int .i64 d], .agg #[.int .i64 t, .int .i64 u]] w fun e w' => e = .returned (.int .i64 (cmpC s d t u)) ∧ Below w.heap.size w w' := by
  obtain ⟨h1, h2, h3, h4⟩ := h
  obtain ⟨k1, k2, k3, k4⟩ := k
  have hB : Below w.heap.size w ((w.alloc (.cells #[.int .i64 s, .int .i64 d] 65)).alloc (.cells #[.int .i64 t, .int .i64 u] 65)) := ((Below.refl _ _).alloc (Nat.le_refl _) _).alloc (by simp) _
  have bx := mul_self_bd (s - t) (by omega) (by omega)
  have by_ := mul_self_bd (d - u) (by omega) (by omega)
  have e2 : 2 * (d - u) * (d - u) = 2 * ((d - u) * (d - u)) := Int.mul_assoc _ _ _
  have by2 : 0 ≤ 2 * (d - u) * (d - u) ∧ 2 * (d - u) * (d - u) ≤ 140737488355328 := by rw [e2]; omega
  go_enter Tryz.func66, Tryz.ntmps66
  go_wp2
  all_goals
    go_ret
    refine ⟨ret_int (Eq.symm (cmpC_of s d t u _ (by omega) (by omega) ?_)), hB⟩
    clear hB bx by_ e2 by2
    intro X Y p1 p2 p3 p4 p5 eX eY A B q1 q2 q3 q4
    simp only [← eX, ← eY, beq_iff_eq, beq_eq_false_iff_ne, ne_eq, decide_eq_decide, true_and] at *
    clear eX eY
    omega
end Go.Proofs.YtmnpplkjhnoglaaGreatDoor
