/-
  Texts laid together: Outward, GoOut, LocM, OutM, Shelf.
-/
import Derived.Test.YtcagpmglijockaaDoorP8
import Derived.Shelf.SlIterI.Nil
import Derived.Shelf.SortM.Plain
import Derived.Shelf.SortM.SortNone
import Derived.Test.YtcagpmglijockaaDoorProg
/-
  The cells to which one may go by a step away from another one.
-/
namespace Go.Proofs.YtcagpmglijockaaDoor
open Go.RowKit

theorem rback_any (k : Nat) (hk : k < 8) (w : World) : Calls Tryd.prog 81 #[.int .i64 k] w fun e w' => e = .returned (.int .i64 ((opp k : Nat) : Int)) ∧ w' = w := by
  rcases k8 hk with rfl | rfl | rfl | rfl | rfl | rfl | rfl | rfl <;> (go_enter Tryd.func81, Tryd.ntmps81; go_wp2; go_ret; exact ⟨rfl, rfl⟩)

/-- is a direction one of a step away from a cell? -/
def outB (W H : Int) (bl : Nat → Bool) (c t : Int) (k : Nat) : Bool := mayB W H bl (c % W) (c / W) k && goodB (c % W + stepX k) (c / W + stepY k) (t % W) (t / W) (opp k)
/-- where it leads -/
def tgt (W c : Int) (k : Nat) : Nat := (c + (stepY k * W + stepX k)).toNat
/-- where the first n directions lead -/
def outw (W H : Int) (bl : Nat → Bool) (c t : Int) (n : Nat) : List Nat := ((List.range n).filter fun i => outB W H bl c t i).map fun i => tgt W c i
theorem outw_succ (W H : Int) (bl : Nat → Bool) (c t : Int) (n : Nat) : outw W H bl c t (n + 1) = outw W H bl c t n ++ (if outB W H bl c t n then [tgt W c n] else []) := by
  unfold outw
  rw [List.range_succ, List.filter_append, List.map_append]
  cases h : outB W H bl c t n <;> simp [h]
theorem outw_len (W H : Int) (bl : Nat → Bool) (c t : Int) (n : Nat) : (outw W H bl c t n).length ≤ n := by
  unfold outw
  rw [List.length_map]
  have := List.length_filter_le (fun i => outB W H bl c t i) (List.range n)
  simpa using this
theorem tgt_eq {W H c : Int} {bl : Nat → Bool} {k : Nat} (w1 : 1 ≤ W) (h : mayB W H bl (c % W) (c / W) k = true) : (tgt W c k : Int) = c + (stepY k * W + stepX k) := by
  unfold tgt
  obtain ⟨_, o2, _, _⟩ := may_parts h
  obtain ⟨a1, a2, a3, a4⟩ := open_in o2
  have e : c + (stepY k * W + stepX k) = (c / W + stepY k) * W + (c % W + stepX k) := by
    have := cell_eq W c
    rw [Int.add_mul]
    omega
  have := Int.mul_nonneg a3 (show 0 ≤ W by omega)
  omega

/-- a step away from a cell -/
def Og (W H : Int) (bl : Nat → Bool) (t c : Int) (k : Nat) (r : Int) : Prop := Edge W H bl c k r ∧ Good (r % W) (r / W) (t % W) (t / W) (opp k)
theorem outw_mem {W H c t : Int} {bl : Nat → Bool} {z : Nat} (w1 : 1 ≤ W) (hc : inB W H c = true) : z ∈ outw W H bl c t 8 ↔ ∃ k, Og W H bl t c k z := by
  unfold outw
  rw [List.mem_map]
  constructor
  · rintro ⟨i, hi, rfl⟩
    rw [List.mem_filter, List.mem_range] at hi
    have h := hi.2
    unfold outB at h
    rw [Bool.and_eq_true] at h
    have e : Edge W H bl c i (tgt W c i : Int) := ⟨hi.1, hc, h.1, tgt_eq w1 h.1⟩
    obtain ⟨p1, p2⟩ := e.place w1
    exact ⟨i, e, by rw [p1, p2]; exact goodB_iff.1 h.2⟩
  · rintro ⟨k, e, hg⟩
    obtain ⟨p1, p2⟩ := e.place w1
    rw [p1, p2] at hg
    obtain ⟨h1, _, h3, h4⟩ := e
    refine ⟨k, List.mem_filter.2 ⟨List.mem_range.2 h1, ?_⟩, ?_⟩
    · unfold outB
      rw [Bool.and_eq_true]
      exact ⟨h3, goodB_iff.2 hg⟩
    · have := tgt_eq (H := H) w1 h3
      omega
theorem outw_row {W H c t z : Int} {bl : Nat → Bool} {l : List Nat} (w1 : 1 ≤ W) (hc : inB W H c = true) (hl : outw W H bl c t 8 = l) :
    (∃ i, i < l.length ∧ z = ((l.getD i 0 : Nat) : Int)) ↔ ∃ k, Og W H bl t c k z := by
  constructor
  · rintro ⟨i, hi, rfl⟩
    have hm : l.getD i 0 ∈ l := by rw [getD_at _ _ hi]; exact List.getElem_mem hi
    generalize l.getD i 0 = n at *
    rw [← hl] at hm
    exact (outw_mem w1 hc).1 hm
  · rintro ⟨k, e, hg⟩
    have hz : 0 ≤ z ∧ z < W * H := of_decide_eq_true (e.in' w1)
    have hm : z.toNat ∈ outw W H bl c t 8 := (outw_mem w1 hc).2 ⟨k, by rw [Int.toNat_of_nonneg hz.1]; exact ⟨e, hg⟩⟩
    rw [hl] at hm
    obtain ⟨i, hi, h⟩ := List.getElem_of_mem hm
    refine ⟨i, hi, ?_⟩
    rw [getD_at _ _ hi, h]
    omega

set_option maxHeartbeats 1600000 in
set_option maxRecDepth 1000000 in
theorem outward' {b : Nat} {W H V c t x y u v : Int} {bl : Nat → Bool} (w : World) (g : GridAt w b W H V bl) (s : StepsAt w) (hb : b < w.heap.size)
    (hx : c % W = x) (hy : c / W = y) (hu : t % W = u) (hv : t / W = v)
    (hP : ∀ w, GridAt w b W H V bl → Calls Tryd.prog 40 #[.pointer (some ⟨b, 0, none⟩), .int .i64 c] w fun e w' => e = .returned (.tuple #[.int .i64 x, .int .i64 y, .nilIface]) ∧ ∃ m, w' = w.drewN m)
    (hQ : ∀ w, GridAt w b W H V bl → Calls Tryd.prog 40 #[.pointer (some ⟨b, 0, none⟩), .int .i64 t] w fun e w' => e = .returned (.tuple #[.int .i64 u, .int .i64 v, .nilIface]) ∧ ∃ m, w' = w.drewN m)
    (x1 : 0 ≤ x) (x2 : x ≤ 50) (y1 : 0 ≤ y) (y2 : y ≤ 50) (u1 : 0 ≤ u) (u2 : u ≤ 50) (v1 : 0 ≤ v) (v2 : v ≤ 50) (c1 : 0 ≤ c) (c2 : c ≤ 300) :
    Calls Tryd.prog 71 #[.pointer (some ⟨b, 0, none⟩), .int .i64 c, .int .i64 t] w fun e w' => ∃ v, e = .returned v ∧
      w'.ownsRow w.heap.size 3 1 v (outw W H bl c t 8).length (vals (outw W H bl c t 8)) ∧ Below w.heap.size w w' := by
  obtain ⟨i0, hi, hz0, hz1, hz2⟩ := info_parts Tryd.info3
  go_enter Tryd.func71, Tryd.ntmps71
  go_wp2_with fail
  refine (hP _ g).mono ?_
  rintro e w1 ⟨rfl, m1, rfl⟩
  go_wp2_with fail
  refine (hQ _ (g.drewN _)).mono ?_
  rintro e w2 ⟨rfl, m2, rfl⟩
  clear hP hQ
  go_wp2
  go_loopw [13, 31] (fun v i wr => ∃ k : Nat, k ≤ 8 ∧ i = .int .i64 k ∧ wr.ownsRow w.heap.size 3 1 v (outw W H bl c t k).length (vals (outw W H bl c t k)) ∧ Below w.heap.size w wr)
    (fun _ i _ => 8 - (intOf i).toNat)
  case atStart => exact ⟨0, Nat.zero_le _, rfl, World.ownsRow_nil _ _ _ _, below_drewN (Below.refl _ _) _⟩
  case round =>
    obtain ⟨k, hk, rfl, hown, hnx⟩ := hrel
    have hl := outw_len W H bl c t k
    have gr := g.below hnx hb
    have sr := s.below hnx (by omega)
    have hsz := hnx.size
    by_cases hlt : k < 8
    · have hms := outw_succ W H bl c t k
      have hon : outB W H bl c t k = (mayB W H bl x y k && goodB (x + stepX k) (y + stepY k) u v (opp k)) := by unfold outB; rw [hx, hy, hu, hv]
      obtain ⟨s1, s2, s3, s4⟩ := step_bd k
      have hst := fun w h => step_any k w h hlt
      have htg : c + (stepY k * W + stepX k) = (tgt W c k : Int) ∨ mayB W H bl x y k = false := by
        cases hM : mayB W H bl x y k with
        | false => exact Or.inr rfl
        | true =>
          left
          rw [← hx, ← hy] at hM
          exact (tgt_eq g.w1 hM).symm
      have hto := fun (z : Int) (htz : c + (stepY k * W + stepX k) = z) w g s => to_v (b := b) (H := H) (V := V) (bl := bl) htz w g s hlt (by omega) (by omega)
      have hpl : mayB W H bl x y k = true → (0 ≤ x + stepX k ∧ x + stepX k ≤ 50) ∧ (0 ≤ y + stepY k ∧ y + stepY k ≤ 50) := fun hM => by
        obtain ⟨_, o2, _, _⟩ := may_parts hM
        obtain ⟨a1, a2, a3, a4⟩ := open_in o2
        have := g.w2
        have := g.h2
        omega
      have hop := opp_lt k
      have hit := fun (r : Bool) (hr : goodB (x + stepX k) (y + stepY k) u v (opp k) = r) w s p1 p2 p3 p4 => isTowards_v hr w s hop p1 p2 p3 p4 u1 u2 v1 v2
      have hbk := rback_any k hlt
      have hmay := fun (r : Bool) (hM : mayB W H bl x y k = r) w g s => may_v (b := b) (V := V) hM w g s hlt (by omega) (by omega) (by omega) (by omega)
      have hrw := fun (hM : mayB W H bl x y k = true) => hto (tgt W c k : Int) (htg.resolve_right (by rw [hM]; decide))
      generalize stepX k = dx at *
      generalize stepY k = dy at *
      generalize opp k = ok at *
      generalize tgt W c k = z at *
      clear hx hy hu hv hto htg
      cases hM : mayB W H bl x y k with
      | false =>
        have HS : Hid (outw W H bl c t (k + 1) = outw W H bl c t k) := by rw [hms, hon, hM]; simp [Hid]
        have hmay := hmay false hM
        clear hms hon hrw hit hpl
        go_wp2_with fail
        refine (hst _ sr).mono ?_
        rintro e w3 ⟨rfl, m3, rfl⟩
        clear hst
        go_wp2_with fail
        refine (hmay _ (gr.drewN _) (sr.drewN _)).mono ?_
        rintro e w4 ⟨rfl, m4, rfl⟩
        clear hmay
        go_wp2
        go_roundw
        case rel => exact ⟨k + 1, by omega, by go_num, by rw [HS.out]; exact hown, below_drewN hnx _⟩
        case measure => simp [intOf]; omega
      | true =>
        obtain ⟨⟨p1, p2⟩, p3, p4⟩ := hpl hM
        have hto := hrw hM
        have hmay := hmay true hM
        cases hG : goodB (x + dx) (y + dy) u v ok with
        | false =>
          have HS : Hid (outw W H bl c t (k + 1) = outw W H bl c t k) := by rw [hms, hon, hM, hG]; simp [Hid]
          have hit := fun w s => hit false hG w s p1 p2 p3 p4
          clear hms hon hto hpl hrw hG hM
          go_wp2_with fail
          refine (hst _ sr).mono ?_
          rintro e w3 ⟨rfl, m3, rfl⟩
          clear hst
          go_wp2_with fail
          refine (hmay _ (gr.drewN _) (sr.drewN _)).mono ?_
          rintro e w4 ⟨rfl, m4, rfl⟩
          clear hmay
          go_wp2_with fail
          refine (hbk _).mono ?_
          rintro e w5 ⟨rfl, rfl⟩
          clear hbk
          go_wp2_with fail
          refine (hit _ (sr.drewN _)).mono ?_
          rintro e w6 ⟨rfl, hb6⟩
          have hb4' : Below wr.heap.size wr w6 := (below_drewN (Below.refl _ _) (m3 + m4)).trans hb6
          clear hit
          go_wp2
          go_roundw
          case rel => exact ⟨k + 1, by omega, by go_num, by rw [HS.out]; exact own_below hown hb4', hnx.trans (hb4'.mono hsz)⟩
          case measure => simp [intOf]; omega
        | true =>
          have HS : Hid (outw W H bl c t (k + 1) = outw W H bl c t k ++ [z]) := by rw [hms, hon, hM, hG]; simp [Hid]
          have hit := fun w s => hit true hG w s p1 p2 p3 p4
          clear hms hon hpl hrw hG hM
          go_wp2_with fail
          refine (hst _ sr).mono ?_
          rintro e w3 ⟨rfl, m3, rfl⟩
          clear hst
          go_wp2_with fail
          refine (hmay _ (gr.drewN _) (sr.drewN _)).mono ?_
          rintro e w4 ⟨rfl, m4, rfl⟩
          clear hmay
          go_wp2_with fail
          refine (hbk _).mono ?_
          rintro e w5 ⟨rfl, rfl⟩
          clear hbk
          go_wp2_with fail
          refine (hit _ (sr.drewN _)).mono ?_
          rintro e w6 ⟨rfl, hb6⟩
          have hb4' : Below wr.heap.size wr w6 := (below_drewN (Below.refl _ _) (m3 + m4)).trans hb6
          clear hit
          have g4 := gr.below hb4' (by omega)
          have s4 := sr.below hb4' (by omega)
          have o4 := own_below hown hb4'
          have n4 := hnx.trans (hb4'.mono hsz)
          clear hb6 hb4' hown hnx gr sr
          go_wp2_with fail
          refine (hto _ g4 s4).mono ?_
          rintro e w7 ⟨rfl, m5, rfl⟩
          clear hto g4 s4
          have hz4 := n4.size
          go_wp2_with (at_builtin; refine wpList_append_own _ rfl _ _ 22 rfl w.heap.size 3 i0 (.int .i64 0) 1 8 Tryd.underlying22 hi hz0 hz1 hz2 rfl (by decide) _ _ _ rfl (World.ownsRow.alloc (show (w6.drewN m5).ownsRow w.heap.size 3 1 _ _ _ from o4) _) ⟨w6.heap.size, 0, none⟩ 1 1 [.int .i64 z] rfl rfl ?c1 ?c2 ?c3 ?c4 ?c5 ?_)
          case c1 =>
            intro j u hj
            match j, hj with
            | 0, hj =>
              simp at hj; subst hj; simp only [Addr.add]
              exact World.cell?_alloc_at (w := w6.drewN m5) #[.int .i64 z] 3 w6.heap.size 0 rfl
          case c2 => intro u hu; simp at hu; subst hu; rfl
          case c3 => unfold maxLen; omega
          case c4 => omega
          case c5 => simp; omega
          intro v' w8 hown' hgrow _
          have hbase := fun q hq => (o4.lt q hq).1
          have B1 : Below w.heap.size w w8 := ((below_drewN n4 m5).alloc hz4 _).grown hgrow (by simp; omega) hbase
          have O1 : w8.ownsRow w.heap.size 3 1 v' (outw W H bl c t (k + 1)).length (vals (outw W H bl c t (k + 1))) := by
            rw [HS.out]
            simpa [vals] using hown'
          clear hown' hgrow o4 n4
          go_wp2
          go_roundw
          case rel => exact ⟨k + 1, by omega, by go_num, O1, B1⟩
          case measure => simp [intOf]; omega
    · have : k = 8 := by omega
      subst this
      go_wp2
      go_ret
      exact ⟨_, rfl, hown, hnx⟩

theorem outward_v {b : Nat} {W H V c t : Int} {bl : Nat → Bool} {l : List Nat} (hl : outw W H bl c t 8 = l) (w : World) (g : GridAt w b W H V bl) (s : StepsAt w) (hb : b < w.heap.size) (hc : inB W H c = true) (ht : inB W H t = true) :
    Calls Tryd.prog 71 #[.pointer (some ⟨b, 0, none⟩), .int .i64 c, .int .i64 t] w fun e w' => ∃ A cap, e = .returned (.slice A l.length cap) ∧ OldRow w' A l.length (fun i => (l.getD i 0 : Nat)) ∧ Below w.heap.size w w' := by
  obtain ⟨x1, x2, y1, y2⟩ := place_bd g.w1 hc
  obtain ⟨u1, u2, v1, v2⟩ := place_bd g.w1 ht
  have gw := g.w2
  have gh := g.h2
  have hq : 0 ≤ c ∧ c < W * H := of_decide_eq_true hc
  have hk := wh_bd g.w1 g.w2 g.h1 g.h2
  refine (outward' w g s hb rfl rfl rfl rfl (fun w g => place_in c w g hc) (fun w g => place_in t w g ht) x1 (by omega) y1 (by omega) u1 (by omega) v1 (by omega) hq.1 (by omega)).mono ?_
  rintro e w' ⟨v, he, hown, hbl⟩
  rw [hl] at hown
  obtain ⟨A, cap, rfl, hrow⟩ := row_of hown
  exact ⟨A, cap, he, hrow, hbl⟩
end Go.Proofs.YtcagpmglijockaaDoor
/-
  A step farther from a cell, from each of some: package reach's 'goOut'.
-/
namespace Go.Proofs.YtcagpmglijockaaDoor
open Go.RowKit

theorem mkmap (w : World) : (Instr.makeMap 108 none).run Tryd.prog w = .ok (.map (some w.heap.size)) (w.alloc (.map #[] 0)) := by kernel_rfl

set_option maxHeartbeats 2000000 in
set_option maxRecDepth 1000000 in
theorem goOut_any {b fb bb : Nat} {W H V a : Int} {bl : Nat → Bool} {S B : Int → Bool} (w : World) (g : GridAt w b W H V bl) (s : StepsAt w) (hb : b < w.heap.size) (hS : SetAt w fb S) (hB : SetAt w bb B) (hfb : fb ≠ bb) (hbb : b ≠ bb) (h0 : 0 ≠ bb) (hin : ∀ i, S i = true → inB W H i = true) (ha : inB W H a = true)
    (hap : ∀ c k z, S c = true → Og W H bl a c k z → S z = false) :
    Calls Tryd.prog 56 #[.pointer (some ⟨b, 0, none⟩), .map (some fb), .map (some bb), .int .i64 a] w fun e w' => ∃ nb T B', e = .returned (.map (some nb)) ∧ SetAt w' nb T ∧ SetAt w' bb B' ∧ (∀ z, T z = true ↔ ∃ c k, S c = true ∧ Og W H bl a c k z) ∧
      (∀ z, B' z = true ↔ B z = true ∨ ∃ c k, S c = true ∧ Og W H bl a c k z ∧ (B c = true ∨ (cornB W H bl c = true ∧ c ≠ a))) ∧ w.heap.size ≤ nb ∧ Keep (fun k => k = bb) w w' := by
  have hfl := hS.lt
  have hbl := hB.lt
  have gw1 := g.w1
  have hwh := wh_bd g.w1 g.w2 g.h1 g.h2
  have hM0 := SetAt.made w
  have hS0 := hS.grown (World.grownBy_alloc w (.map #[] 0) none) (by simp)
  have hB0 := hB.grown (World.grownBy_alloc w (.map #[] 0) none) (by simp)
  have hz0 : (w.alloc (.map #[] 0)).heap.size = w.heap.size + 1 := by simp
  have K0 : Keep (fun k => k = bb) w (w.alloc (.map #[] 0)) := (Keep.refl _ _).alloc _
  have hmk := mkmap w
  have HAP : Hid (∀ c k z, S c = true → Og W H bl a c k z → S z = false) := hap
  clear hap
  go_enter Tryd.func56, Tryd.ntmps56
  go_wp2_with (first | (at_range; refine wpList_rangeF rfl _ 108 rfl 3 94 law3 Tryd.underS fb _ _ rfl hS0.mp ?_; intro w0 hrg0 hg0 hs0; rw [hz0] at hrg0 hs0 ⊢) | go_in)
  have hM1 := hM0.grown hg0 (by simp)
  have hB1 := hB0.grown hg0 (by simp)
  have K1 : Keep (fun k => k = bb) w w0 := K0.grown hg0 (by simp)
  clear hM0 hS0 hg0 K0 hB0
  go_frame
  go_loopg [] (cntS S 256) (fun gk wr => ∃ left cnt T B1, gk = cnt ∧ RngS wr fb (w.heap.size + 1) S left cnt ∧ SetAt wr w.heap.size T ∧ SetAt wr bb B1 ∧ Hid (∀ z, T z = true ↔ ∃ c k, (S c = true ∧ left c = false) ∧ Og W H bl a c k z) ∧
      Hid (∀ z, B1 z = true ↔ B z = true ∨ ∃ c k, (S c = true ∧ left c = false) ∧ Og W H bl a c k z ∧ (B c = true ∨ (cornB W H bl c = true ∧ c ≠ a))) ∧ Keep (fun k => k = bb) w wr)
  case atStart =>
    refine ⟨_, _, _, _, rfl, hrg0, hM1, hB1, fun z => ⟨fun h => (by cases h), ?_⟩, fun z => ⟨Or.inl, ?_⟩, K1⟩
    · rintro ⟨c, k, ⟨h1, h2⟩, _⟩
      rw [setF_isSome, h1] at h2
      cases h2
    · rintro (h | ⟨c, k, ⟨h1, h2⟩, _⟩)
      · exact h
      · rw [setF_isSome, h1] at h2
        cases h2
  case round =>
    obtain ⟨left, cnt, T, B1, hgk, hrg, hT, hB2, hall, hbhd, hK⟩ := hrel
    have hbz := hK.size
    go_wp2_with (first | (at_next; refine wpList_nextF rfl _ rfl 3 law3 fb (w.heap.size + 1) _ _ _ _ rfl hrg ?_ ?_) | go_in)
    · intro hc0 hl0
      go_wp2
      go_ret
      refine ⟨_, T, B1, rfl, hT, hB2, fun z => (hall.out z).trans ⟨?_, ?_⟩, fun z => (hbhd.out z).trans ⟨?_, ?_⟩, Nat.le_refl _, hK⟩
      · rintro ⟨c, k, h1, h2⟩; exact ⟨c, k, h1.1, h2⟩
      · rintro ⟨c, k, h1, h2⟩; exact ⟨c, k, ⟨h1, hl0 c⟩, h2⟩
      · rintro (h | ⟨c, k, h1, h2⟩)
        · exact Or.inl h
        · exact Or.inr ⟨c, k, h1.1, h2⟩
      · rintro (h | ⟨c, k, h1, h2⟩)
        · exact Or.inl h
        · exact Or.inr ⟨c, k, ⟨h1, hl0 c⟩, h2⟩
    · intro x v w1 cnt1 hwx hlx hfx hrg1 hlt hg1 hs1 hen
      obtain ⟨hSx, rfl⟩ := setF_val hfx
      have hxin := hin x hSx
      have hT1 := hT.grown hg1 (fun e => by have := Option.some.inj e; omega)
      have hB3 := hB2.grown hg1 (fun e => by have := Option.some.inj e; omega)
      have K2 : Keep (fun k => k = bb) w w1 := hK.grown hg1 (fun k e h => by cases e; omega)
      have hBx : B1 x = B x := by
        have h1 := hbhd.out x
        cases hb1 : B x with
        | true => rw [hb1] at h1; exact h1.2 (Or.inl rfl)
        | false =>
          cases hb2 : B1 x with
          | false => rfl
          | true =>
            rw [hb1, hb2] at h1
            obtain ⟨c, k, h3, h4, _⟩ := (h1.1 rfl).resolve_left (by decide)
            have := HAP.out c k x h3.1 h4
            rw [hSx] at this; cases this
      obtain ⟨l, hl⟩ : ∃ l, outw W H bl x a 8 = l := ⟨_, rfl⟩
      have HL : Hid (outw W H bl x a 8 = l) := hl
      have hll : l.length ≤ 8 := by rw [← hl]; exact outw_len _ _ _ _ _ _
      clear hl
      have hzb : ∀ j, j < l.length → (0 : Int) ≤ ((l.getD j 0 : Nat) : Int) ∧ ((l.getD j 0 : Nat) : Int) < 256 := fun j hj => by
        obtain ⟨k, e, _⟩ := (outw_row (z := ((l.getD j 0 : Nat) : Int)) gw1 hxin HL.out).1 ⟨j, hj, rfl⟩
        have : 0 ≤ ((l.getD j 0 : Nat) : Int) ∧ ((l.getD j 0 : Nat) : Int) < W * H := of_decide_eq_true (e.in' gw1)
        omega
      have HZ : Hid (∀ j, j < l.length → (0 : Int) ≤ ((l.getD j 0 : Nat) : Int) ∧ ((l.getD j 0 : Nat) : Int) < 256) := hzb
      clear hzb
      have g1 := g.keep K2 hbb
      have s1 := s.keep K2 h0
      have hw1 : b < w1.heap.size := Nat.lt_of_lt_of_le hb K2.size
      obtain ⟨cx, hcx⟩ : ∃ cx, cornB W H bl x = cx := ⟨_, rfl⟩
      have HCX : Hid (cornB W H bl x = cx) := hcx
      have his := is_v hcx w1 g1 s1 hxin
      obtain ⟨bx, hbx⟩ : ∃ bx, B x = bx := ⟨_, rfl⟩
      have HBX : Hid (B x = bx) := hbx
      have HBX1 : Hid (B1 x = bx) := hBx.trans hbx
      clear hcx hbx hBx
      clear hT hrg hK hg1 K1 hM1 hrg0 hB1 hB2
      go_wp2_with fail
      refine his.mono ?_
      rintro e w2 ⟨rfl, m2, hw2⟩
      have hlk : (Instr.lookup 108 (.map (some bb)) (.int .i64 x) true).run Tryd.prog w2 = .ok (.tuple #[.agg #[], .bool bx]) w2 := by
        have hB4 : SetAt w2 bb B1 := by rw [hw2]; exact hB3.below (below_drewN (Below.refl _ _) m2)
        have hq := HBX1.out
        cases bx with
        | false => exact hB4.mp.look_none law3 Tryd.underS (zeroS _) hwx (setF_none hq) true
        | true => exact hB4.mp.look_some law3 Tryd.underS (zeroS _) hwx (setF_some hq) true
      have b2 : Below w1.heap.size w1 (w2.alloc (.cells #[] 94)) := by rw [hw2]; exact (below_drewN (Below.refl _ _) m2).alloc (by simp) _
      have g2 := g1.below b2 hw1
      have s2 := s1.below b2 (by omega)
      have hT2 := hT1.below b2
      have hB4 := hB3.below b2
      have hrg2 := hrg1.below b2
      have K3 := K2.below b2
      have hw2' : b < (w2.alloc (.cells #[] 94)).heap.size := Nat.lt_of_lt_of_le hw1 b2.size
      clear b2 hw2 g1 s1 hT1 hB3 hrg1 K2 his
      have hon := outward_v HL.out (w2.alloc (.cells #[] 94)) g2 s2 hw2' hxin ha
      go_wp2_with fail
      refine hon.mono ?_
      rintro e w3 ⟨A, cap, rfl, hrow, hb3⟩
      have hT3 := hT2.below hb3
      have hB5 := hB4.below hb3
      have hrg3 := hrg2.below hb3
      have K4 := K3.below hb3
      clear hT2 hB4 hrg2 K3 hb3 hon g2 s2 hw2' hlk
      go_wp2
      go_loopg [41] l.length (fun gj iv wr => ∃ (j : Nat) (T' B' : Int → Bool), gj = l.length - j ∧ iv = .int .i64 j ∧ j ≤ l.length ∧ SetAt wr w.heap.size T' ∧ SetAt wr bb B' ∧ Hid (∀ z, T' z = true ↔ T z = true ∨ ∃ i, i < j ∧ z = ((l.getD i 0 : Nat) : Int)) ∧
          Hid (∀ z, B' z = true ↔ B1 z = true ∨ ((bx = true ∨ (cx = true ∧ x ≠ a)) ∧ ∃ i, i < j ∧ z = ((l.getD i 0 : Nat) : Int))) ∧ RngS wr fb (w.heap.size + 1) S (fun z => left z && !decide (z = x)) cnt1 ∧ OldRow wr A l.length (fun i => (l.getD i 0 : Nat)) ∧ Keep (fun k => k = bb) w wr)
      case atStart => exact ⟨0, T, B1, rfl, rfl, Nat.zero_le _, hT3, hB5, fun z => ⟨Or.inl, fun h => h.resolve_right (fun ⟨i, hi, _⟩ => by omega)⟩, fun z => ⟨Or.inl, fun h => h.resolve_right (fun ⟨_, i, hi, _⟩ => by omega)⟩, hrg3, hrow, K4⟩
      case round =>
        obtain ⟨j, T', B', hgj, rfl, hj, hT', hBB, hin', hbn', hrg', hrow', hK'⟩ := hrel
        by_cases hlj : j < l.length
        · obtain ⟨ba, oa, rfl, hba, hcell⟩ := hrow' j hlj
          obtain ⟨z0, z1⟩ := HZ.out j hlj
          have hcell' : wr.cell? ⟨ba, oa + j, none⟩ = some (.int .i64 ((l.getD j 0 : Nat) : Int)) := hcell
          clear hcell
          have HJ : Hid (∀ z : Int, (∃ i, i < j + 1 ∧ z = ((l.getD i 0 : Nat) : Int)) ↔ (∃ i, i < j ∧ z = ((l.getD i 0 : Nat) : Int)) ∨ z = ((l.getD j 0 : Nat) : Int)) := fun z => by
            constructor
            · rintro ⟨i, hi, h⟩
              by_cases e : i = j
              · subst e; exact Or.inr h
              · exact Or.inl ⟨i, by omega, h⟩
            · rintro (⟨i, hi, h⟩ | h)
              · exact ⟨i, by omega, h⟩
              · exact ⟨j, by omega, h⟩
          generalize ((l.getD j 0 : Nat) : Int) = zz at *
          have i1 : (0 : Int) ≤ (j : Int) := by omega
          have i2 : (j : Int) < (l.length : Int) := by omega
          have hneb : ba ≠ w.heap.size := fun e => by
            have h := hT'.mp.cell (oa + j)
            rw [← e, hcell'] at h
            cases h
          have hneb2 : ba ≠ bb := fun e => by
            have h := hBB.mp.cell (oa + j)
            rw [← e, hcell'] at h
            cases h
          have hRW : ∀ w' row, wr.grownBy w' (some row) → ba ≠ row → OldRow w' (some ⟨ba, oa, none⟩) l.length (fun i => (l.getD i 0 : Nat)) := fun w' row hg hn i hi => by
            obtain ⟨b', o', e, h1, h2⟩ := hrow' i hi
            cases e
            exact ⟨ba, oa, rfl, Nat.lt_of_lt_of_le h1 hg.size, (World.cell?_of_block (w := wr) (hg.block ba h1 (fun e => hn (Option.some.inj e)))).trans h2⟩
          have hnbb : w.heap.size ≠ bb := by omega
          have tok : True := trivial
          cases bx with
          | true =>
            go_wp2_with (first | (at_mapUpdate; have _t := tok; refine wpList_put rfl _ _ _ 108 rfl 3 94 law3 Tryd.underS w.heap.size _ _ rfl hT'.mp hT'.room zz (.agg #[]) rfl rfl (wf_small z0 z1) ?_; intro w4 hm4 ht4; have hT4 := hT'.put z0 z1 hm4; have hg4 := ht4.grown; have hB4 := hBB.grown hg4 (fun e => hnbb (Option.some.inj e).symm); clear tok hm4 ht4; go_frame) | (at_mapUpdate; refine wpList_put rfl _ _ _ 108 rfl 3 94 law3 Tryd.underS bb _ _ rfl hB4.mp hB4.room zz (.agg #[]) rfl rfl (wf_small z0 z1) ?_; intro w5 hm5 ht5; go_frame) | go_in)
            have hB5 := hB4.put z0 z1 hm5
            have hg5 := ht5.grown
            have hT5 := hT4.grown hg5 (fun e => hnbb (Option.some.inj e))
            have hrg4 := (hrg'.grown hg4 (fun e => by have := Option.some.inj e; omega) (fun e => by have := Option.some.inj e; omega)).grown hg5 (fun e => hfb (Option.some.inj e)) (fun e => by have := Option.some.inj e; omega)
            have hK4 : Keep (fun k => k = bb) w w5 := (hK'.grown hg4 (fun k e h => by cases e; omega)).grown hg5 (fun k e h => by cases e; rfl)
            have hrow4 := hRW w4 _ hg4 hneb
            have hrow5 : OldRow w5 (some ⟨ba, oa, none⟩) l.length (fun i => (l.getD i 0 : Nat)) := fun i hi => by
              obtain ⟨b', o', e, h1, h2⟩ := hrow4 i hi
              cases e
              exact ⟨ba, oa, rfl, Nat.lt_of_lt_of_le h1 hg5.size, (World.cell?_of_block (w := w4) (hg5.block ba h1 (fun e => hneb2 (Option.some.inj e)))).trans h2⟩
            go_roundg (l.length - (j + 1))
            case measure => omega
            case rel =>
              refine ⟨j + 1, _, _, rfl, by go_num, by omega, hT5, hB5, fun z => ?_, fun z => ?_, hrg4, hrow5, hK4⟩
              · rw [insS_iff, hin'.out z, HJ.out z]
                exact ⟨fun h => h.elim (fun e => Or.inr (Or.inr e)) (fun h => h.imp id Or.inl), fun h => h.elim (fun e => Or.inr (Or.inl e)) (fun h => h.elim (fun e => Or.inr (Or.inr e)) Or.inl)⟩
              · rw [insS_iff, hbn'.out z, HJ.out z]
                constructor
                · rintro (h | h | ⟨h1, h2⟩)
                  · exact Or.inr ⟨by simp, Or.inr h⟩
                  · exact Or.inl h
                  · exact Or.inr ⟨h1, Or.inl h2⟩
                · rintro (h | ⟨h1, h | h⟩)
                  · exact Or.inr (Or.inl h)
                  · exact Or.inr (Or.inr ⟨h1, h⟩)
                  · exact Or.inl h
          | false =>
            cases cx with
            | false =>
              go_wp2_with (first | (at_mapUpdate; have _t := tok; refine wpList_put rfl _ _ _ 108 rfl 3 94 law3 Tryd.underS w.heap.size _ _ rfl hT'.mp hT'.room zz (.agg #[]) rfl rfl (wf_small z0 z1) ?_; intro w4 hm4 ht4; have hT4 := hT'.put z0 z1 hm4; have hg4 := ht4.grown; have hB4 := hBB.grown hg4 (fun e => hnbb (Option.some.inj e).symm); clear tok hm4 ht4; go_frame) | go_in)
              have hrg4 := hrg'.grown hg4 (fun e => by have := Option.some.inj e; omega) (fun e => by have := Option.some.inj e; omega)
              have hK4 : Keep (fun k => k = bb) w w4 := hK'.grown hg4 (fun k e h => by cases e; omega)
              have hrow4 := hRW w4 _ hg4 hneb
              go_roundg (l.length - (j + 1))
              case measure => omega
              case rel =>
                refine ⟨j + 1, _, _, rfl, by go_num, by omega, hT4, hB4, fun z => ?_, fun z => ?_, hrg4, hrow4, hK4⟩
                · rw [insS_iff, hin'.out z, HJ.out z]
                  exact ⟨fun h => h.elim (fun e => Or.inr (Or.inr e)) (fun h => h.imp id Or.inl), fun h => h.elim (fun e => Or.inr (Or.inl e)) (fun h => h.elim (fun e => Or.inr (Or.inr e)) Or.inl)⟩
                · rw [hbn'.out z]
                  exact or_congr Iff.rfl ⟨fun h => absurd h.1 (by simp), fun h => absurd h.1 (by simp)⟩
            | true =>
              by_cases hxa : x = a
              · subst hxa
                go_wp2_with (first | (at_mapUpdate; have _t := tok; refine wpList_put rfl _ _ _ 108 rfl 3 94 law3 Tryd.underS w.heap.size _ _ rfl hT'.mp hT'.room zz (.agg #[]) rfl rfl (wf_small z0 z1) ?_; intro w4 hm4 ht4; have hT4 := hT'.put z0 z1 hm4; have hg4 := ht4.grown; have hB4 := hBB.grown hg4 (fun e => hnbb (Option.some.inj e).symm); clear tok hm4 ht4; go_frame) | go_in)
                have hrg4 := hrg'.grown hg4 (fun e => by have := Option.some.inj e; omega) (fun e => by have := Option.some.inj e; omega)
                have hK4 : Keep (fun k => k = bb) w w4 := hK'.grown hg4 (fun k e h => by cases e; omega)
                have hrow4 := hRW w4 _ hg4 hneb
                go_roundg (l.length - (j + 1))
                case measure => omega
                case rel =>
                  refine ⟨j + 1, _, _, rfl, by go_num, by omega, hT4, hB4, fun z => ?_, fun z => ?_, hrg4, hrow4, hK4⟩
                  · rw [insS_iff, hin'.out z, HJ.out z]
                    exact ⟨fun h => h.elim (fun e => Or.inr (Or.inr e)) (fun h => h.imp id Or.inl), fun h => h.elim (fun e => Or.inr (Or.inl e)) (fun h => h.elim (fun e => Or.inr (Or.inr e)) Or.inl)⟩
                  · rw [hbn'.out z]
                    exact or_congr Iff.rfl ⟨fun h => absurd h.1 (by simp), fun h => absurd h.1 (by simp)⟩
              · have HXA : Hid (x ≠ a) := hxa
                go_wp2_with (first | (at_mapUpdate; have _t := tok; refine wpList_put rfl _ _ _ 108 rfl 3 94 law3 Tryd.underS w.heap.size _ _ rfl hT'.mp hT'.room zz (.agg #[]) rfl rfl (wf_small z0 z1) ?_; intro w4 hm4 ht4; have hT4 := hT'.put z0 z1 hm4; have hg4 := ht4.grown; have hB4 := hBB.grown hg4 (fun e => hnbb (Option.some.inj e).symm); clear tok hm4 ht4; go_frame) | (at_mapUpdate; refine wpList_put rfl _ _ _ 108 rfl 3 94 law3 Tryd.underS bb _ _ rfl hB4.mp hB4.room zz (.agg #[]) rfl rfl (wf_small z0 z1) ?_; intro w5 hm5 ht5; go_frame) | go_in)
                have hB5 := hB4.put z0 z1 hm5
                have hg5 := ht5.grown
                have hT5 := hT4.grown hg5 (fun e => hnbb (Option.some.inj e))
                have hrg4 := (hrg'.grown hg4 (fun e => by have := Option.some.inj e; omega) (fun e => by have := Option.some.inj e; omega)).grown hg5 (fun e => hfb (Option.some.inj e)) (fun e => by have := Option.some.inj e; omega)
                have hK4 : Keep (fun k => k = bb) w w5 := (hK'.grown hg4 (fun k e h => by cases e; omega)).grown hg5 (fun k e h => by cases e; rfl)
                have hrow4 := hRW w4 _ hg4 hneb
                have hrow5 : OldRow w5 (some ⟨ba, oa, none⟩) l.length (fun i => (l.getD i 0 : Nat)) := fun i hi => by
                  obtain ⟨b', o', e, h1, h2⟩ := hrow4 i hi
                  cases e
                  exact ⟨ba, oa, rfl, Nat.lt_of_lt_of_le h1 hg5.size, (World.cell?_of_block (w := w4) (hg5.block ba h1 (fun e => hneb2 (Option.some.inj e)))).trans h2⟩
                go_roundg (l.length - (j + 1))
                case measure => omega
                case rel =>
                  refine ⟨j + 1, _, _, rfl, by go_num, by omega, hT5, hB5, fun z => ?_, fun z => ?_, hrg4, hrow5, hK4⟩
                  · rw [insS_iff, hin'.out z, HJ.out z]
                    exact ⟨fun h => h.elim (fun e => Or.inr (Or.inr e)) (fun h => h.imp id Or.inl), fun h => h.elim (fun e => Or.inr (Or.inl e)) (fun h => h.elim (fun e => Or.inr (Or.inr e)) Or.inl)⟩
                  · rw [insS_iff, hbn'.out z, HJ.out z]
                    constructor
                    · rintro (h | h | ⟨h1, h2⟩)
                      · exact Or.inr ⟨(by have := HXA.out; simp_all), Or.inr h⟩
                      · exact Or.inl h
                      · exact Or.inr ⟨h1, Or.inl h2⟩
                    · rintro (h | ⟨h1, h | h⟩)
                      · exact Or.inr (Or.inl h)
                      · exact Or.inr (Or.inr ⟨h1, h⟩)
                      · exact Or.inl h
        · have e : j = l.length := by omega
          subst e
          go_wp2
          go_roundg cnt1
          case measure => omega
          case rel =>
            refine ⟨_, cnt1, T', B', rfl, hrg', hT', hBB, fun z => ?_, fun z => ?_, hK'⟩
            · rw [hin'.out z, hall.out z, outw_row gw1 hxin HL.out]
              constructor
              · rintro (⟨c, k, ⟨h1, h2⟩, h3⟩ | ⟨k, h3⟩)
                · exact ⟨c, k, ⟨h1, by rw [h2]; rfl⟩, h3⟩
                · exact ⟨x, k, ⟨hSx, by simp⟩, h3⟩
              · rintro ⟨c, k, ⟨h1, h2⟩, h3⟩
                by_cases e : c = x
                · subst e; exact Or.inr ⟨k, h3⟩
                · rw [decide_eq_false e] at h2
                  exact Or.inl ⟨c, k, ⟨h1, by simpa using h2⟩, h3⟩
            · rw [hbn'.out z, hbhd.out z, outw_row gw1 hxin HL.out, ← HBX.out, ← HCX.out]
              constructor
              · rintro ((h | ⟨c, k, ⟨h1, h2⟩, h3⟩) | ⟨h4, k, h3⟩)
                · exact Or.inl h
                · exact Or.inr ⟨c, k, ⟨h1, by rw [h2]; rfl⟩, h3⟩
                · exact Or.inr ⟨x, k, ⟨hSx, by simp⟩, h3, h4⟩
              · rintro (h | ⟨c, k, ⟨h1, h2⟩, h3, h4⟩)
                · exact Or.inl (Or.inl h)
                · by_cases e : c = x
                  · subst e; exact Or.inr ⟨h4, k, h3⟩
                  · rw [decide_eq_false e] at h2
                    exact Or.inl (Or.inr ⟨c, k, ⟨h1, by simpa using h2⟩, h3, h4⟩)
end Go.Proofs.YtcagpmglijockaaDoor
/-
  Two that are directly near: every step that brings one nearer may be gone; and what a change of one cell touches.
-/
namespace Go.Proofs.YtcagpmglijockaaDoor

theorem dst_to {x u s : Int} (h : (s = 1 ∧ x < u) ∨ (s = -1 ∧ u < x)) : dst (x + s) u = dst x u - 1 ∧ 1 ≤ dst x u := by
  unfold dst
  (repeat' split) <;> omega
theorem dst_still {x u s : Int} (h : (s = 1 ∧ x < u) ∨ (s = -1 ∧ u < x)) (h2 : 2 ≤ dst x u) : (s = 1 ∧ x + s < u) ∨ (s = -1 ∧ u < x + s) := by
  unfold dst at h2
  split at h2 <;> omega
theorem dl_diag {X Y : Int} : dst (X - 1) (Y - 1) + 0 = dst X Y ∧ les (X - 1) (Y - 1) + 1 = les X Y := by
  unfold dst les
  (repeat' split) <;> omega
theorem dl_x {X Y : Int} (h : Y < X) : dst (X - 1) Y + 1 = dst X Y ∧ les (X - 1) Y + 0 = les X Y := by
  unfold dst les
  (repeat' split) <;> omega
theorem dl_y {X Y : Int} (h : X < Y) : dst X (Y - 1) + 1 = dst X Y ∧ les X (Y - 1) + 0 = les X Y := by
  unfold dst les
  (repeat' split) <;> omega

theorem good_diag {x y u v : Int} {k : Nat} (hk : k < 8) (hp : k % 2 = 1) (hx : (stepX k = 1 ∧ x < u) ∨ (stepX k = -1 ∧ u < x)) (hy : (stepY k = 1 ∧ y < v) ∨ (stepY k = -1 ∧ v < y)) : Good x y u v k := by
  obtain ⟨_, _, _, _, u5⟩ := step_unit k hk
  unfold Good
  rw [(u5 hp).1, (u5 hp).2, (dst_to hx).1, (dst_to hy).1]
  exact dl_diag
theorem good_x {x y u v : Int} {k : Nat} (hk : k < 8) (hp : k % 2 = 0) (hx : (stepX k = 1 ∧ x < u) ∨ (stepX k = -1 ∧ u < x)) (hy : stepY k = 0) (hlt : dst y v < dst x u) : Good x y u v k := by
  obtain ⟨_, _, _, u4, _⟩ := step_unit k hk
  unfold Good
  rw [(u4 hp).1, (u4 hp).2, (dst_to hx).1, hy, Int.add_zero]
  exact dl_x hlt
theorem good_y {x y u v : Int} {k : Nat} (hk : k < 8) (hp : k % 2 = 0) (hy : (stepY k = 1 ∧ y < v) ∨ (stepY k = -1 ∧ v < y)) (hx : stepX k = 0) (hlt : dst x u < dst y v) : Good x y u v k := by
  obtain ⟨_, _, _, u4, _⟩ := step_unit k hk
  unfold Good
  rw [(u4 hp).1, (u4 hp).2, (dst_to hy).1, hx, Int.add_zero]
  exact dl_y hlt

theorem adj_x {j k : Nat} (hj : j < 8) (hk : k < 8) (hp : k % 2 = 1) (hy : stepY j = 0) (hx : stepX j = stepX k) : (k = (j + 1) % 8 ∨ k = (j + 7) % 8) ∧ (j = (k + 1) % 8 ∨ j = (k + 7) % 8) := by
  rcases k8 hk with rfl | rfl | rfl | rfl | rfl | rfl | rfl | rfl <;> rcases k8 hj with rfl | rfl | rfl | rfl | rfl | rfl | rfl | rfl <;> revert hp hy hx <;> decide
theorem adj_y {j k : Nat} (hj : j < 8) (hk : k < 8) (hp : k % 2 = 1) (hx : stepX j = 0) (hy : stepY j = stepY k) : (k = (j + 1) % 8 ∨ k = (j + 7) % 8) ∧ (j = (k + 1) % 8 ∨ j = (k + 7) % 8) := by
  rcases k8 hk with rfl | rfl | rfl | rfl | rfl | rfl | rfl | rfl <;> rcases k8 hj with rfl | rfl | rfl | rfl | rfl | rfl | rfl | rfl <;> revert hp hy hx <;> decide

/-- two that bring one nearer lie beside each other, and behind the one the other still brings one nearer -/
theorem good_adj {x y u v : Int} {j k : Nat} (hj : j < 8) (hk : k < 8) (hne : k ≠ j) (gj : Good x y u v j) (gk : Good x y u v k) :
    (k = (j + 1) % 8 ∨ k = (j + 7) % 8) ∧ Good (x + stepX j) (y + stepY j) u v k := by
  obtain ⟨a1, a2⟩ := good_dir hj gj
  obtain ⟨b1, b2⟩ := good_dir hk gk
  by_cases p : j % 2 = 1
  · by_cases q : k % 2 = 1
    · exact absurd (good_one hk hj (by omega) gk gj) hne
    · obtain ⟨jx, jy⟩ := a1 p
      rcases b2 (by omega) with ⟨z, kx, hlt⟩ | ⟨z, ky, hlt⟩
      · refine ⟨(adj_x hk hj p z (by omega)).2, good_x hk (by omega) ?_ z ?_⟩
        · rw [show stepX j = stepX k by omega]
          exact dst_still kx (by have := (dst_to jy).2; omega)
        · rw [(dst_to jx).1, (dst_to jy).1]; omega
      · refine ⟨(adj_y hk hj p z (by omega)).2, good_y hk (by omega) ?_ z ?_⟩
        · rw [show stepY j = stepY k by omega]
          exact dst_still ky (by have := (dst_to jx).2; omega)
        · rw [(dst_to jx).1, (dst_to jy).1]; omega
  · by_cases q : k % 2 = 1
    · obtain ⟨kx, ky⟩ := b1 q
      rcases a2 (by omega) with ⟨z, jx, hlt⟩ | ⟨z, jy, hlt⟩
      · refine ⟨(adj_x hj hk q z (by omega)).1, good_diag hk q ?_ (by rw [z, Int.add_zero]; exact ky)⟩
        rw [show stepX j = stepX k by omega]
        exact dst_still kx (by have := (dst_to ky).2; omega)
      · refine ⟨(adj_y hj hk q z (by omega)).1, good_diag hk q (by rw [z, Int.add_zero]; exact kx) ?_⟩
        rw [show stepY j = stepY k by omega]
        exact dst_still ky (by have := (dst_to kx).2; omega)
    · exact absurd (good_one hk hj (by omega) gk gj) hne

/-- directly near -/
def Dir (W H : Int) (bl : Nat → Bool) (a b : Int) : Prop := (∃ z, On W H bl a b z) ∧ ∀ k, On W H bl a b k → CornC W H bl k → k = a ∨ k = b

section
variable {W H : Int} {bl : Nat → Bool} {a b : Int}
theorem wk_in' {s d : Int} (w1 : 1 ≤ W) (ha : inB W H a = true) (h : Wk (Edge W H bl) a b s d) : inB W H b = true := by
  rcases h.inv with ⟨e, _⟩ | ⟨_, _, _, _, _, e, _⟩
  · rw [e]; exact ha
  · exact e.in' w1

theorem On.trans (w1 : 1 ≤ W) (hS : octS W a b ≤ 1000) (hD : octD W a b ≤ 1000) {k z : Int} (h : On W H bl a b k) (g : On W H bl a k z) : On W H bl a b z := by
  obtain ⟨h1, h2, h3, h4⟩ := h.walks w1 hS hD
  have n1 := octS_nonneg W b k
  have n2 := octD_nonneg W b k
  obtain ⟨g1, g2, g3, g4⟩ := g.walks w1 (by omega) (by omega)
  exact On.of_walks w1 hS hD g1 (Wk.join h2 g2) (by omega) (by omega)

theorem dst_zero {x y : Int} (h : dst x y = 0) : x = y := by
  unfold dst at h
  split at h <;> omega
theorem les_zero {x y : Int} (h : les x y = 0) (e : x = y) : x = 0 := by
  unfold les at h
  split at h <;> omega
theorem oct_zero (hS : octS W a b = 0) (hD : octD W a b = 0) : a = b := by
  have h1 := dst_zero hS
  have h2 := les_zero hD h1
  have e1 : a % W = b % W := dst_zero h2
  have e2 : a / W = b / W := dst_zero (h1.symm.trans h2)
  rw [← Int.emod_add_mul_ediv a W, ← Int.emod_add_mul_ediv b W, e1, e2]

theorem Dir.full (w1 : 1 ≤ W) (hS : octS W a b ≤ 1000) (hD : octD W a b ≤ 1000) (hd : Dir W H bl a b) :
    ∀ (n : Nat) (p : Int), On W H bl a b p → octS W p b + octD W p b ≤ n → ∀ k, k < 8 → Good (p % W) (p / W) (b % W) (b / W) k → ∃ r, Edge W H bl p k r ∧ On W H bl a b r := by
  intro n
  induction n with
  | zero =>
    intro p hp hn k hk g
    have n1 := octS_nonneg W p b
    have n2 := octD_nonneg W p b
    have := oct_zero (W := W) (a := p) (b := b) (by omega) (by omega)
    rw [this] at g
    exact absurd g (good_end hk)
  | succ n ih =>
    intro p hp hn k hk g
    have hpb : p ≠ b := fun e => by rw [e] at g; exact good_end hk g
    obtain ⟨j, q, ej, gj, hq⟩ := On.next w1 hS hD hp hpb
    by_cases hkj : k = j
    · exact ⟨q, hkj ▸ ej, hq⟩
    · have hj := ej.1
      obtain ⟨adj, gk⟩ := good_adj hj hk hkj gj g
      obtain ⟨q1, q2⟩ := ej.place w1
      rw [← q1, ← q2] at gk
      obtain ⟨i1, i2⟩ := (good_iff w1 ej).1 gj
      have sj := st_bd j
      obtain ⟨s, es, hs⟩ := ih q hq (by omega) k hk gk
      obtain ⟨p1, p2, p3, p4⟩ := hp.walks w1 hS hD
      have hnc : ¬ CornC W H bl q := fun hc => by
        rcases hd.2 q hq hc with e | e
        · rw [e] at i1 i2
          have := octS_nonneg W a p
          have := octD_nonneg W a p
          rw [octS_comm W p b] at i1
          rw [octD_comm W p b] at i2
          omega
        · rw [e] at gk; exact good_end hk gk
      have m1 := ej.2.2.1
      have m2 := es.2.2.1
      rw [q1, q2] at m2
      rcases turn1 hj adj m1 m2 with hc | ⟨m3, m4⟩
      · exact absurd (by unfold CornC; rw [q1, q2]; exact hc) hnc
      · have er : Edge W H bl p k (p + (stepY k * W + stepX k)) := ⟨hk, ej.2.1, m3, rfl⟩
        obtain ⟨r1, r2⟩ := er.place w1
        have hin := er.in' w1
        have hse : s = p + (stepY k * W + stepX k) + (stepY j * W + stepX j) := by
          rw [es.2.2.2, ej.2.2.2]
          generalize stepY k * W = A
          generalize stepY j * W = B
          omega
        have e2 : Edge W H bl (p + (stepY k * W + stepX k)) j s := ⟨hj, hin, by rw [r1, r2]; exact m4, hse⟩
        obtain ⟨j', eb, b1, b2⟩ := Edge.back w1 _ _ _ e2
        obtain ⟨s1, s2, s3, s4⟩ := hs.walks w1 hS hD
        obtain ⟨k1, k2⟩ := (good_iff w1 es).1 gk
        refine ⟨_, er, On.of_walks w1 hS hD (p1.step er) (s2.step eb) ?_ ?_⟩
        · rw [b1, octS_comm W b s]
          rw [octS_comm W p b] at i1
          omega
        · rw [b2, octD_comm W b s]
          rw [octD_comm W p b] at i2
          omega

/-- what is on a way between two that are directly near is directly near the first -/
theorem Dir.sub (w1 : 1 ≤ W) (hS : octS W a b ≤ 1000) (hD : octD W a b ≤ 1000) (hd : Dir W H bl a b) {k : Int} (h : On W H bl a b k) : Dir W H bl k a := by
  obtain ⟨h1, h2, h3, h4⟩ := h.walks w1 hS hD
  have n1 := octS_nonneg W b k
  have n2 := octD_nonneg W b k
  obtain ⟨z, hz⟩ := On.near_a w1 hS hD (by omega) (by omega) h
  refine ⟨⟨z, hz.sym⟩, fun y hy hc => ?_⟩
  rcases hd.2 y (On.trans w1 hS hD h hy.sym) hc with e | e
  · exact Or.inr e
  · left
    rw [e] at hy ⊢
    obtain ⟨g1, g2, g3, g4⟩ := hy.sym.walks w1 (by omega) (by omega)
    have m1 := octS_nonneg W k b
    have m2 := octD_nonneg W k b
    exact oct_zero (W := W) (by rw [octS_comm W b k]; omega) (by rw [octD_comm W b k]; omega)
theorem Dir.sym (h : Dir W H bl a b) : Dir W H bl b a :=
  ⟨h.1.elim fun z hz => ⟨z, hz.sym⟩, fun k hk hc => (h.2 k hk.sym hc).symm⟩
theorem Dir.self (w1 : 1 ≤ W) : Dir W H bl a a := by
  have z1 : octS W a a ≤ 1000 := by rw [octS_self]; omega
  have z2 : octD W a a ≤ 1000 := by rw [octD_self]; omega
  refine ⟨⟨a, Tw.nil, Tw.nil⟩, fun k hk _ => ?_⟩
  obtain ⟨g1, g2, g3, g4⟩ := hk.walks w1 z1 z2
  rw [octS_self] at g3
  rw [octD_self] at g4
  have m1 := octS_nonneg W a k
  have m2 := octD_nonneg W a k
  exact Or.inl (oct_zero (W := W) (by omega) (by omega)).symm
end

/-- a cell is beside another one, or it -/
def Blk (W c p : Int) : Prop := p % W - 1 ≤ c % W ∧ c % W ≤ p % W + 1 ∧ p / W - 1 ≤ c / W ∧ c / W ≤ p / W + 1

section
variable {W H c0 : Int} {bl bl' : Nat → Bool}
theorem far_open (hbl : ∀ n : Nat, (n : Int) ≠ c0 → bl n = bl' n) {x y : Int} (h : ¬ (x = c0 % W ∧ y = c0 / W)) : openB W H bl x y = openB W H bl' x y := by
  unfold openB
  cases ha : atB W H x y with
  | false => rfl
  | true =>
    have q : 0 ≤ x ∧ x < W ∧ 0 ≤ y ∧ y < H := of_decide_eq_true ha
    have hm : 0 ≤ y * W := Int.mul_nonneg q.2.2.1 (by omega)
    have e : bl (y * W + x).toNat = bl' (y * W + x).toNat := hbl _ (fun e => h (by
      rw [Int.toNat_of_nonneg (by omega)] at e
      rw [← e]
      constructor
      · rw [Int.add_comm, Int.add_mul_emod_self_right]; exact (Int.emod_eq_of_lt q.1 q.2.1).symm
      · rw [Int.add_comm, Int.add_mul_ediv_right _ _ (by omega), Int.ediv_eq_zero_of_lt q.1 q.2.1]; omega))
    rw [e]
theorem far_may (hbl : ∀ n : Nat, (n : Int) ≠ c0 → bl n = bl' n) {p : Int} (h : ¬ Blk W c0 p) {k : Nat} (hk : k < 8) : mayB W H bl (p % W) (p / W) k = mayB W H bl' (p % W) (p / W) k := by
  obtain ⟨u1, u2, _⟩ := step_unit k hk
  have f : ∀ s t : Int, (s = -1 ∨ s = 0 ∨ s = 1) → (t = -1 ∨ t = 0 ∨ t = 1) → openB W H bl (p % W + s) (p / W + t) = openB W H bl' (p % W + s) (p / W + t) := fun s t hs ht => far_open hbl (fun ⟨e1, e2⟩ => h (by unfold Blk; omega))
  have f0 := f 0 0 (by omega) (by omega)
  have f1 := f (stepX k) 0 u1 (by omega)
  have f2 := f 0 (stepY k) (by omega) u2
  have f3 := f _ _ u1 u2
  rw [Int.add_zero] at f1 f2
  rw [Int.add_zero, Int.add_zero] at f0
  unfold mayB
  rw [f0, f1, f2, f3]
theorem far_corn (hbl : ∀ n : Nat, (n : Int) ≠ c0 → bl n = bl' n) {p : Int} (h : ¬ Blk W c0 p) : CornC W H bl p → CornC W H bl' p := by
  have f : ∀ s t : Int, (s = -1 ∨ s = 0 ∨ s = 1) → (t = -1 ∨ t = 0 ∨ t = 1) → openB W H bl (p % W + s) (p / W + t) = openB W H bl' (p % W + s) (p / W + t) := fun s t hs ht => far_open hbl (fun ⟨e1, e2⟩ => h (by unfold Blk; omega))
  rintro ⟨h0, k, hk, hp, h1, h2, h3⟩
  obtain ⟨u1, u2, _⟩ := step_unit k hk
  have f0 := f 0 0 (by omega) (by omega)
  have f1 := f (stepX k) 0 u1 (by omega)
  have f2 := f 0 (stepY k) (by omega) u2
  have f3 := f _ _ u1 u2
  rw [Int.add_zero] at f1 f2
  rw [Int.add_zero, Int.add_zero] at f0
  exact ⟨f0 ▸ h0, k, hk, hp, f3 ▸ h1, f1 ▸ h2, f2 ▸ h3⟩

/-- an edge whose ways no cell beside the changed one is on, is kept -/
theorem edge_kept (hbl : ∀ n : Nat, (n : Int) ≠ c0 → bl n = bl' n) (w1 : 1 ≤ W) {c d : Int} (hS : octS W c d ≤ 1000) (hD : octD W c d ≤ 1000) (hc : inB W H c = true) (hf : bl c.toNat = false) (hd : CornC W H bl d) (h : Dir W H bl c d)
    (hno : ∀ p, inB W H p = true → bl p.toNat = false → Blk W c0 p → ¬ Dir W H bl p c) : CornC W H bl' d ∧ Dir W H bl' c d := by
  have far : ∀ p, On W H bl c d p → ¬ Blk W c0 p := fun p hp hB => hno p (wk_in' w1 hc (hp.walks w1 hS hD).1) (hp.free w1 hS hD hf) hB (h.sub w1 hS hD hp)
  have mv : ∀ p k r, On W H bl c d p → Edge W H bl p k r → Edge W H bl' p k r := fun p k r hp e => ⟨e.1, e.2.1, by rw [← far_may hbl (far p hp) e.1]; exact e.2.2.1, e.2.2.2⟩
  have vm : ∀ p k r, On W H bl c d p → Edge W H bl' p k r → Edge W H bl p k r := fun p k r hp e => ⟨e.1, e.2.1, by rw [far_may hbl (far p hp) e.1]; exact e.2.2.1, e.2.2.2⟩
  obtain ⟨z, hz⟩ := h.1
  obtain ⟨oc, od, _⟩ := hz.ends w1 hS hD
  -- forth: by the steps that bring one nearer, all of which may be gone
  have hS' : octS W d c ≤ 1000 := by rw [octS_comm]; exact hS
  have hD' : octD W d c ≤ 1000 := by rw [octD_comm]; exact hD
  have fwd : ∀ p, Tw W H bl' c d p → On W H bl c d p := fun p hp => hp (fun p => On W H bl c d p) oc (fun p k r hp e g => by
    obtain ⟨r', e', hr⟩ := h.full w1 hS hD (octS W p d + octD W p d).toNat p hp (by omega) k e.1 g
    rw [e.2.2.2, ← e'.2.2.2]; exact hr)
  have thr : ∀ p, On W H bl c d p → Tw W H bl' c d p := by
    intro p hp
    -- walk back to the beginning
    have key : ∀ (n : Nat) (p : Int), On W H bl c d p → octS W c p + octD W c p ≤ n → Tw W H bl' c d p := by
      intro n
      induction n with
      | zero =>
        intro p hp hn
        have n1 := octS_nonneg W c p
        have n2 := octD_nonneg W c p
        rw [← oct_zero (W := W) (a := c) (b := p) (by omega) (by omega)]
        exact Tw.nil
      | succ n ih =>
        intro p hp hn
        by_cases e : p = c
        · rw [e]; exact Tw.nil
        · obtain ⟨j, q, ej, gj, hq⟩ := On.next w1 hS' hD' hp.sym e
          have hq := hq.sym
          obtain ⟨i1, i2⟩ := (good_iff w1 ej).1 gj
          have sj := st_bd j
          rw [octS_comm W q c, octS_comm W p c] at i1
          rw [octD_comm W q c, octD_comm W p c] at i2
          obtain ⟨j', eb, b1, b2⟩ := Edge.back w1 _ _ _ ej
          have tq := ih q hq (by omega)
          obtain ⟨q1, q2, q3, q4⟩ := hq.walks w1 hS hD
          obtain ⟨p1, p2, p3, p4⟩ := hp.walks w1 hS hD
          refine tq.step (mv q j' p hq eb) ((good_iff w1 eb).2 ?_)
          rw [b1, b2, octS_comm W p d, octS_comm W q d, octD_comm W p d, octD_comm W q d]
          omega
    exact key (octS W c p + octD W c p).toNat p hp (by omega)
  have rht : ∀ p, On W H bl c d p → Tw W H bl' d c p := by
    have key : ∀ (n : Nat) (p : Int), On W H bl c d p → octS W p d + octD W p d ≤ n → Tw W H bl' d c p := by
      intro n
      induction n with
      | zero =>
        intro p hp hn
        have n1 := octS_nonneg W p d
        have n2 := octD_nonneg W p d
        rw [oct_zero (W := W) (a := p) (b := d) (by omega) (by omega)]
        exact Tw.nil
      | succ n ih =>
        intro p hp hn
        by_cases e : p = d
        · rw [e]; exact Tw.nil
        · obtain ⟨j, q, ej, gj, hq⟩ := On.next w1 hS hD hp e
          obtain ⟨i1, i2⟩ := (good_iff w1 ej).1 gj
          have sj := st_bd j
          obtain ⟨j', eb, b1, b2⟩ := Edge.back w1 _ _ _ ej
          have tq := ih q hq (by omega)
          obtain ⟨q1, q2, q3, q4⟩ := hq.walks w1 hS hD
          obtain ⟨p1, p2, p3, p4⟩ := hp.walks w1 hS hD
          refine tq.step (mv q j' p hq eb) ((good_iff w1 eb).2 ?_)
          rw [b1, b2, octS_comm W p c, octS_comm W q c, octD_comm W p c, octD_comm W q c]
          rw [octS_comm W q d, octS_comm W p d] at i1
          rw [octD_comm W q d, octD_comm W p d] at i2
          omega
    exact fun p hp => key (octS W p d + octD W p d).toNat p hp (by omega)
  refine ⟨far_corn hbl (far d od) hd, ⟨z, thr z hz, rht z hz⟩, fun k hk hcn => ?_⟩
  have hk' := fwd k hk.1
  exact h.2 k hk' (far_corn (fun n hn => (hbl n hn).symm) (far k hk') hcn)
end
end Go.Proofs.YtcagpmglijockaaDoor
/-
  What is come to by steps away from a cell, layer by layer, and what of it lies behind a corner.
-/
namespace Go.Proofs.YtcagpmglijockaaDoor

/-- how many steps if nothing is in the way -/
def octN (W a b : Int) : Int := octS W a b + octD W a b
theorem octN_nonneg (W a b : Int) : 0 ≤ octN W a b := by
  have := octS_nonneg W a b
  have := octD_nonneg W a b
  unfold octN; omega
theorem octN_self (W a : Int) : octN W a a = 0 := by unfold octN; rw [octS_self, octD_self]; rfl
theorem opp_opp {k : Nat} (h : k < 8) : opp (opp k) = k := by unfold opp; omega

section
variable {W H : Int} {bl : Nat → Bool} {a : Int}
theorem Edge.opp {c r : Int} {k : Nat} (w1 : 1 ≤ W) (e : Edge W H bl c k r) : Edge W H bl r (opp k) c := by
  obtain ⟨p1, p2⟩ := e.place w1
  have hin := e.in' w1
  obtain ⟨h1, h2, h3, h4⟩ := e
  refine ⟨opp_lt k, hin, ?_, ?_⟩
  · rw [p1, p2]; exact may_back h1 h3
  · rw [h4]; exact (back_home h1).symm

/-- as near as if nothing were in the way -/
def Nr (W H : Int) (bl : Nat → Bool) (a b : Int) : Prop := Wk (Edge W H bl) a b (octS W a b) (octD W a b)
theorem Nr.self : Nr W H bl a a := by unfold Nr; rw [octS_self, octD_self]; exact Wk.nil
theorem Nr.of_on (w1 : 1 ≤ W) {b z : Int} (hS : octS W a b ≤ 1000) (hD : octD W a b ≤ 1000) (h : On W H bl a b z) : Nr W H bl a b := (h.ends w1 hS hD).2.2
theorem Nr.on (w1 : 1 ≤ W) {b : Int} (hS : octS W a b ≤ 1000) (hD : octD W a b ≤ 1000) (h : Nr W H bl a b) : On W H bl a b b := On.of_near w1 hS hD h

/-- a step away costs what one is farther off -/
theorem Og.far {c r : Int} {k : Nat} (w1 : 1 ≤ W) (h : Og W H bl a c k r) : octS W a c + stS k = octS W a r ∧ octD W a c + stD k = octD W a r := by
  obtain ⟨g1, g2⟩ := (good_iff w1 (h.1.opp w1)).1 h.2
  obtain ⟨s1, s2⟩ := st_opp k
  rw [s1, octS_comm W c a, octS_comm W r a] at g1
  rw [s2, octD_comm W c a, octD_comm W r a] at g2
  exact ⟨g1, g2⟩
theorem Og.next {c r : Int} {k : Nat} (w1 : 1 ≤ W) (h : Og W H bl a c k r) : octN W a c + 1 = octN W a r := by
  obtain ⟨g1, g2⟩ := h.far w1
  have := st_bd k
  unfold octN
  omega
theorem Nr.out {c r : Int} {k : Nat} (w1 : 1 ≤ W) (h : Nr W H bl a c) (o : Og W H bl a c k r) : Nr W H bl a r := by
  obtain ⟨g1, g2⟩ := o.far w1
  have := h.step o.1
  rw [g1, g2] at this
  exact this
theorem Og.on {c r : Int} {k : Nat} (w1 : 1 ≤ W) (hS : octS W a r ≤ 1000) (hD : octD W a r ≤ 1000) (h : Nr W H bl a c) (o : Og W H bl a c k r) : On W H bl a r c := by
  obtain ⟨g1, g2⟩ := o.far w1
  obtain ⟨s1, s2⟩ := st_opp k
  have hb := wk_edge (o.1.opp w1)
  rw [s1, s2] at hb
  exact On.of_walks w1 hS hD h hb g1 g2
/-- whoever is on a way and is not its end has one behind it -/
theorem Og.prev {r q : Int} (w1 : 1 ≤ W) (hS : octS W a r ≤ 1000) (hD : octD W a r ≤ 1000) (h : On W H bl a r q) (hne : q ≠ r) :
    ∃ c k, Nr W H bl a c ∧ Og W H bl a c k r ∧ On W H bl a c q := by
  have hS' : octS W r a ≤ 1000 := by rw [octS_comm]; exact hS
  have hD' : octD W r a ≤ 1000 := by rw [octD_comm]; exact hD
  obtain ⟨h1, h2, h3, h4⟩ := h.walks w1 hS hD
  have n1 := octS_nonneg W a q
  have n2 := octD_nonneg W a q
  have qS : octS W r q ≤ 1000 := by omega
  have qD : octD W r q ≤ 1000 := by omega
  -- the first step back from r towards q
  have hon : On W H bl r q r := (On.of_near w1 qS qD h2).ends w1 qS qD |>.1
  obtain ⟨j, c, ej, gj, hc⟩ := On.next w1 qS qD hon (Ne.symm hne)
  obtain ⟨g1, g2⟩ := (good_iff w1 ej).1 gj
  obtain ⟨c1, c2, c3, c4⟩ := hc.walks w1 qS qD
  rw [octS_comm W c q, octS_comm W r q] at g1
  rw [octD_comm W c q, octD_comm W r q] at g2
  rw [octS_comm W r q] at c3
  rw [octD_comm W r q] at c4
  have hra : On W H bl r a c := On.trans w1 hS' hD' h.sym hc
  obtain ⟨d1, d2, d3, d4⟩ := hra.walks w1 hS' hD'
  have hj := ej.1
  refine ⟨c, opp j, d2, ⟨ej.opp w1, ?_⟩, ?_⟩
  · rw [opp_opp hj]
    refine (good_iff w1 ej).2 ⟨?_, ?_⟩
    · rw [octS_comm W c a]; omega
    · rw [octD_comm W c a]; omega
  · rw [octS_comm W r q] at h3
    rw [octD_comm W r q] at h4
    rw [octS_comm W r a] at d3
    rw [octD_comm W r a] at d4
    have m1 := octS_nonneg W r c
    have m2 := octD_nonneg W r c
    refine On.of_walks w1 (by omega) (by omega) h1 (c2.back (Edge.back w1)) ?_ ?_
    · omega
    · omega
theorem Nr.prev {r : Int} (w1 : 1 ≤ W) (hS : octS W a r ≤ 1000) (hD : octD W a r ≤ 1000) (h : Nr W H bl a r) (hne : r ≠ a) : ∃ c k, Nr W H bl a c ∧ Og W H bl a c k r := by
  obtain ⟨c, k, h1, h2, _⟩ := Og.prev w1 hS hD ((h.on w1 hS hD).ends w1 hS hD).1 (Ne.symm hne)
  exact ⟨c, k, h1, h2⟩

/-- it lies behind a corner -/
def Bhd (W H : Int) (bl : Nat → Bool) (a r : Int) : Prop := ∃ q, On W H bl a r q ∧ CornC W H bl q ∧ q ≠ a ∧ q ≠ r
theorem Bhd.iff {r : Int} (w1 : 1 ≤ W) (hS : octS W a r ≤ 1000) (hD : octD W a r ≤ 1000) :
    Bhd W H bl a r ↔ ∃ c k, Nr W H bl a c ∧ Og W H bl a c k r ∧ (Bhd W H bl a c ∨ (CornC W H bl c ∧ c ≠ a)) := by
  constructor
  · rintro ⟨q, hq, hc, h1, h2⟩
    obtain ⟨c, k, hn, ho, hon⟩ := Og.prev w1 hS hD hq h2
    refine ⟨c, k, hn, ho, ?_⟩
    by_cases e : q = c
    · rw [e] at hc h1
      exact Or.inr ⟨hc, h1⟩
    · exact Or.inl ⟨q, hon, hc, h1, e⟩
  · rintro ⟨c, k, hn, ho, hb⟩
    have hon := ho.on w1 hS hD hn
    have hlt := ho.next w1
    rcases hb with ⟨q, hq, hc, h1, h2⟩ | ⟨hc, h1⟩
    · refine ⟨q, On.trans w1 hS hD hon hq, hc, h1, fun e => ?_⟩
      obtain ⟨g1, g2⟩ := ho.far w1
      have := st_bd k
      obtain ⟨_, _, q3, q4⟩ := hq.walks w1 (by omega) (by omega)
      have n1 := octS_nonneg W c q
      have n2 := octD_nonneg W c q
      rw [e] at q3 q4 n1 n2
      unfold octN at hlt
      omega
    · exact ⟨c, hon, hc, h1, fun e => by rw [e] at hlt; omega⟩
theorem Bhd.not_self (w1 : 1 ≤ W) : ¬ Bhd W H bl a a := by
  rintro ⟨q, hq, hc, h1, _⟩
  rcases (Dir.self (H := H) (bl := bl) w1).2 q hq hc with e | e <;> exact h1 e
theorem Dir.iff {r : Int} (w1 : 1 ≤ W) (hS : octS W a r ≤ 1000) (hD : octD W a r ≤ 1000) : Dir W H bl a r ↔ Nr W H bl a r ∧ ¬ Bhd W H bl a r := by
  constructor
  · rintro ⟨⟨z, hz⟩, h⟩
    refine ⟨Nr.of_on w1 hS hD hz, ?_⟩
    rintro ⟨q, hq, hc, h1, h2⟩
    rcases h q hq hc with e | e
    · exact h1 e
    · exact h2 e
  · rintro ⟨hn, hb⟩
    refine ⟨⟨r, hn.on w1 hS hD⟩, fun q hq hc => ?_⟩
    by_cases e1 : q = a
    · exact Or.inl e1
    · by_cases e2 : q = r
      · exact Or.inr e2
      · exact absurd ⟨q, hq, hc, e1, e2⟩ hb

theorem Nr.in (w1 : 1 ≤ W) (ha : inB W H a = true) {r : Int} (h : Nr W H bl a r) : inB W H r = true := wk_in' w1 ha h
theorem octN_zero {r : Int} (h : octN W a r = 0) : r = a := by
  have n1 := octS_nonneg W a r
  have n2 := octD_nonneg W a r
  unfold octN at h
  exact (oct_zero (W := W) (a := a) (b := r) (by omega) (by omega)).symm
/-- where one can come to there is one of each layer before -/
theorem Nr.mid (w1 : 1 ≤ W) (hbd : ∀ r, Nr W H bl a r → octS W a r ≤ 1000 ∧ octD W a r ≤ 1000) : ∀ (n : Nat) (r : Int), Nr W H bl a r → octN W a r = n → ∀ i : Nat, i ≤ n → ∃ z, Nr W H bl a z ∧ octN W a z = i := by
  intro n
  induction n with
  | zero => intro r hr hn i hi; exact ⟨r, hr, by omega⟩
  | succ n ih =>
    intro r hr hn i hi
    by_cases e : i = n + 1
    · exact ⟨r, hr, by omega⟩
    · have hne : r ≠ a := fun e => by rw [e, octN_self] at hn; omega
      obtain ⟨h1, h2⟩ := hbd r hr
      obtain ⟨c, k, hc, ho⟩ := hr.prev w1 h1 h2 hne
      have := ho.next w1
      exact ih c hc (by omega) i (by omega)
theorem Tw.in {t z : Int} (w1 : 1 ≤ W) (ha : inB W H a = true) (h : Tw W H bl a t z) : inB W H z = true :=
  h (fun z => inB W H z = true) ha (fun _ _ _ _ e _ => e.in' w1)
theorem On.in_b {b z : Int} (w1 : 1 ≤ W) (ha : inB W H a = true) (h : On W H bl a b z) : inB W H b = true := by
  have q : z = b ∨ inB W H b = true := h.2 (fun z => z = b ∨ inB W H b = true) (Or.inl rfl) (fun p k r hp e _ => by
    rcases hp with rfl | hp
    · exact Or.inr e.2.1
    · exact Or.inr hp)
  rcases q with e | e
  · rw [← e]; exact h.1.in w1 ha
  · exact e
theorem Dir.in {b : Int} (w1 : 1 ≤ W) (ha : inB W H a = true) (h : Dir W H bl a b) : inB W H b = true := by
  obtain ⟨z, hz⟩ := h.1
  exact hz.in_b w1 ha
end
end Go.Proofs.YtcagpmglijockaaDoor
/-
  The contracts of the Go library that this claim leans on (sorting, the keys of a map), laid at this program: each field a fact of the program or the kernel's comparison.
-/
namespace Go.Proofs.YtcagpmglijockaaDoor
open Go.Shelf
def Tryd.keysA_ren : Go.Shelf.Ren := ⟨fun | 7 => 23 | 10 => 37 | n => n, fun | 23 => 57 | 26 => 3 | 3 => 47 | 28 => 64 | 0 => 0 | 27 => 63 | 33 => 52 | 4 => 4 | n => n, fun | n => n⟩
theorem Tryd.keysA : Go.Proofs.SlLaysZI.n7 Tryd.prog Tryd.keysA_ren := {
  mixed := by kernel_rfl
  f7 := ⟨Tryd.f23.name, by decide, Tryd.func23.trans (congrArg some (by kernel_rfl))⟩
  f10 := ⟨Tryd.f37.name, by decide, Tryd.func37.trans (congrArg some (by kernel_rfl))⟩
  t0 := Tryd.underlying0
  a0 := Tryd.isAgg0
  z0 := Tryd.sizeOf0
  v0 := Tryd.zeroValue0
  t4 := Tryd.underlying4
  a4 := Tryd.isAgg4
  z4 := Tryd.sizeOf4
  v4 := Tryd.zeroValue4
  t23 := Tryd.underlying57
  a23 := Tryd.isAgg57
  z23 := Tryd.sizeOf57
  v23 := Tryd.zeroValue57
  t26 := Tryd.underlying3
  a26 := Tryd.isAgg3
  z26 := Tryd.sizeOf3
  v26 := Tryd.zeroValue3
  t27 := Tryd.underlying63
  a27 := Tryd.isAgg63
  z27 := Tryd.sizeOf63
  v27 := Tryd.zeroValue63
  t28 := Tryd.underlying64
  a28 := Tryd.isAgg64
  z28 := Tryd.sizeOf64
  v28 := Tryd.zeroValue64
  t33 := Tryd.underlying52
  a33 := Tryd.isAgg52
  z33 := Tryd.sizeOf52
  v33 := Tryd.zeroValue52 }
def Tryd.sortedA_ren : Go.Shelf.Ren := ⟨fun | 6 => 22 | 8 => 35 | 9 => 36 | 11 => 47 | 13 => 49 | 12 => 48 | 23 => 67 | 24 => 68 | 14 => 58 | 15 => 59 | 16 => 60 | 17 => 61 | 18 => 62 | 19 => 63 | 20 => 64 | 21 => 65 | 22 => 66 | 25 => 73 | 26 => 74 | 27 => 75 | 28 => 76 | 29 => 77 | 30 => 78 | 31 => 83 | n => n, fun | 26 => 3 | 28 => 64 | 24 => 22 | 0 => 0 | 3 => 3 | 37 => 103 | 48 => 121 | 50 => 123 | 4 => 4 | 40 => 114 | 39 => 113 | 45 => 118 | 5 => 5 | 9 => 9 | 51 => 128 | 55 => 132 | 57 => 135 | 58 => 105 | 33 => 52 | n => n, fun | n => n⟩
theorem Tryd.sortedA : Go.Proofs.SlLaysZI.n6 Tryd.prog Tryd.sortedA_ren := {
  mixed := by kernel_rfl
  f6 := ⟨Tryd.f22.name, by decide, Tryd.func22.trans (congrArg some (by kernel_rfl))⟩
  f8 := ⟨Tryd.f35.name, by decide, Tryd.func35.trans (congrArg some (by kernel_rfl))⟩
  f11 := ⟨Tryd.f47.name, by decide, Tryd.func47.trans (congrArg some (by kernel_rfl))⟩
  t0 := Tryd.underlying0
  a0 := Tryd.isAgg0
  z0 := Tryd.sizeOf0
  v0 := Tryd.zeroValue0
  t24 := Tryd.underlying22
  a24 := Tryd.isAgg22
  z24 := Tryd.sizeOf22
  v24 := Tryd.zeroValue22
  t26 := Tryd.underlying3
  a26 := Tryd.isAgg3
  z26 := Tryd.sizeOf3
  v26 := Tryd.zeroValue3
  t28 := Tryd.underlying64
  a28 := Tryd.isAgg64
  z28 := Tryd.sizeOf64
  v28 := Tryd.zeroValue64
  i26 := by kernel_rfl }
def Tryd.sortA_ren : Go.Shelf.Ren := ⟨fun | 5 => 36 | 8 => 49 | 7 => 48 | 19 => 67 | 20 => 68 | 10 => 58 | 11 => 59 | 12 => 60 | 13 => 61 | 14 => 62 | 15 => 63 | 16 => 64 | 17 => 65 | 18 => 66 | 30 => 73 | 31 => 74 | 32 => 75 | 33 => 76 | 34 => 77 | 35 => 78 | 40 => 83 | n => n, fun | 23 => 22 | 25 => 3 | 3 => 3 | 32 => 103 | 22 => 22 | 0 => 0 | 44 => 121 | 46 => 123 | 4 => 4 | 36 => 114 | 35 => 113 | 41 => 118 | 5 => 5 | 9 => 9 | 53 => 128 | 57 => 132 | 63 => 135 | 64 => 105 | n => n, fun | n => n⟩
theorem Tryd.sortA : Go.Proofs.SlLaysM.n5 Tryd.prog Tryd.sortA_ren := {
  mixed := by kernel_rfl
  f5 := ⟨Tryd.f36.name, by decide, Tryd.func36.trans (congrArg some (by kernel_rfl))⟩
  f7 := ⟨Tryd.f48.name, by decide, Tryd.func48.trans (congrArg some (by kernel_rfl))⟩
  f8 := Tryd.func49.trans (congrArg some (by kernel_rfl))
  f10 := ⟨Tryd.f58.name, by decide, Tryd.func58.trans (congrArg some (by kernel_rfl))⟩
  f11 := ⟨Tryd.f59.name, by decide, Tryd.func59.trans (congrArg some (by kernel_rfl))⟩
  f12 := ⟨Tryd.f60.name, by decide, Tryd.func60.trans (congrArg some (by kernel_rfl))⟩
  f13 := ⟨Tryd.f61.name, by decide, Tryd.func61.trans (congrArg some (by kernel_rfl))⟩
  f14 := ⟨Tryd.f62.name, by decide, Tryd.func62.trans (congrArg some (by kernel_rfl))⟩
  f15 := ⟨Tryd.f63.name, by decide, Tryd.func63.trans (congrArg some (by kernel_rfl))⟩
  f16 := ⟨Tryd.f64.name, by decide, Tryd.func64.trans (congrArg some (by kernel_rfl))⟩
  f17 := ⟨Tryd.f65.name, by decide, Tryd.func65.trans (congrArg some (by kernel_rfl))⟩
  f18 := ⟨Tryd.f66.name, by decide, Tryd.func66.trans (congrArg some (by kernel_rfl))⟩
  f19 := Tryd.func67.trans (congrArg some (by kernel_rfl))
  f20 := Tryd.func68.trans (congrArg some (by kernel_rfl))
  f30 := ⟨Tryd.f73.name, by decide, Tryd.func73.trans (congrArg some (by kernel_rfl))⟩
  f31 := Tryd.func74.trans (congrArg some (by kernel_rfl))
  f32 := Tryd.func75.trans (congrArg some (by kernel_rfl))
  f33 := ⟨Tryd.f76.name, by decide, Tryd.func76.trans (congrArg some (by kernel_rfl))⟩
  f34 := ⟨Tryd.f77.name, by decide, Tryd.func77.trans (congrArg some (by kernel_rfl))⟩
  f35 := ⟨Tryd.f78.name, by decide, Tryd.func78.trans (congrArg some (by kernel_rfl))⟩
  f40 := ⟨Tryd.f83.name, by decide, Tryd.func83.trans (congrArg some (by kernel_rfl))⟩
  t0 := Tryd.underlying0
  a0 := Tryd.isAgg0
  z0 := Tryd.sizeOf0
  v0 := Tryd.zeroValue0
  t3 := Tryd.underlying3
  a3 := Tryd.isAgg3
  z3 := Tryd.sizeOf3
  v3 := Tryd.zeroValue3
  t4 := Tryd.underlying4
  a4 := Tryd.isAgg4
  z4 := Tryd.sizeOf4
  v4 := Tryd.zeroValue4
  t5 := Tryd.underlying5
  a5 := Tryd.isAgg5
  z5 := Tryd.sizeOf5
  v5 := Tryd.zeroValue5
  t9 := Tryd.underlying9
  a9 := Tryd.isAgg9
  z9 := Tryd.sizeOf9
  v9 := Tryd.zeroValue9
  t22 := Tryd.underlying22
  a22 := Tryd.isAgg22
  z22 := Tryd.sizeOf22
  v22 := Tryd.zeroValue22
  t23 := Tryd.underlying22
  a23 := Tryd.isAgg22
  z23 := Tryd.sizeOf22
  v23 := Tryd.zeroValue22
  t25 := Tryd.underlying3
  a25 := Tryd.isAgg3
  z25 := Tryd.sizeOf3
  v25 := Tryd.zeroValue3
  t32 := Tryd.underlying103
  a32 := Tryd.isAgg103
  z32 := Tryd.sizeOf103
  v32 := Tryd.zeroValue103
  t35 := Tryd.underlying113
  a35 := Tryd.isAgg113
  z35 := Tryd.sizeOf113
  v35 := Tryd.zeroValue113
  t36 := Tryd.underlying114
  a36 := Tryd.isAgg114
  z36 := Tryd.sizeOf114
  v36 := Tryd.zeroValue114
  t41 := Tryd.underlying118
  a41 := Tryd.isAgg118
  z41 := Tryd.sizeOf118
  v41 := Tryd.zeroValue118
  t44 := Tryd.underlying121
  a44 := Tryd.isAgg121
  z44 := Tryd.sizeOf121
  v44 := Tryd.zeroValue121
  t46 := Tryd.underlying123
  a46 := Tryd.isAgg123
  z46 := Tryd.sizeOf123
  v46 := Tryd.zeroValue123
  t53 := Tryd.underlying128
  a53 := Tryd.isAgg128
  z53 := Tryd.sizeOf128
  v53 := Tryd.zeroValue128
  t57 := Tryd.underlying132
  a57 := Tryd.isAgg132
  z57 := Tryd.sizeOf132
  v57 := Tryd.zeroValue132
  t63 := Tryd.underlying135
  a63 := Tryd.isAgg135
  z63 := Tryd.sizeOf135
  v63 := Tryd.zeroValue135
  t64 := Tryd.underlying105
  a64 := Tryd.isAgg105
  z64 := Tryd.sizeOf105
  v64 := Tryd.zeroValue105 }
end Go.Proofs.YtcagpmglijockaaDoor
