/-
  Texts laid together: LvFind, Rep.
-/
import Derived.Test.YtmnpplkjhnoglaaGreatDoorP27
import Derived.Test.YtmnpplkjhnoglaaGreatDoorRows
import Derived.RegionTactic
import Derived.BigRegion
import Derived.Laws.OwnMore
/-
  The edges that fit: package levels' 'find', with its three closures.
-/
namespace Go.Proofs.YtmnpplkjhnoglaaGreatDoor
open Go.RowKit

set_option maxHeartbeats 2000000 in
set_option maxRecDepth 1000000 in
theorem find_added {cap : Nat} {A : Option Addr} {l : List LE} {p : LE → Bool} (w : World) (hrow : RowL w A l) (hl : l.length ≤ 256)
    (hC : ∀ (w' : World) (e : LE), Below w.heap.size w w' → e ∈ l → Calls Tryz.prog 54 #[.agg #[.int .i64 (e.to : Int), .int .i64 e.s, .int .i64 e.d, .int .i64 e.mid]] w' fun r w'' => r = .returned (.bool (p e)) ∧ Below w'.heap.size w' w'') :
    Calls Tryz.prog 53 #[.slice A l.length cap, .func (.func 54) #[] #[]] w fun e w' => ∃ v, e = .returned v ∧ w'.ownsRow w.heap.size 67 4 v (l.filter p).length (lesV (l.filter p)) ∧ Below w.heap.size w w' := by
  obtain ⟨i0, hi, hz0, hz1, hz2⟩ := info_parts Tryz.infoE
  have HC : Hid (∀ (w' : World) (e : LE), Below w.heap.size w w' → e ∈ l → Calls Tryz.prog 54 #[.agg #[.int .i64 (e.to : Int), .int .i64 e.s, .int .i64 e.d, .int .i64 e.mid]] w' fun r w'' => r = .returned (.bool (p e)) ∧ Below w'.heap.size w' w'') := hC
  clear hC
  go_enter Tryz.func53, Tryz.ntmps53
  go_wp2
  go_loopw [5, 10] (fun fv iv wr => ∃ k : Nat, k ≤ l.length ∧ iv = .int .i64 k ∧ wr.ownsRow w.heap.size 67 4 fv (pickL p l k).length (lesV (pickL p l k)) ∧ Below w.heap.size w wr)
    (fun _ i _ => l.length - (intOf i).toNat)
  case atStart => exact ⟨0, Nat.zero_le _, rfl, World.ownsRow_nil _ _ _ _, Below.refl _ _⟩
  case round =>
    obtain ⟨k, hk, rfl, hown, hB⟩ := hrel
    by_cases hlt : k < l.length
    · obtain ⟨e, he⟩ : ∃ e, l[k]? = some e := ⟨l[k], by simp [hlt]⟩
      obtain ⟨b, o, rfl, q1, q2, q3, q4⟩ := (hrow.below hB) k e he
      have hem : e ∈ l := List.mem_of_getElem? he
      have i1 : (0 : Int) ≤ (k : Int) := by omega
      have i2 : (k : Int) < (l.length : Int) := by omega
      have hbz := hB.size
      have B0 : Below w.heap.size w (wr.alloc (.cells #[.int .i64 (e.to : Int), .int .i64 e.s, .int .i64 e.d, .int .i64 e.mid] 67)) := hB.alloc hbz _
      have b0 : Below wr.heap.size wr (wr.alloc (.cells #[.int .i64 (e.to : Int), .int .i64 e.s, .int .i64 e.d, .int .i64 e.mid] 67)) := (Below.refl _ _).alloc (Nat.le_refl _) _
      have hcl := HC.out (wr.alloc (.cells #[.int .i64 (e.to : Int), .int .i64 e.s, .int .i64 e.d, .int .i64 e.mid] 67)) e B0 hem
      have hfl : (pickL p l k).length ≤ 256 := Nat.le_trans pickL_len hl
      have hown0 := own_below hown b0
      have x0 : (wr.alloc (.cells #[.int .i64 (e.to : Int), .int .i64 e.s, .int .i64 e.d, .int .i64 e.mid] 67)).cell? ⟨wr.heap.size, 0, none⟩ = some (.int .i64 (e.to : Int)) := World.cell?_alloc_at _ _ _ 0 rfl
      have x1 : (wr.alloc (.cells #[.int .i64 (e.to : Int), .int .i64 e.s, .int .i64 e.d, .int .i64 e.mid] 67)).cell? ⟨wr.heap.size, 1, none⟩ = some (.int .i64 e.s) := World.cell?_alloc_at _ _ _ 1 rfl
      have x2 : (wr.alloc (.cells #[.int .i64 (e.to : Int), .int .i64 e.s, .int .i64 e.d, .int .i64 e.mid] 67)).cell? ⟨wr.heap.size, 2, none⟩ = some (.int .i64 e.d) := World.cell?_alloc_at _ _ _ 2 rfl
      have x3 : (wr.alloc (.cells #[.int .i64 (e.to : Int), .int .i64 e.s, .int .i64 e.d, .int .i64 e.mid] 67)).cell? ⟨wr.heap.size, 3, none⟩ = some (.int .i64 e.mid) := World.cell?_alloc_at _ _ _ 3 rfl
      have HEV : Hid (leV e = [.int .i64 (e.to : Int), .int .i64 e.s, .int .i64 e.d, .int .i64 e.mid]) := rfl
      have hno := fun h => pickL_no (p := p) he h
      have hys := fun h => pickL_yes (p := p) he h
      generalize hpe : p e = pe at *
      have HNO : Hid (pe = false → pickL p l (k + 1) = pickL p l k) := hno
      have HYS : Hid (pe = true → pickL p l (k + 1) = pickL p l k ++ [e]) := hys
      clear hno hys hpe hem he hown b0 hB
      generalize (e.to : Int) = et at *
      generalize e.s = es at *
      generalize e.d = ed at *
      generalize e.mid = em at *
      have hX : w.heap.size ≤ wr.heap.size := hbz
      cases pe with
      | false =>
        have HS : Hid (pickL p l (k + 1) = pickL p l k) := HNO.out rfl
        clear HNO HYS
        go_wp2_with fail
        generalize wr.alloc (.cells #[.int .i64 et, .int .i64 es, .int .i64 ed, .int .i64 em] 67) = w1 at *
        refine hcl.mono ?_
        rintro r w2 ⟨rfl, hb2⟩
        have hown2 := own_below hown0 hb2
        have B2 := B0.trans (hb2.mono B0.size)
        clear hcl hown0 hb2 x0 x1 x2 x3 B0
        go_wp2
        go_roundw
        case rel => exact ⟨k + 1, by omega, by go_num, by rw [HS.out]; exact hown2, B2⟩
        case measure => simp [intOf]; omega
      | true =>
        have HS : Hid (pickL p l (k + 1) = pickL p l k ++ [e]) := HYS.out rfl
        clear HNO HYS
        generalize pickL p l k = F at *
        go_wp2_with fail
        generalize wr.alloc (.cells #[.int .i64 et, .int .i64 es, .int .i64 ed, .int .i64 em] 67) = w1 at *
        refine hcl.mono ?_
        rintro r w2 ⟨rfl, hb2⟩
        have hown3 := own_below hown0 hb2
        have B3 := B0.trans (hb2.mono B0.size)
        have y0 := (hb2.cell (World.block_lt_of_cell? _ _ x0)).trans x0
        have y1 := (hb2.cell (World.block_lt_of_cell? _ _ x1)).trans x1
        have y2 := (hb2.cell (World.block_lt_of_cell? _ _ x2)).trans x2
        have y3 := (hb2.cell (World.block_lt_of_cell? _ _ x3)).trans x3
        have hz3 := B3.size
        clear hcl hown0 hb2 x0 x1 x2 x3 B0
        go_wp2_with (at_builtin; refine wpList_append_own _ rfl _ _ 52 rfl w.heap.size 67 i0 (.agg #[.int .i64 0, .int .i64 0, .int .i64 0, .int .i64 0]) 4 32 Tryz.underE hi hz0 hz1 hz2 rfl (by decide) _ _ _ rfl (hown3.alloc _) ⟨w2.heap.size, 0, none⟩ 1 1 [.int .i64 et, .int .i64 es, .int .i64 ed, .int .i64 em] rfl rfl (cell_four_new _ _ _ _ _ _) (by intro u hu; simp at hu; rcases hu with rfl | rfl | rfl | rfl <;> rfl) ?c3 ?c4 ?c5 ?_)
        case c3 => unfold maxLen; omega
        case c4 => omega
        case c5 => simp; omega
        intro v' w4 hown' hgrow _
        have hbase := fun q hq => (hown3.lt q hq).1
        have B4 : Below w.heap.size w w4 := (B3.alloc hz3 _).grown hgrow (by simp; omega) hbase
        have O4 : w4.ownsRow w.heap.size 67 4 v' (F ++ [e]).length (lesV (F ++ [e])) := by
          rw [lesV_app, lesV_one, HEV.out]
          simpa using hown'
        clear hown' hgrow hown3 B3 y0 y1 y2 y3
        go_wp2
        go_roundw
        case rel => exact ⟨k + 1, by omega, by go_num, by rw [HS.out]; exact O4, B4⟩
        case measure => simp [intOf]; omega
    · have e : k = l.length := by omega
      subst e
      have HF : Hid (pickL p l l.length = l.filter p) := pickL_all
      rw [HF.out] at hown
      go_wp2
      go_ret
      exact ⟨_, rfl, hown, hB⟩

set_option maxHeartbeats 2000000 in
set_option maxRecDepth 1000000 in
theorem find_open {xb cap : Nat} {A : Option Addr} {l : List LE} {p : LE → Bool} (w : World) (hrow : RowL w A l) (hl : l.length ≤ 256)
    (hC : ∀ (w' : World) (e : LE), Below w.heap.size w w' → e ∈ l → Calls Tryz.prog 119 #[.agg #[.int .i64 (e.to : Int), .int .i64 e.s, .int .i64 e.d, .int .i64 e.mid], .pointer (some ⟨xb, 0, none⟩)] w' fun r w'' => r = .returned (.bool (p e)) ∧ Below w'.heap.size w' w'') :
    Calls Tryz.prog 53 #[.slice A l.length cap, .func (.func 119) #[] #[.pointer (some ⟨xb, 0, none⟩)]] w fun e w' => ∃ v, e = .returned v ∧ w'.ownsRow w.heap.size 67 4 v (l.filter p).length (lesV (l.filter p)) ∧ Below w.heap.size w w' := by
  obtain ⟨i0, hi, hz0, hz1, hz2⟩ := info_parts Tryz.infoE
  have HC : Hid (∀ (w' : World) (e : LE), Below w.heap.size w w' → e ∈ l → Calls Tryz.prog 119 #[.agg #[.int .i64 (e.to : Int), .int .i64 e.s, .int .i64 e.d, .int .i64 e.mid], .pointer (some ⟨xb, 0, none⟩)] w' fun r w'' => r = .returned (.bool (p e)) ∧ Below w'.heap.size w' w'') := hC
  clear hC
  go_enter Tryz.func53, Tryz.ntmps53
  go_wp2
  go_loopw [5, 10] (fun fv iv wr => ∃ k : Nat, k ≤ l.length ∧ iv = .int .i64 k ∧ wr.ownsRow w.heap.size 67 4 fv (pickL p l k).length (lesV (pickL p l k)) ∧ Below w.heap.size w wr)
    (fun _ i _ => l.length - (intOf i).toNat)
  case atStart => exact ⟨0, Nat.zero_le _, rfl, World.ownsRow_nil _ _ _ _, Below.refl _ _⟩
  case round =>
    obtain ⟨k, hk, rfl, hown, hB⟩ := hrel
    by_cases hlt : k < l.length
    · obtain ⟨e, he⟩ : ∃ e, l[k]? = some e := ⟨l[k], by simp [hlt]⟩
      obtain ⟨b, o, rfl, q1, q2, q3, q4⟩ := (hrow.below hB) k e he
      have hem : e ∈ l := List.mem_of_getElem? he
      have i1 : (0 : Int) ≤ (k : Int) := by omega
      have i2 : (k : Int) < (l.length : Int) := by omega
      have hbz := hB.size
      have B0 : Below w.heap.size w (wr.alloc (.cells #[.int .i64 (e.to : Int), .int .i64 e.s, .int .i64 e.d, .int .i64 e.mid] 67)) := hB.alloc hbz _
      have b0 : Below wr.heap.size wr (wr.alloc (.cells #[.int .i64 (e.to : Int), .int .i64 e.s, .int .i64 e.d, .int .i64 e.mid] 67)) := (Below.refl _ _).alloc (Nat.le_refl _) _
      have hcl := HC.out (wr.alloc (.cells #[.int .i64 (e.to : Int), .int .i64 e.s, .int .i64 e.d, .int .i64 e.mid] 67)) e B0 hem
      have hfl : (pickL p l k).length ≤ 256 := Nat.le_trans pickL_len hl
      have hown0 := own_below hown b0
      have x0 : (wr.alloc (.cells #[.int .i64 (e.to : Int), .int .i64 e.s, .int .i64 e.d, .int .i64 e.mid] 67)).cell? ⟨wr.heap.size, 0, none⟩ = some (.int .i64 (e.to : Int)) := World.cell?_alloc_at _ _ _ 0 rfl
      have x1 : (wr.alloc (.cells #[.int .i64 (e.to : Int), .int .i64 e.s, .int .i64 e.d, .int .i64 e.mid] 67)).cell? ⟨wr.heap.size, 1, none⟩ = some (.int .i64 e.s) := World.cell?_alloc_at _ _ _ 1 rfl
      have x2 : (wr.alloc (.cells #[.int .i64 (e.to : Int), .int .i64 e.s, .int .i64 e.d, .int .i64 e.mid] 67)).cell? ⟨wr.heap.size, 2, none⟩ = some (.int .i64 e.d) := World.cell?_alloc_at _ _ _ 2 rfl
      have x3 : (wr.alloc (.cells #[.int .i64 (e.to : Int), .int .i64 e.s, .int .i64 e.d, .int .i64 e.mid] 67)).cell? ⟨wr.heap.size, 3, none⟩ = some (.int .i64 e.mid) := World.cell?_alloc_at _ _ _ 3 rfl
      have HEV : Hid (leV e = [.int .i64 (e.to : Int), .int .i64 e.s, .int .i64 e.d, .int .i64 e.mid]) := rfl
      have hno := fun h => pickL_no (p := p) he h
      have hys := fun h => pickL_yes (p := p) he h
      generalize hpe : p e = pe at *
      have HNO : Hid (pe = false → pickL p l (k + 1) = pickL p l k) := hno
      have HYS : Hid (pe = true → pickL p l (k + 1) = pickL p l k ++ [e]) := hys
      clear hno hys hpe hem he hown b0 hB
      generalize (e.to : Int) = et at *
      generalize e.s = es at *
      generalize e.d = ed at *
      generalize e.mid = em at *
      have hX : w.heap.size ≤ wr.heap.size := hbz
      cases pe with
      | false =>
        have HS : Hid (pickL p l (k + 1) = pickL p l k) := HNO.out rfl
        clear HNO HYS
        go_wp2_with fail
        generalize wr.alloc (.cells #[.int .i64 et, .int .i64 es, .int .i64 ed, .int .i64 em] 67) = w1 at *
        refine hcl.mono ?_
        rintro r w2 ⟨rfl, hb2⟩
        have hown2 := own_below hown0 hb2
        have B2 := B0.trans (hb2.mono B0.size)
        clear hcl hown0 hb2 x0 x1 x2 x3 B0
        go_wp2
        go_roundw
        case rel => exact ⟨k + 1, by omega, by go_num, by rw [HS.out]; exact hown2, B2⟩
        case measure => simp [intOf]; omega
      | true =>
        have HS : Hid (pickL p l (k + 1) = pickL p l k ++ [e]) := HYS.out rfl
        clear HNO HYS
        generalize pickL p l k = F at *
        go_wp2_with fail
        generalize wr.alloc (.cells #[.int .i64 et, .int .i64 es, .int .i64 ed, .int .i64 em] 67) = w1 at *
        refine hcl.mono ?_
        rintro r w2 ⟨rfl, hb2⟩
        have hown3 := own_below hown0 hb2
        have B3 := B0.trans (hb2.mono B0.size)
        have y0 := (hb2.cell (World.block_lt_of_cell? _ _ x0)).trans x0
        have y1 := (hb2.cell (World.block_lt_of_cell? _ _ x1)).trans x1
        have y2 := (hb2.cell (World.block_lt_of_cell? _ _ x2)).trans x2
        have y3 := (hb2.cell (World.block_lt_of_cell? _ _ x3)).trans x3
        have hz3 := B3.size
        clear hcl hown0 hb2 x0 x1 x2 x3 B0
        go_wp2_with (at_builtin; refine wpList_append_own _ rfl _ _ 52 rfl w.heap.size 67 i0 (.agg #[.int .i64 0, .int .i64 0, .int .i64 0, .int .i64 0]) 4 32 Tryz.underE hi hz0 hz1 hz2 rfl (by decide) _ _ _ rfl (hown3.alloc _) ⟨w2.heap.size, 0, none⟩ 1 1 [.int .i64 et, .int .i64 es, .int .i64 ed, .int .i64 em] rfl rfl (cell_four_new _ _ _ _ _ _) (by intro u hu; simp at hu; rcases hu with rfl | rfl | rfl | rfl <;> rfl) ?c3 ?c4 ?c5 ?_)
        case c3 => unfold maxLen; omega
        case c4 => omega
        case c5 => simp; omega
        intro v' w4 hown' hgrow _
        have hbase := fun q hq => (hown3.lt q hq).1
        have B4 : Below w.heap.size w w4 := (B3.alloc hz3 _).grown hgrow (by simp; omega) hbase
        have O4 : w4.ownsRow w.heap.size 67 4 v' (F ++ [e]).length (lesV (F ++ [e])) := by
          rw [lesV_app, lesV_one, HEV.out]
          simpa using hown'
        clear hown' hgrow hown3 B3 y0 y1 y2 y3
        go_wp2
        go_roundw
        case rel => exact ⟨k + 1, by omega, by go_num, by rw [HS.out]; exact O4, B4⟩
        case measure => simp [intOf]; omega
    · have e : k = l.length := by omega
      subst e
      have HF : Hid (pickL p l l.length = l.filter p) := pickL_all
      rw [HF.out] at hown
      go_wp2
      go_ret
      exact ⟨_, rfl, hown, hB⟩

set_option maxHeartbeats 2000000 in
set_option maxRecDepth 1000000 in
theorem find_ahead {kb nb xb cap : Nat} {A : Option Addr} {l : List LE} {p : LE → Bool} (w : World) (hrow : RowL w A l) (hl : l.length ≤ 256)
    (hC : ∀ (w' : World) (e : LE), Below w.heap.size w w' → e ∈ l → Calls Tryz.prog 161 #[.agg #[.int .i64 (e.to : Int), .int .i64 e.s, .int .i64 e.d, .int .i64 e.mid], .pointer (some ⟨kb, 0, none⟩), .pointer (some ⟨nb, 0, none⟩), .pointer (some ⟨xb, 0, none⟩)] w' fun r w'' => r = .returned (.bool (p e)) ∧ Below w'.heap.size w' w'') :
    Calls Tryz.prog 53 #[.slice A l.length cap, .func (.func 161) #[] #[.pointer (some ⟨kb, 0, none⟩), .pointer (some ⟨nb, 0, none⟩), .pointer (some ⟨xb, 0, none⟩)]] w fun e w' => ∃ v, e = .returned v ∧ w'.ownsRow w.heap.size 67 4 v (l.filter p).length (lesV (l.filter p)) ∧ Below w.heap.size w w' := by
  obtain ⟨i0, hi, hz0, hz1, hz2⟩ := info_parts Tryz.infoE
  have HC : Hid (∀ (w' : World) (e : LE), Below w.heap.size w w' → e ∈ l → Calls Tryz.prog 161 #[.agg #[.int .i64 (e.to : Int), .int .i64 e.s, .int .i64 e.d, .int .i64 e.mid], .pointer (some ⟨kb, 0, none⟩), .pointer (some ⟨nb, 0, none⟩), .pointer (some ⟨xb, 0, none⟩)] w' fun r w'' => r = .returned (.bool (p e)) ∧ Below w'.heap.size w' w'') := hC
  clear hC
  go_enter Tryz.func53, Tryz.ntmps53
  go_wp2
  go_loopw [5, 10] (fun fv iv wr => ∃ k : Nat, k ≤ l.length ∧ iv = .int .i64 k ∧ wr.ownsRow w.heap.size 67 4 fv (pickL p l k).length (lesV (pickL p l k)) ∧ Below w.heap.size w wr)
    (fun _ i _ => l.length - (intOf i).toNat)
  case atStart => exact ⟨0, Nat.zero_le _, rfl, World.ownsRow_nil _ _ _ _, Below.refl _ _⟩
  case round =>
    obtain ⟨k, hk, rfl, hown, hB⟩ := hrel
    by_cases hlt : k < l.length
    · obtain ⟨e, he⟩ : ∃ e, l[k]? = some e := ⟨l[k], by simp [hlt]⟩
      obtain ⟨b, o, rfl, q1, q2, q3, q4⟩ := (hrow.below hB) k e he
      have hem : e ∈ l := List.mem_of_getElem? he
      have i1 : (0 : Int) ≤ (k : Int) := by omega
      have i2 : (k : Int) < (l.length : Int) := by omega
      have hbz := hB.size
      have B0 : Below w.heap.size w (wr.alloc (.cells #[.int .i64 (e.to : Int), .int .i64 e.s, .int .i64 e.d, .int .i64 e.mid] 67)) := hB.alloc hbz _
      have b0 : Below wr.heap.size wr (wr.alloc (.cells #[.int .i64 (e.to : Int), .int .i64 e.s, .int .i64 e.d, .int .i64 e.mid] 67)) := (Below.refl _ _).alloc (Nat.le_refl _) _
      have hcl := HC.out (wr.alloc (.cells #[.int .i64 (e.to : Int), .int .i64 e.s, .int .i64 e.d, .int .i64 e.mid] 67)) e B0 hem
      have hfl : (pickL p l k).length ≤ 256 := Nat.le_trans pickL_len hl
      have hown0 := own_below hown b0
      have x0 : (wr.alloc (.cells #[.int .i64 (e.to : Int), .int .i64 e.s, .int .i64 e.d, .int .i64 e.mid] 67)).cell? ⟨wr.heap.size, 0, none⟩ = some (.int .i64 (e.to : Int)) := World.cell?_alloc_at _ _ _ 0 rfl
      have x1 : (wr.alloc (.cells #[.int .i64 (e.to : Int), .int .i64 e.s, .int .i64 e.d, .int .i64 e.mid] 67)).cell? ⟨wr.heap.size, 1, none⟩ = some (.int .i64 e.s) := World.cell?_alloc_at _ _ _ 1 rfl
      have x2 : (wr.alloc (.cells #[.int .i64 (e.to : Int), .int .i64 e.s, .int .i64 e.d, .int .i64 e.mid] 67)).cell? ⟨wr.heap.size, 2, none⟩ = some (.int .i64 e.d) := World.cell?_alloc_at _ _ _ 2 rfl
      have x3 : (wr.alloc (.cells #[.int .i64 (e.to : Int), .int .i64 e.s, .int .i64 e.d, .int .i64 e.mid] 67)).cell? ⟨wr.heap.size, 3, none⟩ = some (.int .i64 e.mid) := World.cell?_alloc_at _ _ _ 3 rfl
      have HEV : Hid (leV e = [.int .i64 (e.to : Int), .int .i64 e.s, .int .i64 e.d, .int .i64 e.mid]) := rfl
      have hno := fun h => pickL_no (p := p) he h
      have hys := fun h => pickL_yes (p := p) he h
      generalize hpe : p e = pe at *
      have HNO : Hid (pe = false → pickL p l (k + 1) = pickL p l k) := hno
      have HYS : Hid (pe = true → pickL p l (k + 1) = pickL p l k ++ [e]) := hys
      clear hno hys hpe hem he hown b0 hB
      generalize (e.to : Int) = et at *
      generalize e.s = es at *
      generalize e.d = ed at *
      generalize e.mid = em at *
      have hX : w.heap.size ≤ wr.heap.size := hbz
      cases pe with
      | false =>
        have HS : Hid (pickL p l (k + 1) = pickL p l k) := HNO.out rfl
        clear HNO HYS
        go_wp2_with fail
        generalize wr.alloc (.cells #[.int .i64 et, .int .i64 es, .int .i64 ed, .int .i64 em] 67) = w1 at *
        refine hcl.mono ?_
        rintro r w2 ⟨rfl, hb2⟩
        have hown2 := own_below hown0 hb2
        have B2 := B0.trans (hb2.mono B0.size)
        clear hcl hown0 hb2 x0 x1 x2 x3 B0
        go_wp2
        go_roundw
        case rel => exact ⟨k + 1, by omega, by go_num, by rw [HS.out]; exact hown2, B2⟩
        case measure => simp [intOf]; omega
      | true =>
        have HS : Hid (pickL p l (k + 1) = pickL p l k ++ [e]) := HYS.out rfl
        clear HNO HYS
        generalize pickL p l k = F at *
        go_wp2_with fail
        generalize wr.alloc (.cells #[.int .i64 et, .int .i64 es, .int .i64 ed, .int .i64 em] 67) = w1 at *
        refine hcl.mono ?_
        rintro r w2 ⟨rfl, hb2⟩
        have hown3 := own_below hown0 hb2
        have B3 := B0.trans (hb2.mono B0.size)
        have y0 := (hb2.cell (World.block_lt_of_cell? _ _ x0)).trans x0
        have y1 := (hb2.cell (World.block_lt_of_cell? _ _ x1)).trans x1
        have y2 := (hb2.cell (World.block_lt_of_cell? _ _ x2)).trans x2
        have y3 := (hb2.cell (World.block_lt_of_cell? _ _ x3)).trans x3
        have hz3 := B3.size
        clear hcl hown0 hb2 x0 x1 x2 x3 B0
        go_wp2_with (at_builtin; refine wpList_append_own _ rfl _ _ 52 rfl w.heap.size 67 i0 (.agg #[.int .i64 0, .int .i64 0, .int .i64 0, .int .i64 0]) 4 32 Tryz.underE hi hz0 hz1 hz2 rfl (by decide) _ _ _ rfl (hown3.alloc _) ⟨w2.heap.size, 0, none⟩ 1 1 [.int .i64 et, .int .i64 es, .int .i64 ed, .int .i64 em] rfl rfl (cell_four_new _ _ _ _ _ _) (by intro u hu; simp at hu; rcases hu with rfl | rfl | rfl | rfl <;> rfl) ?c3 ?c4 ?c5 ?_)
        case c3 => unfold maxLen; omega
        case c4 => omega
        case c5 => simp; omega
        intro v' w4 hown' hgrow _
        have hbase := fun q hq => (hown3.lt q hq).1
        have B4 : Below w.heap.size w w4 := (B3.alloc hz3 _).grown hgrow (by simp; omega) hbase
        have O4 : w4.ownsRow w.heap.size 67 4 v' (F ++ [e]).length (lesV (F ++ [e])) := by
          rw [lesV_app, lesV_one, HEV.out]
          simpa using hown'
        clear hown' hgrow hown3 B3 y0 y1 y2 y3
        go_wp2
        go_roundw
        case rel => exact ⟨k + 1, by omega, by go_num, by rw [HS.out]; exact O4, B4⟩
        case measure => simp [intOf]; omega
    · have e : k = l.length := by omega
      subst e
      have HF : Hid (pickL p l l.length = l.filter p) := pickL_all
      rw [HF.out] at hown
      go_wp2
      go_ret
      exact ⟨_, rfl, hown, hB⟩

end Go.Proofs.YtmnpplkjhnoglaaGreatDoor
/-
  How a heap lies in memory, and what laying an item, and changing two, does.
-/
namespace Go.Proofs.YtmnpplkjhnoglaaGreatDoor
open Go.RowKit

/-- a row of items -/
def Row (w : World) (v : Value) (n : Nat) (it : Nat → Item) : Prop :=
  ∃ xs, w.ownsRow 0 167 3 v n xs ∧ ∀ i, i < n → xs[i * 3]? = some (.int .i64 (it i).id) ∧ xs[i * 3 + 1]? = some (.int .i64 (it i).s) ∧ xs[i * 3 + 2]? = some (.int .i64 (it i).d)

theorem Row.keep {F : Nat → Prop} {w w' : World} {v : Value} {n : Nat} {it : Nat → Item} (h : Row w v n it) (hk : Keep F w w') (hn : ∀ g, v.ownBlock = some g → ¬ F g) : Row w' v n it := by
  obtain ⟨xs, ho, hx⟩ := h
  refine ⟨xs, ⟨ho.1, ?_⟩, hx⟩
  rcases ho.2 with hl | ⟨g, cap, cur, rfl, hb, hgg, rest⟩
  · exact .inl hl
  · refine .inr ⟨g, cap, cur, rfl, hb, ?_, rest⟩
    rw [hk.block g (Array.getElem?_eq_some_iff.1 hgg).1 (hn g rfl)]
    exact hgg

theorem Row.pos {w : World} {v : Value} {n : Nat} {it : Nat → Item} (h : Row w v n it) (hn : 0 < n) : ∃ g cap, v = .slice (some ⟨g, 0, none⟩) n cap ∧ n ≤ cap ∧ cap ≤ maxLen ∧ g < w.heap.size := by
  obtain ⟨xs, ho, hx⟩ := h
  rcases ho.2 with ⟨_, h0⟩ | ⟨g, cap, cur, rfl, hb, hgg, h1, h2, _⟩
  · omega
  · exact ⟨g, cap, rfl, h1, h2, (Array.getElem?_eq_some_iff.1 hgg).1⟩

theorem Row.cells {w : World} {g n cap : Nat} {it : Nat → Item} (h : Row w (.slice (some ⟨g, 0, none⟩) n cap) n it) {i : Nat} (hi : i < n) :
    w.cell? ⟨g, i * 3, none⟩ = some (.int .i64 (it i).id) ∧ w.cell? ⟨g, i * 3 + 1, none⟩ = some (.int .i64 (it i).s) ∧ w.cell? ⟨g, i * 3 + 2, none⟩ = some (.int .i64 (it i).d) := by
  obtain ⟨xs, ho, hx⟩ := h
  obtain ⟨h1, h2, h3⟩ := hx i hi
  exact ⟨(ho.cellAt _ (by omega)).trans h1, (ho.cellAt _ (by omega)).trans h2, (ho.cellAt _ (by omega)).trans h3⟩

theorem Row.free {w : World} {g n cap : Nat} {it : Nat → Item} (h : Row w (.slice (some ⟨g, 0, none⟩) n cap) n it) (j : Nat) : w.frozen? ⟨g, j, none⟩ = false := by
  obtain ⟨xs, ho, hx⟩ := h
  exact ho.frozenAt j

/-- one item written -/
theorem Row.set {w : World} {g n cap : Nat} {it : Nat → Item} (h : Row w (.slice (some ⟨g, 0, none⟩) n cap) n it) {i : Nat} (hi : i < n) (x : Item) :
    Row (((w.setCell ⟨g, i * 3, none⟩ (.int .i64 x.id)).setCell ⟨g, i * 3 + 1, none⟩ (.int .i64 x.s)).setCell ⟨g, i * 3 + 2, none⟩ (.int .i64 x.d)) (.slice (some ⟨g, 0, none⟩) n cap) n (updI it i x) := by
  obtain ⟨xs, ho, hx⟩ := h
  have h1 := (ho.stored (i * 3) (.int .i64 x.id)).1
  have h2 := (h1.stored (i * 3 + 1) (.int .i64 x.s)).1
  have h3 := (h2.stored (i * 3 + 2) (.int .i64 x.d)).1
  refine ⟨_, h3, fun k hk => ?_⟩
  have hl : xs.length = n * 3 := ho.1
  by_cases e : k = i
  · subst e
    rw [updI_i]
    simp [List.getElem?_set, hl]
    omega
  · rw [updI_k it x e]
    obtain ⟨a1, a2, a3⟩ := hx k hk
    refine ⟨?_, ?_, ?_⟩
    · rw [List.getElem?_set_ne (by omega), List.getElem?_set_ne (by omega), List.getElem?_set_ne (by omega)]; exact a1
    · rw [List.getElem?_set_ne (by omega), List.getElem?_set_ne (by omega), List.getElem?_set_ne (by omega)]; exact a2
    · rw [List.getElem?_set_ne (by omega), List.getElem?_set_ne (by omega), List.getElem?_set_ne (by omega)]; exact a3

/-- a heap in block b, where each stands in block mb, the row v -/
structure Rep (w : World) (b mb : Nat) (v : Value) (n : Nat) (it : Nat → Item) (f : Int → Option Value) (m : Nat) : Prop where
  c0 : w.cell? ⟨b, 0, none⟩ = some v
  c1 : w.cell? ⟨b, 1, none⟩ = some (.map (some mb))
  f0 : w.frozen? ⟨b, 0, none⟩ = false
  row : Row w v n it
  map : MapF Tryz.prog 3 w mb f m
  nb : v.ownBlock ≠ some b

theorem Tryz.under51 : Tryz.prog.underlying 46 = some (.map 3 3) := by kernel_rfl
theorem zero3 (w : World) : (zeroValue 3).run Tryz.prog w = .ok (.int .i64 0) w := by kernel_rfl

theorem Rep.blocks {w : World} {b mb n m : Nat} {v : Value} {it : Nat → Item} {f : Int → Option Value} (R : Rep w b mb v n it f m) : b < w.heap.size ∧ mb < w.heap.size ∧ b ≠ mb ∧ ∀ g, v.ownBlock = some g → g < w.heap.size ∧ g ≠ b ∧ g ≠ mb := by
  have hb : b < w.heap.size := World.block_lt_of_cell? w _ R.c0
  refine ⟨hb, R.map.lt, ?_, fun g hg => ⟨?_, ?_, ?_⟩⟩
  · intro e
    have h := R.map.cell 0
    rw [← e, R.c0] at h
    cases h
  · obtain ⟨xs, ho, _⟩ := R.row
    exact (ho.lt g hg).2
  · intro e; exact R.nb (by rw [hg, e])
  · intro e
    obtain ⟨xs, ho, _⟩ := R.row
    obtain ⟨D, ⟨es, clock, h1, _⟩, _⟩ := R.map
    rcases ho.2 with ⟨rfl, _⟩ | ⟨g', cap, cur, rfl, _, hgg, _⟩
    · cases hg
    · simp only [Value.ownBlock, Option.some.injEq] at hg
      rw [hg, e, h1] at hgg
      cases hgg

theorem Rep.keep {F : Nat → Prop} {w w' : World} {b mb n m : Nat} {v : Value} {it : Nat → Item} {f : Int → Option Value} (R : Rep w b mb v n it f m) (hk : Keep F w w') (h1 : ¬ F b) (h2 : ¬ F mb) (h3 : ∀ g, v.ownBlock = some g → ¬ F g) : Rep w' b mb v n it f m := by
  have hb := R.blocks.1
  exact ⟨(hk.cell (p := ⟨b, 0, none⟩) hb h1).trans R.c0, (hk.cell (p := ⟨b, 1, none⟩) hb h1).trans R.c1, (hk.frozen (p := ⟨b, 0, none⟩) hb h1).trans R.f0, R.row.keep hk h3, R.map.keep hk h2, R.nb⟩

theorem Rep.below {w w' : World} {b mb n m : Nat} {v : Value} {it : Nat → Item} {f : Int → Option Value} (R : Rep w b mb v n it f m) (hb : Below w.heap.size w w') : Rep w' b mb v n it f m :=
  R.keep (F := fun _ => False) (Keep.of_below hb) id id (fun _ _ => id)

set_option maxHeartbeats 1000000 in
theorem put_any {b mb g cap n m : Nat} {it : Nat → Item} {f : Int → Option Value} (i : Nat) (a s d : Int) (w : World) (R : Rep w b mb (.slice (some ⟨g, 0, none⟩) n cap) n it f m) (hi : i < n) (hm : m ≤ 1000000) (ha : (Lit.int .i64 a).wf = true) :
    Calls Tryz.prog 104 #[.pointer (some ⟨b, 0, none⟩), .int .i64 i, .agg #[.int .i64 a, .int .i64 s, .int .i64 d]] w fun e w' => e = .returned (.tuple #[]) ∧ Rep w' b mb (.slice (some ⟨g, 0, none⟩) n cap) n (updI it i ⟨a, s, d⟩) (putF f a (.int .i64 i)) (if (f a).isSome then m else m + 1) ∧ Keep (fun k => k = g ∨ k = mb) w w' := by
  obtain ⟨hb, hmb, hbm, hgs⟩ := R.blocks
  obtain ⟨hg, hgb, hgm⟩ := hgs g rfl
  obtain ⟨c0, c1, f0, row, map, nb⟩ := R
  obtain ⟨q1, q2, q3⟩ := row.cells hi
  have r1 := row.free (i * 3)
  have r2 := row.free (i * 3 + 1)
  have r3 := row.free (i * 3 + 2)
  have hj : (i : Int) < (n : Int) := by omega
  have HW : ∃ W1 : World, W1 = ((((w.setCell ⟨g, i * 3, none⟩ (.int .i64 a)).setCell ⟨g, i * 3 + 1, none⟩ (.int .i64 s)).setCell ⟨g, i * 3 + 2, none⟩ (.int .i64 d)).alloc (.cells #[.int .i64 a, .int .i64 s, .int .i64 d] 167)).drew ∧
      Keep (fun k => k = g) w W1 ∧ Row W1 (.slice (some ⟨g, 0, none⟩) n cap) n (updI it i ⟨a, s, d⟩) ∧ W1.cell? ⟨w.heap.size, 0, none⟩ = some (.int .i64 a) ∧ W1.heap.size = w.heap.size + 1 := by
    have K0 : Keep (fun k => k = g) w (((w.setCell ⟨g, i * 3, none⟩ (.int .i64 a)).setCell ⟨g, i * 3 + 1, none⟩ (.int .i64 s)).setCell ⟨g, i * 3 + 2, none⟩ (.int .i64 d)) :=
      (((Keep.refl (fun k => k = g) w).setCell (p := ⟨g, i * 3, none⟩) (fun _ => rfl) _).setCell (p := ⟨g, i * 3 + 1, none⟩) (fun _ => rfl) _).setCell (p := ⟨g, i * 3 + 2, none⟩) (fun _ => rfl) _
    refine ⟨_, rfl, (K0.alloc _).drew, ?_, ?_, ?_⟩
    · exact (row.set hi ⟨a, s, d⟩).keep (F := fun _ => False) ((Keep.refl _ _).alloc _).drew (fun _ _ => id)
    · exact World.cell?_alloc_at #[.int .i64 a, .int .i64 s, .int .i64 d] 167 w.heap.size 0 (by simp)
    · simp
  obtain ⟨W1, eW, K1, row1, q0, hs1⟩ := HW
  have d1 : W1.cell? ⟨b, 1, none⟩ = some (.map (some mb)) := (K1.cell (p := ⟨b, 1, none⟩) hb (fun e => hgb e.symm)).trans c1
  have map1 : MapF Tryz.prog 3 W1.drew mb f m := (map.keep K1 (fun e => hgm e.symm)).kept rfl
  obtain ⟨w2, hrun, M2, T2⟩ := map1.store law3 Tryz.under51 (by unfold maxLen; omega) ha (.int .i64 i)
  have K2 := turned_keep T2
  have RR : Rep w2 b mb (.slice (some ⟨g, 0, none⟩) n cap) n (updI it i ⟨a, s, d⟩) (putF f a (.int .i64 i)) (if (f a).isSome then m else m + 1) := by
    refine ⟨?_, ?_, ?_, (row1.keep (F := fun _ => False) (Keep.refl _ W1).drew (fun _ _ => id)).keep K2 (fun x hx => ?_), M2, nb⟩
    · exact (K2.cell (p := ⟨b, 0, none⟩) (by show b < W1.heap.size; omega) hbm).trans ((K1.cell (p := ⟨b, 0, none⟩) hb (fun e => hgb e.symm)).trans c0)
    · exact (K2.cell (p := ⟨b, 1, none⟩) (by show b < W1.heap.size; omega) hbm).trans d1
    · exact (K2.frozen (p := ⟨b, 0, none⟩) (by show b < W1.heap.size; omega) hbm).trans ((K1.frozen (p := ⟨b, 0, none⟩) hb (fun e => hgb e.symm)).trans f0)
    · simp only [Value.ownBlock, Option.some.injEq] at hx
      rw [← hx]; exact hgm
  have KK : Keep (fun k => k = g ∨ k = mb) w w2 := (K1.mono (fun _ _ h => Or.inl h)).trans ((Keep.refl (fun k => k = mb) W1).drew.trans K2 (fun _ _ h => h)) (fun _ _ h => Or.inr h)
  clear K1 row1 map1 M2 T2 K2 map row nb
  go_enter Tryz.func104, Tryz.ntmps104
  go_wp2
  go_region
  go_wp2
  rw [← eW]
  clear eW q1 q2 q3 r1 r2 r3 c0 c1 f0
  go_region
  go_end0
  exact ⟨rfl, RR, KK⟩
end Go.Proofs.YtmnpplkjhnoglaaGreatDoor
