/-
  What a text is read as, by the reference: its rows.
-/
import Derived.Test.YtkhofbpgdkoonabDoorFlat
namespace Go.Proofs.YtkhofbpgdkoonabDoor
open Go.RowKit

/-- a new grid of the reference's -/
structure RNewPost (w : World) (W H : Nat) (e : Ending) (w' : World) : Prop where
  ex : e = .returned (.tuple #[.pointer (some ⟨w.heap.size, 0, none⟩), .int .i64 0]) ∧ Below w.heap.size w w' ∧ RCells w' w.heap.size W H [] ∧ w.heap.size < w'.heap.size
theorem rnew_r {W H : Nat} (h : sideB W = true) (k : sideB H = true) (w : World) : Calls Tryd.prog 16 #[.int .i64 W, .int .i64 H] w (RNewPost w W H) := by
  have a : 1 ≤ (W : Int) ∧ (W : Int) ≤ 16 := of_decide_eq_true h
  have b : 1 ≤ (H : Int) ∧ (H : Int) ≤ 16 := of_decide_eq_true k
  exact (rnew_ok _ _ w a.1 a.2 b.1 b.2).mono fun e w' ⟨he, hw⟩ => ⟨he, by rw [hw]; exact (Below.refl _ _).alloc (Nat.le_refl _) _, by rw [hw]; exact rcells_new h k w, by rw [hw]; simp⟩

set_option maxHeartbeats 4000000 in
set_option maxRecDepth 1000000 in
theorem rparse_len {s a b c d r : List UInt8} {W H : Nat} (K : HeadOk s a b c d r W H) (hs : sideB W = true) (hs2 : sideB H = true) (hl : (lnsL r).1.length ≠ H) (w : World) :
    Calls Tryd.prog 10 #[.string (str s)] w fun e w' => e = .returned (.tuple #[.pointer none, .int .i64 3]) ∧ Below w.heap.size w w' := by
  have hsz := str_size s
  obtain ⟨h1, lb, lc, lr, ha, hd, nb, nc, n4, HLL, l2⟩ := K
  have ta := toList_str a
  have td := toList_str d
  have tt := toList_str typeW
  have tm := toList_str mapW
  unfold str typeW at tt
  unfold str mapW at tm
  have E1 : Hid ((numOf b heightW).isSome = true) := by show _ = _; rw [nb.out]; rfl
  have E2 : Hid ((numOf c widthW).isSome = true) := by show _ = _; rw [nc.out]; rfl
  have P1 : Hid ((⟨#[104, 101, 105, 103, 104, 116, 32]⟩ : ByteArray) = str heightW) := rfl
  have P2 : Hid ((⟨#[119, 105, 100, 116, 104, 32]⟩ : ByteArray) = str widthW) := rfl
  have Z1 : Hid (szv W = W) := szv_in hs
  have Z2 : Hid (szv H = H) := szv_in hs2
  have a1 : 1 ≤ (W : Int) ∧ (W : Int) ≤ 16 := of_decide_eq_true hs
  have a2 : 1 ≤ (H : Int) ∧ (H : Int) ≤ 16 := of_decide_eq_true hs2
  go_enter Tryd.func10, Tryd.ntmps10
  go_wp2_with (go_at_call 30; refine (linesS s (by omega) _).mono ?_)
  rintro e w1 ⟨v, rfl, hown, hb1⟩
  obtain ⟨bb, cap, rfl, hbb, hbl, hcs⟩ := strRow_of hown (by omega)
  have c0 : w1.cell? ⟨bb, 0, none⟩ = some (.string (str a)) := by rw [hcs 0 (by omega), HLL.out]; rfl
  have c1 : w1.cell? ⟨bb, 1, none⟩ = some (.string (str b)) := by rw [hcs 1 (by omega), HLL.out]; rfl
  have c2 : w1.cell? ⟨bb, 2, none⟩ = some (.string (str c)) := by rw [hcs 2 (by omega), HLL.out]; rfl
  have c3 : w1.cell? ⟨bb, 3, none⟩ = some (.string (str d)) := by rw [hcs 3 (by omega), HLL.out]; rfl
  have C1 : Hid (w1.cell? ⟨bb, 1, none⟩ = some (.string (str b))) := c1
  have C2 : Hid (w1.cell? ⟨bb, 2, none⟩ = some (.string (str c))) := c2
  have CR : Hid (∀ i, i < (lnsL r).1.length → w1.cell? ⟨bb, 4 + i, none⟩ = some (.string (str ((lnsL r).1.getD i [])))) := fun i hi => by rw [hcs (4 + i) (by omega), HLL.out, Nat.add_comm]; rfl
  have z1 := hb1.size
  have HB : Below w1.heap.size w1 w1.drew := (Below.refl _ _).drew
  clear hown hcs HLL
  rw [n4, l2]
  clear n4 l2
  generalize (lnsL r).1 = R at *
  generalize (lnsL r).2 = rs at *
  have trs := toList_str rs
  obtain ⟨n, en⟩ : ∃ n, R.length = n := ⟨_, rfl⟩
  rw [en] at hl CR ⊢
  have EN : Hid (R.length = n) := en
  clear en
  have hne : ¬ (n : Int) = (H : Int) := by omega
  have hf2 : ¬ (4 + (n : Int)) < 4 := by omega
  have q1 : (4 : Int) ≤ (4 + (n : Int)) := by omega
  go_wp2_with (go_at_call 31; refine (headedH E1.out (by omega) _).mono ?_)
  rintro e w' ⟨rfl, rfl⟩
  go_wp2_with (go_at_call 31; refine (headedW E2.out (by omega) _).mono ?_)
  rintro e w' ⟨rfl, rfl⟩
  go_wp2
  go_region_held (fun w' => w'.cell? ⟨bb, 1, none⟩ = some (.string (str b)) ∧ w'.cell? ⟨bb, 2, none⟩ = some (.string (str c))) (first | (exact ⟨c1, c2⟩)) (first | (go_at_call 32; refine (sized_g (by assumption) (by assumption) (by assumption) (by omega) _).mono ?_; rintro e w2 ⟨rfl, hb2⟩; have HB := HB.trans (hb2.mono HB.size); have c1 := (HB.cell (p := ⟨bb, 1, none⟩) hbl).trans C1.out; have c2 := (HB.cell (p := ⟨bb, 2, none⟩) hbl).trans C2.out) | (go_at_call 16; refine (rnew_r hs hs2 _).mono ?_; rintro e w3 ⟨rfl, hb3, hR, hlt3⟩; have hsz3 := HB.size; have HB := HB.trans (hb3.mono HB.size); have c1 := (HB.cell (p := ⟨bb, 1, none⟩) hbl).trans C1.out; have c2 := (HB.cell (p := ⟨bb, 2, none⟩) hbl).trans C2.out))
  all_goals
    have r1 := hR.1.c1
    go_wp2
    go_ret2
    exact ⟨rfl, hb1.trans (HB.mono z1)⟩

set_option maxHeartbeats 4000000 in
set_option maxRecDepth 1000000 in
theorem rparse_rest {s a b c d r : List UInt8} {W H : Nat} (K : HeadOk s a b c d r W H) (hs : sideB W = true) (hs2 : sideB H = true) (hl : (lnsL r).1.length = H ∧ (lnsL r).2 ≠ []) (w : World) :
    Calls Tryd.prog 10 #[.string (str s)] w fun e w' => e = .returned (.tuple #[.pointer none, .int .i64 3]) ∧ Below w.heap.size w w' := by
  have hsz := str_size s
  obtain ⟨h1, lb, lc, lr, ha, hd, nb, nc, n4, HLL, l2⟩ := K
  have ta := toList_str a
  have td := toList_str d
  have tt := toList_str typeW
  have tm := toList_str mapW
  unfold str typeW at tt
  unfold str mapW at tm
  have E1 : Hid ((numOf b heightW).isSome = true) := by show _ = _; rw [nb.out]; rfl
  have E2 : Hid ((numOf c widthW).isSome = true) := by show _ = _; rw [nc.out]; rfl
  have P1 : Hid ((⟨#[104, 101, 105, 103, 104, 116, 32]⟩ : ByteArray) = str heightW) := rfl
  have P2 : Hid ((⟨#[119, 105, 100, 116, 104, 32]⟩ : ByteArray) = str widthW) := rfl
  have Z1 : Hid (szv W = W) := szv_in hs
  have Z2 : Hid (szv H = H) := szv_in hs2
  have a1 : 1 ≤ (W : Int) ∧ (W : Int) ≤ 16 := of_decide_eq_true hs
  have a2 : 1 ≤ (H : Int) ∧ (H : Int) ≤ 16 := of_decide_eq_true hs2
  go_enter Tryd.func10, Tryd.ntmps10
  go_wp2_with (go_at_call 30; refine (linesS s (by omega) _).mono ?_)
  rintro e w1 ⟨v, rfl, hown, hb1⟩
  obtain ⟨bb, cap, rfl, hbb, hbl, hcs⟩ := strRow_of hown (by omega)
  have c0 : w1.cell? ⟨bb, 0, none⟩ = some (.string (str a)) := by rw [hcs 0 (by omega), HLL.out]; rfl
  have c1 : w1.cell? ⟨bb, 1, none⟩ = some (.string (str b)) := by rw [hcs 1 (by omega), HLL.out]; rfl
  have c2 : w1.cell? ⟨bb, 2, none⟩ = some (.string (str c)) := by rw [hcs 2 (by omega), HLL.out]; rfl
  have c3 : w1.cell? ⟨bb, 3, none⟩ = some (.string (str d)) := by rw [hcs 3 (by omega), HLL.out]; rfl
  have C1 : Hid (w1.cell? ⟨bb, 1, none⟩ = some (.string (str b))) := c1
  have C2 : Hid (w1.cell? ⟨bb, 2, none⟩ = some (.string (str c))) := c2
  have CR : Hid (∀ i, i < (lnsL r).1.length → w1.cell? ⟨bb, 4 + i, none⟩ = some (.string (str ((lnsL r).1.getD i [])))) := fun i hi => by rw [hcs (4 + i) (by omega), HLL.out, Nat.add_comm]; rfl
  have z1 := hb1.size
  have HB : Below w1.heap.size w1 w1.drew := (Below.refl _ _).drew
  clear hown hcs HLL
  rw [n4, l2]
  clear n4 l2
  generalize (lnsL r).1 = R at *
  generalize (lnsL r).2 = rs at *
  have trs := toList_str rs
  obtain ⟨n, en⟩ : ∃ n, R.length = n := ⟨_, rfl⟩
  rw [en] at hl CR ⊢
  have EN : Hid (R.length = n) := en
  clear en
  obtain ⟨rfl, hrs⟩ := hl
  have hre : rs.isEmpty = false := by cases rs with
    | nil => exact absurd rfl hrs
    | cons _ _ => rfl
  clear hrs
  have hf2 : ¬ (4 + (n : Int)) < 4 := by omega
  have q1 : (4 : Int) ≤ (4 + (n : Int)) := by omega
  go_wp2_with (go_at_call 31; refine (headedH E1.out (by omega) _).mono ?_)
  rintro e w' ⟨rfl, rfl⟩
  go_wp2_with (go_at_call 31; refine (headedW E2.out (by omega) _).mono ?_)
  rintro e w' ⟨rfl, rfl⟩
  go_wp2
  go_region_held (fun w' => w'.cell? ⟨bb, 1, none⟩ = some (.string (str b)) ∧ w'.cell? ⟨bb, 2, none⟩ = some (.string (str c))) (first | (exact ⟨c1, c2⟩)) (first | (go_at_call 32; refine (sized_g (by assumption) (by assumption) (by assumption) (by omega) _).mono ?_; rintro e w2 ⟨rfl, hb2⟩; have HB := HB.trans (hb2.mono HB.size); have c1 := (HB.cell (p := ⟨bb, 1, none⟩) hbl).trans C1.out; have c2 := (HB.cell (p := ⟨bb, 2, none⟩) hbl).trans C2.out) | (go_at_call 16; refine (rnew_r hs hs2 _).mono ?_; rintro e w3 ⟨rfl, hb3, hR, hlt3⟩; have hsz3 := HB.size; have HB := HB.trans (hb3.mono HB.size); have c1 := (HB.cell (p := ⟨bb, 1, none⟩) hbl).trans C1.out; have c2 := (HB.cell (p := ⟨bb, 2, none⟩) hbl).trans C2.out))
  all_goals
    have r1 := hR.1.c1
    go_wp2
    go_ret2
    exact ⟨rfl, hb1.trans (HB.mono z1)⟩
end Go.Proofs.YtkhofbpgdkoonabDoor
