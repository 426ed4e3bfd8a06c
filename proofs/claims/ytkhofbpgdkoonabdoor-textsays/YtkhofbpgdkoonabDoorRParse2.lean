/-
  What a text is read as, by the reference: sizes and rows.
-/
import Derived.Test.YtkhofbpgdkoonabDoorRParse
import Derived.Deep.RegionHeld
namespace Go.Proofs.YtkhofbpgdkoonabDoor
open Go.RowKit

/-- the head of a text that tells a size -/
structure HeadOk (s a b c d r : List UInt8) (W H : Int) : Prop where
  h1 : ¬ (1000 : Int) < (s.length : Int)
  lb : b.length ≤ 1000
  lc : c.length ≤ 1000
  lr : r.length ≤ 1000
  ta : (a == [116, 121, 112, 101, 32, 111, 99, 116, 105, 108, 101]) = true
  td : (d == [109, 97, 112]) = true
  nb : Hid (numOf b heightW = some H)
  nc : Hid (numOf c widthW = some W)
  n4 : (lnsL s).1.length = 4 + (lnsL r).1.length
  ll : Hid ((lnsL s).1 = a :: b :: c :: d :: (lnsL r).1)
  l2 : (lnsL s).2 = (lnsL r).2
theorem headOk {s a b c d r : List UInt8} {W H : Int} (h : ¬ 1000 < s.length) (h4 : cut4 s = some (a, b, c, d, r)) (hz : sizeOf4 a b c d = some (W, H)) : HeadOk s a b c d r W H := by
  obtain ⟨l1, l2, l3⟩ := cut4_len h4
  have hL := cut4_lines h4
  obtain ⟨ea, eb, ec, ed, nb, nc⟩ := sizeOf4_some hz
  exact ⟨by omega, by omega, by omega, by omega, by rw [ea]; rfl, by rw [ed]; rfl, nb, nc, by rw [hL]; simp; omega, by show _ = _; rw [hL], by rw [hL]⟩

set_option maxHeartbeats 2000000 in
set_option maxRecDepth 1000000 in
theorem rparse_bound {s a b c d r : List UInt8} {W H : Int} (K : HeadOk s a b c d r W H) (hs : sideB W = false ∨ (sideB W = true ∧ sideB H = false)) (w : World) :
    Calls Tryd.prog 10 #[.string (str s)] w fun e w' => e = .returned (.tuple #[.pointer none, .int .i64 1]) ∧ Below w.heap.size w w' := by
  have hsz := str_size s
  obtain ⟨h1, lb, lc, lr, ha, hd, nb, nc, n4, HLL, l2⟩ := K
  have ta := toList_str a
  have td := toList_str d
  have tt := toList_str typeW
  have tm := toList_str mapW
  unfold str typeW at tt
  unfold str mapW at tm
  have E1 : Hid ((numOf b heightW).isSome = true) := by show _ = _; rw [nb.out]; rfl
  have E2 : Hid ((numOf c widthW).isSome = true) := by show _ = _; rw [nc.out]; rfl
  have P1 : Hid ((⟨#[104, 101, 105, 103, 104, 116, 32]⟩ : ByteArray) = str heightW) := rfl
  have P2 : Hid ((⟨#[119, 105, 100, 116, 104, 32]⟩ : ByteArray) = str widthW) := rfl
  obtain ⟨zw, ezw⟩ : ∃ z, szv W = z := ⟨_, rfl⟩
  obtain ⟨zh, ezh⟩ : ∃ z, szv H = z := ⟨_, rfl⟩
  have hbad : sideB zw = false ∨ (sideB zw = true ∧ sideB zh = false) := by
    rcases hs with h | ⟨h, k⟩
    · exact .inl (by rw [← ezw]; exact szv_out h)
    · exact .inr ⟨by rw [← ezw, szv_in h]; exact h, by rw [← ezh]; exact szv_out k⟩
  have Z1 : Hid (szv W = zw) := ezw
  have Z2 : Hid (szv H = zh) := ezh
  clear ezw ezh hs
  go_enter Tryd.func10, Tryd.ntmps10
  go_wp2_with (go_at_call 30; refine (linesS s (by omega) _).mono ?_)
  rintro e w1 ⟨v, rfl, hown, hb1⟩
  obtain ⟨bb, cap, rfl, hbb, hbl, hcs⟩ := strRow_of hown (by omega)
  have c0 : w1.cell? ⟨bb, 0, none⟩ = some (.string (str a)) := by rw [hcs 0 (by omega), HLL.out]; rfl
  have c1 : w1.cell? ⟨bb, 1, none⟩ = some (.string (str b)) := by rw [hcs 1 (by omega), HLL.out]; rfl
  have c2 : w1.cell? ⟨bb, 2, none⟩ = some (.string (str c)) := by rw [hcs 2 (by omega), HLL.out]; rfl
  have c3 : w1.cell? ⟨bb, 3, none⟩ = some (.string (str d)) := by rw [hcs 3 (by omega), HLL.out]; rfl
  have hf2 : ¬ ((lnsL s).1.length : Int) < 4 := by omega
  have q1 : (4 : Int) ≤ ((lnsL s).1.length : Int) := by omega
  have z1 := hb1.size
  have HB : Below w.heap.size w w1.drew := hb1.drew
  clear hown hcs n4 l2
  generalize (lnsL s).1.length = n at *
  generalize (lnsL s).2 = rs at *
  go_wp2_with (go_at_call 31; refine (headedH E1.out (by omega) _).mono ?_)
  rintro e w' ⟨rfl, rfl⟩
  go_wp2_with (go_at_call 31; refine (headedW E2.out (by omega) _).mono ?_)
  rintro e w' ⟨rfl, rfl⟩
  go_wp2
  go_region_held (fun w' => w'.cell? ⟨bb, 1, none⟩ = some (.string (str b)) ∧ w'.cell? ⟨bb, 2, none⟩ = some (.string (str c))) (first | (exact ⟨c1, c2⟩)) (first | (go_at_call 32; refine (sized_g (by assumption) (by assumption) (by assumption) (by omega) _).mono ?_; rintro e w2 ⟨rfl, hb2⟩; have c1 := (hb2.cell (p := ⟨bb, 1, none⟩) hbl).trans c1; have c2 := (hb2.cell (p := ⟨bb, 2, none⟩) hbl).trans c2; have hbl := Nat.lt_of_lt_of_le hbl hb2.size; have HB := HB.trans (hb2.mono HB.size)) | (go_at_call 16; refine (rnew_bad _ _ _ hbad).mono ?_; rintro e w' ⟨rfl, rfl⟩))
  all_goals
    go_wp2
    go_ret2
    exact ⟨rfl, HB⟩
end Go.Proofs.YtkhofbpgdkoonabDoor
