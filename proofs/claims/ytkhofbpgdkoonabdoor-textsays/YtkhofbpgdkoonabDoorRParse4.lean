/-
  What a text is read as, by the reference: the loops over its rows.
-/
import Derived.Test.YtkhofbpgdkoonabDoorRParse3
import Derived.Deep.LoopGhost
namespace Go.Proofs.YtkhofbpgdkoonabDoor
open Go.RowKit

set_option maxHeartbeats 4000000 in
set_option maxRecDepth 1000000 in
theorem rparse_loop {s a b c d r : List UInt8} {W H : Nat} (K : HeadOk s a b c d r W H) (hs : sideB W = true) (hs2 : sideB H = true) {o : Option (List Bool)} (hl : (lnsL r).1.length = H ∧ (lnsL r).2 = []) (ho : flatB W (lnsL r).1 = o) (w : World) :
    Calls Tryd.prog 10 #[.string (str s)] w fun e w' => ((o = none ∧ e = .returned (.tuple #[.pointer none, .int .i64 3])) ∨ (∃ cs, o = some cs ∧ ∃ B, w.heap.size ≤ B ∧ B < w'.heap.size ∧ e = .returned (.tuple #[.pointer (some ⟨B, 0, none⟩), .int .i64 0]) ∧ RCells w' B W H cs)) ∧ Below w.heap.size w w' := by
  have hsz := str_size s
  obtain ⟨h1, lb, lc, lr, ha, hd, nb, nc, n4, HLL, l2⟩ := K
  have ta := toList_str a
  have td := toList_str d
  have tt := toList_str typeW
  have tm := toList_str mapW
  unfold str typeW at tt
  unfold str mapW at tm
  have E1 : Hid ((numOf b heightW).isSome = true) := by show _ = _; rw [nb.out]; rfl
  have E2 : Hid ((numOf c widthW).isSome = true) := by show _ = _; rw [nc.out]; rfl
  have P1 : Hid ((⟨#[104, 101, 105, 103, 104, 116, 32]⟩ : ByteArray) = str heightW) := rfl
  have P2 : Hid ((⟨#[119, 105, 100, 116, 104, 32]⟩ : ByteArray) = str widthW) := rfl
  have Z1 : Hid (szv W = W) := szv_in hs
  have Z2 : Hid (szv H = H) := szv_in hs2
  have a1 : 1 ≤ (W : Int) ∧ (W : Int) ≤ 16 := of_decide_eq_true hs
  have a2 : 1 ≤ (H : Int) ∧ (H : Int) ≤ 16 := of_decide_eq_true hs2
  go_enter Tryd.func10, Tryd.ntmps10
  go_wp2_with (go_at_call 30; refine (linesS s (by omega) _).mono ?_)
  rintro e w1 ⟨v, rfl, hown, hb1⟩
  obtain ⟨bb, cap, rfl, hbb, hbl, hcs⟩ := strRow_of hown (by omega)
  have c0 : w1.cell? ⟨bb, 0, none⟩ = some (.string (str a)) := by rw [hcs 0 (by omega), HLL.out]; rfl
  have c1 : w1.cell? ⟨bb, 1, none⟩ = some (.string (str b)) := by rw [hcs 1 (by omega), HLL.out]; rfl
  have c2 : w1.cell? ⟨bb, 2, none⟩ = some (.string (str c)) := by rw [hcs 2 (by omega), HLL.out]; rfl
  have c3 : w1.cell? ⟨bb, 3, none⟩ = some (.string (str d)) := by rw [hcs 3 (by omega), HLL.out]; rfl
  have C1 : Hid (w1.cell? ⟨bb, 1, none⟩ = some (.string (str b))) := c1
  have C2 : Hid (w1.cell? ⟨bb, 2, none⟩ = some (.string (str c))) := c2
  have CR : Hid (∀ i, i < (lnsL r).1.length → w1.cell? ⟨bb, 4 + i, none⟩ = some (.string (str ((lnsL r).1.getD i [])))) := fun i hi => by rw [hcs (4 + i) (by omega), HLL.out, Nat.add_comm]; rfl
  have z1 := hb1.size
  have HB : Below w1.heap.size w1 w1.drew := (Below.refl _ _).drew
  clear hown hcs HLL
  rw [n4, l2]
  clear n4 l2
  generalize (lnsL r).1 = R at *
  generalize (lnsL r).2 = rs at *
  have trs := toList_str rs
  obtain ⟨n, en⟩ : ∃ n, R.length = n := ⟨_, rfl⟩
  rw [en] at hl CR ⊢
  have EN : Hid (R.length = n) := en
  clear en
  obtain ⟨rfl, rfl⟩ := hl
  have HFO : Hid (flatB W R = o) := ho
  clear ho
  have hf2 : ¬ (4 + (n : Int)) < 4 := by omega
  have q1 : (4 : Int) ≤ (4 + (n : Int)) := by omega
  go_wp2_with (go_at_call 31; refine (headedH E1.out (by omega) _).mono ?_)
  rintro e w' ⟨rfl, rfl⟩
  go_wp2_with (go_at_call 31; refine (headedW E2.out (by omega) _).mono ?_)
  rintro e w' ⟨rfl, rfl⟩
  go_wp2
  go_region_held (fun w' => w'.cell? ⟨bb, 1, none⟩ = some (.string (str b)) ∧ w'.cell? ⟨bb, 2, none⟩ = some (.string (str c))) (first | (exact ⟨c1, c2⟩)) (first | (go_at_call 32; refine (sized_g (by assumption) (by assumption) (by assumption) (by omega) _).mono ?_; rintro e w2 ⟨rfl, hb2⟩; have HB := HB.trans (hb2.mono HB.size); have c1 := (HB.cell (p := ⟨bb, 1, none⟩) hbl).trans C1.out; have c2 := (HB.cell (p := ⟨bb, 2, none⟩) hbl).trans C2.out) | (go_at_call 16; refine (rnew_r hs hs2 _).mono ?_; rintro e w3 ⟨rfl, hb3, hR, hlt3⟩; have hsz3 := HB.size; have HB := HB.trans (hb3.mono HB.size); have c1 := (HB.cell (p := ⟨bb, 1, none⟩) hbl).trans C1.out; have c2 := (HB.cell (p := ⟨bb, 2, none⟩) hbl).trans C2.out))
  all_goals
    have r0 := hR.1.c0
    have r1 := hR.1.c1
    obtain ⟨B, hB⟩ : ∃ B, w2.heap.size = B := ⟨_, rfl⟩
    rw [hB] at hR hlt3 hsz3 r0 r1 ⊢
    have HB3 := hb1.trans (HB.mono z1)
    have hbB : bb ≠ B := by omega
    have hwB : w.heap.size ≤ B := by omega
    have CR3 : Hid (∀ i, i < n → w3.cell? ⟨bb, 4 + i, none⟩ = some (.string (str (R.getD i [])))) := fun i hi => (HB.cell (p := ⟨bb, 4 + i, none⟩) hbl).trans (CR.out i hi)
    clear hB hb3 hsz3 z1 CR C1 C2 c1 c2 c0 c3
    go_wp2
    clear r0 r1
    go_loopg [10] n (fun q y wr => ∃ (j : Nat) (cs : List Bool), j ≤ n ∧ q = n - j ∧ y = .int .i64 j ∧ flatB W (R.take j) = some cs ∧ RCells wr B W n cs ∧ Touch B w3 wr)
    case atStart => exact ⟨0, [], by omega, rfl, rfl, by simp [flatB], hR, Touch.refl _ _⟩
    case round =>
      obtain ⟨j, cs, hj, hgk, rfl, hfl, hC, hT⟩ := hrel
      have HG : Hid (gk = n - j) := hgk
      clear hgk
      have r0 := hC.1.c0
      have r1 := hC.1.c1
      by_cases hlt : j < n
      · have cr : wr.cell? ⟨bb, 4 + j, none⟩ = some (.string (str (R.getD j []))) := (hT.cell (p := ⟨bb, 4 + j, none⟩) hbB).trans (CR3.out j hlt)
        have hRj : R.take (j + 1) = R.take j ++ [R.getD j []] := by rw [List.take_add_one, List.getD_eq_getElem?_getD, List.getElem?_eq_getElem (by rw [EN.out]; exact hlt)]; rfl
        have hcl : cs.length = j * W := by have := flat_len hfl; rw [List.length_take, Nat.min_eq_left (by rw [EN.out]; exact hj)] at this; exact this
        have hsn := flat_snoc (R.getD j []) _ _ hfl
        rw [← hRj] at hsn
        have hbad : flatB W (R.take (j + 1)) = none → flatB W R = none := flat_bad
        have hsl := str_size (R.getD j [])
        generalize R.getD j [] = l at cr hsn hsl
        have j1 : (j : Int) < (n : Int) := by omega
        have j2 : (0 : Int) ≤ 4 + (j : Int) := by omega
        have j3 : 4 + (j : Int) < 4 + (n : Int) := by omega
        have t4 : (4 + (j : Int)).toNat = 4 + j := by omega
        clear hRj
        by_cases hw : l.length = W
        · rw [if_pos hw] at hsn
          have HSN : Hid (flatB W (R.take (j + 1)) = (rowB l).map (fun x => cs ++ x)) := hsn
          have HBAD : Hid (flatB W (R.take (j + 1)) = none → flatB W R = none) := hbad
          rw [hw] at hsl
          have HW : Hid (l.length = W) := hw
          have HCL : Hid (cs.length = j * W) := hcl
          have HFL : Hid (flatB W (R.take j) = some cs) := hfl
          clear hsn hw hcl hfl hbad
          go_wp2
          clear r0 r1 cr
          go_loopg [12] W (fun q x wr => ∃ (i : Nat) (a : List Bool), i ≤ W ∧ q = W - i ∧ x = .int .i64 i ∧ rowB (l.take i) = some a ∧ RCells wr B W n (cs ++ a) ∧ Touch B w3 wr)
          case atStart => exact ⟨0, [], by omega, rfl, rfl, rfl, by simpa using hC, hT⟩
          case round =>
            clear hC hT
            obtain ⟨i, ax, hi, hgi, rfl, hro, hC, hT⟩ := hrel
            have HGi : Hid (gk = W - i) := hgi
            clear hgi
            have r0 := hC.1.c0
            have r1 := hC.1.c1
            by_cases hil : i < W
            · have hil2 : i < l.length := by rw [HW.out]; exact hil
              have hix := idx_str l i hil2
              have hta := rowB_take hro hil2
              have hno : rowB (l.take (i + 1)) = none → rowB l = none := rowB_none
              have hal := rowB_len hro
              rw [List.length_take, Nat.min_eq_left (by omega)] at hal
              generalize l[i] = c at hix hta
              have hcl2 : (cs ++ ax).length = j * W + i := by rw [List.length_append, hal, HCL.out]
              have hjW : j * W + W ≤ W * n := by rw [← Nat.succ_mul, Nat.mul_comm W n]; exact Nat.mul_le_mul_right W hlt
              have hin : (cs ++ ax).length < W * n := by rw [hcl2]; omega
              have hb16 : W * n ≤ 16 * 16 := Nat.mul_le_mul (by omega) (by omega)
              have him : (cs ++ ax).length ≤ 1000000 := by omega
              have HI : Hid ((j : Int) * (W : Int) + (i : Int) = ((cs ++ ax).length : Nat)) := by show _ = _; rw [hcl2, Int.natCast_add, Int.natCast_mul]
              have e1 : (0 : Int) ≤ (j : Int) * (W : Int) ∧ (j : Int) * (W : Int) ≤ 1000 := by rw [← Int.natCast_mul]; omega
              have e2 : (i : Int) < (W : Int) := by omega
              have e3 : (i : Int) < 16 := by omega
              have e4 : (0 : Int) ≤ (i : Int) := by omega
              have HNO : Hid (rowB (l.take (i + 1)) = none → rowB l = none) := hno
              clear hcl2 hjW hb16 hal hil2 hno hro
              cases hc : cellB c with
              | none =>
                have hbd : o = none := by rw [← HFO.out]; exact HBAD.out (by rw [HSN.out, HNO.out (by rw [hta, hc]; rfl)]; rfl)
                obtain ⟨b1, b2, b3, b4, b5, b6, b7⟩ := cellB_none hc
                clear hta hc
                generalize (c.toNat : Int) = m at *
                go_wp2
                go_ret2
                exact ⟨.inl ⟨hbd, rfl⟩, hT.below HB3 hwB⟩
              | some v =>
                rw [hc] at hta
                have HTA : Hid (rowB (l.take (i + 1)) = some (ax ++ [v])) := hta
                clear hta
                have hcc := cellB_some hc
                clear hc
                rcases hcc with ⟨rfl, hcc⟩ | ⟨rfl, hcc⟩
                · rcases hcc with rfl | rfl | rfl
                  all_goals
                    go_wp2
                    go_roundg (W - (i + 1))
                    case measure => have := HGi.out; omega
                    case rel => exact ⟨i + 1, ax ++ [false], by omega, rfl, by go_num, HTA.out, by rw [← List.append_assoc]; exact hC.false, hT⟩
                · rcases hcc with rfl | rfl | rfl | rfl
                  all_goals
                    go_wp2_with (go_at_call 19; refine (rset_true HI.out _ hC hin him).mono ?_; rintro e w5 ⟨rfl, T5, C5⟩)
                    go_roundg (W - (i + 1))
                    case measure => have := HGi.out; omega
                    case rel => exact ⟨i + 1, ax ++ [true], by omega, rfl, by go_num, HTA.out, by rw [← List.append_assoc]; exact C5, hT.trans T5⟩
            · have hiW : i = W := by omega
              subst hiW
              go_wp2
              go_roundg (n - (j + 1))
              case measure => have := HG.out; omega
              case rel => exact ⟨j + 1, cs ++ ax, by omega, rfl, by go_num, by rw [HSN.out, ← List.take_length (l := l), HW.out, hro]; rfl, hC, hT⟩
        · rw [if_neg hw] at hsn
          have hno := hbad hsn
          rw [HFO.out] at hno
          have hw2 : ¬ (l.length : Int) = (W : Int) := by omega
          clear hsn hbad hcl hfl
          go_wp2
          go_ret2
          exact ⟨.inl ⟨hno, rfl⟩, hT.below HB3 hwB⟩
      · have hjn : j = n := by omega
        subst hjn
        have hro : o = some cs := by rw [← HFO.out, ← hfl, ← EN.out, List.take_length]
        clear hfl
        go_wp2
        go_ret2
        exact ⟨.inr ⟨cs, hro, B, hwB, by rw [hT.size]; exact hlt3, rfl, hC⟩, hT.below HB3 hwB⟩
end Go.Proofs.YtkhofbpgdkoonabDoor
