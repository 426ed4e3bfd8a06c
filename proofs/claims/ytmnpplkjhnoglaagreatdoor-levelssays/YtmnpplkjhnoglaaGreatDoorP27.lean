/-
  Texts laid together: LvNeed2, LvPlace, LvIns.
-/
import Derived.Test.YtmnpplkjhnoglaaGreatDoorP26
import Derived.Shelf.Spec.SlicesInsertGrow
/-
  The links that a corner would leave behind: package levels' 'needed'.
-/
namespace Go.Proofs.YtmnpplkjhnoglaaGreatDoor
open Go.RowKit

/-- links as they lie in memory -/
def lkV (x : Nat × LE) : List Value := [.int .i64 (x.1 : Int), .int .i64 (x.2.to : Int), .int .i64 x.2.s, .int .i64 x.2.d]
def lksV (l : List (Nat × LE)) : List Value := l.flatMap lkV
theorem lksV_app (l l' : List (Nat × LE)) : lksV (l ++ l') = lksV l ++ lksV l' := by
  unfold lksV
  rw [List.flatMap_append]
theorem lksV_one (x : Nat × LE) : lksV [x] = lkV x := by
  unfold lksV
  rw [List.flatMap_cons, List.flatMap_nil, List.append_nil]
theorem Tryz.infoK : (Tryz.prog.info? 185).map (fun i => (i.zero, i.size, i.bytes)) = some (some (.agg #[.int .i64 0, .int .i64 0, .int .i64 0, .int .i64 0]), 4, 32) := by kernel_rfl
theorem Tryz.underL : Tryz.prog.underlying 182 = some (.slice 185) := by kernel_rfl

/-- is it needed? -/
theorem need_by {st : LSt} {n : Nat} {a b : LE} {p : LE → LE → Bool} {F : Int → Option (Int × Int)} {M : Int} (hp : ∀ a b, p a b = true ↔ Need st n a b) (hD : Dist st n a.to M F) (hM : val (a.s + b.s) (a.d + b.d) ≤ M) :
    (F (b.to : Int) = none → p a b = true) ∧ ∀ s d, F (b.to : Int) = some (s, d) → (p a b = true ↔ val (a.s + b.s) (a.d + b.d) < val s d) := by
  have h := hD (b.to : Int) (a.s + b.s) (a.d + b.d) hM
  refine ⟨fun hn => (hp a b).2 (fun hw => ?_), fun s d hs => ⟨fun h1 => ?_, fun h1 => (hp a b).2 (fun hw => ?_)⟩⟩
  · obtain ⟨x, y, h1, _⟩ := h.1 hw
    rw [hn] at h1; cases h1
  · have h2 := (hp a b).1 h1
    rcases Int.lt_or_le (val (a.s + b.s) (a.d + b.d)) (val s d) with h3 | h3
    · exact h3
    · exact absurd (h.2 ⟨s, d, hs, h3⟩) h2
  · obtain ⟨x, y, h2, h3⟩ := h.1 hw
    rw [hs] at h2; cases h2
    omega

set_option maxHeartbeats 4000000 in
set_option maxRecDepth 1000000 in
theorem needed_any {N lb vb eb top n g cap : Nat} {L : List Nat} {st : LSt} {f : Int → Option Value} {l : List LE} {p : LE → LE → Bool} (w : World) (V : LvAt w N lb vb eb top L st f) (O : Okl L 512 st) (hrow : RowL w (some ⟨g, 0, none⟩) l) (hl : l.length ≤ 256) (hcap : l.length ≤ cap) (hcap2 : cap ≤ maxLen) (hin : ∀ e ∈ l, e ∈ st.es n) (hp : ∀ a b, p a b = true ↔ Need st n a b) :
    Calls Tryz.prog 121 #[.pointer (some ⟨lb, 0, none⟩), .int .i64 (n : Int), .slice (some ⟨g, 0, none⟩) l.length cap] w fun e w' => ∃ v, e = .returned v ∧ w'.ownsRow w.heap.size 185 4 v (moreF p n l).length (lksV (moreF p n l)) ∧ Below w.heap.size w w' := by
  obtain ⟨i0, hi, hz0, hz1, hz2⟩ := info_parts Tryz.infoK
  have HP : Hid (∀ a b, p a b = true ↔ Need st n a b) := hp
  have HIN : Hid (∀ e ∈ l, e ∈ st.es n) := hin
  have hcap3 : cap ≤ 9223372036854775807 := by unfold maxLen at hcap2; omega
  clear hp hin
  go_enter Tryz.func121, Tryz.ntmps121
  go_wp2
  go_loopw [7, 19] (fun rv iv wr => ∃ (k : Nat), k ≤ l.length ∧ iv = .int .i64 k ∧ wr.ownsRow w.heap.size 185 4 rv (mTo p n l k).length (lksV (mTo p n l k)) ∧ Below w.heap.size w wr)
    (fun _ i _ => l.length - (intOf i).toNat)
  case atStart => exact ⟨0, Nat.zero_le _, rfl, by rw [mTo_zero]; exact World.ownsRow_nil _ _ _ _, Below.refl _ _⟩
  case round =>
    obtain ⟨k, hk, rfl, hown, hB⟩ := hrel
    by_cases hlt : k < l.length
    · obtain ⟨a, ha⟩ : ∃ a, l[k]? = some a := ⟨l[k], by simp [hlt]⟩
      have HST : Hid (mTo p n l (k + 1) = mTo p n l k ++ rowM p n a (l.drop (k + 1))) := mTo_step ha
      have rowr := hrow.below hB
      have rowD := rowr.drop (k + 1)
      obtain ⟨b, o, hbo, q1, q2, q3, q4⟩ := rowr k a ha
      have haM := HIN.out a (List.mem_of_getElem? ha)
      cases hbo
      rw [Nat.zero_add] at q1 q2 q3 q4 rowD
      have i1 : (0 : Int) ≤ (k : Int) := by omega
      have i2 : (k : Int) < (l.length : Int) := by omega
      have i3 : ((k : Int) + 1) ≤ (l.length : Int) := by omega
      obtain ⟨l2, hl2⟩ : ∃ l2, l2 = l.drop (k + 1) := ⟨_, rfl⟩
      have hlen2 : l2.length = l.length - (k + 1) := by rw [hl2, List.length_drop]
      have HL2 : Hid (∀ e ∈ l2, e ∈ st.es n) := fun e he => HIN.out e (List.mem_of_mem_drop (by rw [← hl2]; exact he))
      have hgw : g < w.heap.size := by
        obtain ⟨b', o', h1, h2⟩ := hrow.lt (by omega)
        cases h1; exact h2
      rw [← hl2] at HST rowD
      have hPl := mTo_len p n l k
      have hPl2 : k * l.length ≤ 256 * 256 := Nat.mul_le_mul (by omega) hl
      obtain ⟨e1, e2, e3, e4⟩ := O.bd haM
      have haL := (O.cor.ends haM).2
      have okA : okC a.s a.d := by unfold okC; omega
      generalize hP : mTo p n l k = P at *
      clear hP
      have rowO : (cap = k + 1 → RowL wr (some ⟨g, 0, none⟩) l2) ∧ (¬ cap = k + 1 → RowL wr (some ⟨g, (k + 1) * 4, none⟩) l2) :=
        ⟨fun h => by
          have e : l2 = [] := List.length_eq_zero_iff.1 (by omega)
          rw [e]; exact RowL.nil _ _, fun _ => rowD⟩
      have b8 : Below wr.heap.size wr (wr.alloc (.cells #[.int .i64 (a.to : Int), .int .i64 a.s, .int .i64 a.d, .int .i64 a.mid] 67)) := (Below.refl _ _).alloc (Nat.le_refl _) _
      have y0 : (wr.alloc (.cells #[.int .i64 (a.to : Int), .int .i64 a.s, .int .i64 a.d, .int .i64 a.mid] 67)).cell? ⟨wr.heap.size, 0, none⟩ = some (.int .i64 (a.to : Int)) := World.cell?_alloc_at _ _ _ 0 rfl
      have y1 : (wr.alloc (.cells #[.int .i64 (a.to : Int), .int .i64 a.s, .int .i64 a.d, .int .i64 a.mid] 67)).cell? ⟨wr.heap.size, 1, none⟩ = some (.int .i64 a.s) := World.cell?_alloc_at _ _ _ 1 rfl
      have y2 : (wr.alloc (.cells #[.int .i64 (a.to : Int), .int .i64 a.s, .int .i64 a.d, .int .i64 a.mid] 67)).cell? ⟨wr.heap.size, 2, none⟩ = some (.int .i64 a.d) := World.cell?_alloc_at _ _ _ 2 rfl
      have own8 := own_below hown b8
      have B8 := hB.trans (b8.mono hB.size)
      have hrE : ∀ q, u7.ownBlock = some q → q < wr.heap.size := fun q hq => (hown.lt q hq).2
      clear hown rowr
      rcases Decidable.em (cap = k + 1) with hck | hck
      all_goals
        first
          | (have rowP := rowO.1 hck; clear rowO rowD)
          | (have rowP := rowO.2 hck; clear rowO rowD)
        go_wp2_with fail
        rw [← hlen2]
        have HLN : Hid (l2.length = l.length - (k + 1)) := hlen2
        have hl256 : l2.length ≤ 256 := by omega
        have HCK : Hid _ := hck
        have HLD : Hid (l2 = l.drop (k + 1)) := hl2
        clear hck hlen2 hl2
        have rowQ := rowP.below b8
        have hBs := hB.size
        clear b8 rowP q1 q2 q3 q4 hB
        generalize wr.alloc (.cells #[.int .i64 (a.to : Int), .int .i64 a.s, .int .i64 a.d, .int .i64 a.mid] 67) = w8 at *
        have hE8 : wr.heap.size < w8.heap.size := World.block_lt_of_cell? _ _ y0
        have hEw : w.heap.size ≤ wr.heap.size := hBs
        generalize wr.heap.size = E at *
        have b9 : Below w8.heap.size w8 w8.drew := (Below.refl _ _).drew
        have B9 := B8.trans (b9.mono B8.size)
        have t0 : w8.drew.cell? ⟨E, 0, none⟩ = some (.int .i64 (a.to : Int)) := y0
        have t1 : w8.drew.cell? ⟨E, 1, none⟩ = some (.int .i64 a.s) := y1
        have t2 : w8.drew.cell? ⟨E, 2, none⟩ = some (.int .i64 a.d) := y2
        have row9 := rowQ.below b9
        have own9 : w8.drew.ownsRow w.heap.size 185 4 u7 P.length (lksV P) := own_below own8 b9
        have hgr0 := fun cc => greatest_any (cap := cc) w8.drew row9 hl256 (fun e he => O.bd (HL2.out e he))
        have hgr : Hid _ := hgr0
        clear hgr0
        have V9 := V.below B9
        have hadd : Hid (∀ (gs gd : Int) (w10 : World), (0 ≤ gs ∧ 0 ≤ gd ∧ gs ≤ 512 ∧ gd ≤ 512) → Calls Tryz.prog 106 #[.agg #[.int .i64 a.s, .int .i64 a.d], .agg #[.int .i64 gs, .int .i64 gd]] w10 fun e w' => e = .returned (.agg #[.int .i64 (a.s + gs), .int .i64 (a.d + gd)]) ∧ Below w10.heap.size w10 w') := fun gs gd w10 hg => add_any a.s a.d gs gd w10 okA (by obtain ⟨g1, g2, g3, g4⟩ := hg; unfold okC; omega)
        have hdis : Hid (∀ (gs gd : Int) (w11 : World), (0 ≤ gs ∧ 0 ≤ gd ∧ gs ≤ 512 ∧ gd ≤ 512) → Below w8.drew.heap.size w8.drew w11 → Calls Tryz.prog 140 #[.pointer (some ⟨lb, 0, none⟩), .int .i64 (a.to : Int), .int .i64 (n : Int), .agg #[.int .i64 (a.s + gs), .int .i64 (a.d + gd)]] w11 fun e w' => ∃ kb F, e = .returned (.map (some kb)) ∧ MapF Tryz.prog 3 w' kb (fv F) (cnt F 256) ∧ Dist st n a.to (val (a.s + gs) (a.d + gd)) F ∧ (∀ {x s d}, F x = some (s, d) → okC s d) ∧ w11.heap.size ≤ kb ∧ Below w11.heap.size w11 w') := fun gs gd w11 hg hb => dist_levels (n := n) (ms := a.s + gs) (md := a.d + gd) w11 (V9.below hb) O haL (by omega) (by omega) (by omega) (by omega)
        clear B8 b9 y0 y1 y2 rowQ own8 V9
        generalize hta : (a.to : Int) = ta at *
        generalize hsa : a.s = sa at *
        generalize hda : a.d = da at *
        have HTA : Hid ((a.to : Int) = ta) := hta
        have HSA : Hid (a.s = sa) := hsa
        have HDA : Hid (a.d = da) := hda
        clear hta hsa hda
        go_region_held3 (fun w' => w'.cell? ⟨E, 0, none⟩ = some (.int .i64 ta) ∧ w'.cell? ⟨E, 1, none⟩ = some (.int .i64 sa) ∧ w'.cell? ⟨E, 2, none⟩ = some (.int .i64 da)) (first | exact ⟨t0, t1, t2⟩ | exact ⟨u0, u1, u2⟩ | exact ⟨x0, x1, x2⟩ | exact ⟨z0, z1, z2⟩)
          (first
            | (go_at_call 141; refine (hgr.out _).mono ?_; rintro r w10 ⟨gs, gd, rfl, hgb, hgm', hb10⟩; have hgm : Hid _ := hgm'; clear hgm'; have u0 := (hb10.cell (World.block_lt_of_cell? _ _ t0)).trans t0; have u1 := (hb10.cell (World.block_lt_of_cell? _ _ t1)).trans t1; have u2 := (hb10.cell (World.block_lt_of_cell? _ _ t2)).trans t2)
            | (go_at_call 106; refine (hadd.out gs gd w10 hgb).mono ?_; rintro r w11 ⟨rfl, hb11⟩; have x0 := (hb11.cell (World.block_lt_of_cell? _ _ u0)).trans u0; have x1 := (hb11.cell (World.block_lt_of_cell? _ _ u1)).trans u1; have x2 := (hb11.cell (World.block_lt_of_cell? _ _ u2)).trans u2; have b11 := hb10.trans (hb11.mono hb10.size))
            | (go_at_call 140; refine (hdis.out gs gd w11 hgb b11).mono ?_; rintro r w12 ⟨kb, F, rfl, hM12, hD12, hok12, hkb12, hb12⟩; have z0 := (hb12.cell (World.block_lt_of_cell? _ _ x0)).trans x0; have z1 := (hb12.cell (World.block_lt_of_cell? _ _ x1)).trans x1; have z2 := (hb12.cell (World.block_lt_of_cell? _ _ x2)).trans x2))
        have b12 := b11.trans (hb12.mono b11.size)
        have own12 := own_below own9 b12
        have B12 := B9.trans (b12.mono B9.size)
        have hEk : kb ≠ E := by have := b11.size; have h : w8.drew.heap.size = w8.heap.size := rfl; omega
        have HND : Hid (∀ b ∈ l2, (F (b.to : Int) = none → p a b = true) ∧ ∀ s d, F (b.to : Int) = some (s, d) → (p a b = true ↔ val (sa + b.s) (da + b.d) < val s d)) := fun b hb => by
          have h1 := hgm.out b hb
          have h2 := val_add sa da gs gd
          have h3 := val_add sa da b.s b.d
          have := need_by (a := a) (b := b) HP.out hD12 (by rw [HSA.out, HDA.out]; omega)
          rw [HSA.out, HDA.out] at this
          exact this
        have HOK : Hid (∀ {x s d}, F x = some (s, d) → okC s d) := fun h => hok12 h
        have HQ : Hid (∀ q, u7.ownBlock = some q → q ≠ E ∧ q ≠ kb) := fun q hq => by
          have h1 := hrE q hq
          have h2 := b11.size
          have h : w8.drew.heap.size = w8.heap.size := rfl
          exact ⟨by omega, by omega⟩
        clear hgr hadd hdis hgm hD12 hok12 hkb12 hb12 hb11 hb10 b11 b12 own9 B9 t0 t1 t2 u0 u1 u2 x0 x1 x2 row9 hE8 hgb
        go_wp2
      · have h0 : l2.length = 0 := by have := HLN.out; have := HCK.out; omega
        have HE0 : Hid (mTo p n l (k + 1) = P) := by
          have e : l2 = [] := List.length_eq_zero_iff.1 h0
          rw [HST.out, e]
          show P ++ [] = P
          rw [List.append_nil]
        go_loopw [7, 40] (fun rv jv wr => jv = .int .i64 0 ∧ wr.ownsRow w.heap.size 185 4 rv P.length (lksV P) ∧ Below w.heap.size w wr) (fun _ _ _ => 0)
        case atStart => exact ⟨rfl, own12, B12⟩
        case round =>
          obtain ⟨rfl, ho, hB2⟩ := hrel
          clear own12 B12 hM12 z0 z1 z2
          go_wp2
          go_roundw
          case rel => exact ⟨k + 1, by omega, by go_num, by rw [HE0.out]; exact ho, hB2⟩
          case measure => simp [intOf]; omega
      · go_loopw [7, 40] (fun rv jv wr => ∃ j : Nat, j ≤ l2.length ∧ jv = .int .i64 j ∧ wr.ownsRow w.heap.size 185 4 rv (P ++ rowM p n a (l2.take j)).length (lksV (P ++ rowM p n a (l2.take j))) ∧ wr.cell? ⟨E, 0, none⟩ = some (.int .i64 ta) ∧ wr.cell? ⟨E, 1, none⟩ = some (.int .i64 sa) ∧ wr.cell? ⟨E, 2, none⟩ = some (.int .i64 da) ∧ MapF Tryz.prog 3 wr kb (fv F) (cnt F 256) ∧ Hid (∀ q, rv.ownBlock = some q → q ≠ E ∧ q ≠ kb) ∧ Below w.heap.size w wr)
          (fun _ i _ => l2.length - (intOf i).toNat)
        case atStart => exact ⟨0, Nat.zero_le _, rfl, by show World.ownsRow _ _ _ _ _ (P ++ []).length (lksV (P ++ [])); rw [List.append_nil]; exact own12, z0, z1, z2, hM12, HQ, B12⟩
        case round =>
          clear own12 z0 z1 z2 hM12 HQ B12
          obtain ⟨j, hj, rfl, ho, z0, z1, z2, hM, HQ, hB2⟩ := hrel
          by_cases hlt2 : j < l2.length
          · obtain ⟨b, hb⟩ : ∃ b, l2[j]? = some b := ⟨l2[j], by simp [hlt2]⟩
            have rowr := (hrow.below hB2).drop (k + 1)
            rw [← HLD.out, Nat.zero_add] at rowr
            obtain ⟨b', o', hbo, q1, q2, q3, q4⟩ := rowr j b hb
            cases hbo
            have hbm := List.mem_of_getElem? hb
            obtain ⟨f1, f2, f3, f4⟩ := O.bd (HL2.out b hbm)
            have hbL := V.bd _ (O.cor.ends (HL2.out b hbm)).2
            have hwb := wf_small (a := (b.to : Int)) (by omega) (by omega)
            obtain ⟨hnd1, hnd2⟩ := HND.out b hbm
            have j1 : (0 : Int) ≤ (j : Int) := by omega
            have j2 : (j : Int) < (l2.length : Int) := by omega
            have okB : okC b.s b.d := by unfold okC; omega
            have okS : okC (sa + b.s) (da + b.d) := by unfold okC; omega
            have HNO : Hid (p a b = false → rowM p n a (l2.take (j + 1)) = rowM p n a (l2.take j)) := fun h => rowM_no hb h
            have HYS : Hid (p a b = true → lksV (P ++ rowM p n a (l2.take (j + 1))) = lksV (P ++ rowM p n a (l2.take j)) ++ [.int .i64 ta, .int .i64 (b.to : Int), .int .i64 (sa + b.s), .int .i64 (da + b.d)] ∧ (P ++ rowM p n a (l2.take (j + 1))).length = (P ++ rowM p n a (l2.take j)).length + 1) := fun h => by
              rw [rowM_yes hb h, ← List.append_assoc, lksV_app, lksV_one, List.length_append]
              refine ⟨?_, rfl⟩
              show _ ++ [_, _, _, _] = _
              rw [HTA.out, HSA.out, HDA.out]
            have hR2 : (P ++ rowM p n a (l2.take j)).length ≤ 65536 + 256 := by
              have := rowM_len p n a (l2.take j)
              rw [List.length_take] at this
              rw [List.length_append]
              omega
            have HRR : Hid (∃ R, R = P ++ rowM p n a (l2.take j)) := ⟨_, rfl⟩
            generalize hRR : P ++ rowM p n a (l2.take j) = R at *
            have HRJ : Hid (P ++ rowM p n a (l2.take j) = R) := hRR
            clear hRR HRR
            generalize hpe : p a b = pe at *
            have HPE : Hid (p a b = pe) := hpe
            clear hpe
            have b1 : Below wr.heap.size wr (wr.alloc (.cells #[.int .i64 (b.to : Int), .int .i64 b.s, .int .i64 b.d, .int .i64 b.mid] 67)) := (Below.refl _ _).alloc (Nat.le_refl _) _
            have v0 : (wr.alloc (.cells #[.int .i64 (b.to : Int), .int .i64 b.s, .int .i64 b.d, .int .i64 b.mid] 67)).cell? ⟨wr.heap.size, 0, none⟩ = some (.int .i64 (b.to : Int)) := World.cell?_alloc_at _ _ _ 0 rfl
            have v1 : (wr.alloc (.cells #[.int .i64 (b.to : Int), .int .i64 b.s, .int .i64 b.d, .int .i64 b.mid] 67)).cell? ⟨wr.heap.size, 1, none⟩ = some (.int .i64 b.s) := World.cell?_alloc_at _ _ _ 1 rfl
            have v2 : (wr.alloc (.cells #[.int .i64 (b.to : Int), .int .i64 b.s, .int .i64 b.d, .int .i64 b.mid] 67)).cell? ⟨wr.heap.size, 2, none⟩ = some (.int .i64 b.d) := World.cell?_alloc_at _ _ _ 2 rfl
            have ho1 := own_below ho b1
            have x0 := (b1.cell (World.block_lt_of_cell? _ _ z0)).trans z0
            have x1 := (b1.cell (World.block_lt_of_cell? _ _ z1)).trans z1
            have x2 := (b1.cell (World.block_lt_of_cell? _ _ z2)).trans z2
            have hM1 := hM.keep (F := fun _ => False) (Keep.of_below b1) id
            have B1 := hB2.trans (b1.mono hB2.size)
            have hadd := add_any sa da b.s b.d (wr.alloc (.cells #[.int .i64 (b.to : Int), .int .i64 b.s, .int .i64 b.d, .int .i64 b.mid] 67)) okA okB
            have hsz1 : w.heap.size ≤ wr.heap.size := hB2.size
            clear hb hbm rowr b1 ho z0 z1 z2 hM hB2
            generalize (b.to : Int) = tb at *
            generalize b.s = sb at *
            generalize b.d = db at *
            generalize b.mid = mb at *
            go_wp2_with fail
            generalize wr.alloc (.cells #[.int .i64 tb, .int .i64 sb, .int .i64 db, .int .i64 mb] 67) = w1 at *
            generalize wr.heap.size = E1 at *
            refine hadd.mono ?_
            rintro r w2 ⟨rfl, hb2⟩
            have b3 : Below w2.heap.size w2 (w2.alloc (.cells #[.int .i64 (sa + sb), .int .i64 (da + db)] 65)) := (Below.refl _ _).alloc (Nat.le_refl _) _
            have b23 := hb2.trans (b3.mono hb2.size)
            have ho3 := own_below ho1 b23
            have y0 := (b23.cell (World.block_lt_of_cell? _ _ x0)).trans x0
            have y1 := (b23.cell (World.block_lt_of_cell? _ _ x1)).trans x1
            have y2 := (b23.cell (World.block_lt_of_cell? _ _ x2)).trans x2
            have r0 := (b23.cell (World.block_lt_of_cell? _ _ v0)).trans v0
            have hM3 := hM1.keep (F := fun _ => False) (Keep.of_below b23) id
            have B3 := B1.trans (b23.mono B1.size)
            have sl3 := Slot.new w2 (sa + sb) (da + db)
            clear hadd hb2 b3 b23 ho1 x0 x1 x2 v0 v1 v2 hM1 B1 q1 q2 q3 q4
            cases hF : F tb with
            | none =>
              have hlk : (Instr.lookup 125 (.map (some kb)) (.int .i64 tb) true).run Tryz.prog (w2.alloc (.cells #[.int .i64 (sa + sb), .int .i64 (da + db)] 65)) = .ok (.tuple #[.agg #[.int .i64 0, .int .i64 0], .bool false]) (w2.alloc (.cells #[.int .i64 (sa + sb), .int .i64 (da + db)] 65)) := hM3.look_none law3 Tryz.underK (zeroK _) hwb (fv_none hF) true
              obtain ⟨hy1, hy2⟩ := HYS.out (hnd1 hF)
              have HY1 : Hid _ := hy1
              have HY2 : Hid _ := hy2
              have b4 : Below (w2.alloc (.cells #[.int .i64 (sa + sb), .int .i64 (da + db)] 65)).heap.size (w2.alloc (.cells #[.int .i64 (sa + sb), .int .i64 (da + db)] 65)) ((w2.alloc (.cells #[.int .i64 (sa + sb), .int .i64 (da + db)] 65)).alloc (.cells #[.int .i64 0, .int .i64 0] 65)) := (Below.refl _ _).alloc (Nat.le_refl _) _
              have ho4 := own_below ho3 b4
              have a0 := (b4.cell (World.block_lt_of_cell? _ _ y0)).trans y0
              have a1 := (b4.cell (World.block_lt_of_cell? _ _ y1)).trans y1
              have a2 := (b4.cell (World.block_lt_of_cell? _ _ y2)).trans y2
              have a3 := (b4.cell (World.block_lt_of_cell? _ _ r0)).trans r0
              have sl4 := sl3.below b4
              have a4 := sl4.c0
              have a5 := sl4.c1
              have sd4 := Slot.new (w2.alloc (.cells #[.int .i64 (sa + sb), .int .i64 (da + db)] 65)) 0 0
              have e4 : (w2.alloc (.cells #[.int .i64 (sa + sb), .int .i64 (da + db)] 65)).heap.size = w2.heap.size + 1 := by simp
              rw [e4] at sd4
              have a6 := sd4.c0
              have a7 := sd4.c1
              have hM4 := hM3.keep (F := fun _ => False) (Keep.of_below b4) id
              have B4 := B3.trans (b4.mono B3.size)
              clear b4 e4
              clear hnd1 hnd2 HNO HYS hF hy1 hy2 sl3 sl4 sd4
              obtain ⟨W5, hW5⟩ : ∃ W5, W5 = (w2.alloc (.cells #[.int .i64 (sa + sb), .int .i64 (da + db)] 65)).alloc (.cells #[.int .i64 0, .int .i64 0] 65) := ⟨_, rfl⟩
              rw [← hW5] at ho4 a0 a1 a2 a3 hM4 B4
              have hoW := ho4
              have d0 := a0
              have d1 := a1
              have d2 := a2
              have d3 := a3
              have hMW := hM4
              have BW := B4
              clear ho4 hM4 B4
              have hc5 := cell_four_new W5 (.int .i64 ta) (.int .i64 tb) (.int .i64 (sa + sb)) (.int .i64 (da + db)) 185
              have hz5 : W5.heap.size = w2.heap.size + 1 + 1 := by rw [hW5]; simp
              rw [hz5] at hc5
              clear hz5
              subst hW5
              go_wp2_with (at_builtin; refine wpList_append_own_at _ rfl _ _ 182 rfl w.heap.size 185 i0 (.agg #[.int .i64 0, .int .i64 0, .int .i64 0, .int .i64 0]) 4 32 Tryz.underL hi hz0 hz1 hz2 rfl (by decide) _ _ _ rfl (hoW.alloc _) ⟨w2.heap.size + 1 + 1, 0, none⟩ 1 1 [.int .i64 ta, .int .i64 tb, .int .i64 (sa + sb), .int .i64 (da + db)] rfl rfl hc5 (by intro u hu; simp at hu; rcases hu with rfl | rfl | rfl | rfl <;> rfl) ?c3 ?c4 ?c5 ?_)
              case c3 => unfold maxLen; omega
              case c4 => omega
              case c5 => have h5 := BW.size; first | (simp; omega) | (simp at h5 ⊢; omega)
              intro v' w6 hown' hgrow _ hat
              have K6 : Keep (fun q => u7.ownBlock = some q) _ w6 := ((Keep.refl _ _).alloc _).grown hgrow (fun q hq _ => hq)
              have c0' := K6.cellOf d0 (fun h => (HQ.out E h).1 rfl)
              have c1' := K6.cellOf d1 (fun h => (HQ.out E h).1 rfl)
              have c2' := K6.cellOf d2 (fun h => (HQ.out E h).1 rfl)
              have M6 := hMW.keep K6 (fun h => (HQ.out kb h).2 rfl)
              have B6 : Below w.heap.size w w6 := BW.trans (K6.to_below BW.size (fun q hq => (hoW.lt q hq).1))
              have HQ6 : Hid (∀ q, v'.ownBlock = some q → q ≠ E ∧ q ≠ kb) := fun q hq => by
                rcases hat with h | h
                · exact HQ.out q (by rw [← h]; exact hq)
                · rw [h] at hq
                  cases hq
                  have h1 := World.block_lt_of_cell? _ _ d0
                  have h2 := hMW.lt
                  simp only at h1
                  exact ⟨by first | (simp; omega) | (simp at h1 ⊢; omega), by first | (simp; omega) | (simp at h2 ⊢; omega)⟩
              have O6 : w6.ownsRow w.heap.size 185 4 v' (P ++ rowM p n a (l2.take (j + 1))).length (lksV (P ++ rowM p n a (l2.take (j + 1)))) := by
                rw [HY1.out, HY2.out]
                exact hown'
              clear hown' hgrow hat K6 hoW d0 d1 d2 d3 hMW BW
              go_wp2
              go_roundw
              case rel => exact ⟨j + 1, by omega, by go_num, O6, c0', c1', c2', M6, HQ6.out, B6⟩
              case measure => simp [intOf]; omega
            | some cc =>
              obtain ⟨s, d⟩ := cc
              have hlk : (Instr.lookup 125 (.map (some kb)) (.int .i64 tb) true).run Tryz.prog (w2.alloc (.cells #[.int .i64 (sa + sb), .int .i64 (da + db)] 65)) = .ok (.tuple #[.agg #[.int .i64 s, .int .i64 d], .bool true]) (w2.alloc (.cells #[.int .i64 (sa + sb), .int .i64 (da + db)] 65)) := hM3.look_some law3 Tryz.underK (zeroK _) hwb (fv_some hF) true
              have okF := HOK.out hF
              have hiff := hnd2 s d hF
              have b4 : Below (w2.alloc (.cells #[.int .i64 (sa + sb), .int .i64 (da + db)] 65)).heap.size (w2.alloc (.cells #[.int .i64 (sa + sb), .int .i64 (da + db)] 65)) ((w2.alloc (.cells #[.int .i64 (sa + sb), .int .i64 (da + db)] 65)).alloc (.cells #[.int .i64 s, .int .i64 d] 65)) := (Below.refl _ _).alloc (Nat.le_refl _) _
              have ho4 := own_below ho3 b4
              have a0 := (b4.cell (World.block_lt_of_cell? _ _ y0)).trans y0
              have a1 := (b4.cell (World.block_lt_of_cell? _ _ y1)).trans y1
              have a2 := (b4.cell (World.block_lt_of_cell? _ _ y2)).trans y2
              have a3 := (b4.cell (World.block_lt_of_cell? _ _ r0)).trans r0
              have sl4 := sl3.below b4
              have a4 := sl4.c0
              have a5 := sl4.c1
              have sd4 := Slot.new (w2.alloc (.cells #[.int .i64 (sa + sb), .int .i64 (da + db)] 65)) s d
              have e4 : (w2.alloc (.cells #[.int .i64 (sa + sb), .int .i64 (da + db)] 65)).heap.size = w2.heap.size + 1 := by simp
              rw [e4] at sd4
              have a6 := sd4.c0
              have a7 := sd4.c1
              have hM4 := hM3.keep (F := fun _ => False) (Keep.of_below b4) id
              have B4 := B3.trans (b4.mono B3.size)
              clear b4 e4
              have hless := less_v (r := ltB (sa + sb) (da + db) s d) rfl ((w2.alloc (.cells #[.int .i64 (sa + sb), .int .i64 (da + db)] 65)).alloc (.cells #[.int .i64 s, .int .i64 d] 65)) okS okF
              have hpe2 : pe = ltB (sa + sb) (da + db) s d := by
                cases hq : ltB (sa + sb) (da + db) s d with
                | true => exact hiff.2 ((ltB_val okS okF).1 hq)
                | false =>
                  cases pe with
                  | false => rfl
                  | true => rw [(ltB_val okS okF).2 (hiff.1 rfl)] at hq; cases hq
              rw [← hpe2] at hless
              clear hnd1 hnd2 hF hiff hpe2 sl3 sl4 sd4 ho3 hM3 B3
              go_wp2_with fail
              generalize (w2.alloc (.cells #[.int .i64 (sa + sb), .int .i64 (da + db)] 65)).alloc (.cells #[.int .i64 s, .int .i64 d] 65) = w4 at *
              refine hless.mono ?_
              rintro r W5 ⟨rfl, hb5⟩
              have hoW := own_below ho4 hb5
              have d0 := (hb5.cell (World.block_lt_of_cell? _ _ a0)).trans a0
              have d1 := (hb5.cell (World.block_lt_of_cell? _ _ a1)).trans a1
              have d2 := (hb5.cell (World.block_lt_of_cell? _ _ a2)).trans a2
              have d3 := (hb5.cell (World.block_lt_of_cell? _ _ a3)).trans a3
              have d4 := (hb5.cell (World.block_lt_of_cell? _ _ a4)).trans a4
              have d5 := (hb5.cell (World.block_lt_of_cell? _ _ a5)).trans a5
              have hMW := hM4.keep (F := fun _ => False) (Keep.of_below hb5) id
              have BW := B4.trans (hb5.mono B4.size)
              clear hless hb5 ho4 y0 y1 y2 r0 a0 a1 a2 a3 a4 a5 a6 a7 hM4 B4 hlk
              cases pe with
              | false =>
                have HS : Hid (P ++ rowM p n a (l2.take (j + 1)) = R) := by rw [HNO.out rfl]; exact HRJ.out
                clear HNO HYS
                go_wp2
                go_roundw
                case rel => exact ⟨j + 1, by omega, by go_num, by rw [HS.out]; exact hoW, d0, d1, d2, hMW, HQ.out, BW⟩
                case measure => simp [intOf]; omega
              | true =>
                obtain ⟨hy1, hy2⟩ := HYS.out rfl
                have HY1 : Hid _ := hy1
                have HY2 : Hid _ := hy2
                clear HNO HYS hy1 hy2
                go_wp2_with (at_builtin; refine wpList_append_own_at _ rfl _ _ 182 rfl w.heap.size 185 i0 (.agg #[.int .i64 0, .int .i64 0, .int .i64 0, .int .i64 0]) 4 32 Tryz.underL hi hz0 hz1 hz2 rfl (by decide) _ _ _ rfl (hoW.alloc _) ⟨W5.heap.size, 0, none⟩ 1 1 [.int .i64 ta, .int .i64 tb, .int .i64 (sa + sb), .int .i64 (da + db)] rfl rfl (cell_four_new _ _ _ _ _ _) (by intro u hu; simp at hu; rcases hu with rfl | rfl | rfl | rfl <;> rfl) ?c3 ?c4 ?c5 ?_)
                case c3 => unfold maxLen; omega
                case c4 => omega
                case c5 => have h5 := BW.size; first | (simp; omega) | (simp at h5 ⊢; omega)
                intro v' w6 hown' hgrow _ hat
                have K6 : Keep (fun q => u7.ownBlock = some q) W5 w6 := ((Keep.refl _ _).alloc _).grown hgrow (fun q hq _ => hq)
                have c0' := K6.cellOf d0 (fun h => (HQ.out E h).1 rfl)
                have c1' := K6.cellOf d1 (fun h => (HQ.out E h).1 rfl)
                have c2' := K6.cellOf d2 (fun h => (HQ.out E h).1 rfl)
                have M6 := hMW.keep K6 (fun h => (HQ.out kb h).2 rfl)
                have B6 : Below w.heap.size w w6 := BW.trans (K6.to_below BW.size (fun q hq => (hoW.lt q hq).1))
                have HQ6 : Hid (∀ q, v'.ownBlock = some q → q ≠ E ∧ q ≠ kb) := fun q hq => by
                  rcases hat with h | h
                  · exact HQ.out q (by rw [← h]; exact hq)
                  · rw [h] at hq
                    cases hq
                    have h1 := World.block_lt_of_cell? _ _ d0
                    have h2 := hMW.lt
                    simp only at h1
                    exact ⟨by first | (simp; omega) | (simp at h1 ⊢; omega), by first | (simp; omega) | (simp at h2 ⊢; omega)⟩
                have O6 : w6.ownsRow w.heap.size 185 4 v' (P ++ rowM p n a (l2.take (j + 1))).length (lksV (P ++ rowM p n a (l2.take (j + 1)))) := by
                  rw [HY1.out, HY2.out]
                  exact hown'
                clear hown' hgrow hat K6 hoW d0 d1 d2 d3 hMW BW
                go_wp2
                go_roundw
                case rel => exact ⟨j + 1, by omega, by go_num, O6, c0', c1', c2', M6, HQ6.out, B6⟩
                case measure => simp [intOf]; omega
          · have e : j = l2.length := by omega
            subst e
            have HE2 : Hid (mTo p n l (k + 1) = P ++ rowM p n a (l2.take l2.length)) := by rw [List.take_length]; exact HST.out
            clear z0 z1 z2 hM HQ
            go_wp2
            go_roundw
            case rel => exact ⟨k + 1, by omega, by go_num, by rw [HE2.out]; exact ho, hB2⟩
            case measure => simp [intOf]; omega
    · have e : k = l.length := by omega
      subst e
      rw [mTo_all] at hown
      go_wp2
      go_ret
      exact ⟨_, rfl, hown, hB⟩
end Go.Proofs.YtmnpplkjhnoglaaGreatDoor
/-
  Where an edge stands among edges: package levels' 'place'.
-/
namespace Go.Proofs.YtmnpplkjhnoglaaGreatDoor
open Go.RowKit

/-- how many lead to less -/
def posL (l : List LE) (t : Nat) : Nat := (l.filter (fun e => decide (e.to < t))).length
/-- does one lead there? -/
def hasL (l : List LE) (t : Nat) : Bool := match l[posL l t]? with | some e => decide (e.to = t) | none => false
theorem posL_cons_lt {x : LE} {l : List LE} {t : Nat} (h : x.to < t) : posL (x :: l) t = posL l t + 1 := by
  unfold posL
  rw [List.filter_cons_of_pos (by simpa using h), List.length_cons]
theorem posL_ge : ∀ {l : List LE} {t : Nat}, (∀ e ∈ l, t ≤ e.to) → posL l t = 0
  | [], _, _ => rfl
  | x :: l, t, h => by
    have h1 := h x (List.mem_cons_self ..)
    have ih := posL_ge (l := l) (t := t) (fun e he => h e (List.mem_cons_of_mem _ he))
    unfold posL at *
    rw [List.filter_cons_of_neg (by simpa using h1)]
    exact ih
theorem posL_cons_ge {x : LE} {l : List LE} {t : Nat} (hR : Rsg (x :: l)) (h : ¬ x.to < t) : posL (x :: l) t = 0 :=
  posL_ge (fun e he => by
    rcases List.mem_cons.1 he with rfl | he
    · omega
    · have := hR.head e he; omega)
theorem posL_le (l : List LE) (t : Nat) : posL l t ≤ l.length := List.length_filter_le _ _
theorem posL_iff : ∀ {l : List LE} {t i : Nat} {e : LE}, Rsg l → l[i]? = some e → (e.to < t ↔ i < posL l t)
  | [], _, _, _, _, h => by simp at h
  | x :: l, t, 0, e, hR, h => by
    simp at h; subst h
    by_cases hx : x.to < t
    · rw [posL_cons_lt hx]; exact ⟨fun _ => by omega, fun _ => hx⟩
    · rw [posL_cons_ge hR hx]; exact ⟨fun h => absurd h hx, fun h => absurd h (Nat.lt_irrefl _)⟩
  | x :: l, t, i + 1, e, hR, h => by
    have h : l[i]? = some e := by simpa using h
    have he := List.mem_of_getElem? h
    have := hR.head e he
    by_cases hx : x.to < t
    · rw [posL_cons_lt hx, posL_iff (t := t) hR.tail h]; omega
    · rw [posL_cons_ge hR hx]; exact ⟨fun h => by omega, fun h => by omega⟩
/-- laid at its place, in the place of one that leads there -/
theorem layF_at (x : LE) : ∀ {l : List LE}, Rsg l → layF x l = l.take (posL l x.to) ++ x :: l.drop (posL l x.to + if hasL l x.to then 1 else 0)
  | [], _ => by
    show [x] = [].take _ ++ x :: [].drop _
    simp
  | y :: l, hR => by
    by_cases h1 : y.to < x.to
    · have ih := layF_at x hR.tail
      have e1 : posL (y :: l) x.to = posL l x.to + 1 := posL_cons_lt h1
      have e2 : hasL (y :: l) x.to = hasL l x.to := by
        unfold hasL
        rw [e1]
        simp
      rw [e1, e2]
      show (if x.to < y.to then _ else if x.to = y.to then _ else y :: layF x l) = _
      rw [if_neg (by omega), if_neg (by omega), ih]
      cases hasL l x.to <;> simp
    · have e1 : posL (y :: l) x.to = 0 := posL_cons_ge hR h1
      have e2 : hasL (y :: l) x.to = decide (y.to = x.to) := by
        unfold hasL
        rw [e1]
        rfl
      rw [e1, e2]
      show (if x.to < y.to then x :: y :: l else if x.to = y.to then x :: l else y :: layF x l) = _
      by_cases h2 : y.to = x.to
      · rw [if_neg (by omega), if_pos h2.symm, decide_eq_true h2]
        rfl
      · rw [if_pos (by omega), decide_eq_false h2]
        rfl
theorem hasL_iff {l : List LE} {t : Nat} (hR : Rsg l) : hasL l t = true ↔ ∃ e ∈ l, e.to = t := by
  constructor
  · intro h
    unfold hasL at h
    cases he : l[posL l t]? with
    | none => rw [he] at h; cases h
    | some e => rw [he] at h; exact ⟨e, List.mem_of_getElem? he, of_decide_eq_true h⟩
  · rintro ⟨e, he, ht⟩
    obtain ⟨i, hi, h⟩ := List.getElem_of_mem he
    have hie : l[i]? = some e := by rw [List.getElem?_eq_getElem hi, h]
    have h1 : ¬ i < posL l t := fun h => by have := (posL_iff (t := t) hR hie).2 h; omega
    have hlt : posL l t < l.length := by omega
    have hpe : l[posL l t]? = some l[posL l t] := List.getElem?_eq_getElem hlt
    have h2 : ¬ (l[posL l t]).to < t := fun h => absurd ((posL_iff (t := t) hR hpe).1 h) (Nat.lt_irrefl _)
    unfold hasL
    rw [hpe]
    show decide _ = true
    refine decide_eq_true ?_
    by_cases e1 : i = posL l t
    · subst e1; rw [h]; exact ht
    · have := List.pairwise_iff_getElem.1 hR (posL l t) i hlt hi (by omega)
      rw [h] at this
      omega

set_option maxHeartbeats 400000 in
theorem isnanI_any (n : Int) (w : World) : Calls Tryz.prog 127 #[.int .i64 n] w fun e w' => e = .returned (.bool false) ∧ w' = w := by
  go_enter Tryz.func127, Tryz.ntmps127
  go_wp2
  go_ret
  exact ⟨by simp, rfl⟩
set_option maxHeartbeats 400000 in
theorem cmpInt_any (a b : Int) (w : World) : Calls Tryz.prog 99 #[.int .i64 a, .int .i64 b] w fun e w' => e = .returned (.int .i64 (cmpI a b)) ∧ w' = w := by
  by_cases h : a < b
  · have e : cmpI a b = -1 := by unfold cmpI; rw [if_pos h]
    rw [e]; clear e
    go_enter Tryz.func99, Tryz.ntmps99
    go_wp2_with (go_at_call 127; refine (isnanI_any _ _).mono ?_; rintro e w' ⟨rfl, rfl⟩)
    go_ret
    exact ⟨rfl, rfl⟩
  · by_cases h2 : b < a
    · have e : cmpI a b = 1 := by unfold cmpI; rw [if_neg h, if_pos h2]
      rw [e]; clear e
      go_enter Tryz.func99, Tryz.ntmps99
      go_wp2_with (go_at_call 127; refine (isnanI_any _ _).mono ?_; rintro e w' ⟨rfl, rfl⟩)
      go_ret
      exact ⟨rfl, rfl⟩
    · have e : cmpI a b = 0 := by unfold cmpI; rw [if_neg h, if_neg h2]
      rw [e]; clear e
      go_enter Tryz.func99, Tryz.ntmps99
      go_wp2_with (go_at_call 127; refine (isnanI_any _ _).mono ?_; rintro e w' ⟨rfl, rfl⟩)
      go_ret
      exact ⟨rfl, rfl⟩
set_option maxHeartbeats 400000 in
/-- place's closure -/
theorem clo_place (w : World) (et es ed em t : Int) :
    Calls Tryz.prog 98 #[.agg #[.int .i64 et, .int .i64 es, .int .i64 ed, .int .i64 em], .int .i64 t] w fun e w' => e = .returned (.int .i64 (cmpI et t)) ∧ Below w.heap.size w w' := by
  have B0 : Below w.heap.size w (w.alloc (.cells #[.int .i64 et, .int .i64 es, .int .i64 ed, .int .i64 em] 67)) := (Below.refl _ _).alloc (Nat.le_refl _) _
  have h1 := cmpInt_any et t (w.alloc (.cells #[.int .i64 et, .int .i64 es, .int .i64 ed, .int .i64 em] 67))
  generalize cmpI et t = r at *
  go_enter Tryz.func98, Tryz.ntmps98
  go_wp2_with fail
  refine h1.mono ?_
  rintro r1 w1 ⟨rfl, rfl⟩
  clear h1
  go_wp2
  go_ret
  exact ⟨rfl, B0⟩
set_option maxHeartbeats 2000000 in
set_option maxRecDepth 1000000 in
theorem search_any {cap t : Nat} {A : Option Addr} {l : List LE} (w : World) (hrow : RowL w A l) (hl : l.length ≤ 256) (hR : Rsg l) :
    Calls Tryz.prog 97 #[.slice A l.length cap, .int .i64 (t : Int), .func (.func 98) #[] #[]] w fun e w' => e = .returned (.tuple #[.int .i64 (posL l t : Int), .bool (hasL l t)]) ∧ Below w.heap.size w w' := by
  have hple := posL_le l t
  have HPI : Hid (∀ i e, l[i]? = some e → (e.to < t ↔ i < posL l t)) := fun i e h => posL_iff hR h
  have HH : Hid (hasL l t = match l[posL l t]? with | some e => decide (e.to = t) | none => false) := rfl
  clear hR
  generalize hasL l t = hs at *
  generalize posL l t = ps at *
  go_enter Tryz.func97, Tryz.ntmps97
  go_wp2
  go_loopw [9, 10] (fun iv jv wr => ∃ (i j : Nat), i ≤ ps ∧ ps ≤ j ∧ j ≤ l.length ∧ iv = .int .i64 i ∧ jv = .int .i64 j ∧ Below w.heap.size w wr)
    (fun i j _ => (intOf j).toNat - (intOf i).toNat)
  case atStart => exact ⟨0, l.length, Nat.zero_le _, hple, Nat.le_refl _, rfl, rfl, Below.refl _ _⟩
  case round =>
    obtain ⟨i, j, hi, hj, hjl, rfl, rfl, hB⟩ := hrel
    by_cases hlt : i < j
    · have i1 : (0 : Int) ≤ (i : Int) := by omega
      have i2 : (i : Int) < (j : Int) := by omega
      have i3 : (j : Int) ≤ 256 := by omega
      obtain ⟨m, hm⟩ : ∃ m : Nat, m = (i + j) / 2 := ⟨_, rfl⟩
      have hmi : ((i : Int) + (j : Int)) / 2 = (m : Int) := by omega
      have hm1 : i ≤ m := by omega
      have hm2 : m < j := by omega
      obtain ⟨e, he⟩ : ∃ e, l[m]? = some e := ⟨l[m]'(by omega), List.getElem?_eq_getElem _⟩
      obtain ⟨b, o, rfl, q1, q2, q3, q4⟩ := (hrow.below hB) m e he
      have hpi := HPI.out m e he
      have m1 : (0 : Int) ≤ (m : Int) := by omega
      have m2 : (m : Int) < (l.length : Int) := by omega
      have hcl := clo_place wr (e.to : Int) e.s e.d e.mid (t : Int)
      have HCN : Hid (cmpI (e.to : Int) (t : Int) < 0 ↔ m < ps) := by
        rw [cmpI_neg _ _, ← hpi]; exact Int.ofNat_lt
      clear hpi hm he
      generalize cmpI (e.to : Int) (t : Int) = r at *
      generalize (e.to : Int) = et at *
      generalize e.s = es at *
      generalize e.d = ed at *
      generalize e.mid = em at *
      go_wp2_with fail
      refine hcl.mono ?_
      rintro r1 w1 ⟨rfl, hb1⟩
      have B1 := hB.trans (hb1.mono hB.size)
      clear hcl hB hb1 q1 q2 q3 q4
      by_cases hr : r < 0
      · have hmp := HCN.out.1 hr
        go_wp2
        go_roundw
        case rel => exact ⟨m + 1, j, by omega, hj, hjl, by go_num, rfl, B1⟩
        case measure => simp [intOf]; omega
      · have hmp : ps ≤ m := by
          have : ¬ m < ps := fun h => hr (HCN.out.2 h)
          omega
        go_wp2
        go_roundw
        case rel => exact ⟨i, m, hi, hmp, by omega, rfl, rfl, B1⟩
        case measure => simp [intOf]; omega
    · have ei : i = ps := by omega
      have ej : j = ps := by omega
      subst ei
      subst ej
      by_cases hin : j < l.length
      · obtain ⟨e, he⟩ : ∃ e, l[j]? = some e := ⟨l[j], List.getElem?_eq_getElem hin⟩
        obtain ⟨b, o, rfl, q1, q2, q3, q4⟩ := (hrow.below hB) j e he
        have i1 : (0 : Int) ≤ (j : Int) := by omega
        have i2 : (j : Int) < (l.length : Int) := by omega
        have hcl := clo_place wr (e.to : Int) e.s e.d e.mid (t : Int)
        have HHE : Hid (hs = decide (cmpI (e.to : Int) (t : Int) = 0)) := by
          have h1 := HH.out
          rw [he] at h1
          rw [h1]
          by_cases q : e.to = t
          · rw [decide_eq_true ((cmpI_zero _ _).2 (by omega))]; exact decide_eq_true q
          · rw [decide_eq_false (fun h => q (by have := (cmpI_zero _ _).1 h; omega))]; exact decide_eq_false q
        clear HH he
        generalize cmpI (e.to : Int) (t : Int) = r at *
        generalize (e.to : Int) = et at *
        generalize e.s = es at *
        generalize e.d = ed at *
        generalize e.mid = em at *
        go_wp2_with fail
        refine hcl.mono ?_
        rintro r1 w1 ⟨rfl, hb1⟩
        have B1 := hB.trans (hb1.mono hB.size)
        clear hcl hB hb1 q1 q2 q3 q4
        go_wp2
        go_ret2
        refine ⟨?_, B1⟩
        rw [HHE.out]
        show Ending.returned (Value.tuple #[Value.int .i64 (j : Int), Value.bool (r == 0)]) = _
        rw [show (r == 0) = decide (r = 0) from rfl]
      · have HHE : Hid (hs = false) := by
          have h1 := HH.out
          rw [List.getElem?_eq_none (by omega)] at h1
          exact h1
        clear HH
        have hin2 : ¬ (j : Int) < (l.length : Int) := by omega
        go_wp2
        go_ret2
        refine ⟨?_, hB⟩
        rw [HHE.out]
        rfl

set_option maxHeartbeats 1000000 in
theorem place_any {cap t : Nat} {A : Option Addr} {l : List LE} (w : World) (hrow : RowL w A l) (hl : l.length ≤ 256) (hR : Rsg l) :
    Calls Tryz.prog 62 #[.slice A l.length cap, .int .i64 (t : Int)] w fun e w' => e = .returned (.tuple #[.int .i64 (posL l t : Int), .bool (hasL l t)]) ∧ Below w.heap.size w w' := by
  have h1 := search_any (cap := cap) (t := t) w hrow hl hR
  generalize hasL l t = hs at *
  generalize (posL l t : Int) = ps at *
  go_enter Tryz.func62, Tryz.ntmps62
  go_wp2_with fail
  refine h1.mono ?_
  rintro r1 w1 ⟨rfl, hb1⟩
  clear h1
  go_wp2
  go_ret2
  exact ⟨rfl, hb1⟩
end Go.Proofs.YtmnpplkjhnoglaaGreatDoor
/-
  An edge put among edges: slices.Insert at a list of edges.
-/
namespace Go.Proofs.YtmnpplkjhnoglaaGreatDoor
open Go.RowKit Go.Lib

theorem lesV_take (l : List LE) (i : Nat) : lesV (l.take i) = (lesV l).take (i * 4) := by
  induction l generalizing i with
  | nil => simp [lesV]
  | cons x l ih =>
    cases i with
    | zero => simp [lesV]
    | succ i =>
      rw [List.take_succ_cons, lesV_cons, lesV_cons, ih, List.take_append]
      have h : (leV x).length = 4 := rfl
      rw [List.take_of_length_le (l := leV x) (by rw [h]; omega), h, show (i + 1) * 4 - 4 = i * 4 by omega]
theorem lesV_drop (l : List LE) (i : Nat) : lesV (l.drop i) = (lesV l).drop (i * 4) := by
  induction l generalizing i with
  | nil => simp [lesV]
  | cons x l ih =>
    cases i with
    | zero => simp
    | succ i =>
      rw [List.drop_succ_cons, ih, lesV_cons, List.drop_append]
      have h : (leV x).length = 4 := rfl
      rw [List.drop_of_length_le (l := leV x) (by rw [h]; omega), h, List.nil_append, show (i + 1) * 4 - 4 = i * 4 by omega]
theorem lesV_ins (l : List LE) (i : Nat) (e : LE) : lesV (l.take i ++ e :: l.drop i) = (lesV l).take (i * 4) ++ leV e ++ (lesV l).drop (i * 4) := by
  rw [lesV_app, lesV_cons, lesV_take, lesV_drop, List.append_assoc]

/-- 'copy' of elements of k cells -/
theorem run_copy_row_k {P : Program} (w : World) (dT sT ty elem : TypeId) (g o dLen dCap k m : Nat) (a : Addr) (sLen sCap : Nat) (cur : Array Value) (t : TypeId) (cs : List Value)
    (hu : P.underlying dT = some (.slice elem)) (hs : (P.info? elem).map (·.size) = some k)
    (hg : w.heap[g]? = some (.cells cur t (0, 0))) (hm : Nat.min sLen dLen = m) (hn : cs.length = m * k)
    (hsrc : ∀ j v, cs[j]? = some v → w.cell? (a.add j) = some v) (hfit : o + cs.length ≤ cur.size) (h1 : ∀ v ∈ cs, v.oneCell' = true) :
    (Builtin.copy_ #[dT, sT] ty #[.slice (some ⟨g, o, none⟩) dLen dCap, .slice (some a) sLen sCap]).run P w =
      .ok (goInt m) (w.setRow g (cur.toList.take o ++ cs ++ cur.toList.drop (o + cs.length)).toArray) := by
  have hl := run_loadCells_list (P := P) w a cs hsrc
  have hst := run_storeCells_at P g o t cs 0 cur w hg (by simpa using hfit) h1
  cases hq : P.info? elem with
  | none => simp [hq] at hs
  | some i =>
    have hi : i.size = k := by simpa [hq] using hs
    simp [Builtin.copy_, run_underlying hu, Builtin.lenOf, Builtin.firstCells, sizeOf, typeInfo, hq, hi, hm, ← hn, hl, hst]

/-- the row in place: shifted, then laid -/
theorem shift_row {cur xs ev : List Value} {n i : Nat} (hx : cur.take (n * 4) = xs) (hl : xs.length = n * 4) (he : ev.length = 4) (hi : i < n) (hc : (n + 1) * 4 ≤ cur.length) :
    let c1 := cur.take (i * 4 + 4) ++ xs.drop (i * 4) ++ cur.drop (i * 4 + 4 + (xs.drop (i * 4)).length)
    c1.length = cur.length ∧ (c1.take (i * 4) ++ ev ++ c1.drop (i * 4 + ev.length)).length = cur.length ∧ (c1.take (i * 4) ++ ev ++ c1.drop (i * 4 + ev.length)).take ((n + 1) * 4) = xs.take (i * 4) ++ ev ++ xs.drop (i * 4) := by
  intro c1
  have hd : (xs.drop (i * 4)).length = n * 4 - i * 4 := by rw [List.length_drop, hl]
  have ht : (cur.take (i * 4 + 4)).length = i * 4 + 4 := by rw [List.length_take]; omega
  have h1 : c1.length = cur.length := by
    show (cur.take (i * 4 + 4) ++ xs.drop (i * 4) ++ cur.drop (i * 4 + 4 + (xs.drop (i * 4)).length)).length = _
    simp only [List.length_append, List.length_take, List.length_drop, hl]
    omega
  have h2 : c1.take (i * 4) = xs.take (i * 4) := by
    show (cur.take (i * 4 + 4) ++ xs.drop (i * 4) ++ cur.drop (i * 4 + 4 + (xs.drop (i * 4)).length)).take (i * 4) = _
    rw [List.append_assoc, List.take_append_of_le_length (by rw [ht]; omega), List.take_take, ← hx, List.take_take]
    congr 1; omega
  have h3 : c1.drop (i * 4 + 4) = xs.drop (i * 4) ++ cur.drop (i * 4 + 4 + (xs.drop (i * 4)).length) := by
    show (cur.take (i * 4 + 4) ++ xs.drop (i * 4) ++ cur.drop (i * 4 + 4 + (xs.drop (i * 4)).length)).drop (i * 4 + 4) = _
    rw [List.append_assoc, List.drop_append_of_le_length (by rw [ht]; omega), List.drop_of_length_le (by rw [ht]; omega), List.nil_append]
  refine ⟨h1, ?_, ?_⟩
  · rw [List.length_append, List.length_append, List.length_take, List.length_drop, h1, he]
    omega
  · rw [he, h2, h3, ← List.append_assoc, List.take_append_of_le_length (by
      rw [List.length_append, List.length_append, List.length_take, hd, he, hl]; omega), List.take_of_length_le (by
      rw [List.length_append, List.length_append, List.length_take, hd, he, hl]; omega)]
/-- a new row: laid, then the rest -/
theorem grow_row {row xs ev : List Value} {n i : Nat} (hx : row.take (i * 4) = xs.take (i * 4)) (hl : xs.length = n * 4) (he : ev.length = 4) (hi : i < n) (hc : (n + 1) * 4 ≤ row.length) :
    let c1 := row.take (i * 4) ++ ev ++ row.drop (i * 4 + ev.length)
    c1.length = row.length ∧ (c1.take (i * 4 + 4) ++ xs.drop (i * 4) ++ c1.drop (i * 4 + 4 + (xs.drop (i * 4)).length)).length = row.length ∧ (c1.take (i * 4 + 4) ++ xs.drop (i * 4) ++ c1.drop (i * 4 + 4 + (xs.drop (i * 4)).length)).take ((n + 1) * 4) = xs.take (i * 4) ++ ev ++ xs.drop (i * 4) := by
  intro c1
  have hd : (xs.drop (i * 4)).length = n * 4 - i * 4 := by rw [List.length_drop, hl]
  have ht : (row.take (i * 4)).length = i * 4 := by rw [List.length_take]; omega
  have h1 : c1.length = row.length := by
    show (row.take (i * 4) ++ ev ++ row.drop (i * 4 + ev.length)).length = _
    rw [List.length_append, List.length_append, List.length_drop, ht, he]
    omega
  have h2 : c1.take (i * 4 + 4) = xs.take (i * 4) ++ ev := by
    show (row.take (i * 4) ++ ev ++ row.drop (i * 4 + ev.length)).take (i * 4 + 4) = _
    rw [List.take_append_of_le_length (by rw [List.length_append, ht, he]; omega), List.take_of_length_le (by rw [List.length_append, ht, he]; omega), hx]
  refine ⟨h1, ?_, ?_⟩
  · simp only [List.length_append, List.length_take, List.length_drop, h1, hl]
    omega
  · rw [h2, List.take_append_of_le_length (by
      rw [List.length_append, List.length_append, List.length_take, hd, he, hl]; omega), List.take_of_length_le (by
      rw [List.length_append, List.length_append, List.length_take, hd, he, hl]; omega)]
end Go.Proofs.YtmnpplkjhnoglaaGreatDoor
