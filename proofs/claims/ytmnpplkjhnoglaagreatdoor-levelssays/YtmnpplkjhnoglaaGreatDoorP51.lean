/-
  Texts laid together: RlD, RlE, RlF.
-/
import Derived.Test.YtmnpplkjhnoglaaGreatDoorP50
import Derived.Deep.RegionHeld3
import Derived.BigRegion
/-
  A round of the reference's levels under way, in memory. (For LevelsSays.)
-/
namespace Go.Proofs.YtmnpplkjhnoglaaGreatDoor
open Go.RowKit

section
variable {w w' : World} {m : Nat} {A : Option Addr}
theorem RowL.map {l : List LE} (h : RowL w A l) (K : Keep (fun k => k = m) w w') (hm : ∀ o, w.cell? ⟨m, o, none⟩ = none) : RowL w' A l := fun i e hi => by
  obtain ⟨b, o, e0, h1, h2, h3, h4⟩ := h i e hi
  have hb : ¬ b = m := fun q => by rw [q, hm] at h1; cases h1
  exact ⟨b, o, e0, K.cellOf h1 hb, K.cellOf h2 hb, K.cellOf h3 hb, K.cellOf h4 hb⟩
theorem OldRow.map {n : Nat} {xs : Nat → Int} (h : OldRow w A n xs) (K : Keep (fun k => k = m) w w') (hm : ∀ o, w.cell? ⟨m, o, none⟩ = none) : OldRow w' A n xs := fun i hi => by
  obtain ⟨b, o, e0, h0, h1⟩ := h i hi
  have hb : ¬ b = m := fun q => by rw [q, hm] at h1; cases h1
  exact ⟨b, o, e0, Nat.lt_of_lt_of_le h0 K.size, K.cellOf h1 hb⟩
end
/-- which are near a corner that got its level, as a map's values -/
def nzF (nr : Nat → Bool) : Int → Option Value := fun i => if 0 ≤ i ∧ nr i.toNat = true then some (.bool true) else none
theorem nzF_put (nr : Nat → Bool) (m : Nat) : putF (nzF nr) (m : Int) (.bool true) = nzF (fun k => nr k || m == k) := by
  funext i
  unfold putF nzF
  by_cases e : i = (m : Int)
  · subst e
    rw [if_pos rfl, if_pos ⟨by omega, by rw [Int.toNat_natCast]; simp⟩]
  · rw [if_neg e]
    by_cases h0 : 0 ≤ i
    · have hne : (m == i.toNat) = false := by
        rw [beq_eq_false_iff_ne]; omega
      show _ = if 0 ≤ i ∧ (nr i.toNat || m == i.toNat) = true then _ else _
      rw [hne, Bool.or_false]
    · rw [if_neg (fun q => h0 q.1), if_neg (fun q => h0 q.1)]
theorem nzF_none : nzF (fun _ => false) = fun _ => none := by
  funext i
  unfold nzF
  rw [if_neg (fun q => by cases q.2)]
structure RRS (w wr : World) (lb vb eb nb t : Nat) (L : List Nat) (A : Option Addr) (st : LSt) (f : Int → Option Value) (nr : Nat → Bool) : Prop where
  lv : RLv wr lb vb eb t L st f
  nm : MapK wr nb (nzF nr)
  row : OldRow wr A L.length (fun i => (L.getD i 0 : Nat))
  ne : nb ≠ vb ∧ nb ≠ eb ∧ nb ≠ lb
  hn : w.heap.size ≤ nb
  kp : Keep (fun k => k = vb ∨ k = eb) w wr
  nl : ∀ n, nr n = true → n ∈ L
section
variable {w wr wq : World} {lb vb eb nb t : Nat} {L : List Nat} {A : Option Addr} {st : LSt} {f : Int → Option Value} {nr : Nat → Bool}
theorem RRS.below (R : RRS w wr lb vb eb nb t L A st f nr) (hb : Below wr.heap.size wr wq) : RRS w wq lb vb eb nb t L A st f nr :=
  ⟨R.lv.below hb, R.nm.below hb, R.row.below hb, R.ne, R.hn, R.kp.below hb, R.nl⟩
theorem RRS.skip (R : RRS w wr lb vb eb nb t L A st f nr) {n : Nat} (hn : n ∈ L) : (Instr.lookup 126 (.map (some nb)) (.int .i64 (n : Int)) false).run Tryz.prog wr = .ok (.bool (nr n)) wr := by
  have hw := wf_small (a := (n : Int)) (by omega) (by have := R.lv.bd n hn; omega)
  cases h : nr n with
  | true => exact R.nm.mp.look_some law3 Tryz.underBb (zeroBb _) hw (v := .bool true) (by unfold nzF; rw [Int.toNat_natCast, if_pos ⟨by omega, h⟩]) false
  | false => exact R.nm.mp.look_none law3 Tryz.underBb (zeroBb _) hw (by unfold nzF; rw [Int.toNat_natCast, if_neg (fun q => by rw [h] at q; cases q.2)]) false
/-- one more is near -/
theorem RRS.near (R : RRS w wr lb vb eb nb t L A st f nr) {m : Nat} (hm : m ∈ L) : ∃ w1, (Instr.mapUpdate 126 (.map (some nb)) (.int .i64 (m : Int)) (.bool true)).run Tryz.prog wr = .ok () w1 ∧ Keep (fun k => k = nb) wr w1 ∧ RRS w w1 lb vb eb nb t L A st f (fun k => nr k || m == k) := by
  have hb := R.lv.bd m hm
  obtain ⟨w1, h1, K, M⟩ := R.nm.store Tryz.underBb (a := (m : Int)) (by omega) (by omega) (.bool true)
  rw [nzF_put] at M
  have hc := fun o => R.nm.mp.cell o
  refine ⟨w1, h1, K, R.lv.keep K (fun h => R.ne.2.2 h.symm) (fun h => R.ne.1 h.symm) (fun h => R.ne.2.1 h.symm) (R.lv.off hc), M, R.row.map K hc, R.ne, R.hn, R.kp.trans K (fun i hi e => by have := R.hn; omega), fun n hnr => ?_⟩
  rcases Bool.or_eq_true_iff.1 hnr with h | h
  · exact R.nl n h
  · rw [← beq_iff_eq.1 h]; exact hm
/-- a corner gets its level -/
theorem RRS.level (R : RRS w wr lb vb eb nb t L A st f nr) {n : Nat} (hn : n ∈ L) (ht : 0 < t) : ∃ w1, (Instr.mapUpdate 46 (.map (some vb)) (.int .i64 (n : Int)) (.int .i64 (t : Int))).run Tryz.prog wr = .ok () w1 ∧ Keep (fun k => k = vb) wr w1 ∧ RRS w w1 lb vb eb nb t L A ⟨fun k => if k = n then t else st.lev k, st.es⟩ f nr := by
  have hb := R.lv.bd n hn
  obtain ⟨w1, h1, K, M⟩ := R.lv.lv.store Tryz.underV (a := (n : Int)) (by omega) (by omega) (.int .i64 (t : Int))
  rw [lzF_put hn ht] at M
  have hc := fun o => R.lv.lv.mp.cell o
  have hl : lb ≠ vb := R.lv.nes.1
  refine ⟨w1, h1, K, ⟨K.cellOf R.lv.c0 hl, K.cellOf R.lv.c1 hl, K.cellOf R.lv.c2 hl, (K.frozen (p := ⟨lb, 2, none⟩) R.lv.lts.1 hl).trans R.lv.fz, M, R.lv.em.keep K (fun h => R.lv.ne h.symm), fun x hx => ?_, R.lv.no, R.lv.ne, R.lv.bd⟩, R.nm.keep K R.ne.1, R.row.map K hc, R.ne, R.hn, R.kp.trans K (fun i hi e => Or.inl e), R.nl⟩
  obtain ⟨A', cap', e1, e2⟩ := R.lv.yes x hx
  exact ⟨A', cap', e1, e2.map K hc⟩
/-- edges of a corner are laid anew -/
theorem RRS.edge (R : RRS w wr lb vb eb nb t L A st f nr) {a cap' : Nat} {A' : Option Addr} {l : List LE} (ha : a ∈ L) (hl : RowL wr A' l) : ∃ w1, (Instr.mapUpdate 47 (.map (some eb)) (.int .i64 (a : Int)) (.slice A' l.length cap')).run Tryz.prog wr = .ok () w1 ∧ Keep (fun k => k = eb) wr w1 ∧ RRS w w1 lb vb eb nb t L A ⟨st.lev, putE st.es a l⟩ (putF f (a : Int) (.slice A' l.length cap')) nr := by
  have hb := R.lv.bd a ha
  obtain ⟨w1, h1, K, M⟩ := R.lv.em.store Tryz.underM (a := (a : Int)) (by omega) (by omega) (.slice A' l.length cap')
  have hc := fun o => R.lv.em.mp.cell o
  have hlb : lb ≠ eb := R.lv.nes.2
  refine ⟨w1, h1, K, ⟨K.cellOf R.lv.c0 hlb, K.cellOf R.lv.c1 hlb, K.cellOf R.lv.c2 hlb, (K.frozen (p := ⟨lb, 2, none⟩) R.lv.lts.1 hlb).trans R.lv.fz, R.lv.lv.keep K R.lv.ne, M, fun x hx => ?_, fun c hcn => ?_, R.lv.ne, R.lv.bd⟩, R.nm.keep K R.ne.2.1, R.row.map K hc, R.ne, R.hn, R.kp.trans K (fun i hi e => Or.inr e), R.nl⟩
  · show ∃ A2 cap2, putF f (a : Int) (.slice A' l.length cap') (x : Int) = some (.slice A2 (putE st.es a l x).length cap2) ∧ RowL w1 A2 (putE st.es a l x)
    unfold putE
    by_cases e : x = a
    · subst e
      rw [if_pos rfl]
      exact ⟨A', cap', putF_same _ _ _, hl.map K hc⟩
    · rw [if_neg e, putF_other _ _ (by omega)]
      obtain ⟨A2, cap2, e1, e2⟩ := R.lv.yes x hx
      exact ⟨A2, cap2, e1, e2.map K hc⟩
  · have hne : c ≠ (a : Int) := fun e => hcn (by subst e; exact ⟨by omega, by rw [Int.toNat_natCast]; exact ha⟩)
    rw [putF_other _ _ hne]
    exact R.lv.no c hcn
theorem RRS.start (G : RLv w lb vb eb t L st f) (hr : OldRow w A L.length (fun i => (L.getD i 0 : Nat))) : RRS w (w.alloc (.map #[] 0)) lb vb eb w.heap.size t L A st f (fun _ => false) := by
  have b : Below w.heap.size w (w.alloc (.map #[] 0)) := (Below.refl _ _).alloc (Nat.le_refl _) _
  have hl := G.lts
  refine ⟨G.below b, ?_, hr.below b, ⟨by omega, by omega, by omega⟩, Nat.le_refl _, Keep.of_below b, fun n h => by cases h⟩
  rw [nzF_none]
  exact MapK.made w
end
end Go.Proofs.YtmnpplkjhnoglaaGreatDoor
/-
  A round: the reference's 'round'. (For LevelsSays.)
-/
namespace Go.Proofs.YtmnpplkjhnoglaaGreatDoor
open Go.RowKit Go.Maps

theorem and6 {w w' : World} {m : Nat} {a1 a2 a3 a4 a5 a6 : Addr} {v1 v2 v3 v4 v5 v6 : Value} (K : Keep (fun k => k = m) w w') (hm : ∀ o, w.cell? ⟨m, o, none⟩ = none) (h : w.cell? a1 = some v1 ∧ w.cell? a2 = some v2 ∧ w.cell? a3 = some v3 ∧ w.cell? a4 = some v4 ∧ w.cell? a5 = some v5 ∧ w.cell? a6 = some v6) :
    w'.cell? a1 = some v1 ∧ w'.cell? a2 = some v2 ∧ w'.cell? a3 = some v3 ∧ w'.cell? a4 = some v4 ∧ w'.cell? a5 = some v5 ∧ w'.cell? a6 = some v6 := by
  have kk : ∀ {a : Addr} {v : Value}, w.cell? a = some v → w'.cell? a = some v := fun {a v} q => K.cellOf q (fun e => by
    obtain ⟨b, o, s⟩ := a
    have hs := World.cell?_spot q
    simp only at hs e
    subst hs e
    rw [hm] at q
    cases q)
  exact ⟨kk h.1, kk h.2.1, kk h.2.2.1, kk h.2.2.2.1, kk h.2.2.2.2.1, kk h.2.2.2.2.2⟩
set_option maxHeartbeats 16000000 in
set_option maxRecDepth 1000000 in
theorem rround_any {lb vb eb t capN : Nat} {A : Option Addr} {L : List Nat} {st : LSt} {f : Int → Option Value} {K : Int} (w : World) (G : RLv w lb vb eb t L st f) (hrow : OldRow w A L.length (fun i => (L.getD i 0 : Nat))) (hLL : L.length ≤ 256) (hA : All L t K st (fun _ => false)) (hK0 : 0 ≤ K) (hK : K ≤ 256) (ht : 0 < t) :
    Calls Tryz.prog 52 #[.pointer (some ⟨lb, 0, none⟩), .slice A L.length capN] w fun e w' => ∃ st' nr' got f', e = .returned (.bool got) ∧ Rnd t L st (fun _ => false) st' nr' got ∧ RLv w' lb vb eb t L st' f' ∧ OldRow w' A L.length (fun i => (L.getD i 0 : Nat)) ∧ Keep (fun k => k = vb ∨ k = eb) w w' := by
  have hmk := @run_makeMap Tryz.prog
  have RS0 := RRS.start G hrow
  have HBD : Hid (∀ n ∈ L, n < 256) := G.bd
  obtain ⟨i67, hi67, hz0, hz1, hz2⟩ := info_parts Tryz.infoE
  obtain ⟨i3, hi3, hy0, hy1, hy2⟩ := info_parts Tryz.info3
  go_enter Tryz.func52, Tryz.ntmps52
  go_wp2
  clear hmk G hrow
  go_loopw [5, 7] (fun gv iv wr => ∃ (i : Nat) (st' : LSt) (nr : Nat → Bool) (f' : Int → Option Value) (got : Bool), i ≤ L.length ∧ iv = .int .i64 i ∧ gv = .bool got ∧ RRS w wr lb vb eb w.heap.size t L A st' f' nr ∧ Hid (Rnd t (L.take i) st (fun _ => false) st' nr got) ∧ Hid (All L t K st' nr))
    (fun _ i _ => L.length - (intOf i).toNat)
  case atStart => exact ⟨0, st, fun _ => false, f, false, Nat.zero_le _, rfl, rfl, RS0, ⟨rfl, rfl, rfl⟩, hA⟩
  case round =>
    clear RS0
    obtain ⟨i, st', nr, f', got, hi, rfl, rfl, RS, HR, HA⟩ := hrel
    by_cases hlt : i < L.length
    · obtain ⟨ba, oa, hA0, hba, hcell0⟩ := RS.row i hlt
      subst hA0
      obtain ⟨n, hn⟩ : ∃ n, L[i]? = some n := ⟨L[i], List.getElem?_eq_getElem hlt⟩
      have hnk : L.getD i 0 = n := by rw [List.getD_eq_getElem?_getD, hn]; rfl
      have hcell : wr.cell? ⟨ba, oa + i, none⟩ = some (.int .i64 (n : Int)) := by rw [← hnk]; exact hcell0
      have hnL := List.mem_of_getElem? hn
      have hnb := HBD.out n hnL
      have hwn := wf_small (a := (n : Int)) (by omega) (by omega)
      have HTK : Hid (L.take (i + 1) = L.take i ++ [n]) := by rw [List.take_add_one, hn]; rfl
      have i1 : (0 : Int) ≤ (i : Int) := by omega
      have i2 : (i : Int) < (L.length : Int) := by omega
      have c0 := RS.lv.c0
      have h46 := RS.lv.look hnL
      have h126 := RS.skip hnL
      have HNL : Hid (n ∈ L) := hnL
      clear hn hnk hnL hcell0
      by_cases hsk : 0 < st'.lev n ∨ nr n = true
      · have HR2 : Hid (Rnd t (L.take (i + 1)) st (fun _ => false) st' nr got) := by
          rw [HTK.out]
          have h1 := HR.out.snoc (n := n) (st2 := st') (nr2 := nr) (g2 := false) (Or.inl ⟨hsk, rfl, rfl, rfl⟩)
          rw [Bool.or_false] at h1
          exact h1
        by_cases hl0 : 0 < st'.lev n
        · have hd : decide (0 < (st'.lev n : Int)) = true := decide_eq_true (by omega)
          clear hsk HR hl0
          generalize (st'.lev n : Int) = lz at *
          go_wp2
          go_roundw
          case rel => exact ⟨i + 1, st', nr, f', got, by omega, by go_num, rfl, RS, HR2.out, HA.out⟩
          case measure => simp [intOf]; omega
        · have hnr : nr n = true := hsk.resolve_left hl0
          have hz : (st'.lev n : Int) = 0 := by omega
          rw [hz] at h46
          rw [hnr] at h126
          clear hsk HR hl0 hnr hz
          go_wp2
          go_roundw
          case rel => exact ⟨i + 1, st', nr, f', got, by omega, by go_num, rfl, RS, HR2.out, HA.out⟩
          case measure => simp [intOf]; omega
      · have hz : (st'.lev n : Int) = 0 := by
          have : ¬ 0 < st'.lev n := fun h => hsk (Or.inl h)
          omega
        have hnr : nr n = false := by
          cases h : nr n with
          | false => rfl
          | true => exact absurd (Or.inr h) hsk
        rw [hz] at h46
        rw [hnr] at h126
        have HNOT : Hid (¬ (0 < st'.lev n ∨ nr n = true)) := hsk
        have O : Okl L 512 st' := ⟨HA.out.lin.esy, HA.out.cor, fun he => by
          obtain ⟨p1, p2⟩ := HA.out.bdd.pos he
          obtain ⟨p3, p4⟩ := HA.out.bdd.new he
          exact ⟨p1, p2, by omega, by omega⟩⟩
        have HO : Hid (Okl L 512 st') := O
        obtain ⟨p, hp⟩ : ∃ p : LE → LE → Bool, ∀ a b, p a b = true ↔ Need st' n a b := ⟨fun a b => @decide (Need st' n a b) (Classical.propDecidable _), fun a b => @decide_eq_true_iff _ (Classical.propDecidable _)⟩
        have HP : Hid (∀ a b, p a b = true ↔ Need st' n a b) := hp
        have hel : (st'.es n).length ≤ 256 := O.len HBD.out n
        have HRS : Hid (RRS w wr lb vb eb w.heap.size t L (some ⟨ba, oa, none⟩) st' f' nr) := RS
        clear hsk hp O hz hnr
        go_wp2
        clear hcell c0 h46 h126 RS
        obtain ⟨W1, hW1⟩ : ∃ W1, W1 = wr := ⟨_, rfl⟩
        rw [← hW1] at HRS
        go_loopw [9, 10] (fun ev kv wr => ∃ (k : Nat), k ≤ (st'.es n).length ∧ kv = .int .i64 k ∧ wr.ownsRow W1.heap.size 67 4 ev (pickL (fun e => st'.lev e.to == 0) (st'.es n) k).length (lesV (pickL (fun e => st'.lev e.to == 0) (st'.es n) k)) ∧ Below W1.heap.size W1 wr)
          (fun _ k _ => (st'.es n).length - (intOf k).toNat)
        case atStart => exact ⟨0, Nat.zero_le _, rfl, World.ownsRow_nil _ _ _ _, by rw [hW1]; exact Below.refl _ _⟩
        case round =>
          clear hW1
          obtain ⟨k, hk, rfl, hown, hB⟩ := hrel
          have RS := HRS.out.below hB
          have c1 := RS.lv.c1
          obtain ⟨A', cap', hf', hrow'⟩ := RS.lv.yes n HNL.out
          have h47 : (Instr.lookup 47 (.map (some eb)) (.int .i64 (n : Int)) false).run Tryz.prog wr = .ok (.slice A' (st'.es n).length cap') wr := RS.lv.em.mp.look_some law3 Tryz.underM (zeroM _) hwn hf' false
          by_cases hkl : k < (st'.es n).length
          · as_aux_lemma =>
              obtain ⟨e, he⟩ : ∃ e, (st'.es n)[k]? = some e := ⟨(st'.es n)[k], List.getElem?_eq_getElem hkl⟩
              obtain ⟨bb, oo, hA', q0, q1, q2, q3⟩ := hrow' k e he
              subst hA'
              have k1 : (0 : Int) ≤ (k : Int) := by omega
              have k2 : (k : Int) < ((st'.es n).length : Int) := by omega
              have heL := (HO.out.cor.ends (List.mem_of_getElem? he)).2
              have c0 := RS.lv.c0
              have h47q : ∀ m, (Instr.lookup 47 (.map (some eb)) (.int .i64 (n : Int)) false).run Tryz.prog (wr.drewN m) = .ok (.slice (some ⟨bb, oo, none⟩) (st'.es n).length cap') (wr.drewN m) := fun m => (RS.lv.below (below_drewN (Below.refl _ _) m)).em.mp.look_some law3 Tryz.underM (zeroM _) hwn hf' false
              have h46q := fun m => (RS.lv.below (below_drewN (Below.refl _ _) m)).look heL
              have hpe0 : (st'.lev e.to == 0) = ((st'.lev e.to : Int) == 0) := by
                by_cases q : st'.lev e.to = 0
                · rw [q]; rfl
                · rw [beq_eq_false_iff_ne.2 q, beq_eq_false_iff_ne.2 (show (st'.lev e.to : Int) ≠ 0 by omega)]
              have HPE : Hid _ := hpe0
              clear hpe0
              have HYS : Hid ((st'.lev e.to == 0) = true → pickL (fun e => st'.lev e.to == 0) (st'.es n) (k + 1) = pickL (fun e => st'.lev e.to == 0) (st'.es n) k ++ [e]) := fun h => pickL_yes (p := fun e => st'.lev e.to == 0) he h
              have HNO : Hid ((st'.lev e.to == 0) = false → pickL (fun e => st'.lev e.to == 0) (st'.es n) (k + 1) = pickL (fun e => st'.lev e.to == 0) (st'.es n) k) := fun h => pickL_no (p := fun e => st'.lev e.to == 0) he h
              have hFl : (pickL (fun e => st'.lev e.to == 0) (st'.es n) k).length ≤ 256 := Nat.le_trans pickL_len hel
              have HEV : Hid (leV e = [.int .i64 (e.to : Int), .int .i64 e.s, .int .i64 e.d, .int .i64 e.mid]) := rfl
              clear he heL RS hf' hrow'
              cases hpe : (st'.lev e.to == 0) with
              | false =>
                have HS := HNO.out hpe
                have hz : ((st'.lev e.to : Int) == 0) = false := HPE.out.symm.trans hpe
                clear HYS HNO HPE hpe
                generalize (st'.lev e.to : Int) = lz at *
                go_wp2_with fail
                go_quiet (fail)
                go_wp2
                have b9 : Below wr.heap.size wr (wr.drewN nq) := below_drewN (Below.refl _ _) _
                have hown9 := own_below hown b9
                rw [← HS] at hown9
                go_roundw
                case rel => exact ⟨k + 1, by omega, by go_num, hown9, hB.trans (b9.mono hB.size)⟩
                case measure => simp [intOf]; omega
              | true =>
                have HS : Hid _ := HYS.out hpe
                have hz : ((st'.lev e.to : Int) == 0) = true := HPE.out.symm.trans hpe
                clear HYS HNO HPE hpe
                generalize (st'.lev e.to : Int) = lz at *
                generalize pickL (fun e => st'.lev e.to == 0) (st'.es n) k = F at *
                go_wp2_with fail
                go_quiet (fail)
                have b9 : Below wr.heap.size wr (wr.drewN nq) := below_drewN (Below.refl _ _) _
                have own9 := own_below hown b9
                have B9 := hB.trans (b9.mono hB.size)
                have q0 : (wr.drewN nq).cell? ⟨bb, oo + k * 4, none⟩ = some (.int .i64 (e.to : Int)) := q0
                have q1 : (wr.drewN nq).cell? ⟨bb, oo + k * 4 + 1, none⟩ = some (.int .i64 e.s) := q1
                have q2 : (wr.drewN nq).cell? ⟨bb, oo + k * 4 + 2, none⟩ = some (.int .i64 e.d) := q2
                have q3 : (wr.drewN nq).cell? ⟨bb, oo + k * 4 + 3, none⟩ = some (.int .i64 e.mid) := q3
                have c1 : (wr.drewN nq).cell? ⟨lb, 1, none⟩ = some (.map (some eb)) := c1
                have h47w := h47q nq
                clear hown hB b9 h47 h47q h46q c0 hz
                generalize wr.drewN nq = W2 at *
                generalize (e.to : Int) = et at *
                generalize e.s = es at *
                generalize e.d = ed at *
                generalize e.mid = em at *
                go_wp2_with (at_builtin; refine wpList_append_own _ rfl _ _ 52 rfl W1.heap.size 67 i67 (.agg #[.int .i64 0, .int .i64 0, .int .i64 0, .int .i64 0]) 4 32 Tryz.underE hi67 hz0 hz1 hz2 rfl (by decide) _ _ _ rfl (own9.alloc _) ⟨W2.heap.size, 0, none⟩ 1 1 [.int .i64 et, .int .i64 es, .int .i64 ed, .int .i64 em] rfl rfl (cell_four_new _ _ _ _ _ _) (by intro u hu; simp at hu; rcases hu with rfl | rfl | rfl | rfl <;> rfl) ?c3 ?c4 ?c5 ?_)
                case c3 => unfold maxLen; omega
                case c4 => have := B9.size; omega
                case c5 => have := B9.size; simp; omega
                intro vW4 W4 hownW4 hgrowW4 _
                have hbaseW4 := fun q hq => (own9.lt q hq).1
                have BW4 : Below W1.heap.size W1 W4 := (B9.alloc B9.size _).grown hgrowW4 (by simp; have := B9.size; omega) hbaseW4
                have OW4 : W4.ownsRow W1.heap.size 67 4 vW4 (F ++ [e]).length (lesV (F ++ [e])) := by
                  rw [lesV_app, lesV_one, HEV.out]
                  simpa using hownW4
                clear hownW4 hbaseW4 own9 B9 q0 q1 q2 q3 c1 h47w hgrowW4
                go_wp2
                go_roundw
                case rel => exact ⟨k + 1, by omega, by go_num, by rw [HS.out]; exact OW4, BW4⟩
                case measure => simp [intOf]; omega
          · have ek : k = (st'.es n).length := by omega
            subst ek
            have HFE : Hid (pickL (fun e => st'.lev e.to == 0) (st'.es n) (st'.es n).length = feF st' n) := pickL_all
            rw [HFE.out] at hown
            have hfl : (feF st' n).length ≤ 256 := Nat.le_trans (List.length_filter_le _ _) hel
            have HIN : Hid (∀ e ∈ feF st' n, e ∈ st'.es n ∧ e.to ∈ L) := fun e he => ⟨(List.mem_filter.1 he).1, (HO.out.cor.ends (List.mem_filter.1 he).1).2⟩
            have HFQ : Hid (∃ l, feF st' n = l) := ⟨_, rfl⟩
            obtain ⟨l, hl⟩ := HFQ.out
            have HFL : Hid (feF st' n = l) := hl
            rw [hl] at hown hfl HIN
            obtain ⟨A3, cap3, rfl, row3, _⟩ := rowL_of hown
            have HRE : Hid (RRS w wr lb vb eb w.heap.size t L (some ⟨ba, oa, none⟩) st' f' nr) := RS
            have HR3 : Hid (RowL wr A3 l) := row3
            clear hl HFQ HFE hown RS row3 hrow' hf' hk hB HRS
            go_wp2
            clear h47 c1 hkl
            obtain ⟨WE, hWE⟩ : ∃ WE, WE = wr := ⟨_, rfl⟩
            rw [← hWE] at HRE HR3
            go_loopw [11, 12, 13] (fun fv mv av wr => ∃ (a : Nat), a ≤ l.length ∧ av = .int .i64 a ∧ wr.ownsRow WE.heap.size 3 1 fv (mTo p n l a).length (vals ((mTo p n l a).map Prod.fst)) ∧ wr.ownsRow WE.heap.size 67 4 mv (mTo p n l a).length (lesV ((mTo p n l a).map Prod.snd)) ∧ Below WE.heap.size WE wr)
              (fun _ _ a _ => l.length - (intOf a).toNat)
            case atStart => exact ⟨0, Nat.zero_le _, rfl, by rw [mTo_zero]; exact World.ownsRow_nil _ _ _ _, by rw [mTo_zero]; exact World.ownsRow_nil _ _ _ _, by rw [hWE]; exact Below.refl _ _⟩
            case round =>
              clear hWE
              obtain ⟨a, ha, rfl, ownF, ownM, hB⟩ := hrel
              by_cases hal : a < l.length
              · obtain ⟨ea, hea⟩ : ∃ ea, l[a]? = some ea := ⟨l[a], List.getElem?_eq_getElem hal⟩
                have rowr := HR3.out.below hB
                obtain ⟨b3, o3, hA3, q0, q1, q2, q3⟩ := rowr a ea hea
                subst hA3
                have a1 : (0 : Int) ≤ (a : Int) := by omega
                have a2 : (a : Int) < (l.length : Int) := by omega
                have hea2 := HIN.out ea (List.mem_of_getElem? hea)
                have RS := HRE.out.below hB
                have hap := rapart_any (n := n) (o := ea.to) (capN := capN) wr RS.lv HO.out RS.row hLL hea2.2
                have HST : Hid (mTo p n l (a + 1) = mTo p n l a ++ rowM p n ea (l.drop (a + 1))) := mTo_step hea
                have hmL := mTo_len p n l a
                have hmL2 : a * l.length ≤ 256 * 256 := Nat.mul_le_mul (by omega) hfl
                obtain ⟨e1, e2, e3, e4⟩ := HO.out.bd hea2.1
                have HEA : Hid (l[a]? = some ea ∧ ea.to ∈ L ∧ 0 ≤ ea.s ∧ 0 ≤ ea.d ∧ ea.s ≤ 512 ∧ ea.d ≤ 512) := ⟨hea, hea2.2, e1, e2, e3, e4⟩
                clear hea hea2 e1 e2 e3 e4 RS rowr
                go_wp2_with fail
                refine hap.mono ?_
                rintro r w5 ⟨cb, ib, B, rfl, LB, hAP, hb5⟩
                have HAP : Hid (Apt L st' n ea.to B) := hAP
                have B5 := hB.trans (hb5.mono hB.size)
                have ownF5 := own_below ownF hb5
                have ownM5 := own_below ownM hb5
                obtain ⟨W3, hW3⟩ : ∃ W3, W3 = wr.heap.size := ⟨_, rfl⟩
                rw [← hW3] at LB
                clear hap hAP hB ownF ownM q0 q1 q2 q3 hb5 hW3
                go_wp2
                go_loopw [11, 12, 16] (fun fv mv bv wr => ∃ (j : Nat), j ≤ (l.drop (a + 1)).length ∧ bv = .int .i64 ((a : Int) + 1 + (j : Int)) ∧ wr.ownsRow WE.heap.size 3 1 fv (mTo p n l a ++ rowM p n ea ((l.drop (a + 1)).take j)).length (vals ((mTo p n l a ++ rowM p n ea ((l.drop (a + 1)).take j)).map Prod.fst)) ∧ wr.ownsRow WE.heap.size 67 4 mv (mTo p n l a ++ rowM p n ea ((l.drop (a + 1)).take j)).length (lesV ((mTo p n l a ++ rowM p n ea ((l.drop (a + 1)).take j)).map Prod.snd)) ∧ Lbs wr W3 cb ib B ∧ Below WE.heap.size WE wr)
                  (fun _ _ b _ => l.length - (intOf b).toNat)
                case atStart =>
                  have e0 : mTo p n l a ++ rowM p n ea ((l.drop (a + 1)).take 0) = mTo p n l a := by rw [List.take_zero]; exact List.append_nil _
                  refine ⟨0, Nat.zero_le _, by simp, ?_, ?_, LB, B5⟩
                  · rw [e0]; exact ownF5
                  · rw [e0]; exact ownM5
                case round =>
                  clear LB B5 ownF5 ownM5
                  obtain ⟨j, hj, rfl, ownF, ownM, LB, hB⟩ := hrel
                  have hdl : (l.drop (a + 1)).length = l.length - (a + 1) := List.length_drop
                  have HDL : Hid _ := hdl
                  by_cases hjl : a + 1 + j < l.length
                  · as_aux_lemma =>
                      have hebL : (l.drop (a + 1))[j]? = l[a + 1 + j]? := List.getElem?_drop
                      obtain ⟨eb', heb⟩ : ∃ eb', l[a + 1 + j]? = some eb' := ⟨l[a + 1 + j], List.getElem?_eq_getElem hjl⟩
                      rw [heb] at hebL
                      have rowr := HR3.out.below hB
                      obtain ⟨b3', o3', hA3', _, p1, p2, _⟩ := rowr a ea HEA.out.1
                      cases hA3'
                      obtain ⟨b3', o3', hA3', r0, r1, r2, _⟩ := rowr (a + 1 + j) eb' heb
                      cases hA3'
                      have heb2 := HIN.out eb' (List.mem_of_getElem? heb)
                      obtain ⟨e1, e2, e3, e4⟩ := HO.out.bd heb2.1
                      obtain ⟨_, _, g1, g2, g3, g4⟩ := HEA.out
                      have ok1 : okC ea.s ea.d := by unfold okC; omega
                      have ok2 : okC eb'.s eb'.d := by unfold okC; omega
                      have ok3 : okC (ea.s + eb'.s) (ea.d + eb'.d) := by unfold okC; omega
                      have hsb := HBD.out _ heb2.2
                      have hwb := wf_small (a := (eb'.to : Int)) (by omega) (by omega)
                      have j1 : (0 : Int) ≤ (a : Int) + 1 + (j : Int) := by omega
                      have j2 : (a : Int) + 1 + (j : Int) < (l.length : Int) := by omega
                      have j3 : ((a : Int) + 1 + (j : Int)).toNat = a + 1 + j := by omega
                      have HEB : Hid (l[a + 1 + j]? = some eb' ∧ (l.drop (a + 1))[j]? = some eb') := ⟨heb, hebL⟩
                      have HPB : Hid (p ea eb' = pushB B (eb'.to : Int) (ea.s + eb'.s) (ea.d + eb'.d)) := by
                        have h := (HP.out ea eb').trans (HAP.out.need (b := eb') HEA.out.2.1)
                        cases h1 : p ea eb' with
                        | true => exact (h.1 h1).symm
                        | false =>
                          cases h2 : pushB B (eb'.to : Int) (ea.s + eb'.s) (ea.d + eb'.d) with
                          | false => rfl
                          | true => rw [h.2 h2] at h1; cases h1
                      have HRBIG : Hid (∀ {c s d}, B c = some (s, d) → okC s d) := fun h => by
                        have := HAP.out.rb.big h
                        unfold okC
                        omega
                      clear heb hebL rowr heb2 e1 e2 e3 e4 g1 g2 g3 g4 hdl
                      go_upto_region 23 with fail
                      go_cut [17] from 110 to 120 (fun pv wd => ∃ T2, pv = .pointer (some ⟨T2, 0, none⟩) ∧ wr.heap.size ≤ T2 ∧ Slot wd T2 (ea.s + eb'.s) (ea.d + eb'.d) ∧ Below wr.heap.size wr wd)
                      case first =>
                        have b0 : Below wr.heap.size wr wr.drew := (Below.refl _ _).drew
                        have bA : Below wr.heap.size wr (wr.drew.alloc (.cells #[.int .i64 0, .int .i64 0] 65)) := b0.alloc b0.size _
                        have sA : Slot (wr.drew.alloc (.cells #[.int .i64 0, .int .i64 0] 65)) wr.heap.size 0 0 := Slot.new wr.drew 0 0
                        have CC : Hid (∀ w', Below wr.heap.size wr w' → w'.cell? ⟨b3, o3 + a * 4 + 1, none⟩ = some (.int .i64 ea.s) ∧ w'.cell? ⟨b3, o3 + a * 4 + 2, none⟩ = some (.int .i64 ea.d) ∧ w'.cell? ⟨b3, o3 + (a + 1 + j) * 4 + 1, none⟩ = some (.int .i64 eb'.s) ∧ w'.cell? ⟨b3, o3 + (a + 1 + j) * 4 + 2, none⟩ = some (.int .i64 eb'.d)) := fun w' h => by
                          have k : ∀ {a : Addr} {v : Value}, wr.cell? a = some v → w'.cell? a = some v := fun {a v} q => (h.cell (World.block_lt_of_cell? wr a q)).trans q
                          exact ⟨k p1, k p2, k r1, k r2⟩
                        have hpl : Hid (∀ w', _) := fun w' => plus_any ea.s ea.d eb'.s eb'.d w' ok1 ok2
                        clear p1 p2 r0 r1 r2 ownF ownM LB hB
                        go_region_held3 (fun w' => w'.cell? ⟨b3, o3 + a * 4 + 1, none⟩ = some (.int .i64 ea.s) ∧ w'.cell? ⟨b3, o3 + a * 4 + 2, none⟩ = some (.int .i64 ea.d) ∧ w'.cell? ⟨b3, o3 + (a + 1 + j) * 4 + 1, none⟩ = some (.int .i64 eb'.s) ∧ w'.cell? ⟨b3, o3 + (a + 1 + j) * 4 + 2, none⟩ = some (.int .i64 eb'.d)) (first | exact CC.out _ b0 | exact CC.out _ bA | exact CC.out _ b6 | exact CC.out _ (b6.alloc b6.size _) | exact CC.out _ ((b6.setCell (p := ⟨wr.heap.size, 0, none⟩) (Nat.le_refl _) _).setCell (p := ⟨wr.heap.size, 1, none⟩) (Nat.le_refl _) _))
                          (first | (go_at_call 64; refine (hpl.out _).mono ?_; rintro r w6 ⟨rfl, hb6⟩; first | (have b6 := b0.trans (hb6.mono b0.size)) | (have b6 := bA.trans (hb6.mono bA.size); have s6 := sA.below hb6; have g0 := s6.c0; have g1 := s6.c1; have g2 := s6.z0; have g3 := s6.z1)))
                        all_goals
                          go_wp2_with fail
                          go_meet
                          first
                            | exact ⟨_, rfl, b6.size, Slot.new w6 _ _, b6.alloc b6.size _⟩
                            | exact ⟨_, rfl, Nat.le_refl _, s6.set _ _, (b6.setCell (p := ⟨wr.heap.size, 0, none⟩) (Nat.le_refl _) _).setCell (p := ⟨wr.heap.size, 1, none⟩) (Nat.le_refl _) _⟩
                      case rest =>
                        obtain ⟨T2, rfl, hT2, sT, hb5⟩ := hcut
                        have LB5 := LB.below hb5
                        have ownF5 := own_below ownF hb5
                        have ownM5 := own_below ownM hb5
                        have B5 := hB.trans (hb5.mono hB.size)
                        have kc : ∀ {y : Addr} {z : Value}, wr.cell? y = some z → wc.cell? y = some z := fun {y z} h => (hb5.cell (World.block_lt_of_cell? wr y h)).trans h
                        have r0 := kc r0
                        have t126 := LB5.is hwb
                        have t125 := LB5.co hwb
                        have u0 := sT.c0
                        have u1 := sT.c1
                        have HNF : Hid (∀ g, u11.ownBlock = some g → g ≠ T2) := fun g hg => by have := (ownF.lt g hg).2; omega
                        have HS2 : Hid _ := sT
                        clear kc p1 p2 r1 r2 LB ownF ownM hB hb5 sT
                        go_upto_region 25 with fail
                        go_cut [137] from 126 to 137 (fun bv wd => bv = .bool (pushB B (eb'.to : Int) (ea.s + eb'.s) (ea.d + eb'.d)) ∧ Below wc.heap.size wc wd)
                        case first =>
                          clear ownF5 ownM5 LB5 B5 HS2
                          cases hBe : B (eb'.to : Int) with
                          | none =>
                            have hpb : pushB B (eb'.to : Int) (ea.s + eb'.s) (ea.d + eb'.d) = true := by unfold pushB; rw [hBe]
                            rw [hBe] at t126
                            replace t126 : (Instr.lookup 126 (.map (some ib)) (.int .i64 (eb'.to : Int)) false).run Tryz.prog wc = .ok (.bool false) wc := t126
                            clear t125
                            go_wp2_with fail
                            go_meet
                            exact ⟨by rw [hpb], Below.refl _ _⟩
                          | some c =>
                            obtain ⟨s', d'⟩ := c
                            have ok4 : okC s' d' := HRBIG.out hBe
                            have hdec : decide (cmpC (ea.s + eb'.s) (ea.d + eb'.d) s' d' < 0) = pushB B (eb'.to : Int) (ea.s + eb'.s) (ea.d + eb'.d) := by
                              unfold pushB
                              rw [hBe, cmpC_val' _ _ _ _ ok3 ok4]
                              exact decide_eq_decide.2 (cmpI_neg _ _)
                            rw [hBe] at t126 t125
                            replace t126 : (Instr.lookup 126 (.map (some ib)) (.int .i64 (eb'.to : Int)) false).run Tryz.prog wc = .ok (.bool true) wc := t126
                            replace t125 : (Instr.lookup 125 (.map (some cb)) (.int .i64 (eb'.to : Int)) false).run Tryz.prog wc = .ok (.agg #[.int .i64 s', .int .i64 d']) wc := t125
                            have hcmp := rcmp_any (ea.s + eb'.s) (ea.d + eb'.d) s' d' wc ok3 ok4
                            go_wp2_with (first | (go_at_call 66; refine hcmp.mono ?_; rintro r w8 ⟨rfl, hb8⟩))
                            go_meet
                            exact ⟨by rw [← hdec], hb8⟩
                        case rest =>
                          obtain ⟨rfl, hb8⟩ := hcut
                          have LB8 := LB5.below hb8
                          have ownF8 := own_below ownF5 hb8
                          have ownM8 := own_below ownM5 hb8
                          have B8 := B5.trans (hb8.mono B5.size)
                          have S8 := HS2.out.below hb8
                          clear t126 t125 u0 u1 r0 LB5 ownF5 ownM5 B5 HS2 hb8
                          cases hq : pushB B (eb'.to : Int) (ea.s + eb'.s) (ea.d + eb'.d) with
                          | false =>
                            have HS : Hid (rowM p n ea ((l.drop (a + 1)).take (j + 1)) = rowM p n ea ((l.drop (a + 1)).take j)) := rowM_no HEB.out.2 (HPB.out.trans hq)
                            clear hq
                            go_wp2
                            go_roundw
                            case rel => exact ⟨j + 1, by have := HDL.out; omega, by push_cast; rw [Int.add_assoc], by rw [HS.out]; exact ownF8, by rw [HS.out]; exact ownM8, LB8, B8⟩
                            case measure => simp [intOf]; omega
                          | true =>
                            have HEQ : Hid (mTo p n l a ++ rowM p n ea ((l.drop (a + 1)).take (j + 1)) = (mTo p n l a ++ rowM p n ea ((l.drop (a + 1)).take j)) ++ [(ea.to, ⟨eb'.to, ea.s + eb'.s, ea.d + eb'.d, (n : Int)⟩)]) := by
                              unfold Hid
                              rw [rowM_yes HEB.out.2 (HPB.out.trans hq), List.append_assoc]
                            have hFb : (mTo p n l a ++ rowM p n ea ((l.drop (a + 1)).take j)).length ≤ 100000 := by
                              have h1 := rowM_len p n ea ((l.drop (a + 1)).take j)
                              rw [List.length_take] at h1
                              rw [List.length_append]
                              have := HDL.out
                              omega
                            obtain ⟨b3', o3', hA3', p0, _⟩ := (HR3.out.below B8) a ea HEA.out.1
                            cases hA3'
                            have HXV : Hid (leV ⟨eb'.to, ea.s + eb'.s, ea.d + eb'.d, (n : Int)⟩ = [.int .i64 (eb'.to : Int), .int .i64 (ea.s + eb'.s), .int .i64 (ea.d + eb'.d), .int .i64 (n : Int)]) := rfl
                            clear hq HPB
                            generalize mTo p n l a ++ rowM p n ea ((l.drop (a + 1)).take j) = F at *
                            go_wp2_with (at_builtin; refine wpList_append_own _ rfl _ _ 22 rfl WE.heap.size 3 i3 (.int .i64 0) 1 8 Tryz.underlying22 hi3 hy0 hy1 hy2 rfl (by decide) _ _ _ rfl (ownF8.alloc _) ⟨wc.heap.size, 0, none⟩ 1 1 [.int .i64 (ea.to : Int)] rfl rfl ?c1 ?c2 ?c3 ?c4 ?c5 ?_)
                            case c1 =>
                              intro j u hj
                              match j, hj with
                              | 0, hj =>
                                simp at hj; subst hj; simp only [Addr.add]
                                exact World.cell?_alloc_at (w := wc) #[.int .i64 (ea.to : Int)] 3 wc.heap.size 0 rfl
                            case c2 => intro u hu; simp at hu; subst hu; rfl
                            case c3 => unfold maxLen; omega
                            case c4 => have := B8.size; omega
                            case c5 => have := B8.size; simp; omega
                            intro vW4 W4 hownW4 hgrowW4 _
                            have hbaseW4 := fun q hq => (ownF8.lt q hq).1
                            have BW4 : Below WE.heap.size WE W4 := (B8.alloc B8.size _).grown hgrowW4 (by simp; have := B8.size; omega) hbaseW4
                            have bW4 : Below wc.heap.size wc (wc.alloc (.cells #[.int .i64 (ea.to : Int)] 3)) := (Below.refl _ _).alloc (Nat.le_refl _) _
                            have hap1 := own_apart ownM8 ownF8 (by decide)
                            have ownM9 := (own_below ownM8 bW4).kept hgrowW4 (by
                              cases h : u12.ownBlock with
                              | none => exact Or.inl rfl
                              | some g => exact Or.inr (hap1 g h))
                            have KW4 : Keep (fun k => u11.ownBlock = some k) wc W4 := ((Keep.refl _ wc).alloc _).grown hgrowW4 (fun k hk _ => hk)
                            have LB9 := LB8.keep KW4 (fun h => own_map ownF8 LB8.cm _ h rfl) (fun h => own_map ownF8 LB8.im _ h rfl)
                            have S9 := S8.keep KW4 (fun h => HNF.out T2 h rfl)
                            have OF4 : W4.ownsRow WE.heap.size 3 1 vW4 (F ++ [(ea.to, (⟨eb'.to, ea.s + eb'.s, ea.d + eb'.d, (n : Int)⟩ : LE))]).length (vals ((F ++ [(ea.to, (⟨eb'.to, ea.s + eb'.s, ea.d + eb'.d, (n : Int)⟩ : LE))]).map Prod.fst)) := by simpa [vals] using hownW4
                            have u0 := S9.c0
                            have u1 := S9.c1
                            clear hownW4 hgrowW4 hbaseW4 bW4 KW4 hap1 ownF8 ownM8 LB8 S8 B8 p0
                            go_wp2_with (at_builtin; refine wpList_append_own _ rfl _ _ 52 rfl WE.heap.size 67 i67 (.agg #[.int .i64 0, .int .i64 0, .int .i64 0, .int .i64 0]) 4 32 Tryz.underE hi67 hz0 hz1 hz2 rfl (by decide) _ _ _ rfl (ownM9.alloc _) ⟨W4.heap.size, 0, none⟩ 1 1 [.int .i64 (eb'.to : Int), .int .i64 (ea.s + eb'.s), .int .i64 (ea.d + eb'.d), .int .i64 (n : Int)] rfl rfl (cell_four_new _ _ _ _ _ _) (by intro u hu; simp at hu; rcases hu with rfl | rfl | rfl | rfl <;> rfl) ?c3 ?c4 ?c5 ?_)
                            case c3 => unfold maxLen; omega
                            case c4 => have := BW4.size; omega
                            case c5 => have := BW4.size; simp; omega
                            intro vW5 W5 hownW5 hgrowW5 _
                            have hbaseW5 := fun q hq => (ownM9.lt q hq).1
                            have BW5 : Below WE.heap.size WE W5 := (BW4.alloc BW4.size _).grown hgrowW5 (by simp; have := BW4.size; omega) hbaseW5
                            have OW5 : W5.ownsRow WE.heap.size 67 4 vW5 (F.map Prod.snd ++ [(⟨eb'.to, ea.s + eb'.s, ea.d + eb'.d, (n : Int)⟩ : LE)]).length (lesV (F.map Prod.snd ++ [(⟨eb'.to, ea.s + eb'.s, ea.d + eb'.d, (n : Int)⟩ : LE)])) := by
                              rw [lesV_app, lesV_one, HXV.out]
                              simpa using hownW5
                            clear hownW5 hbaseW5 
                            have hap2 := own_apart OF4 ownM9 (by decide)
                            have bW5 : Below W4.heap.size W4 (W4.alloc (.cells #[.int .i64 (eb'.to : Int), .int .i64 (ea.s + eb'.s), .int .i64 (ea.d + eb'.d), .int .i64 (n : Int)] 67)) := (Below.refl _ _).alloc (Nat.le_refl _) _
                            have OF5 := (own_below OF4 bW5).kept hgrowW5 (by
                              cases h : vW4.ownBlock with
                              | none => exact Or.inl rfl
                              | some g => exact Or.inr (hap2 g h))
                            have KW5 : Keep (fun k => u12.ownBlock = some k) W4 W5 := ((Keep.refl _ W4).alloc _).grown hgrowW5 (fun k hk _ => hk)
                            have LB10 := LB9.keep KW5 (fun h => own_map ownM9 LB9.cm _ h rfl) (fun h => own_map ownM9 LB9.im _ h rfl)
                            have OM5 : W5.ownsRow WE.heap.size 67 4 vW5 (F ++ [(ea.to, (⟨eb'.to, ea.s + eb'.s, ea.d + eb'.d, (n : Int)⟩ : LE))]).length (lesV ((F ++ [(ea.to, (⟨eb'.to, ea.s + eb'.s, ea.d + eb'.d, (n : Int)⟩ : LE))]).map Prod.snd)) := by
                              rw [List.map_append]
                              simpa using OW5
                            clear u0 u1 hap2 bW5 KW5 hgrowW5 OW5 OF4 ownM9 LB9 S9 BW4
                            go_wp2
                            go_roundw
                            case rel => exact ⟨j + 1, by have := HDL.out; omega, by push_cast; rw [Int.add_assoc], by rw [HEQ.out]; exact OF5, by rw [HEQ.out]; exact OM5, LB10, BW5⟩
                            case measure => simp [intOf]; omega
                  · have ej : j = (l.drop (a + 1)).length := by rw [hdl] at hj ⊢; omega
                    have e0 : mTo p n l a ++ rowM p n ea ((l.drop (a + 1)).take j) = mTo p n l (a + 1) := by rw [ej, List.take_length, HST.out]
                    rw [e0] at ownF ownM
                    have hcl : ¬ ((a : Int) + 1 + (j : Int)) < (l.length : Int) := by omega
                    clear hdl e0 ej
                    go_wp2
                    go_roundw
                    case rel => exact ⟨a + 1, by omega, by go_num, ownF, ownM, hB⟩
                    case measure => simp [intOf]; omega
              · as_aux_lemma =>
                  have ea' : a = l.length := by omega
                  subst ea'
                  have HQ : Hid (mTo p n l l.length = moreF p n (feF st' n)) := by unfold Hid; rw [HFL.out]; exact mTo_all p n l
                  have hQl : (mTo p n l l.length).length ≤ 65536 := Nat.le_trans (mTo_len p n l l.length) (Nat.mul_le_mul hfl hfl)
                  have HE : Hid (∀ x ∈ mTo p n l l.length, x.1 ∈ L ∧ x.2.to ∈ L ∧ x.2.mid = (n : Int)) := fun x hx => by
                    rw [mTo_all] at hx
                    obtain ⟨⟨a, ha1, ha2⟩, ⟨b, hb1, hb2⟩, hm⟩ := moreF_ends hx
                    exact ⟨by rw [ha2]; exact (HIN.out a ha1).2, by rw [hb2]; exact (HIN.out b hb1).2, hm⟩
                  have RS := HRE.out.below hB
                  have row3 := HR3.out.below hB
                  generalize mTo p n l l.length = Q at *
                  obtain ⟨AF, capF, hvF, oldF⟩ := row_of (l := Q.map Prod.fst) (by rw [List.length_map]; exact ownF)
                  obtain ⟨AM, capM, hvM, oldM, _⟩ := rowL_of (l := Q.map Prod.snd) (by rw [List.length_map]; exact ownM)
                  rw [List.length_map] at hvF hvM oldF
                  subst hvF hvM
                  clear ownF ownM hB HRE HR3 ha hal
                  by_cases hgt : l.length < Q.length
                  · have hgt' : (l.length : Int) < (Q.length : Int) := by omega
                    have HR2 : Hid (Rnd t (L.take (i + 1)) st (fun _ => false) st' nr got) := by
                      rw [HTK.out]
                      have h1 := HR.out.snoc (n := n) (st2 := st') (nr2 := nr) (g2 := false) (Or.inr ⟨HNOT.out, p, HP.out, Or.inl ⟨by rw [← HQ.out, HFL.out]; exact hgt, rfl, rfl, rfl⟩⟩)
                      rw [Bool.or_false] at h1
                      exact h1
                    clear HR HTK HNOT HP HE HQ HFL HIN row3 oldF oldM
                    go_wp2
                    go_roundw
                    case rel => exact ⟨i + 1, st', nr, f', got, by omega, by go_num, rfl, RS, HR2.out, HA.out⟩
                    case measure => simp [intOf]; omega
                  · have hgt' : ¬ (l.length : Int) < (Q.length : Int) := by omega
                    have HTO : Hid (∀ e ∈ l, e.to ∈ L) := fun e he => (HIN.out e he).2
                    have HLO : Hid (LayOk L st'.es) := fun a => ⟨HO.out.esy.ord a, fun e he => (HO.out.cor.ends he).2⟩
                    clear HIN
                    go_wp2
                    go_loopw [19] (fun kv wr => ∃ (k : Nat), k ≤ l.length ∧ kv = .int .i64 k ∧ RRS w wr lb vb eb w.heap.size t L (some ⟨ba, oa, none⟩) st' f' (fun x => nr x || (l.take k).any (fun e => e.to == x)) ∧ RowL wr A3 l ∧ OldRow wr AF Q.length (fun i => ((Q.map Prod.fst).getD i 0 : Nat)) ∧ RowL wr AM (Q.map Prod.snd))
                      (fun k _ => l.length - (intOf k).toNat)
                    case atStart =>
                      refine ⟨0, Nat.zero_le _, rfl, ?_, row3, oldF, oldM⟩
                      have e : (fun x => nr x || (l.take 0).any (fun e => e.to == x)) = nr := by
                        funext x
                        simp
                      rw [e]; exact RS
                    case round =>
                      clear RS row3 oldF oldM
                      obtain ⟨k, hk, rfl, RS, row3, oldF, oldM⟩ := hrel
                      by_cases hkl : k < l.length
                      · obtain ⟨e, he⟩ : ∃ e, l[k]? = some e := ⟨l[k], List.getElem?_eq_getElem hkl⟩
                        obtain ⟨b3, o3, rfl, q0, _⟩ := row3 k e he
                        have heL := HTO.out e (List.mem_of_getElem? he)
                        have k1 : (0 : Int) ≤ (k : Int) := by omega
                        have k2 : (k : Int) < (l.length : Int) := by omega
                        obtain ⟨w8, hrun8, K8, RS8⟩ := RS.near heL
                        have hc := fun o => RS.nm.mp.cell o
                        have row8 := row3.map K8 hc
                        have oldF8 := oldF.map K8 hc
                        have oldM8 := oldM.map K8 hc
                        have HNR : Hid ((fun x => (nr x || (l.take k).any (fun e => e.to == x)) || e.to == x) = fun x => nr x || (l.take (k + 1)).any (fun e => e.to == x)) := by
                          unfold Hid
                          funext x
                          rw [List.take_add_one, he, List.any_append, Bool.or_assoc]
                          simp
                        clear RS row3 oldF oldM hc K8 he heL
                        go_wp2
                        go_roundw
                        case rel => exact ⟨k + 1, by omega, by go_num, by rw [← HNR.out]; exact RS8, row8, oldF8, oldM8⟩
                        case measure => simp [intOf]; omega
                      · have ek : k = l.length := by omega
                        subst ek
                        rw [List.take_length] at RS
                        have bD : Below wr.heap.size wr wr.drew := (Below.refl _ _).drew
                        have RSD := RS.below bD
                        have oldFD := oldF.below bD
                        have oldMD := oldM.below bD
                        have c0 := RSD.lv.c0
                        have c2 := RSD.lv.c2
                        obtain ⟨w8, hrun8, K8, RS8⟩ := RSD.level HNL.out ht
                        have hc := fun o => RSD.lv.lv.mp.cell o
                        have oldF8 := oldFD.map K8 hc
                        have oldM8 := oldMD.map K8 hc
                        have hl8 : lb ≠ vb := RSD.lv.nes.1
                        have d0 := K8.cellOf c0 hl8
                        have d2 := K8.cellOf c2 hl8
                        clear RS row3 oldF oldM hc K8 RSD oldFD oldMD bD hl8 hk hkl
                        go_upto_region 34 with fail
                        go_region
                        clear hrun8 c0 c2 d0 d2
                        go_wp2
                        go_loopw [20] (fun kv wr => ∃ (k : Nat) (f2 : Int → Option Value), k ≤ Q.length ∧ kv = .int .i64 k ∧ RRS w wr lb vb eb w.heap.size t L (some ⟨ba, oa, none⟩) ⟨fun x => if x = n then t else st'.lev x, layAll st'.es (Q.take k)⟩ f2 (fun x => nr x || l.any (fun e => e.to == x)) ∧ OldRow wr AF Q.length (fun i => ((Q.map Prod.fst).getD i 0 : Nat)) ∧ RowL wr AM (Q.map Prod.snd) ∧ Hid (LayOk L (layAll st'.es (Q.take k))))
                          (fun k _ => Q.length - (intOf k).toNat)
                        case atStart => exact ⟨0, f', Nat.zero_le _, rfl, RS8, oldF8, oldM8, HLO⟩
                        case round =>
                          clear RS8 oldF8 oldM8
                          obtain ⟨k, f2, hk, rfl, RS, oldF, oldM, HLK⟩ := hrel
                          by_cases hkl : k < Q.length
                          · as_aux_lemma =>
                              obtain ⟨x, hx⟩ : ∃ x, Q[k]? = some x := ⟨Q[k], List.getElem?_eq_getElem hkl⟩
                              obtain ⟨h1L, h2L, hxm⟩ := HE.out x (List.mem_of_getElem? hx)
                              have hf1 : (Q.map Prod.fst).getD k 0 = x.1 := by rw [List.getD_eq_getElem?_getD, List.getElem?_map, hx]; rfl
                              have hm1 : (Q.map Prod.snd)[k]? = some x.2 := by rw [List.getElem?_map, hx]; rfl
                              obtain ⟨bf, of, hAF, _, g0'⟩ := oldF k hkl
                              subst hAF
                              have g0 : wr.cell? ⟨bf, of + k, none⟩ = some (.int .i64 (x.1 : Int)) := by rw [← hf1]; exact g0'
                              obtain ⟨bm, om, hAM, m0, m1, m2, m3⟩ := oldM k x.2 hm1
                              subst hAM
                              rw [hxm] at m3
                              have k1 : (0 : Int) ≤ (k : Int) := by omega
                              have k2 : (k : Int) < (Q.length : Int) := by omega
                              have HST : Hid (layAll st'.es (Q.take (k + 1)) = lay2 (layAll st'.es (Q.take k)) x) := layAll_step hx
                              have hx2 : x.2 = ⟨x.2.to, x.2.s, x.2.d, (n : Int)⟩ := by rw [← hxm]
                              have HX2 : Hid _ := hx2
                              have HXM : Hid (x.2.mid = (n : Int)) := hxm
                              have hb1 := HBD.out _ h1L
                              have hb2 := HBD.out _ h2L
                              have hw1 := wf_small (a := (x.1 : Int)) (by omega) (by omega)
                              have hw2 := wf_small (a := (x.2.to : Int)) (by omega) (by omega)
                              have b5 : Below wr.heap.size wr (wr.alloc (.cells #[.int .i64 (x.2.to : Int), .int .i64 x.2.s, .int .i64 x.2.d, .int .i64 (n : Int)] 67)) := (Below.refl _ _).alloc (Nat.le_refl _) _
                              have y0 : (wr.alloc (.cells #[.int .i64 (x.2.to : Int), .int .i64 x.2.s, .int .i64 x.2.d, .int .i64 (n : Int)] 67)).cell? ⟨wr.heap.size, 0, none⟩ = some (.int .i64 (x.2.to : Int)) := World.cell?_alloc_at _ _ _ 0 rfl
                              have y1 : (wr.alloc (.cells #[.int .i64 (x.2.to : Int), .int .i64 x.2.s, .int .i64 x.2.d, .int .i64 (n : Int)] 67)).cell? ⟨wr.heap.size, 1, none⟩ = some (.int .i64 x.2.s) := World.cell?_alloc_at _ _ _ 1 rfl
                              have y2 : (wr.alloc (.cells #[.int .i64 (x.2.to : Int), .int .i64 x.2.s, .int .i64 x.2.d, .int .i64 (n : Int)] 67)).cell? ⟨wr.heap.size, 2, none⟩ = some (.int .i64 x.2.d) := World.cell?_alloc_at _ _ _ 2 rfl
                              have y3 : (wr.alloc (.cells #[.int .i64 (x.2.to : Int), .int .i64 x.2.s, .int .i64 x.2.d, .int .i64 (n : Int)] 67)).cell? ⟨wr.heap.size, 3, none⟩ = some (.int .i64 (n : Int)) := World.cell?_alloc_at _ _ _ 3 rfl
                              have RS5 := RS.below b5
                              have oldF5 := oldF.below b5
                              have oldM5 := oldM.below b5
                              have g5 := (b5.cell (World.block_lt_of_cell? _ _ g0)).trans g0
                              clear hx hf1 hm1 hx2 hxm g0' RS oldF oldM g0 b5
                              go_upto_region 39 with fail
                              clear m0 m1 m2 m3
                              generalize wr.alloc (.cells #[.int .i64 (x.2.to : Int), .int .i64 x.2.s, .int .i64 x.2.d, .int .i64 (n : Int)] 67) = w5 at *
                              generalize wr.heap.size = Y at *
                              have HLL1 : Hid (∀ a, (layAll st'.es (Q.take k) a).length ≤ 256) := fun a => HLK.out.len HBD.out a
                              generalize layAll st'.es (Q.take k) = E2 at *
                              have HR5 : Hid _ := RS5
                              have HOF : Hid (OldRow w5 (some ⟨bf, of, none⟩) Q.length (fun i => ((Q.map Prod.fst).getD i 0 : Nat))) := oldF5
                              have HOM : Hid (RowL w5 (some ⟨bm, om, none⟩) (Q.map Prod.snd)) := oldM5
                              clear RS5 oldF5 oldM5
                              go_cut [] from 189 to 207 (fun wd => ∃ f3, RRS w wd lb vb eb w.heap.size t L (some ⟨ba, oa, none⟩) ⟨fun x => if x = n then t else st'.lev x, putE E2 x.1 (layF x.2 (E2 x.1))⟩ f3 (fun x => nr x || l.any (fun e => e.to == x)) ∧ OldRow wd (some ⟨bf, of, none⟩) Q.length (fun i => ((Q.map Prod.fst).getD i 0 : Nat)) ∧ RowL wd (some ⟨bm, om, none⟩) (Q.map Prod.snd) ∧ wd.cell? ⟨bf, of + k, none⟩ = some (.int .i64 (x.1 : Int)) ∧ wd.cell? ⟨Y, 0, none⟩ = some (.int .i64 (x.2.to : Int)) ∧ wd.cell? ⟨Y, 1, none⟩ = some (.int .i64 x.2.s) ∧ wd.cell? ⟨Y, 2, none⟩ = some (.int .i64 x.2.d))
                              case first =>
                                obtain ⟨A1, c1', hf1, row1⟩ := HR5.out.lv.yes x.1 h1L
                                have row1 : RowL w5 A1 (E2 x.1) := row1
                                have hf1 : f2 (x.1 : Int) = some (.slice A1 (E2 x.1).length c1') := hf1
                                have b0 : Below w5.heap.size w5 w5.drew := (Below.refl _ _).drew
                                have h47 : (Instr.lookup 47 (.map (some eb)) (.int .i64 (x.1 : Int)) false).run Tryz.prog w5.drew = .ok (.slice A1 (E2 x.1).length c1') w5.drew := (HR5.out.lv.below b0).em.mp.look_some law3 Tryz.underM (zeroM _) hw1 hf1 false
                                have CC : Hid (∀ w', Below w5.heap.size w5 w' → w'.cell? ⟨lb, 1, none⟩ = some (.map (some eb)) ∧ w'.cell? ⟨bf, of + k, none⟩ = some (.int .i64 (x.1 : Int)) ∧ w'.cell? ⟨Y, 0, none⟩ = some (.int .i64 (x.2.to : Int)) ∧ w'.cell? ⟨Y, 1, none⟩ = some (.int .i64 x.2.s) ∧ w'.cell? ⟨Y, 2, none⟩ = some (.int .i64 x.2.d) ∧ w'.cell? ⟨Y, 3, none⟩ = some (.int .i64 (n : Int))) := fun w' h => by
                                  have kk : ∀ {a : Addr} {v : Value}, w5.cell? a = some v → w'.cell? a = some v := fun {a v} q => (h.cell (World.block_lt_of_cell? w5 a q)).trans q
                                  exact ⟨kk HR5.out.lv.c1, kk g5, kk y0, kk y1, kk y2, kk y3⟩
                                have hlay : Hid (∀ w', Below w5.heap.size w5 w' → _) := fun w' h => rlay_any (cap := c1') (x := ⟨x.2.to, x.2.s, x.2.d, (n : Int)⟩) w' (row1.below h) (HLK.out x.1).1 (HLL1.out x.1)
                                clear g5 y0 y1 y2 y3 row1 hf1
                                go_region_held3 (fun w' => w'.cell? ⟨lb, 1, none⟩ = some (.map (some eb)) ∧ w'.cell? ⟨bf, of + k, none⟩ = some (.int .i64 (x.1 : Int)) ∧ w'.cell? ⟨Y, 0, none⟩ = some (.int .i64 (x.2.to : Int)) ∧ w'.cell? ⟨Y, 1, none⟩ = some (.int .i64 x.2.s) ∧ w'.cell? ⟨Y, 2, none⟩ = some (.int .i64 x.2.d) ∧ w'.cell? ⟨Y, 3, none⟩ = some (.int .i64 (n : Int))) (first | exact CC.out _ b0 | exact CC.out _ b6 | exact C7)
                                  (first | (go_at_call 92; refine (hlay.out _ b0).mono ?_; rintro r w6 ⟨v6, rfl, own6, hb6⟩; obtain ⟨A6, cap6, rfl, row6, _⟩ := rowL_of own6; have b6 := b0.trans (hb6.mono b0.size); obtain ⟨w7, hrun7, K7, RS7⟩ := (HR5.out.below b6).edge (a := x.1) (cap' := cap6) h1L row6; have C6 := CC.out _ b6; have hc7 := fun o => (HR5.out.below b6).lv.em.mp.cell o; have C7 := and6 K7 hc7 C6))
                                all_goals
                                  have O7 := (HOF.out.below b6).map K7 hc7
                                  have M7 := (HOM.out.below b6).map K7 hc7
                                  go_wp2_with fail
                                  go_meet
                                  refine ⟨_, by rw [HX2.out]; exact RS7, O7, M7, C7.2.1, C7.2.2.1, C7.2.2.2.1, C7.2.2.2.2.1⟩
                              case rest =>
                                obtain ⟨f3, RS6, oldF6, oldM6, g6, z0, z1, z2⟩ := hcut
                                have HL3 : Hid (LayOk L (putE E2 x.1 (layF x.2 (E2 x.1)))) := HLK.out.put h2L
                                have HLN : Hid (LayOk L (putE (putE E2 x.1 (layF x.2 (E2 x.1))) x.2.to (layF ⟨x.1, x.2.s, x.2.d, x.2.mid⟩ (putE E2 x.1 (layF x.2 (E2 x.1)) x.2.to)))) := HL3.out.put h1L
                                have HLY : Hid (lay2 E2 x = putE (putE E2 x.1 (layF x.2 (E2 x.1))) x.2.to (layF ⟨x.1, x.2.s, x.2.d, x.2.mid⟩ (putE E2 x.1 (layF x.2 (E2 x.1)) x.2.to))) := rfl
                                have HLL3 : Hid (∀ a, (putE E2 x.1 (layF x.2 (E2 x.1)) a).length ≤ 256) := fun a => HL3.out.len HBD.out a
                                generalize putE E2 x.1 (layF x.2 (E2 x.1)) = E3 at *
                                have HR6 : Hid (RRS w wc lb vb eb w.heap.size t L (some ⟨ba, oa, none⟩) ⟨fun x => if x = n then t else st'.lev x, E3⟩ f3 (fun x => nr x || l.any (fun e => e.to == x))) := RS6
                                have HOF6 : Hid (OldRow wc (some ⟨bf, of, none⟩) Q.length (fun i => ((Q.map Prod.fst).getD i 0 : Nat))) := oldF6
                                have HOM6 : Hid (RowL wc (some ⟨bm, om, none⟩) (Q.map Prod.snd)) := oldM6
                                clear RS6 oldF6 oldM6 HR5 HOF HOM g5 y0 y1 y2 y3 HLK HLL1
                                go_upto_region 40 with fail
                                have e8 : putE E3 x.2.to (layF ⟨x.1, x.2.s, x.2.d, (n : Int)⟩ (E3 x.2.to)) = layAll st'.es (Q.take (k + 1)) := by rw [HST.out, HLY.out, HXM.out]
                                have HE8 : Hid _ := e8
                                have HL8 : Hid (LayOk L (layAll st'.es (Q.take (k + 1)))) := by
                                  rw [HST.out, HLY.out]
                                  exact HLN.out
                                clear e8 HLN HLY HXM HST HX2
                                obtain ⟨A1, c1', hf1, row1⟩ := HR6.out.lv.yes x.2.to h2L
                                have row1 : RowL wc A1 (E3 x.2.to) := row1
                                have hf1 : f3 (x.2.to : Int) = some (.slice A1 (E3 x.2.to).length c1') := hf1
                                have b0 : Below wc.heap.size wc wc.drew := (Below.refl _ _).drew
                                have h47 : (Instr.lookup 47 (.map (some eb)) (.int .i64 (x.2.to : Int)) false).run Tryz.prog wc.drew = .ok (.slice A1 (E3 x.2.to).length c1') wc.drew := (HR6.out.lv.below b0).em.mp.look_some law3 Tryz.underM (zeroM _) hw2 hf1 false
                                have CC : Hid (∀ w', Below wc.heap.size wc w' → w'.cell? ⟨lb, 1, none⟩ = some (.map (some eb)) ∧ w'.cell? ⟨bf, of + k, none⟩ = some (.int .i64 (x.1 : Int)) ∧ w'.cell? ⟨Y, 0, none⟩ = some (.int .i64 (x.2.to : Int)) ∧ w'.cell? ⟨Y, 1, none⟩ = some (.int .i64 x.2.s) ∧ w'.cell? ⟨Y, 2, none⟩ = some (.int .i64 x.2.d) ∧ w'.cell? ⟨Y, 0, none⟩ = some (.int .i64 (x.2.to : Int))) := fun w' h => by
                                  have kk : ∀ {a : Addr} {v : Value}, wc.cell? a = some v → w'.cell? a = some v := fun {a v} q => (h.cell (World.block_lt_of_cell? wc a q)).trans q
                                  exact ⟨kk HR6.out.lv.c1, kk g6, kk z0, kk z1, kk z2, kk z0⟩
                                have hlay : Hid (∀ w', Below wc.heap.size wc w' → _) := fun w' h => rlay_any (cap := c1') (x := ⟨x.1, x.2.s, x.2.d, (n : Int)⟩) w' (row1.below h) (HL3.out x.2.to).1 (HLL3.out x.2.to)
                                clear g6 z0 z1 z2 row1 hf1
                                go_region_held3 (fun w' => w'.cell? ⟨lb, 1, none⟩ = some (.map (some eb)) ∧ w'.cell? ⟨bf, of + k, none⟩ = some (.int .i64 (x.1 : Int)) ∧ w'.cell? ⟨Y, 0, none⟩ = some (.int .i64 (x.2.to : Int)) ∧ w'.cell? ⟨Y, 1, none⟩ = some (.int .i64 x.2.s) ∧ w'.cell? ⟨Y, 2, none⟩ = some (.int .i64 x.2.d) ∧ w'.cell? ⟨Y, 0, none⟩ = some (.int .i64 (x.2.to : Int))) (first | exact CC.out _ b0 | exact CC.out _ b6 | exact C7)
                                  (first | (go_at_call 92; refine (hlay.out _ b0).mono ?_; rintro r w6 ⟨v6, rfl, own6, hb6⟩; obtain ⟨A6, cap6, rfl, row6, _⟩ := rowL_of own6; have b6 := b0.trans (hb6.mono b0.size); obtain ⟨w7, hrun7, K7, RS7⟩ := (HR6.out.below b6).edge (a := x.2.to) (cap' := cap6) h2L row6; have C6 := CC.out _ b6; have hc7 := fun o => (HR6.out.below b6).lv.em.mp.cell o; have C7 := and6 K7 hc7 C6))
                                all_goals
                                  have O7 := (HOF6.out.below b6).map K7 hc7
                                  have M7 := (HOM6.out.below b6).map K7 hc7
                                  have RS8 := RS7
                                  rw [HE8.out] at RS8
                                  go_wp2
                                  go_roundw
                                  case rel => exact ⟨k + 1, _, by omega, by go_num, RS8, O7, M7, HL8.out⟩
                                  case measure => simp [intOf]; omega
                          · have ek : k = Q.length := by omega
                            subst ek
                            rw [List.take_length] at RS
                            have HTU : Hid (Turn t n st' nr ⟨fun x => if x = n then t else st'.lev x, layAll st'.es Q⟩ (fun x => nr x || l.any (fun e => e.to == x)) true) := by
                              refine Or.inr ⟨HNOT.out, p, HP.out, Or.inr ⟨by rw [← HQ.out, HFL.out]; exact hgt, by rw [← HQ.out], by rw [HFL.out], rfl⟩⟩
                            have HR2 : Hid (Rnd t (L.take (i + 1)) st (fun _ => false) ⟨fun x => if x = n then t else st'.lev x, layAll st'.es Q⟩ (fun x => nr x || l.any (fun e => e.to == x)) true) := by
                              rw [HTK.out]
                              have h1 := HR.out.snoc HTU.out
                              rw [Bool.or_true] at h1
                              exact h1
                            have HA2 : Hid (All L t K ⟨fun x => if x = n then t else st'.lev x, layAll st'.es Q⟩ (fun x => nr x || l.any (fun e => e.to == x))) := HA.out.turn hK0 HNL.out HTU.out
                            clear HTU HR HA HTK HNOT HP HE HQ HFL oldF oldM HLK
                            go_wp2
                            go_roundw
                            case rel => exact ⟨i + 1, _, _, f2, true, by omega, by go_num, rfl, RS, HR2.out, HA2.out⟩
                            case measure => simp [intOf]; omega
    · have ei : i = L.length := by omega
      subst ei
      have HRF : Hid (Rnd t L st (fun _ => false) st' nr got) := by
        have h := HR.out
        rw [List.take_length] at h
        exact h
      clear HR HA
      go_wp2
      go_ret
      exact ⟨st', nr, got, f', rfl, HRF.out, RS.lv, RS.row, RS.kp⟩
end Go.Proofs.YtmnpplkjhnoglaaGreatDoor
/-
  The reference's levels: 'Levels' of its graph. (For LevelsSays.)
-/
namespace Go.Proofs.YtmnpplkjhnoglaaGreatDoor
open Go.RowKit Go.Maps

section
variable {w w' : World} {lb vb eb top : Nat} {L : List Nat} {st : LSt} {f : Int → Option Value}
theorem RLv.level (R : RLv w lb vb eb top L st f) {n : Nat} (hn : n ∈ L) (ht : 0 < top) : ∃ w1, (Instr.mapUpdate 46 (.map (some vb)) (.int .i64 (n : Int)) (.int .i64 (top : Int))).run Tryz.prog w = .ok () w1 ∧ Keep (fun k => k = vb) w w1 ∧ RLv w1 lb vb eb top L ⟨fun k => if k = n then top else st.lev k, st.es⟩ f := by
  have hb := R.bd n hn
  obtain ⟨w1, h1, K, M⟩ := R.lv.store Tryz.underV (a := (n : Int)) (by omega) (by omega) (.int .i64 (top : Int))
  rw [lzF_put hn ht] at M
  have hc := fun o => R.lv.mp.cell o
  have hl : lb ≠ vb := R.nes.1
  refine ⟨w1, h1, K, K.cellOf R.c0 hl, K.cellOf R.c1 hl, K.cellOf R.c2 hl, (K.frozen (p := ⟨lb, 2, none⟩) R.lts.1 hl).trans R.fz, M, R.em.keep K (fun h => R.ne h.symm), fun x hx => ?_, R.no, R.ne, R.bd⟩
  obtain ⟨A', cap', e1, e2⟩ := R.yes x hx
  exact ⟨A', cap', e1, e2.map K hc⟩
theorem RLv.ends {T : Nat} {es : Nat → List LE} {lev : Nat → Nat} (R : RLv w lb vb eb top L ⟨fun x => if x ∈ L.take L.length ∧ lev x = 0 then T else lev x, es⟩ f) : RLv w lb vb eb top L ⟨endL T ⟨lev, es⟩, es⟩ f := by
  have e : lzF L (fun x => if x ∈ L.take L.length ∧ lev x = 0 then T else lev x) = lzF L (endL T ⟨lev, es⟩) := by
    funext i
    unfold lzF
    by_cases h : 0 ≤ i ∧ i.toNat ∈ L
    · have e1 : (if i.toNat ∈ L.take L.length ∧ lev i.toNat = 0 then T else lev i.toNat) = endL T ⟨lev, es⟩ i.toNat := by
        unfold endL
        by_cases hz : lev i.toNat = 0
        · rw [if_pos ⟨by rw [List.take_length]; exact h.2, hz⟩, if_pos hz]
        · rw [if_neg (fun q => hz q.2), if_neg hz]
      show (if 0 ≤ i ∧ i.toNat ∈ L ∧ 0 < (if i.toNat ∈ L.take L.length ∧ lev i.toNat = 0 then T else lev i.toNat) then some (Value.int .i64 (((if i.toNat ∈ L.take L.length ∧ lev i.toNat = 0 then T else lev i.toNat) : Nat) : Int)) else none) = _
      rw [e1]
    · rw [if_neg (fun q => h ⟨q.1, q.2.1⟩), if_neg (fun q => h ⟨q.1, q.2.1⟩)]
  have hlv : MapK w vb (lzF L (fun x => if x ∈ L.take L.length ∧ lev x = 0 then T else lev x)) := R.lv
  rw [e] at hlv
  exact ⟨R.c0, R.c1, R.c2, R.fz, hlv, R.em, R.yes, R.no, R.ne, R.bd⟩
/-- one more level -/
theorem RLv.up (R : RLv w lb vb eb top L st f) (h3 : ∀ o, w.cell? ⟨lb, o + 3, none⟩ = none) (T : Nat) : RLv (w.setCell ⟨lb, 2, none⟩ (.int .i64 (T : Int))) lb vb eb T L st f ∧ Keep (fun k => k = lb) w (w.setCell ⟨lb, 2, none⟩ (.int .i64 (T : Int))) := by
  have K : Keep (fun k => k = lb) w (w.setCell ⟨lb, 2, none⟩ (.int .i64 (T : Int))) := (Keep.refl (fun k => k = lb) w).setCell (p := ⟨lb, 2, none⟩) (fun _ => rfl) _
  refine ⟨⟨?_, ?_, ?_, ?_, R.lv.keep K (fun h => R.nes.1 h.symm), R.em.keep K (fun h => R.nes.2 h.symm), fun n hn => ?_, R.no, R.ne, R.bd⟩, K⟩
  · rw [World.cell?_setCell_other _ _ _ _ (by intro e; cases e)]; exact R.c0
  · rw [World.cell?_setCell_other _ _ _ _ (by intro e; cases e)]; exact R.c1
  · exact World.cell?_setCell_same _ _ _ R.c2
  · rw [World.frozen?_setCell]; exact R.fz
  · obtain ⟨A, cap, e1, e2⟩ := R.yes n hn
    refine ⟨A, cap, e1, fun i e hi => ?_⟩
    obtain ⟨b, o, e0, k1, k2, k3, k4⟩ := e2 i e hi
    have hne : b ≠ lb := fun q => by
      subst q
      generalize o + i * 4 = x at *
      have h0 := R.c0
      have h1 := R.c1
      match x, k1, k2, k3 with
      | 0, k1, _, _ => rw [h0] at k1; cases k1
      | 1, k1, _, _ => rw [h1] at k1; cases k1
      | 2, _, k2, _ => rw [h3 0] at k2; cases k2
      | x + 3, k1, _, _ => rw [h3 x] at k1; cases k1
    exact ⟨b, o, e0, K.cellOf k1 hne, K.cellOf k2 hne, K.cellOf k3 hne, K.cellOf k4 hne⟩
end
/-- those of the first i alone -/
def upF (L : List Nat) (f : Int → Option Value) (i : Nat) : Int → Option Value := fun c => if 0 ≤ c ∧ c.toNat ∈ L.take i then f c else none
theorem upF_zero (L : List Nat) (f : Int → Option Value) : upF L f 0 = fun _ => none := by
  funext c
  unfold upF
  rw [if_neg (fun q => by rw [List.take_zero] at q; exact absurd q.2 List.not_mem_nil)]
theorem upF_step {L : List Nat} {f : Int → Option Value} {i n : Nat} {v : Value} (hn : L[i]? = some n) (hv : f (n : Int) = some v) : putF (upF L f i) (n : Int) v = upF L f (i + 1) := by
  funext c
  unfold putF upF
  rw [List.take_add_one, hn]
  by_cases e : c = (n : Int)
  · rw [if_pos e, if_pos ⟨by omega, List.mem_append.2 (Or.inr (by rw [e, Int.toNat_natCast]; exact List.mem_singleton.2 rfl))⟩, e, hv]
  · rw [if_neg e]
    by_cases h : 0 ≤ c ∧ c.toNat ∈ L.take i
    · rw [if_pos h, if_pos ⟨h.1, List.mem_append.2 (Or.inl h.2)⟩]
    · rw [if_neg h, if_neg (fun q => h ⟨q.1, (List.mem_append.1 q.2).resolve_right (fun k => e (by have := List.mem_singleton.1 k; omega))⟩)]
theorem upF_all {L : List Nat} {f : Int → Option Value} (h : ∀ c : Int, ¬ (0 ≤ c ∧ c.toNat ∈ L) → f c = none) : upF L f L.length = f := by
  funext c
  unfold upF
  rw [List.take_length]
  by_cases q : 0 ≤ c ∧ c.toNat ∈ L
  · rw [if_pos q]
  · rw [if_neg q, h c q]
theorem lzF_zero (L : List Nat) : lzF L (fun _ => 0) = fun _ => none := by
  funext i
  unfold lzF
  rw [if_neg (fun q => Nat.lt_irrefl 0 q.2.2)]
/-- the head of the reference's levels -/
structure RHd (w : World) (lb vb eb : Nat) : Prop where
  c0 : w.cell? ⟨lb, 0, none⟩ = some (.map (some vb))
  c1 : w.cell? ⟨lb, 1, none⟩ = some (.map (some eb))
  c2 : w.cell? ⟨lb, 2, none⟩ = some (.int .i64 1)
  fz : w.frozen? ⟨lb, 2, none⟩ = false
  c3 : ∀ o, w.cell? ⟨lb, o + 3, none⟩ = none
theorem RHd.keep {w w' : World} {lb vb eb : Nat} {F : Nat → Prop} (h : RHd w lb vb eb) (K : Keep F w w') (hn : ¬ F lb) : RHd w' lb vb eb := by
  have hl := World.block_lt_of_cell? _ _ h.c0
  exact ⟨K.cellOf h.c0 hn, K.cellOf h.c1 hn, K.cellOf h.c2 hn, (K.frozen (p := ⟨lb, 2, none⟩) hl hn).trans h.fz, fun o => (K.cell (p := ⟨lb, o + 3, none⟩) hl hn).trans (h.c3 o)⟩
set_option maxHeartbeats 16000000 in
set_option maxRecDepth 1000000 in
theorem rlevels_any {rb mb cap nk most : Nat} {A : Option Addr} {L : List Nat} {es : Nat → List LE} {f : Int → Option Value} (w : World) (G : RGm w rb mb cap nk A L es f) (hr : L.Pairwise (· < ·)) (hbd : ∀ n ∈ L, n < 256) (hLL : L.length ≤ 256) (B : Btw L 0 16 ⟨fun _ => 0, es⟩) (m1 : 1 ≤ most) (m6 : most ≤ 6) :
    Calls Tryz.prog 13 #[.pointer (some ⟨rb, 0, none⟩), .int .i64 (most : Int)] w fun e w' => ∃ lb vb eb k st f', e = .returned (.pointer (some ⟨lb, 0, none⟩)) ∧ Rds most L ⟨fun _ => 0, es⟩ k st ∧ Over most L k st ∧ RLv w' lb vb eb (k + 1) L ⟨endL (k + 1) st, st.es⟩ f' ∧ Below w.heap.size w w' := by
  have hmk := @run_makeMap Tryz.prog
  obtain ⟨W0, hW0⟩ : ∃ W0, W0 = ((w.alloc (.map #[] 0)).alloc (.map #[] 0)).alloc (.cells #[.map (some w.heap.size), .map (some (w.heap.size + 1)), .int .i64 1] 49) := ⟨_, rfl⟩
  have BW : Below w.heap.size w W0 := by
    rw [hW0]
    exact (((Below.refl _ _).alloc (Nat.le_refl _) _).alloc (by simp) _).alloc (by simp; omega) _
  have H0 : RHd W0 (w.heap.size + 2) w.heap.size (w.heap.size + 1) := by
    rw [hW0]
    refine ⟨World.cell?_alloc_at _ _ _ 0 (by simp), World.cell?_alloc_at _ _ _ 1 (by simp), World.cell?_alloc_at _ _ _ 2 (by simp), ?_, fun o => ?_⟩
    · rw [frozen?_alloc_cells]
      simp [World.frozen?]
    · have e : ((w.alloc (.map #[] 0)).alloc (.map #[] 0)).heap.size = w.heap.size + 2 := by simp
      rw [← e, World.cell?_alloc_new]
      simp
  have M1 : MapK W0 w.heap.size (lzF L fun _ => 0) := by
    rw [hW0, lzF_zero]
    exact ((MapK.made w).below ((Below.refl _ _).alloc (Nat.le_refl _) _)).below ((Below.refl _ _).alloc (Nat.le_refl _) _)
  have M2 : MapK W0 (w.heap.size + 1) (upF L f 0) := by
    rw [hW0, upF_zero]
    have h := MapK.made (w.alloc (.map #[] 0))
    have e : (w.alloc (.map #[] 0)).heap.size = w.heap.size + 1 := by simp
    rw [e] at h
    exact h.below ((Below.refl _ _).alloc (Nat.le_refl _) _)
  have HG : Hid (RGm w rb mb cap nk A L es f) := G
  have HR : Hid (L.Pairwise (· < ·)) := hr
  have HBD : Hid (∀ n ∈ L, n < 256) := hbd
  have HB : Hid (Btw L 0 16 ⟨fun _ => 0, es⟩) := B
  clear hr hbd B
  go_enter Tryz.func13, Tryz.ntmps13
  go_wp2
  rw [← hW0]
  clear hmk hW0 G
  go_loopw [6] (fun iv wr => ∃ (i : Nat), i ≤ L.length ∧ iv = .int .i64 i ∧ RHd wr (w.heap.size + 2) w.heap.size (w.heap.size + 1) ∧ MapK wr w.heap.size (lzF L fun _ => 0) ∧ MapK wr (w.heap.size + 1) (upF L f i) ∧ Below w.heap.size w wr)
    (fun i _ => L.length - (intOf i).toNat)
  case atStart => exact ⟨0, Nat.zero_le _, rfl, H0, M1, M2, BW⟩
  case round =>
    clear H0 M1 M2 BW
    obtain ⟨i, hi, rfl, H0, M1, M2, hB⟩ := hrel
    have Gr := HG.out.below hB
    have p0 := Gr.p0
    by_cases hlt : i < L.length
    · obtain ⟨ba, oa, hA, hba, hcell0⟩ := Gr.row i hlt
      subst hA
      have i1 : (0 : Int) ≤ (i : Int) := by omega
      have i2 : (i : Int) < (L.length : Int) := by omega
      obtain ⟨n, hn⟩ : ∃ n, L[i]? = some n := ⟨L[i], List.getElem?_eq_getElem hlt⟩
      have hnk : L.getD i 0 = n := by rw [List.getD_eq_getElem?_getD, hn]; rfl
      have hcell : wr.drew.cell? ⟨ba, oa + i, none⟩ = some (.int .i64 (n : Int)) := by rw [← hnk]; exact hcell0
      have hnL := List.mem_of_getElem? hn
      have hnb := HBD.out n hnL
      have hwn := wf_small (a := (n : Int)) (by omega) (by omega)
      obtain ⟨A', cap', hf', _⟩ := Gr.yes n hnL
      have bD : Below wr.heap.size wr wr.drew := (Below.refl _ _).drew
      have h47 : (Instr.lookup 47 (.map (some mb)) (.int .i64 (n : Int)) false).run Tryz.prog wr.drew = .ok (.slice A' (es n).length cap') wr.drew := (Gr.below bD).mp.look_some law3 Tryz.underM (zeroM _) hwn hf' false
      obtain ⟨w3, hrun3, K3, M3⟩ := (M2.below bD).store Tryz.underM (a := (n : Int)) (by omega) (by omega) (.slice A' (es n).length cap')
      rw [upF_step hn hf'] at M3
      have H3 := (H0.keep (F := fun _ => False) (Keep.of_below bD) id).keep K3 (by omega)
      have M13 := (M1.below bD).keep K3 (by omega)
      have B3 := (hB.trans (bD.mono hB.size)).trans (K3.to_below (hB.trans (bD.mono hB.size)).size (fun g hg => by omega))
      have p0D : wr.drew.cell? ⟨rb, 0, none⟩ = some (.slice (some ⟨ba, oa, none⟩) L.length cap) := p0
      have p1D : wr.drew.cell? ⟨rb, 1, none⟩ = some (.map (some mb)) := Gr.p1
      have c1 : wr.drew.cell? ⟨w.heap.size + 2, 1, none⟩ = some (.map (some (w.heap.size + 1))) := H0.c1
      clear hn hnk hnL hcell0 Gr hf' bD K3 H0 M1 M2
      go_wp2_with fail
      go_region
      clear h47 hrun3 p0D p1D c1 hcell p0
      go_wp2
      go_roundw
      case rel => exact ⟨i + 1, by omega, by go_num, H3, M13, M3, B3⟩
      case measure => simp [intOf]; omega
    · have ei : i = L.length := by omega
      subst ei
      rw [upF_all Gr.no] at M2
      have V1 : RLv wr (w.heap.size + 2) w.heap.size (w.heap.size + 1) 1 L ⟨fun _ => 0, es⟩ f := ⟨H0.c0, H0.c1, H0.c2, H0.fz, M1, M2, Gr.yes, Gr.no, by omega, HBD.out⟩
      have h3 := H0.c3
      have HRD0 : Hid (Rds most L ⟨fun _ => 0, es⟩ 0 ⟨fun _ => 0, es⟩) := rfl
      clear H0 M1 M2 Gr hi hlt
      go_wp2
      clear p0
      go_loopg [7] most (fun gj _ wq => ∃ (k : Nat) (st' : LSt) (f' : Int → Option Value), gj = most - k ∧ k + 1 ≤ most ∧ RLv wq (w.heap.size + 2) w.heap.size (w.heap.size + 1) (k + 1) L st' f' ∧ Hid (∀ o, wq.cell? ⟨w.heap.size + 2, o + 3, none⟩ = none) ∧ Hid (Rds most L ⟨fun _ => 0, es⟩ k st') ∧ Below w.heap.size w wq)
      case atStart => exact ⟨0, _, f, rfl, m1, V1, h3, HRD0, hB⟩
      case round =>
        clear V1 HRD0 hB h3
        obtain ⟨k, st', f', hgk, hk, V1, h3, HRD, hB⟩ := hrel
        have HGK : Hid _ := hgk
        clear hgk
        have q2 := V1.c2
        by_cases hlt : k + 1 < most
        · have hlt' : (k : Int) + 1 < (most : Int) := by omega
          have hK0 := dbl_nonneg (show (0 : Int) ≤ 16 by omega) k
          have hK1 : dbl 16 k ≤ 256 := by
            have : k = 0 ∨ k = 1 ∨ k = 2 ∨ k = 3 ∨ k = 4 := by omega
            rcases this with rfl | rfl | rfl | rfl | rfl <;> decide
          have hA := (Btw.rds (show (0 : Int) ≤ 16 by omega) HB.out HRD.out).all hK0
          have Gr := HG.out.below hB
          have p0 := Gr.p0
          have hrd := rround_any (capN := cap) wr V1 Gr.row hLL hA hK0 hK1 (Nat.succ_pos k)
          clear hA Gr
          go_wp2_with fail
          refine hrd.mono ?_
          rintro e w5 ⟨st2, nr2, got, f2, rfl, HRn, V5, _, K5⟩
          have B5 : Below w.heap.size w w5 := hB.trans (K5.to_below hB.size (fun q hq => by omega))
          have h5 : ∀ o, w5.cell? ⟨w.heap.size + 2, o + 3, none⟩ = none := fun o => (K5.cell (p := ⟨w.heap.size + 2, o + 3, none⟩) V1.lts.1 (fun h => by rcases h with h | h <;> (simp at h; try omega))).trans (h3.out o)
          clear hrd K5 hB h3 V1 p0 q2
          cases got with
          | true =>
            have HRD2 : Hid (Rds most L ⟨fun _ => 0, es⟩ (k + 1) st2) := ⟨st', nr2, HRD.out, hlt, HRn⟩
            have p2 := V5.c2
            have pz := V5.fz
            have hup := V5.up h5 (k + 1 + 1)
            have B6 := B5.trans (hup.2.to_below B5.size (fun q e => by omega))
            have h6 : ∀ o, (w5.setCell ⟨w.heap.size + 2, 2, none⟩ (.int .i64 ((k + 1 + 1 : Nat) : Int))).cell? ⟨w.heap.size + 2, o + 3, none⟩ = none := fun o => by
              rw [World.cell?_setCell_other _ _ _ _ (by intro e; cases e)]
              exact h5 o
            have hup1 := hup.1
            have HUP : Hid _ := hup1
            have HB6 : Hid (Below w.heap.size w (w5.setCell ⟨w.heap.size + 2, 2, none⟩ (.int .i64 ((k + 1 + 1 : Nat) : Int)))) := B6
            have HH6 : Hid (∀ o, (w5.setCell ⟨w.heap.size + 2, 2, none⟩ (.int .i64 ((k + 1 + 1 : Nat) : Int))).cell? ⟨w.heap.size + 2, o + 3, none⟩ = none) := h6
            clear hup V5 B5 HRn HRD hup1 B6 h6 h5
            go_wp2
            go_roundg (most - (k + 1))
            case measure => have := HGK.out; omega
            case rel => exact ⟨k + 1, st2, f2, rfl, by omega, HUP.out, HH6.out, HRD2, HB6.out⟩
          | false =>
            have e2 := HRn.none
            subst e2
            have HRD2 : Hid (Rds most L ⟨fun _ => 0, es⟩ k st2) := HRD.out
            have HOV : Hid (Over most L k st2) := Or.inr ⟨st2, nr2, HRn⟩
            have V0 : RLv w5 (w.heap.size + 2) w.heap.size (w.heap.size + 1) (k + 1) L ⟨fun x => if x ∈ L.take 0 ∧ (st2).lev x = 0 then k + 1 else (st2).lev x, (st2).es⟩ f2 := by
              have e : (fun x => if x ∈ L.take 0 ∧ (st2).lev x = 0 then k + 1 else (st2).lev x) = (st2).lev := by
                funext x
                rw [if_neg (fun q => by rw [List.take_zero] at q; exact absurd q.1 List.not_mem_nil)]
              rw [e]
              exact V5
            have B0 : Below w.heap.size w w5 := B5
            clear V5 B5 HRn h5
            generalize (st2) = stE at *
            generalize f2 = fE at *
            go_wp2
            go_loopw [8] (fun iv wr => ∃ (i : Nat), i ≤ L.length ∧ iv = .int .i64 i ∧ RLv wr (w.heap.size + 2) w.heap.size (w.heap.size + 1) (k + 1) L ⟨fun x => if x ∈ L.take i ∧ stE.lev x = 0 then k + 1 else stE.lev x, stE.es⟩ fE ∧ Below w.heap.size w wr)
              (fun i _ => L.length - (intOf i).toNat)
            case atStart => exact ⟨0, Nat.zero_le _, rfl, V0, B0⟩
            case round =>
              clear V0 B0
              obtain ⟨i, hi, rfl, V1, hB⟩ := hrel
              have Gr := HG.out.below hB
              have p0 := Gr.p0
              by_cases hlt : i < L.length
              · obtain ⟨ba, oa, hA, hba, hcell0⟩ := Gr.row i hlt
                subst hA
                have i1 : (0 : Int) ≤ (i : Int) := by omega
                have i2 : (i : Int) < (L.length : Int) := by omega
                obtain ⟨n, hn⟩ : ∃ n, L[i]? = some n := ⟨L[i], List.getElem?_eq_getElem hlt⟩
                have hnk : L.getD i 0 = n := by rw [List.getD_eq_getElem?_getD, hn]; rfl
                have hcell : wr.cell? ⟨ba, oa + i, none⟩ = some (.int .i64 (n : Int)) := by rw [← hnk]; exact hcell0
                have hnL := List.mem_of_getElem? hn
                have hnt : n ∉ L.take i := fun hm => by
                  obtain ⟨j, hj, h⟩ := List.getElem_of_mem hm
                  have hji : j < i := by rw [List.length_take] at hj; omega
                  rw [List.getElem_take] at h
                  have h3 := List.pairwise_iff_getElem.1 HR.out j i (by omega) hlt hji
                  obtain ⟨h4, h5⟩ := List.getElem?_eq_some_iff.1 hn
                  omega
                have HLV : Hid ((fun x => if x ∈ L.take i ∧ stE.lev x = 0 then k + 1 else stE.lev x) n = stE.lev n) := by
                  show (if n ∈ L.take i ∧ stE.lev n = 0 then k + 1 else stE.lev n) = stE.lev n
                  rw [if_neg (fun q => hnt q.1)]
                have HTK : Hid (L.take (i + 1) = L.take i ++ [n]) := by rw [List.take_add_one, hn]; rfl
                have c0 := V1.c0
                have h46q : ∀ m, (Instr.lookup 46 (.map (some w.heap.size)) (.int .i64 (n : Int)) false).run Tryz.prog (wr.drewN m) = .ok (.int .i64 (stE.lev n : Int)) (wr.drewN m) := fun m => by
                  have h := (V1.below (below_drewN (Below.refl _ _) m)).look hnL
                  have e : ((fun x => if x ∈ L.take i ∧ stE.lev x = 0 then k + 1 else stE.lev x) n : Nat) = stE.lev n := HLV.out
                  have h' : (Instr.lookup 46 (.map (some w.heap.size)) (.int .i64 (n : Int)) false).run Tryz.prog (wr.drewN m) = .ok (.int .i64 (((fun x => if x ∈ L.take i ∧ stE.lev x = 0 then k + 1 else stE.lev x) n : Nat) : Int)) (wr.drewN m) := h
                  rw [e] at h'
                  exact h'
                have HNL : Hid (n ∈ L) := hnL
                clear hn hnk hcell0 hnL hnt Gr
                by_cases hz : stE.lev n = 0
                · have hz' : ((stE.lev n : Int) == 0) = true := by rw [hz]; rfl
                  have HLQ : Hid ((fun x => if x = n then k + 1 else (fun x => if x ∈ L.take i ∧ stE.lev x = 0 then k + 1 else stE.lev x) x) = fun x => if x ∈ L.take (i + 1) ∧ stE.lev x = 0 then k + 1 else stE.lev x) := by
                    unfold Hid
                    funext x
                    rw [HTK.out]
                    by_cases e : x = n
                    · rw [if_pos e, if_pos ⟨List.mem_append.2 (Or.inr (List.mem_singleton.2 e)), by rw [e]; exact hz⟩]
                    · rw [if_neg e]
                      show (if x ∈ L.take i ∧ stE.lev x = 0 then k + 1 else stE.lev x) = _
                      by_cases h1 : x ∈ L.take i ∧ stE.lev x = 0
                      · rw [if_pos h1, if_pos ⟨List.mem_append.2 (Or.inl h1.1), h1.2⟩]
                      · rw [if_neg h1, if_neg (fun q => h1 ⟨(List.mem_append.1 q.1).resolve_right (fun h => e (List.mem_singleton.1 h)), q.2⟩)]
                  generalize (stE.lev n : Int) = lz at *
                  go_wp2_with fail
                  go_quiet (fail)
                  have bD : Below wr.heap.size wr (wr.drewN nq) := below_drewN (Below.refl _ _) _
                  have VD := V1.below bD
                  have BD := hB.trans (bD.mono hB.size)
                  have cellD : (wr.drewN nq).cell? ⟨ba, oa + i, none⟩ = some (.int .i64 (n : Int)) := hcell
                  have p0D : (wr.drewN nq).cell? ⟨rb, 0, none⟩ = some (.slice (some ⟨ba, oa, none⟩) L.length cap) := p0
                  clear V1 hB hcell p0 c0 h46q bD hz'
                  generalize wr.drewN nq = W2 at *
                  go_wp2_with fail
                  have b2 : Below W2.heap.size W2 W2.drew := (Below.refl _ _).drew
                  have V2 := VD.below b2
                  have B2 := BD.trans (b2.mono BD.size)
                  obtain ⟨w3, hrun3, K3, V3⟩ := V2.level HNL.out (Nat.succ_pos k)
                  have B3 := B2.trans (K3.to_below B2.size (fun g hg => by omega))
                  have cellD : W2.drew.cell? ⟨ba, oa + i, none⟩ = some (.int .i64 (n : Int)) := cellD
                  have p0D : W2.drew.cell? ⟨rb, 0, none⟩ = some (.slice (some ⟨ba, oa, none⟩) L.length cap) := p0D
                  have c0 := V2.c0
                  have c2 := V2.c2
                  have ek : ((k + 1 : Nat) : Int) = (k : Int) + 1 := by omega
                  rw [ek] at hrun3 c2
                  clear VD BD b2 V2 B2 K3 ek
                  rw [HLQ.out] at V3
                  go_region
                  go_wp2
                  go_roundw
                  case rel => exact ⟨i + 1, by omega, by go_num, V3, B3⟩
                  case measure => simp [intOf]; omega
                · have hz' : ((stE.lev n : Int) == 0) = false := beq_eq_false_iff_ne.2 (by omega)
                  have HLQ : Hid ((fun x => if x ∈ L.take i ∧ stE.lev x = 0 then k + 1 else stE.lev x) = fun x => if x ∈ L.take (i + 1) ∧ stE.lev x = 0 then k + 1 else stE.lev x) := by
                    unfold Hid
                    funext x
                    rw [HTK.out]
                    by_cases h1 : x ∈ L.take i ∧ stE.lev x = 0
                    · rw [if_pos h1, if_pos ⟨List.mem_append.2 (Or.inl h1.1), h1.2⟩]
                    · rw [if_neg h1, if_neg (fun q => h1 ⟨(List.mem_append.1 q.1).resolve_right (fun h => hz (by rw [← List.mem_singleton.1 h]; exact q.2)), q.2⟩)]
                  rw [HLQ.out] at V1
                  generalize (stE.lev n : Int) = lz at *
                  go_wp2_with fail
                  go_quiet (fail)
                  have bD : Below wr.heap.size wr (wr.drewN nq) := below_drewN (Below.refl _ _) _
                  go_wp2
                  go_roundw
                  case rel => exact ⟨i + 1, by omega, by go_num, V1.below bD, hB.trans (bD.mono hB.size)⟩
                  case measure => simp [intOf]; omega
              · have ei : i = L.length := by omega
                subst ei
                have V9 := V1.ends (T := k + 1)
                clear V1 Gr
                go_wp2
                go_ret
                exact ⟨_, _, _, k, stE, fE, rfl, HRD2.out, HOV.out, V9, hB⟩
        · have hlt' : ¬ (k : Int) + 1 < (most : Int) := by omega
          have HRD2 : Hid (Rds most L ⟨fun _ => 0, es⟩ k st') := HRD.out
          have HOV : Hid (Over most L k st') := Or.inl (by omega)
          have V0 : RLv wr (w.heap.size + 2) w.heap.size (w.heap.size + 1) (k + 1) L ⟨fun x => if x ∈ L.take 0 ∧ (st').lev x = 0 then k + 1 else (st').lev x, (st').es⟩ f' := by
            have e : (fun x => if x ∈ L.take 0 ∧ (st').lev x = 0 then k + 1 else (st').lev x) = (st').lev := by
              funext x
              rw [if_neg (fun q => by rw [List.take_zero] at q; exact absurd q.1 List.not_mem_nil)]
            rw [e]
            exact V1
          have B0 : Below w.heap.size w wr := hB
          clear V1 hB h3
          generalize (st') = stE at *
          generalize f' = fE at *
          go_wp2
          go_loopw [8] (fun iv wr => ∃ (i : Nat), i ≤ L.length ∧ iv = .int .i64 i ∧ RLv wr (w.heap.size + 2) w.heap.size (w.heap.size + 1) (k + 1) L ⟨fun x => if x ∈ L.take i ∧ stE.lev x = 0 then k + 1 else stE.lev x, stE.es⟩ fE ∧ Below w.heap.size w wr)
            (fun i _ => L.length - (intOf i).toNat)
          case atStart => exact ⟨0, Nat.zero_le _, rfl, V0, B0⟩
          case round =>
            clear V0 B0
            obtain ⟨i, hi, rfl, V1, hB⟩ := hrel
            have Gr := HG.out.below hB
            have p0 := Gr.p0
            by_cases hlt : i < L.length
            · obtain ⟨ba, oa, hA, hba, hcell0⟩ := Gr.row i hlt
              subst hA
              have i1 : (0 : Int) ≤ (i : Int) := by omega
              have i2 : (i : Int) < (L.length : Int) := by omega
              obtain ⟨n, hn⟩ : ∃ n, L[i]? = some n := ⟨L[i], List.getElem?_eq_getElem hlt⟩
              have hnk : L.getD i 0 = n := by rw [List.getD_eq_getElem?_getD, hn]; rfl
              have hcell : wr.cell? ⟨ba, oa + i, none⟩ = some (.int .i64 (n : Int)) := by rw [← hnk]; exact hcell0
              have hnL := List.mem_of_getElem? hn
              have hnt : n ∉ L.take i := fun hm => by
                obtain ⟨j, hj, h⟩ := List.getElem_of_mem hm
                have hji : j < i := by rw [List.length_take] at hj; omega
                rw [List.getElem_take] at h
                have h3 := List.pairwise_iff_getElem.1 HR.out j i (by omega) hlt hji
                obtain ⟨h4, h5⟩ := List.getElem?_eq_some_iff.1 hn
                omega
              have HLV : Hid ((fun x => if x ∈ L.take i ∧ stE.lev x = 0 then k + 1 else stE.lev x) n = stE.lev n) := by
                show (if n ∈ L.take i ∧ stE.lev n = 0 then k + 1 else stE.lev n) = stE.lev n
                rw [if_neg (fun q => hnt q.1)]
              have HTK : Hid (L.take (i + 1) = L.take i ++ [n]) := by rw [List.take_add_one, hn]; rfl
              have c0 := V1.c0
              have h46q : ∀ m, (Instr.lookup 46 (.map (some w.heap.size)) (.int .i64 (n : Int)) false).run Tryz.prog (wr.drewN m) = .ok (.int .i64 (stE.lev n : Int)) (wr.drewN m) := fun m => by
                have h := (V1.below (below_drewN (Below.refl _ _) m)).look hnL
                have e : ((fun x => if x ∈ L.take i ∧ stE.lev x = 0 then k + 1 else stE.lev x) n : Nat) = stE.lev n := HLV.out
                have h' : (Instr.lookup 46 (.map (some w.heap.size)) (.int .i64 (n : Int)) false).run Tryz.prog (wr.drewN m) = .ok (.int .i64 (((fun x => if x ∈ L.take i ∧ stE.lev x = 0 then k + 1 else stE.lev x) n : Nat) : Int)) (wr.drewN m) := h
                rw [e] at h'
                exact h'
              have HNL : Hid (n ∈ L) := hnL
              clear hn hnk hcell0 hnL hnt Gr
              by_cases hz : stE.lev n = 0
              · have hz' : ((stE.lev n : Int) == 0) = true := by rw [hz]; rfl
                have HLQ : Hid ((fun x => if x = n then k + 1 else (fun x => if x ∈ L.take i ∧ stE.lev x = 0 then k + 1 else stE.lev x) x) = fun x => if x ∈ L.take (i + 1) ∧ stE.lev x = 0 then k + 1 else stE.lev x) := by
                  unfold Hid
                  funext x
                  rw [HTK.out]
                  by_cases e : x = n
                  · rw [if_pos e, if_pos ⟨List.mem_append.2 (Or.inr (List.mem_singleton.2 e)), by rw [e]; exact hz⟩]
                  · rw [if_neg e]
                    show (if x ∈ L.take i ∧ stE.lev x = 0 then k + 1 else stE.lev x) = _
                    by_cases h1 : x ∈ L.take i ∧ stE.lev x = 0
                    · rw [if_pos h1, if_pos ⟨List.mem_append.2 (Or.inl h1.1), h1.2⟩]
                    · rw [if_neg h1, if_neg (fun q => h1 ⟨(List.mem_append.1 q.1).resolve_right (fun h => e (List.mem_singleton.1 h)), q.2⟩)]
                generalize (stE.lev n : Int) = lz at *
                go_wp2_with fail
                go_quiet (fail)
                have bD : Below wr.heap.size wr (wr.drewN nq) := below_drewN (Below.refl _ _) _
                have VD := V1.below bD
                have BD := hB.trans (bD.mono hB.size)
                have cellD : (wr.drewN nq).cell? ⟨ba, oa + i, none⟩ = some (.int .i64 (n : Int)) := hcell
                have p0D : (wr.drewN nq).cell? ⟨rb, 0, none⟩ = some (.slice (some ⟨ba, oa, none⟩) L.length cap) := p0
                clear V1 hB hcell p0 c0 h46q bD hz'
                generalize wr.drewN nq = W2 at *
                go_wp2_with fail
                have b2 : Below W2.heap.size W2 W2.drew := (Below.refl _ _).drew
                have V2 := VD.below b2
                have B2 := BD.trans (b2.mono BD.size)
                obtain ⟨w3, hrun3, K3, V3⟩ := V2.level HNL.out (Nat.succ_pos k)
                have B3 := B2.trans (K3.to_below B2.size (fun g hg => by omega))
                have cellD : W2.drew.cell? ⟨ba, oa + i, none⟩ = some (.int .i64 (n : Int)) := cellD
                have p0D : W2.drew.cell? ⟨rb, 0, none⟩ = some (.slice (some ⟨ba, oa, none⟩) L.length cap) := p0D
                have c0 := V2.c0
                have c2 := V2.c2
                have ek : ((k + 1 : Nat) : Int) = (k : Int) + 1 := by omega
                rw [ek] at hrun3 c2
                clear VD BD b2 V2 B2 K3 ek
                rw [HLQ.out] at V3
                go_region
                go_wp2
                go_roundw
                case rel => exact ⟨i + 1, by omega, by go_num, V3, B3⟩
                case measure => simp [intOf]; omega
              · have hz' : ((stE.lev n : Int) == 0) = false := beq_eq_false_iff_ne.2 (by omega)
                have HLQ : Hid ((fun x => if x ∈ L.take i ∧ stE.lev x = 0 then k + 1 else stE.lev x) = fun x => if x ∈ L.take (i + 1) ∧ stE.lev x = 0 then k + 1 else stE.lev x) := by
                  unfold Hid
                  funext x
                  rw [HTK.out]
                  by_cases h1 : x ∈ L.take i ∧ stE.lev x = 0
                  · rw [if_pos h1, if_pos ⟨List.mem_append.2 (Or.inl h1.1), h1.2⟩]
                  · rw [if_neg h1, if_neg (fun q => h1 ⟨(List.mem_append.1 q.1).resolve_right (fun h => hz (by rw [← List.mem_singleton.1 h]; exact q.2)), q.2⟩)]
                rw [HLQ.out] at V1
                generalize (stE.lev n : Int) = lz at *
                go_wp2_with fail
                go_quiet (fail)
                have bD : Below wr.heap.size wr (wr.drewN nq) := below_drewN (Below.refl _ _) _
                go_wp2
                go_roundw
                case rel => exact ⟨i + 1, by omega, by go_num, V1.below bD, hB.trans (bD.mono hB.size)⟩
                case measure => simp [intOf]; omega
            · have ei : i = L.length := by omega
              subst ei
              have V9 := V1.ends (T := k + 1)
              clear V1 Gr
              go_wp2
              go_ret
              exact ⟨_, _, _, k, stE, fE, rfl, HRD2.out, HOV.out, V9, hB⟩
end Go.Proofs.YtmnpplkjhnoglaaGreatDoor
