/-
  The four lines ahead, cut off; and what a text is read as.
-/
import Derived.Test.YtkhofbpgdkoonabDoorSize2
namespace Go.Proofs.YtkhofbpgdkoonabDoor
open Go.RowKit

theorem size_ok {a b c d : List UInt8} {W H : Int} (h : sizeOf4 a b c d = some (W, H)) (hb : b.length ≤ 1000) (hc : c.length ≤ 1000) (w : World) (E : Env w) :
    Calls Tryd.prog 28 #[.agg #[.string (str a), .string (str b), .string (str c), .string (str d)]] w fun e w' => e = .returned (.tuple #[.int .i64 W, .int .i64 H, .bool true]) ∧ Below w.heap.size w w' := by
  obtain ⟨ea, eb, ec, ed, nb, nc⟩ := sizeOf4_some h
  have bb := (numOf_iff.1 nb).2
  have bc := (numOf_iff.1 nc).2
  have h1 : Lib.atoiAll (Lib.trimPrefix b heightW) = .ok H := by rw [eb, trim_app]; exact atoi_itoa H bb.1 bb.2
  have h2 : Lib.atoiAll (Lib.trimPrefix c widthW) = .ok W := by rw [ec, trim_app]; exact atoi_itoa W bc.1 bc.2
  refine (size_both h1 h2 hb hc w E).mono fun e w' ⟨he, hw⟩ => ⟨?_, hw⟩
  rw [he, decide_eq_true ea, decide_eq_true eb, decide_eq_true ec, decide_eq_true ed]
  rfl
theorem size_bad {a b c d : List UInt8} (h : sizeOf4 a b c d = none) (hb : b.length ≤ 1000) (hc : c.length ≤ 1000) (w : World) (E : Env w) :
    Calls Tryd.prog 28 #[.agg #[.string (str a), .string (str b), .string (str c), .string (str d)]] w fun e w' => (∃ x y, e = .returned (.tuple #[.int .i64 x, .int .i64 y, .bool false])) ∧ Below w.heap.size w w' := by
  by_cases h1 : ∃ v, Lib.atoiAll (Lib.trimPrefix b heightW) = .ok v
  · obtain ⟨v1, h1⟩ := h1
    by_cases h2 : ∃ v, Lib.atoiAll (Lib.trimPrefix c widthW) = .ok v
    · obtain ⟨v2, h2⟩ := h2
      refine (size_both h1 h2 hb hc w E).mono fun e w' ⟨he, hw⟩ => ⟨⟨v2, v1, ?_⟩, hw⟩
      rw [he]
      have hf : (decide (a = typeW) && (decide (b = heightW ++ Lib.itoa v1) && (decide (c = widthW ++ Lib.itoa v2) && decide (d = mapW)))) = false := by
        rw [Bool.eq_false_iff]
        intro ht
        simp only [Bool.and_eq_true, decide_eq_true_eq] at ht
        obtain ⟨ea, eb, ec, ed⟩ := ht
        have b1 := Lib.atoiAll_bounds h1
        have b2 := Lib.atoiAll_bounds h2
        rw [ea, eb, ec, ed, size_head v2 v1 b2.1 b2.2 b1.1 b1.2] at h
        cases h
      rw [hf]
    · exact size_badW h1 (fun v hv => h2 ⟨v, hv⟩) hb hc w E
  · exact size_badH (fun v hv => h1 ⟨v, hv⟩) hb hc w E

/-- the first n lines, and the rest -/
def cutN : Nat → List UInt8 → Option (List (List UInt8) × List UInt8)
  | 0, s => some ([], s)
  | n + 1, s => match cutL s with
    | none => none
    | some p => match cutN n p.2 with
      | none => none
      | some q => some (p.1 :: q.1, q.2)
theorem cut4_N (s : List UInt8) : cutN 4 s = (cut4 s).map fun p => ([p.1, p.2.1, p.2.2.1, p.2.2.2.1], p.2.2.2.2) := by
  unfold cut4
  simp only [cutN]
  cases cutL s with
  | none => rfl
  | some p =>
    simp only
    cases cutL p.2 with
    | none => rfl
    | some q =>
      simp only
      cases cutL q.2 with
      | none => rfl
      | some r =>
        simp only
        cases cutL r.2 with
        | none => rfl
        | some t => rfl
theorem cutN_step {n : Nat} {s a r : List UInt8} (h : cutL s = some (a, r)) : cutN (n + 1) s = (cutN n r).map fun q => (a :: q.1, q.2) := by
  simp only [cutN, h]
  cases cutN n r <;> rfl

/-- four cells of a block hold these lines -/
def LinesAt (w : World) (b : Nat) (ls : List (List UInt8)) : Prop := ∀ i, i < 4 → w.cell? ⟨b, i, none⟩ = some (.string (str (ls.getD i [])))

theorem LinesAt.set {w : World} {b : Nat} {ls : List (List UInt8)} (h : LinesAt w b ls) (l : List UInt8) (hl : ls.length < 4) : LinesAt (w.setCell ⟨b, ls.length, none⟩ (.string (str l))) b (ls ++ [l]) := by
  intro i hi
  by_cases e : i = ls.length
  · subst e
    rw [World.cell?_setCell_same _ _ _ (h _ hl)]
    simp
  · rw [World.cell?_setCell_other _ _ _ _ (addr_ne (by omega)), h i hi]
    congr 3
    simp only [List.getD_eq_getElem?_getD]
    rcases Nat.lt_or_ge i ls.length with h1 | h1
    · rw [List.getElem?_append_left h1]
    · rw [List.getElem?_eq_none h1, List.getElem?_eq_none (by simp; omega)]

theorem alloc4_free (w : World) (c : Array Value) (t : TypeId) : Free (w.alloc (.cells c t)) w.heap.size := free_alloc w c t _ (Nat.le_refl _)

theorem LinesAt.all {w : World} {b : Nat} {l0 l1 l2 l3 : List UInt8} (h : LinesAt w b [l0, l1, l2, l3]) : w.cell? ⟨b, 0, none⟩ = some (.string (str l0)) ∧ w.cell? ⟨b, 1, none⟩ = some (.string (str l1)) ∧ w.cell? ⟨b, 2, none⟩ = some (.string (str l2)) ∧ w.cell? ⟨b, 3, none⟩ = some (.string (str l3)) :=
  ⟨h 0 (by decide), h 1 (by decide), h 2 (by decide), h 3 (by decide)⟩
theorem LinesAt.none {w : World} {b : Nat} (h : LinesAt w b []) : w.cell? ⟨b, 0, none⟩ = some (.string ⟨#[]⟩) ∧ w.cell? ⟨b, 1, none⟩ = some (.string ⟨#[]⟩) ∧ w.cell? ⟨b, 2, none⟩ = some (.string ⟨#[]⟩) ∧ w.cell? ⟨b, 3, none⟩ = some (.string ⟨#[]⟩) :=
  ⟨h 0 (by decide), h 1 (by decide), h 2 (by decide), h 3 (by decide)⟩
theorem lines_new (w : World) (w' : World) (hb : Below (w.heap.size + 1) (w.alloc (.cells #[.string ⟨#[]⟩, .string ⟨#[]⟩, .string ⟨#[]⟩, .string ⟨#[]⟩] 60)) w') : LinesAt w' w.heap.size [] ∧ Free w' w.heap.size := by
  constructor
  · intro i hi
    rw [hb.cell (p := ⟨w.heap.size, i, Option.none⟩) (Nat.lt_succ_self _), World.cell?_alloc_new]
    match i, hi with
    | 0, _ => rfl
    | 1, _ => rfl
    | 2, _ => rfl
    | 3, _ => rfl
  · intro o
    rw [hb.frozen (p := ⟨w.heap.size, o, Option.none⟩) (Nat.lt_succ_self _)]
    exact alloc4_free w _ _ o
theorem there_lines {w : World} {b : Nat} {ls : List (List UInt8)} (h : LinesAt w b ls) (f : Free w b) : w.there b 0 4 := there4 (fun j hj => ⟨_, h j hj⟩) f
theorem below_set4 {B b : Nat} {a w : World} {v0 v1 v2 v3 : Value} (h : Below B a w) (hB : B ≤ b) : Below B a ((((w.setCell ⟨b, 0, none⟩ v0).setCell ⟨b, 1, none⟩ v1).setCell ⟨b, 2, none⟩ v2).setCell ⟨b, 3, none⟩ v3) :=
  (((h.setCell (p := ⟨b, 0, none⟩) hB _).setCell (p := ⟨b, 1, none⟩) hB _).setCell (p := ⟨b, 2, none⟩) hB _).setCell (p := ⟨b, 3, none⟩) hB _
theorem LinesAt.touch {w w' : World} {b : Nat} {ls : List (List UInt8)} (h : LinesAt w b ls) {c o : Nat} {v : Value} (hw : w' = w.setCell ⟨c, o, Option.none⟩ v) (hne : b ≠ c) : LinesAt w' b ls := fun i hi => by
  rw [hw, World.cell?_setCell_other _ _ _ _ (by intro e; cases e; exact hne rfl)]
  exact h i hi

/-- what is answered of a text's lines ahead -/
def HeadPost (s : List UInt8) (e : Ending) : Prop := match cut4 s with
  | none => e = .returned (.tuple #[.agg #[.string (str []), .string (str []), .string (str []), .string (str [])], .string (str []), .bool false])
  | some (a, b, c, d, r) => e = .returned (.tuple #[.agg #[.string (str a), .string (str b), .string (str c), .string (str d)], .string (str r), .bool true])

set_option maxHeartbeats 4000000 in
set_option maxRecDepth 100000 in
theorem cutHead_any (s : List UInt8) (hs : s.length ≤ 1000) (w : World) (E : Env w) :
    Calls Tryd.prog 27 #[.string (str s)] w fun e w' => HeadPost s e ∧ Below w.heap.size w w' := by
  go_enter Tryd.func27, Tryd.ntmps27
  go_wp2
  go_loopw [6, 12] (fun r i wr => ∃ (j : Nat) (ls : List (List UInt8)) (rest : List UInt8), j ≤ 4 ∧ ls.length = j ∧ i = .int .i64 j ∧ r = .string (str rest) ∧ rest.length ≤ 1000 ∧ cutN 4 s = (cutN (4 - j) rest).map (fun q => (ls ++ q.1, q.2)) ∧
      LinesAt wr w.heap.size [] ∧ LinesAt wr (w.heap.size + 1) ls ∧ Free wr w.heap.size ∧ Free wr (w.heap.size + 1) ∧ Below w.heap.size w wr)
    (fun _ i _ => 4 - (intOf i).toNat)
  case atStart =>
    have b1 : Below (w.heap.size + 1) (w.alloc (.cells #[.string ⟨#[]⟩, .string ⟨#[]⟩, .string ⟨#[]⟩, .string ⟨#[]⟩] 60)) ((w.alloc (.cells #[.string ⟨#[]⟩, .string ⟨#[]⟩, .string ⟨#[]⟩, .string ⟨#[]⟩] 60)).alloc (.cells #[.string ⟨#[]⟩, .string ⟨#[]⟩, .string ⟨#[]⟩, .string ⟨#[]⟩] 60)) := (Below.refl _ _).alloc (by simp) _
    obtain ⟨L0, F0⟩ := lines_new w _ b1
    obtain ⟨L1, F1⟩ := lines_new (w.alloc (.cells #[.string ⟨#[]⟩, .string ⟨#[]⟩, .string ⟨#[]⟩, .string ⟨#[]⟩] 60)) _ (Below.refl _ _)
    rw [World.size_alloc] at L1 F1
    exact ⟨0, [], s, by omega, rfl, rfl, rfl, hs, by simp, L0, L1, F0, F1, ((Below.refl _ _).alloc (Nat.le_refl _) _).alloc (by simp) _⟩
  case round =>
    obtain ⟨j, ls, rest, hj, hls, rfl, rfl, hrl, hcn, L0, L1, F0, F1, hB⟩ := hrel
    have Er := E.grown hB
    by_cases hlt : j < 4
    · have hst := fun l => L1.set l (by rw [hls]; exact hlt)
      rw [hls] at hst
      have c1 := L1 j hlt
      have f1 := F1 j
      obtain ⟨k, hk⟩ : ∃ k, 4 - j = k + 1 := ⟨3 - j, by omega⟩
      have hk2 : 4 - (j + 1) = k := by omega
      rw [hk] at hcn
      have j1 : (0 : Int) ≤ (j : Int) ∧ (j : Int) < 4 := by omega
      cases hcut : cutL rest with
      | none =>
        have hno : cut4 s = none := by
          have h4 := cut4_N s
          rw [hcn] at h4
          simp only [cutN, hcut, Option.map_none] at h4
          cases hc4 : cut4 s with
          | none => rfl
          | some p => rw [hc4] at h4; cases h4
        have ht := there_lines L0 F0
        obtain ⟨r0, r1, r2, r3⟩ := L0.none
        have f0 := F0 0
        have f1 := F0 1
        have f2 := F0 2
        have f3 := F0 3
        have HNO : Hid (cut4 s = none) := hno
        clear hcn hst L0 L1 F0 F1 hno
        go_wp2_with (go_at_call 52; refine (cut_none hcut (by omega) _ Er).mono ?_; rintro e w' ⟨rfl, m2, rfl⟩)
        (try simp only [Exit.inBlock, Exit.then])
        refine bodyPost_ret (results_arr3 rfl _ _ w.heap.size _ _ rfl (range4 (wr.drewN m2) w.heap.size _ _ _ _ ht) Tryd.underlying60 rfl info60) rfl ⟨by unfold HeadPost; rw [HNO.out]; rfl, ?_⟩
        exact below_set4 (below_drewN hB m2) (Nat.le_refl _)
      | some p =>
        obtain ⟨l, after⟩ := p
        have hcl := cutL_len hcut
        have hnx : cutN 4 s = (cutN k after).map (fun q => ((ls ++ [l]) ++ q.1, q.2)) := by
          rw [hcn, cutN_step hcut]
          cases cutN k after with
          | none => rfl
          | some q => simp
        have HX : Hid (cutN 4 s = (cutN k after).map (fun q => ((ls ++ [l]) ++ q.1, q.2))) := hnx
        have hne : w.heap.size ≠ w.heap.size + 1 := by omega
        have HST : Hid (LinesAt (wr.setCell ⟨w.heap.size + 1, j, none⟩ (.string (str l))) (w.heap.size + 1) (ls ++ [l])) := hst l
        clear hcn hst hnx
        go_wp2_with (go_at_call 52; refine (cut_some hcut (by omega) _ Er).mono ?_; rintro e w' ⟨rfl, m2, rfl⟩)
        go_roundw
        case rel => exact ⟨j + 1, ls ++ [l], after, by omega, by simp [hls], by go_num, rfl, by omega, by rw [hk2]; exact HX.out, L0.touch (w' := wr.setCell ⟨w.heap.size + 1, j, none⟩ (.string (str l))) rfl hne, HST.out, fun o => by simpa using F0 o, fun o => by simpa using F1 o, (below_drewN hB m2).setCell (p := ⟨w.heap.size + 1, j, none⟩) (Nat.le_succ _) _⟩
        case measure => simp [intOf]; omega
    · have h4 : ls.length = 4 := by omega
      obtain ⟨a, b, c, d, rfl⟩ : ∃ a b c d, ls = [a, b, c, d] := by
        match ls, h4 with
        | [a, b, c, d], _ => exact ⟨a, b, c, d, rfl⟩
      have hyes : cut4 s = some (a, b, c, d, rest) := by
        have h4 := cut4_N s
        rw [hcn] at h4
        have e0 : 4 - j = 0 := by omega
        rw [e0] at h4
        simp only [cutN, Option.map_some, List.append_nil] at h4
        cases hc4 : cut4 s with
        | none => rw [hc4] at h4; cases h4
        | some p =>
          rw [hc4] at h4
          simp at h4
          obtain ⟨⟨e1, e2, e3, e4⟩, e5⟩ := h4
          rw [e1, e2, e3, e4, e5]
      have ht := there_lines L0 F0
      obtain ⟨r0, r1, r2, r3⟩ := L0.none
      obtain ⟨c0, c1, c2, c3⟩ := L1.all
      have f0 := F0 0
      have f1 := F0 1
      have f2 := F0 2
      have f3 := F0 3
      have HY : Hid (cut4 s = some (a, b, c, d, rest)) := hyes
      have hj4 : j = 4 := by omega
      clear hcn L0 L1 F0 F1 hyes hls h4
      subst hj4
      rw [show ((4 : Nat) : Int) = 4 from rfl]
      go_wp2
      (try simp only [Exit.inBlock, Exit.then])
      refine bodyPost_ret (results_arr3 rfl _ _ w.heap.size _ _ rfl (range4 wr w.heap.size _ _ _ _ ht) Tryd.underlying60 rfl info60) rfl ⟨by unfold HeadPost; rw [HY.out]; rfl, ?_⟩
      exact below_set4 hB (Nat.le_refl _)
end Go.Proofs.YtkhofbpgdkoonabDoor
