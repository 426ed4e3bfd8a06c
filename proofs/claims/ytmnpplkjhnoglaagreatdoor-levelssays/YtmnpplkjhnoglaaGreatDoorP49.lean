/-
  Texts laid together: RlG, LsA, LsB.
-/
import Derived.Test.YtmnpplkjhnoglaaGreatDoorP48
/-
  Where there is no edge: package levels' 'Unpack'. (For LevelsSays.)
-/
namespace Go.Proofs.YtmnpplkjhnoglaaGreatDoor
open Go.RowKit

set_option maxHeartbeats 2000000 in
set_option maxRecDepth 1000000 in
theorem search_int {cap ps : Nat} {t : Int} {hs : Bool} {A : Option Addr} {l : List LE} (w : World) (hrow : RowL w A l) (hl : l.length ≤ 256) (hple : ps ≤ l.length) (hpi0 : ∀ i e, l[i]? = some e → ((e.to : Int) < t ↔ i < ps)) (hh : hs = match l[ps]? with | some e => decide ((e.to : Int) = t) | none => false) :
    Calls Tryz.prog 97 #[.slice A l.length cap, .int .i64 t, .func (.func 98) #[] #[]] w fun e w' => e = .returned (.tuple #[.int .i64 (ps : Int), .bool hs]) ∧ Below w.heap.size w w' := by
  have HPI : Hid (∀ i e, l[i]? = some e → ((e.to : Int) < t ↔ i < ps)) := hpi0
  have HH : Hid (hs = match l[ps]? with | some e => decide ((e.to : Int) = t) | none => false) := hh
  clear hpi0 hh
  go_enter Tryz.func97, Tryz.ntmps97
  go_wp2
  go_loopw [9, 10] (fun iv jv wr => ∃ (i j : Nat), i ≤ ps ∧ ps ≤ j ∧ j ≤ l.length ∧ iv = .int .i64 i ∧ jv = .int .i64 j ∧ Below w.heap.size w wr)
    (fun i j _ => (intOf j).toNat - (intOf i).toNat)
  case atStart => exact ⟨0, l.length, Nat.zero_le _, hple, Nat.le_refl _, rfl, rfl, Below.refl _ _⟩
  case round =>
    obtain ⟨i, j, hi, hj, hjl, rfl, rfl, hB⟩ := hrel
    by_cases hlt : i < j
    · have i1 : (0 : Int) ≤ (i : Int) := by omega
      have i2 : (i : Int) < (j : Int) := by omega
      have i3 : (j : Int) ≤ 256 := by omega
      obtain ⟨m, hm⟩ : ∃ m : Nat, m = (i + j) / 2 := ⟨_, rfl⟩
      have hmi : ((i : Int) + (j : Int)) / 2 = (m : Int) := by omega
      have hm1 : i ≤ m := by omega
      have hm2 : m < j := by omega
      obtain ⟨e, he⟩ : ∃ e, l[m]? = some e := ⟨l[m]'(by omega), List.getElem?_eq_getElem _⟩
      obtain ⟨b, o, rfl, q1, q2, q3, q4⟩ := (hrow.below hB) m e he
      have hpi := HPI.out m e he
      have m1 : (0 : Int) ≤ (m : Int) := by omega
      have m2 : (m : Int) < (l.length : Int) := by omega
      have hcl := clo_place wr (e.to : Int) e.s e.d e.mid t
      have HCN : Hid (cmpI (e.to : Int) t < 0 ↔ m < ps) := by
        rw [cmpI_neg _ _, ← hpi]
        exact Iff.rfl
      clear hpi hm he
      generalize cmpI (e.to : Int) t = r at *
      generalize (e.to : Int) = et at *
      generalize e.s = es at *
      generalize e.d = ed at *
      generalize e.mid = em at *
      go_wp2_with fail
      refine hcl.mono ?_
      rintro r1 w1 ⟨rfl, hb1⟩
      have B1 := hB.trans (hb1.mono hB.size)
      clear hcl hB hb1 q1 q2 q3 q4
      by_cases hr : r < 0
      · have hmp := HCN.out.1 hr
        go_wp2
        go_roundw
        case rel => exact ⟨m + 1, j, by omega, hj, hjl, by go_num, rfl, B1⟩
        case measure => simp [intOf]; omega
      · have hmp : ps ≤ m := by
          have : ¬ m < ps := fun h => hr (HCN.out.2 h)
          omega
        go_wp2
        go_roundw
        case rel => exact ⟨i, m, hi, hmp, by omega, rfl, rfl, B1⟩
        case measure => simp [intOf]; omega
    · have ei : i = ps := by omega
      have ej : j = ps := by omega
      subst ei
      subst ej
      by_cases hin : j < l.length
      · obtain ⟨e, he⟩ : ∃ e, l[j]? = some e := ⟨l[j], List.getElem?_eq_getElem hin⟩
        obtain ⟨b, o, rfl, q1, q2, q3, q4⟩ := (hrow.below hB) j e he
        have i1 : (0 : Int) ≤ (j : Int) := by omega
        have i2 : (j : Int) < (l.length : Int) := by omega
        have hcl := clo_place wr (e.to : Int) e.s e.d e.mid t
        have HHE : Hid (hs = decide (cmpI (e.to : Int) t = 0)) := by
          have h1 := HH.out
          rw [he] at h1
          rw [h1]
          by_cases q : (e.to : Int) = t
          · rw [decide_eq_true ((cmpI_zero _ _).2 q)]; exact decide_eq_true q
          · rw [decide_eq_false (fun h => q ((cmpI_zero _ _).1 h))]; exact decide_eq_false q
        clear HH he
        generalize cmpI (e.to : Int) t = r at *
        generalize (e.to : Int) = et at *
        generalize e.s = es at *
        generalize e.d = ed at *
        generalize e.mid = em at *
        go_wp2_with fail
        refine hcl.mono ?_
        rintro r1 w1 ⟨rfl, hb1⟩
        have B1 := hB.trans (hb1.mono hB.size)
        clear hcl hB hb1 q1 q2 q3 q4
        go_wp2
        go_ret2
        refine ⟨?_, B1⟩
        rw [HHE.out]
        show Ending.returned (Value.tuple #[Value.int .i64 (j : Int), Value.bool (r == 0)]) = _
        rw [show (r == 0) = decide (r = 0) from rfl]
      · have HHE : Hid (hs = false) := by
          have h1 := HH.out
          rw [List.getElem?_eq_none (by omega)] at h1
          exact h1
        clear HH
        have hin2 : ¬ (j : Int) < (l.length : Int) := by omega
        go_wp2
        go_ret2
        refine ⟨?_, hB⟩
        rw [HHE.out]
        rfl

set_option maxHeartbeats 1000000 in
theorem place_int {cap ps : Nat} {t : Int} {hs : Bool} {A : Option Addr} {l : List LE} (w : World) (hrow : RowL w A l) (hl : l.length ≤ 256) (hple : ps ≤ l.length) (hpi0 : ∀ i e, l[i]? = some e → ((e.to : Int) < t ↔ i < ps)) (hh : hs = match l[ps]? with | some e => decide ((e.to : Int) = t) | none => false) :
    Calls Tryz.prog 62 #[.slice A l.length cap, .int .i64 t] w fun e w' => e = .returned (.tuple #[.int .i64 (ps : Int), .bool hs]) ∧ Below w.heap.size w w' := by
  have h1 := search_int (cap := cap) (t := t) w hrow hl hple hpi0 hh
  clear hpi0 hh
  generalize (ps : Int) = psi at *
  go_enter Tryz.func62, Tryz.ntmps62
  go_wp2_with fail
  refine h1.mono ?_
  rintro r1 w1 ⟨rfl, hb1⟩
  clear h1
  go_wp2
  go_ret2
  exact ⟨rfl, hb1⟩

/-- no edge leads there -/
theorem place_no {cap : Nat} {c : Int} {A : Option Addr} {l : List LE} (w : World) (hrow : RowL w A l) (hl : l.length ≤ 256) (hR : Rsg l) (hc : ∀ e ∈ l, (e.to : Int) ≠ c) :
    Calls Tryz.prog 62 #[.slice A l.length cap, .int .i64 c] w fun e w' => ∃ ps : Nat, e = .returned (.tuple #[.int .i64 (ps : Int), .bool false]) ∧ Below w.heap.size w w' := by
  have no : ∀ ps : Nat, false = match l[ps]? with | some e => decide ((e.to : Int) = c) | none => false := fun ps => by
    cases h : l[ps]? with
    | none => rfl
    | some e => exact (decide_eq_false (hc e (List.mem_of_getElem? h))).symm
  by_cases h0 : 0 ≤ c
  · obtain ⟨t, rfl⟩ : ∃ t : Nat, c = (t : Int) := ⟨c.toNat, by omega⟩
    exact (place_int (cap := cap) (ps := posL l t) w hrow hl (posL_le l t) (fun i e h => by rw [← posL_iff hR h]; omega) (no _)).mono fun e w' ⟨h1, h2⟩ => ⟨_, h1, h2⟩
  · exact (place_int (cap := cap) (ps := 0) w hrow hl (Nat.zero_le _) (fun i e _ => ⟨fun h => by omega, fun h => absurd h (Nat.not_lt_zero i)⟩) (no _)).mono fun e w' ⟨h1, h2⟩ => ⟨_, h1, h2⟩
set_option maxHeartbeats 2000000 in
theorem unpack_no {N lb vb eb top a : Nat} {c : Int} {L : List Nat} {st : LSt} {f : Int → Option Value} (w : World) (V : LvAt w N lb vb eb top L st f) (ha : a ∈ L) (hR : Rsg (st.es a)) (hl : (st.es a).length ≤ 256) (hc : ∀ e ∈ st.es a, (e.to : Int) ≠ c) :
    Calls Tryz.prog 24 #[.pointer (some ⟨lb, 0, none⟩), .int .i64 (a : Int), .int .i64 c] w fun e w' => e = .returned (.tuple #[.slice none 0 0, .iface 96 (.int .i64 5)]) ∧ Below w.heap.size w w' := by
  obtain ⟨A, cap, hl1, row1, _⟩ := V.edges ha
  have c2 := V.c2
  have hpl := place_no (cap := cap) w row1 hl hR hc
  clear row1 V hc
  go_enter Tryz.func24, Tryz.ntmps24
  go_wp2_with fail
  refine hpl.mono ?_
  rintro r w1 ⟨ps, rfl, hb1⟩
  clear hpl hl1 c2
  go_wp2
  go_ret2
  exact ⟨rfl, hb1⟩
end Go.Proofs.YtmnpplkjhnoglaaGreatDoor
/-
  Edges that lie alike; what is taken apart alike: the statement's 'unpacked'. (For LevelsSays.)
-/
namespace Go.Proofs.YtmnpplkjhnoglaaGreatDoor
open Go.RowKit

set_option maxHeartbeats 2000000 in
set_option maxRecDepth 1000000 in
theorem sameL_any {A B : Option Addr} {ca cb : Nat} {l : List LE} (w : World) (hA : RowL w A l) (hB : RowL w B l) (hl : l.length ≤ 1000) :
    Calls Tryz.prog 19 #[.slice A l.length ca, .slice B l.length cb] w fun e w' => e = .returned (.bool true) ∧ Below w.heap.size w w' := by
  go_enter Tryz.func19, Tryz.ntmps19
  go_wp2
  go_loopw [5] (fun iv wr => ∃ k : Nat, k ≤ l.length ∧ iv = .int .i64 k ∧ Below w.heap.size w wr) (fun i _ => l.length - (intOf i).toNat)
  case atStart => exact ⟨0, Nat.zero_le _, rfl, Below.refl _ _⟩
  case round =>
    obtain ⟨k, hk, rfl, hBw⟩ := hrel
    by_cases hlt : k < l.length
    · obtain ⟨e, he⟩ : ∃ e, l[k]? = some e := ⟨l[k], List.getElem?_eq_getElem hlt⟩
      obtain ⟨ba, oa, rfl, a1, a2, a3, a4⟩ := (hA.below hBw) k e he
      obtain ⟨bb, ob, rfl, b1, b2, b3, b4⟩ := (hB.below hBw) k e he
      have i1 : (0 : Int) ≤ (k : Int) := by omega
      have i2 : (k : Int) < (l.length : Int) := by omega
      clear he
      generalize (e.to : Int) = et at *
      generalize e.s = es at *
      generalize e.d = ed at *
      generalize e.mid = em at *
      go_wp2
      go_quiet (fail)
      go_wp2
      go_roundw
      case rel => exact ⟨k + 1, by omega, by go_num, below_drewN hBw _⟩
      case measure => simp [intOf]; omega
    · have e : k = l.length := by omega
      subst e
      go_wp2
      go_ret
      exact ⟨rfl, hBw⟩
theorem posL_succ {t : Nat} : ∀ {l : List LE}, Rsg l → posL l (t + 1) = posL l t + if hasL l t then 1 else 0
  | [], _ => rfl
  | x :: l, hR => by
    by_cases h1 : x.to < t
    · have e2 : hasL (x :: l) t = hasL l t := by
        unfold hasL
        rw [posL_cons_lt h1]
        simp
      rw [posL_cons_lt (show x.to < t + 1 by omega), posL_cons_lt h1, e2, posL_succ hR.tail]
      omega
    · have e1 : posL (x :: l) t = 0 := posL_cons_ge hR h1
      have e2 : hasL (x :: l) t = decide (x.to = t) := by
        unfold hasL
        rw [e1]
        rfl
      rw [e1, e2]
      by_cases h2 : x.to = t
      · rw [decide_eq_true h2, posL_cons_lt (show x.to < t + 1 by omega), posL_ge (fun e he => by have := hR.head e he; omega)]
        rfl
      · rw [decide_eq_false h2, posL_cons_ge hR (show ¬ x.to < t + 1 by omega)]
        rfl
theorem hasL_at {l : List LE} {t : Nat} (h : hasL l t = true) : ∃ e, l[posL l t]? = some e ∧ e.to = t := by
  unfold hasL at h
  cases he : l[posL l t]? with
  | none => rw [he] at h; cases h
  | some e => rw [he] at h; exact ⟨e, rfl, of_decide_eq_true h⟩
set_option maxHeartbeats 8000000 in
set_option maxRecDepth 1000000 in
theorem unpacked_any {N lb vb eb top lb2 vb2 eb2 top2 n : Nat} {L : List Nat} {st : LSt} {f f2 : Int → Option Value} (w : World) (V : LvAt w N lb vb eb top L st f) (R : RLv w lb2 vb2 eb2 top2 L st f2) (hn : n ∈ L) (hR : ∀ a, Rsg (st.es a)) (hC : ∀ {a e}, e ∈ st.es a → a ∈ L ∧ e.to ∈ L) (hl : ∀ a, (st.es a).length ≤ 256)
    (hU : ∀ {e}, e ∈ st.es n → ∃ way, Unp st.es 6 n e.to way) :
    Calls Tryz.prog 20 #[.pointer (some ⟨lb, 0, none⟩), .pointer (some ⟨lb2, 0, none⟩), .int .i64 (n : Int)] w fun e w' => e = .returned (.bool true) ∧ Below w.heap.size w w' := by
  have HV : Hid (LvAt w N lb vb eb top L st f) := V
  have HRL : Hid (RLv w lb2 vb2 eb2 top2 L st f2) := R
  have HBD : Hid (∀ n ∈ L, n < 256) := V.bd
  have hnb := V.bd n hn
  have hwn := wf_small (a := (n : Int)) (by omega) (by omega)
  have HN : Hid (n ∈ L) := hn
  have HC : Hid (∀ {a e}, e ∈ st.es a → a ∈ L ∧ e.to ∈ L) := hC
  have HR : Hid (∀ a, Rsg (st.es a)) := hR
  have HL : Hid (∀ a, (st.es a).length ≤ 256) := hl
  have HU : Hid (∀ {e}, e ∈ st.es n → ∃ way, Unp st.es 6 n e.to way) := hU
  clear V R hn hC hR hl hU
  go_enter Tryz.func20, Tryz.ntmps20
  go_wp2
  go_loopw [7, 8] (fun av tv wr => ∃ t : Nat, t ≤ 258 ∧ av = .int .i64 ((posL (st.es n) (t - 1) : Nat) : Int) ∧ tv = .int .i64 ((t : Int) - 1) ∧ Below w.heap.size w wr)
    (fun _ t _ => 258 - (intOf t + 1).toNat)
  case atStart => exact ⟨0, by omega, by rw [posL_ge (fun e _ => Nat.zero_le _)]; rfl, rfl, Below.refl _ _⟩
  case round =>
    obtain ⟨t, ht, rfl, rfl, hB⟩ := hrel
    by_cases hlt : t < 258
    · by_cases hq : 1 ≤ t ∧ hasL (st.es n) (t - 1) = true
      · obtain ⟨e, he, het⟩ := hasL_at hq.2
        have heM := List.mem_of_getElem? he
        have etz : (t : Int) - 1 = (e.to : Int) := by omega
        have hpn : posL (st.es n) t = posL (st.es n) (t - 1) + 1 := by
          have h1 := posL_succ (t := t - 1) (HR.out n)
          rw [hq.2] at h1
          have e1 : t - 1 + 1 = t := by omega
          rw [e1] at h1
          exact h1
        have HPN : Hid _ := hpn
        have HTZ : Hid (e.to = t - 1 ∧ 1 ≤ t) := ⟨het, hq.1⟩
        have hpl : posL (st.es n) (t - 1) < (st.es n).length := (List.getElem?_eq_some_iff.1 he).1
        generalize posL (st.es n) (t - 1) = ps at *
        obtain ⟨way, hu⟩ := HU.out heM
        have hlw := hu.two
        have hlw2 : way.length ≤ 65 := hlw.2
        have hun := unpack_yes HR.out HC.out HL.out HBD.out 6 n e.to way wr (by decide) hu (HV.out.below hB)
        have HUN : Hid (Unp st.es 6 n e.to way) := hu
        have hel := HL.out n
        have hsm := HBD.out _ (HC.out heM).2
        have d7 : (e.to : Int) < 257 := by omega
        rw [etz]
        clear hq het heM etz hpn hu hlw
        go_wp2_with fail
        refine hun.mono ?_
        rintro r w5 ⟨v5, rfl, own5, hb5⟩
        obtain ⟨A5, cap5, rfl, old5⟩ := row_of own5
        have B5 := hB.trans (hb5.mono hB.size)
        have R5 := HRL.out.below B5
        have c1 := R5.c1
        obtain ⟨A', cap', h47, row', _⟩ := R5.edges HN.out
        obtain ⟨bb, oo, rfl, q0, _⟩ := row' ps e he
        have p1 : (0 : Int) ≤ (ps : Int) := by omega
        have p2 : (ps : Int) < ((st.es n).length : Int) := by omega
        have hru := runpack_yes HR.out HC.out HL.out HBD.out 6 n e.to way w5 (by decide) HUN.out R5
        clear hun own5 hb5 hB row' he R5
        go_wp2_with fail
        refine hru.mono ?_
        rintro r w6 ⟨v6, rfl, own6, hb6⟩
        obtain ⟨A6, cap6, rfl, old6⟩ := row_of own6
        have old56 := old5.below hb6
        have B6 := B5.trans (hb6.mono B5.size)
        have hsr := sameRows (ca := cap5) (cb := cap6) (by omega) old56 old6
        clear hru own6 hb6 old5 B5 c1 h47 q0 old56 old6
        go_wp2_with fail
        refine hsr.mono ?_
        rintro r w7 ⟨rfl, m, rfl⟩
        have B7 := below_drewN B6 m
        clear hsr B6
        generalize w6.drewN m = w8 at *
        go_wp2
        go_roundw
        case rel => exact ⟨t + 1, by omega, by rw [show t + 1 - 1 = t by omega, HPN.out]; push_cast; rfl, by have := HTZ.out; simp; omega, B7⟩
        case measure => have := HTZ.out; simp [intOf]; omega
      · have hno : ∀ e ∈ st.es n, (e.to : Int) ≠ (t : Int) - 1 := fun e he h => hq ⟨by omega, (hasL_iff (HR.out n)).2 ⟨e, he, by omega⟩⟩
        have hpn : posL (st.es n) t = posL (st.es n) (t - 1) := by
          by_cases h0 : t = 0
          · subst h0; rfl
          · have h1 := posL_succ (t := t - 1) (HR.out n)
            have h2 : hasL (st.es n) (t - 1) = false := by
              cases h : hasL (st.es n) (t - 1) with
              | false => rfl
              | true => exact absurd ⟨by omega, h⟩ hq
            rw [h2] at h1
            have e1 : t - 1 + 1 = t := by omega
            rw [e1] at h1
            exact h1
        have HPN : Hid _ := hpn
        have hun := unpack_no (c := (t : Int) - 1) wr (HV.out.below hB) HN.out (HR.out n) (HL.out n) hno
        have hel := HL.out n
        have hse : Hid (∀ w, _) := fun w => same_err 5 w (by decide)
        generalize posL (st.es n) (t - 1) = ps at *
        obtain ⟨tz, htz⟩ : ∃ tz : Int, tz = (t : Int) - 1 := ⟨_, rfl⟩
        have HTZ : Hid (tz = (t : Int) - 1) := htz
        have tz1 : -1 ≤ tz := by omega
        have tz2 : tz < 257 := by omega
        rw [← htz] at hun hno ⊢
        clear hq hpn htz
        go_wp2_with fail
        refine hun.mono ?_
        rintro r w5 ⟨rfl, hb5⟩
        have B5 := hB.trans (hb5.mono hB.size)
        have R5 := HRL.out.below B5
        have c1 := R5.c1
        obtain ⟨A', cap', h47, row', _⟩ := R5.edges HN.out
        clear hun hb5 hB R5
        by_cases hpl : ps < (st.es n).length
        · obtain ⟨e, he⟩ : ∃ e, (st.es n)[ps]? = some e := ⟨(st.es n)[ps], List.getElem?_eq_getElem hpl⟩
          obtain ⟨bb, oo, rfl, q0, _⟩ := row' ps e he
          have p1 : (0 : Int) ≤ (ps : Int) := by omega
          have p2 : (ps : Int) < ((st.es n).length : Int) := by omega
          have hne : ((e.to : Int) == tz) = false := beq_eq_false_iff_ne.2 (hno e (List.mem_of_getElem? he))
          clear he row' hno
          generalize (e.to : Int) = et at *
          go_wp2_with (go_at_call 11; refine (hse.out _).mono ?_; rintro e w' ⟨rfl, rfl⟩)
          go_roundw
          case rel => exact ⟨t + 1, by omega, by rw [show t + 1 - 1 = t by omega, HPN.out], by have := HTZ.out; simp; omega, B5⟩
          case measure => have := HTZ.out; simp [intOf]; omega
        · have p2 : ¬ (ps : Int) < ((st.es n).length : Int) := by omega
          clear row' hno
          go_wp2_with (go_at_call 11; refine (hse.out _).mono ?_; rintro e w' ⟨rfl, rfl⟩)
          go_roundw
          case rel => exact ⟨t + 1, by omega, by rw [show t + 1 - 1 = t by omega, HPN.out], by have := HTZ.out; simp; omega, B5⟩
          case measure => have := HTZ.out; simp [intOf]; omega
    · have e : t = 258 := by omega
      subst e
      go_wp2
      go_ret
      exact ⟨rfl, hB⟩
end Go.Proofs.YtmnpplkjhnoglaaGreatDoor
/-
  Closed levels of nine cells: the statement's 'stairs' answers true. (For LevelsSays.)
-/
namespace Go.Proofs.YtmnpplkjhnoglaaGreatDoor
open Go.RowKit

theorem Turn.holds9 {t n : Nat} {st st' : LSt} {nr nr' : Nat → Bool} {g : Bool} (h : Turn t n st nr st' nr' g) {x : Nat} (hx : 0 < st.lev x) : st'.lev x = st.lev x := by
  rcases h with ⟨_, h, _⟩ | ⟨hn, p, _, ⟨_, h, _⟩ | ⟨_, h, _⟩⟩
  · rw [h]
  · rw [h]
  · rw [h]
    show (if x = n then t else st.lev x) = st.lev x
    rw [if_neg (fun e => hn (Or.inl (by rw [← e]; exact hx)))]
theorem Rnd.holds9 {t : Nat} : ∀ {L : List Nat} {st st' : LSt} {nr nr' : Nat → Bool} {g : Bool}, Rnd t L st nr st' nr' g → ∀ {x : Nat}, 0 < st.lev x → st'.lev x = st.lev x
  | [], _, _, _, _, _, ⟨h, _, _⟩, _, _ => by rw [h]
  | _ :: _, _, _, _, _, _, ⟨_, _, _, _, h1, h2, _⟩, _, hx => by
    have e1 := h1.holds9 hx
    have e2 := h2.holds9 (by rw [e1]; exact hx)
    rw [e2, e1]
theorem first9 {es : Nat → List LE} (G : GEs 3 3 mid9 es) : ∀ {k : Nat} {st : LSt}, Rds 3 [0, 2, 6, 8] ⟨fun _ => 0, es⟩ (k + 1) st → st.lev 0 = 1
  | 0, st, ⟨st1, nr', e, _, s1, n1, g1, g2, ht, hr, _⟩ => by
    have e : st1 = ⟨fun _ => 0, es⟩ := e
    subst e
    have h1 : s1.lev 0 = 1 := by
      rcases ht with ⟨h1, _⟩ | ⟨_, p, _, h1 | h1⟩
      · rcases h1 with h1 | h1
        · exact absurd h1 (Nat.lt_irrefl _)
        · cases h1
      · have hl : (feF ⟨fun _ => 0, es⟩ 0).length ≤ 3 := Nat.le_trans (List.length_filter_le _ _) (few9 G)
        have := moreF_few p 0 _ hl
        omega
      · rw [h1.2.1]
        show (if 0 = 0 then 0 + 1 else 0) = 1
        rfl
    rw [hr.holds9 (by rw [h1]; decide), h1]
  | k + 1, st, ⟨st1, nr', h, _, hr⟩ => by
    have h1 := first9 G h
    rw [hr.holds9 (by rw [h1]; decide), h1]
theorem stair9 {es : Nat → List LE} (G : GEs 3 3 mid9 es) {k : Nat} {st : LSt} (h : Rds 3 [0, 2, 6, 8] ⟨fun _ => 0, es⟩ k st) (ho : Over 3 [0, 2, 6, 8] k st) : 1 ≤ k ∧ endL (k + 1) st 0 = 1 := by
  cases k with
  | zero =>
    exfalso
    have e : st = ⟨fun _ => 0, es⟩ := h
    subst e
    rcases ho with ho | ⟨s3, n3, st1, nr1, g1, g2, ht, _, hg⟩
    · omega
    · have hg1 : g1 = false := by
        cases g1 with
        | false => rfl
        | true => exact absurd hg (by simp)
      subst hg1
      rcases ht with ⟨h1, _⟩ | ⟨_, p, _, h1 | h1⟩
      · rcases h1 with h1 | h1
        · exact absurd h1 (Nat.lt_irrefl _)
        · cases h1
      · have hl : (feF ⟨fun _ => 0, es⟩ 0).length ≤ 3 := Nat.le_trans (List.length_filter_le _ _) (few9 G)
        have := moreF_few p 0 _ hl
        omega
      · cases h1.2.2.2
  | succ k =>
    refine ⟨by omega, ?_⟩
    have h1 := first9 G h
    unfold endL
    rw [if_neg (by omega), h1]
set_option maxHeartbeats 4000000 in
set_option maxRecDepth 1000000 in
theorem stairs_any (w : World) (s : StepsAt w) : Calls Tryz.prog 7 #[] w fun e w' => e = .returned (.bool true) ∧ Below w.heap.size w w' := by
  have hs3 : sideB 3 = true := by decide
  have hG := gridAt_new 3 3 w hs3 hs3
  have hb : Below w.heap.size w (w.alloc (.cells (gridC 3 3) 117)) := (Below.refl _ _).alloc (Nat.le_refl _) _
  have hfr : Free (w.alloc (.cells (gridC 3 3) 117)) w.heap.size := free_alloc w (gridC 3 3) 117 w.heap.size (Nat.le_refl _)
  have hspos := s.pos
  obtain ⟨es9, hG9⟩ := gEs_ex 3 3 mid9 (by decide)
  go_enter Tryz.func7, Tryz.ntmps7
  go_wp2_with (go_at_call 21; refine (new_ok _ _ _ hs3 hs3).mono ?_; rintro e w' ⟨rfl, rfl⟩)
  generalize w.alloc (.cells (gridC 3 3) 117) = w0 at *
  have hse := set_new 4 true w0 hG hfr (by decide) rfl (by decide) (by decide)
  refine hse.mono ?_
  rintro e w1 ⟨rfl, T1, g1, fr1⟩
  have B1 := T1.below hb (Nat.le_refl _)
  have hl1 : w.heap.size < w1.heap.size := World.block_lt_of_cell? _ _ g1.c0
  clear hse hG T1 hfr fr1
  go_wp2_with fail
  refine (new_graph w1 g1 (s.below B1 hspos) hl1).mono ?_
  rintro e w2 ⟨rb, pb, mb, rfl, G2, _, _, _, hb2⟩
  have B2 := B1.trans (hb2.mono B1.size)
  clear g1
  have hlv := new_levels (most := 3) w2 G2 hG9 (by decide) (by decide)
  go_wp2_with fail
  refine hlv.mono ?_
  rintro e w3 ⟨lb, rfl, L3, hb3⟩
  have B3 := B2.trans (hb3.mono B2.size)
  obtain ⟨vb, eb, k, st, f, hR, hO, V⟩ := L3
  obtain ⟨hk, hl0⟩ := stair9 hG9 (by rw [← corn9]; exact hR) (by rw [← corn9]; exact hO)
  have hlev := level_yes (n := 0) w3 V (by show 0 ∈ crs 3 3 mid9 (3 * 3 : Int).toNat; rw [corn9]; decide)
  have hl0' : ((⟨endL (k + 1) st, st.es⟩ : LSt).lev 0 : Int) = 1 := by show ((endL (k + 1) st 0 : Nat) : Int) = 1; rw [hl0]; rfl
  rw [hl0'] at hlev
  have htp := top_any w3 V
  have hk2 : (1 : Int) < ((k + 1 : Nat) : Int) := by omega
  generalize ((k + 1 : Nat) : Int) = T at *
  clear hlv G2 hb3 hb2 hb B1 B2 hl1 hR hO V hG9 hl0 hl0' hk
  go_wp2_with fail
  refine hlev.mono ?_
  rintro e w4 ⟨rfl, hw4⟩
  replace hw4 := hw4.symm
  subst hw4
  go_wp2_with (first | (go_at_call 11; refine (same_nil _).mono ?_; rintro e w' ⟨rfl, rfl⟩) | (go_at_call 14; refine htp.mono ?_; rintro e w' ⟨rfl, rfl⟩))
  go_ret
  exact ⟨rfl, B3⟩
end Go.Proofs.YtmnpplkjhnoglaaGreatDoor
