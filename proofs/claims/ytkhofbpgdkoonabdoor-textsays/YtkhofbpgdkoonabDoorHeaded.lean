/-
  The reference's look at a line: is it a word and a number of 64 bits?
-/
import Derived.Test.YtkhofbpgdkoonabDoorWithin
import Derived.Test.YtkhofbpgdkoonabDoorNumB
namespace Go.Proofs.YtkhofbpgdkoonabDoor
open Go.RowKit

theorem ext_take (s : List UInt8) (n : Nat) : (str s).extract 0 n = str (s.take n) := by
  rw [Lib.extract_eq, str_data]
  simp [str]
theorem ext_drop (s : List UInt8) (n : Nat) : (str s).extract n s.length = str (s.drop n) := by
  rw [Lib.extract_eq, str_data]
  congr 2
  rw [List.take_of_length_le (by simp)]

set_option maxHeartbeats 1000000 in
set_option maxRecDepth 100000 in
theorem headed_short {s word : List UInt8} (h : s.length ≤ word.length) (w : World) :
    Calls Tryd.prog 31 #[.string (str s), .string (str word)] w fun e w' => e = .returned (.bool false) ∧ w' = w := by
  have h1 := str_size s
  have h2 := str_size word
  have h3 : (s.length : Int) ≤ (word.length : Int) := by omega
  go_enter Tryd.func31, Tryd.ntmps31
  go_wp2
  go_ret
  exact ⟨rfl, rfl⟩

set_option maxHeartbeats 1000000 in
set_option maxRecDepth 100000 in
theorem headed_word {s word : List UInt8} (h : word.length < s.length) (hw : s.take word.length ≠ word) (w : World) :
    Calls Tryd.prog 31 #[.string (str s), .string (str word)] w fun e w' => e = .returned (.bool false) ∧ w' = w := by
  have h1 := str_size s
  have h2 := str_size word
  have h3 : ¬ (s.length : Int) ≤ (word.length : Int) := by omega
  have h4 : (word.length : Int) ≤ (s.length : Int) := by omega
  have h5 := ext_take s word.length
  have h6 := toList_str (s.take word.length)
  have h7 := toList_str word
  have h8 : (s.take word.length == word) = false := by simpa using hw
  go_enter Tryd.func31, Tryd.ntmps31
  go_wp2
  go_ret
  exact ⟨rfl, rfl⟩

set_option maxHeartbeats 1000000 in
set_option maxRecDepth 100000 in
theorem headed_long {s word t : List UInt8} (e : s = word ++ t) (h : 20 < t.length) (hm : s.length ≤ 1000) (w : World) :
    Calls Tryd.prog 31 #[.string (str s), .string (str word)] w fun e w' => e = .returned (.bool false) ∧ w' = w := by
  have hl : s.length = word.length + t.length := by rw [e, List.length_append]
  have h1 := str_size s
  have h2 := str_size word
  have h3 : ¬ (s.length : Int) ≤ (word.length : Int) := by omega
  have h4 : (word.length : Int) ≤ (s.length : Int) := by omega
  have h5 : (str s).extract 0 word.length = str word := by rw [ext_take, e, List.take_left]
  have h7 := toList_str word
  have h8 : (20 : Int) < (s.length : Int) - (word.length : Int) := by omega
  clear e hl
  go_enter Tryd.func31, Tryd.ntmps31
  go_wp2
  go_ret
  exact ⟨rfl, rfl⟩

theorem idx_head (u : List UInt8) (h : u ≠ []) (w : World) : (Instr.index 9 (.string (str u)) (.int .i64 0)).run Tryd.prog w = .ok (.int .u8 (u.headD 0).toNat) w := by
  obtain ⟨c, r, rfl⟩ : ∃ c r, u = c :: r := by
    cases u with
    | nil => exact absurd rfl h
    | cons c r => exact ⟨c, r, rfl⟩
  exact idx_str (c :: r) 0 (by simp) w

/-- what the look at a line leans on -/
structure Line (s word t : List UInt8) : Prop where
  h1 : (str s).size = s.length
  h2 : (str word).size = word.length
  h3 : ¬ (s.length : Int) ≤ (word.length : Int)
  h4 : (word.length : Int) ≤ (s.length : Int)
  h5 : (str s).extract 0 word.length = str word
  h7 : (str word).toList = word
  h8 : ¬ (20 : Int) < (s.length : Int) - (word.length : Int)
  h9 : (str s).extract word.length s.length = str t
  ht : (str t).size = t.length
  hb : t.length ≤ 20
  hi : ∀ w, (Instr.index 9 (.string (str t)) (.int .i64 0)).run Tryd.prog w = .ok (.int .u8 ((t.headD 0).toNat)) w
  hj : ∀ w, (Instr.index 9 (.string (str s)) (.int .i64 word.length)).run Tryd.prog w = .ok (.int .u8 ((t.headD 0).toNat)) w
theorem line_of {s word t : List UInt8} (e : s = word ++ t) (h : t ≠ []) (h20 : t.length ≤ 20) : Line s word t := by
  have hl : s.length = word.length + t.length := by rw [e, List.length_append]
  have ht : t.length ≠ 0 := by simpa using h
  obtain ⟨c, r, rfl⟩ : ∃ c r, t = c :: r := by
    cases t with
    | nil => exact absurd rfl h
    | cons c r => exact ⟨c, r, rfl⟩
  refine ⟨str_size s, str_size word, by omega, by omega, by rw [ext_take, e, List.take_left], toList_str word, by omega, by rw [ext_drop, e, List.drop_left], str_size _, h20, fun w => idx_str (c :: r) 0 (by simp) w, fun w => ?_⟩
  rw [idx_str s word.length (by rw [hl]; simp) w]
  congr 3
  simp [e]

set_option maxHeartbeats 4000000 in
set_option maxRecDepth 1000000 in
theorem headed_plain {s word u : List UInt8} (L : Line s word u) (hu : u ≠ []) (h45 : u.headD 0 ≠ 45) (hz : (u.head? == some 48 && decide (1 < u.length)) = false) (w : World) :
    Calls Tryd.prog 31 #[.string (str s), .string (str word)] w fun e w' => e = .returned (.bool (tailB u false)) ∧ w' = w := by
  obtain ⟨h1, h2, h3, h4, h5, h7, h8, h9, ht, hb, hi, hj⟩ := L
  have hul : u.length ≠ 0 := by simpa using hu
  have HZ : Hid ((u.head? == some 48 && decide (1 < u.length)) = false) := hz
  have e0 : ((u.headD 0).toNat == 45) = false := by
    rw [beq_eq_false_iff_ne]
    exact fun e => h45 (UInt8.toNat_inj.1 e)
  have e1 : (((u.headD 0).toNat : Int) == 45) = false := by
    rw [beq_eq_false_iff_ne] at e0 ⊢
    omega
  have hcs : (((u.headD 0).toNat : Int) == 48) = false ∨ ((((u.headD 0).toNat : Int) == 48) = true ∧ ¬ (1 : Int) < (u.length : Int)) := by
    cases hq : (((u.headD 0).toNat : Int) == 48) with
    | false => exact .inl rfl
    | true =>
      refine .inr ⟨rfl, ?_⟩
      rw [beq_iff_eq] at hq
      obtain ⟨c, r, rfl⟩ : ∃ c r, u = c :: r := by
        cases u with
        | nil => exact absurd rfl hu
        | cons c r => exact ⟨c, r, rfl⟩
      have hq2 : (c.toNat : Int) = 48 := by simpa using hq
      have : c = 48 := UInt8.toNat_inj.1 (by show c.toNat = 48; omega)
      subst this
      simp at hz
      subst hz
      simp
  clear hz h45 e0 hu
  generalize ((u.headD 0).toNat : Int) = x at *
  rcases hcs with hcs | ⟨hcs, hcl⟩
  all_goals
    go_enter Tryd.func31, Tryd.ntmps31
    go_wp2
    go_loopw [6] (fun i wr => ∃ j : Nat, j ≤ u.length ∧ i = .int .i64 j ∧ wr = w ∧ (u.take j).all digB = true)
      (fun i _ => u.length - (intOf i).toNat)
    case atStart => exact ⟨0, by omega, rfl, rfl, rfl⟩
    case round =>
      obtain ⟨j, hj, rfl, rfl, hall⟩ := hrel
      by_cases hlt : j < u.length
      · have hij := idx_str u j hlt
        have hst : (u.take (j + 1)).all digB = digB u[j] := by
          rw [List.take_add_one, List.getElem?_eq_getElem hlt, List.all_append, hall]
          simp
        have hno : digB u[j] = false → u.all digB = false := fun h => by
          rw [Bool.eq_false_iff]
          intro hA
          rw [List.all_eq_true] at hA
          have := hA u[j] (List.getElem_mem hlt)
          rw [h] at this
          cases this
        generalize u[j] = c at hij hst hno
        have j1 : (0 : Int) ≤ (j : Int) ∧ (j : Int) < (u.length : Int) := by omega
        cases hc : digB c with
        | true =>
          rw [hc] at hst
          have hd : 48 ≤ c.toNat ∧ c.toNat ≤ 57 := of_decide_eq_true hc
          have d1 : ¬ (c.toNat : Int) < 48 := by omega
          have d2 : ¬ (57 : Int) < (c.toNat : Int) := by omega
          have HST : Hid ((u.take (j + 1)).all digB = true) := hst
          clear hst hno hc hd
          go_wp2
          go_roundw
          case rel => exact ⟨j + 1, by omega, by go_num, by first | rfl | trivial, HST.out⟩
          case measure => simp [intOf]; omega
        | false =>
          have hno2 := hno hc
          have hd : ¬ (48 ≤ c.toNat ∧ c.toNat ≤ 57) := of_decide_eq_false hc
          have hR : tailB u false = false := by
            unfold tailB
            rw [hno2, Bool.false_and, Bool.and_false]
          have HX : Hid (tailB u false = false) := hR
          clear hst hno hno2 hc hR
          by_cases d1 : (c.toNat : Int) < 48
          · go_wp2
            go_ret
            exact ⟨by rw [HX.out]; rfl, rfl⟩
          · have d2 : (57 : Int) < (c.toNat : Int) := by omega
            go_wp2
            go_ret
            exact ⟨by rw [HX.out]; rfl, rfl⟩
      · have hjl : j = u.length := by omega
        subst hjl
        rw [List.take_length] at hall
        have hR : tailB u false = withinB u false := by
          unfold tailB
          rw [hall, HZ.out]
          simp
        have HX : Hid (tailB u false = withinB u false) := hR
        clear hR
        go_wp2_with (go_at_call 56; refine (within_any u false _).mono ?_; rintro e w' ⟨rfl, rfl⟩)
        go_ret
        exact ⟨by rw [HX.out]; rfl, rfl⟩

set_option maxHeartbeats 1000000 in
set_option maxRecDepth 1000000 in
theorem headed_nought {s word u : List UInt8} (L : Line s word u) (h48 : u.headD 0 = 48) (hl : 1 < u.length) (w : World) :
    Calls Tryd.prog 31 #[.string (str s), .string (str word)] w fun e w' => e = .returned (.bool false) ∧ w' = w := by
  obtain ⟨h1, h2, h3, h4, h5, h7, h8, h9, ht, hb, hi, hj⟩ := L
  rw [h48] at hi hj
  have hl2 : (1 : Int) < (u.length : Int) := by omega
  go_enter Tryd.func31, Tryd.ntmps31
  go_wp2
  go_ret
  exact ⟨rfl, rfl⟩

/-- a line with a minus ahead of its digits -/
structure Minus (t u : List UInt8) : Prop where
  e1 : (str t).extract 1 t.length = str u
  hu : (str u).size = u.length
  ul : (str u).toList = u
  t1 : (1 : Int) ≤ (t.length : Int)
  ln : u.length < t.length
theorem minus_of (u : List UInt8) : Minus (45 :: u) u := by
  refine ⟨by rw [ext_drop]; rfl, str_size u, toList_str u, ?_, by simp⟩
  rw [List.length_cons]
  omega

set_option maxHeartbeats 1000000 in
set_option maxRecDepth 1000000 in
theorem headed_bare {s word t u : List UInt8} (L : Line s word t) (M : Minus t u) (h45 : t.headD 0 = 45) (h : u = [] ∨ u = [48]) (w : World) :
    Calls Tryd.prog 31 #[.string (str s), .string (str word)] w fun e w' => e = .returned (.bool false) ∧ w' = w := by
  obtain ⟨h1, h2, h3, h4, h5, h7, h8, h9, ht, hb, hi, hj⟩ := L
  obtain ⟨m1, m2, m3, m4, m5⟩ := M
  rw [h45] at hi hj
  rcases h with rfl | rfl
  all_goals
    go_enter Tryd.func31, Tryd.ntmps31
    go_wp2
    go_ret
    exact ⟨rfl, rfl⟩

set_option maxHeartbeats 1000000 in
set_option maxRecDepth 1000000 in
theorem headed_minus0 {s word t u : List UInt8} (L : Line s word t) (M : Minus t u) (h45 : t.headD 0 = 45) (h48 : u.headD 0 = 48) (hl : 1 < u.length) (w : World) :
    Calls Tryd.prog 31 #[.string (str s), .string (str word)] w fun e w' => e = .returned (.bool false) ∧ w' = w := by
  obtain ⟨h1, h2, h3, h4, h5, h7, h8, h9, ht, hb, hi, hj⟩ := L
  obtain ⟨m1, m2, m3, m4, m5⟩ := M
  rw [h45] at hi hj
  have ne1 : (u.isEmpty) = false := by cases u with
    | nil => simp at hl
    | cons c r => rfl
  have ne2 : (u == [48]) = false := by
    rw [beq_eq_false_iff_ne]
    intro e
    rw [e] at hl
    simp at hl
  have hk := idx_head u (by intro e; rw [e] at hl; simp at hl)
  rw [h48] at hk
  have hl2 : (1 : Int) < (u.length : Int) := by omega
  clear h48
  go_enter Tryd.func31, Tryd.ntmps31
  go_wp2
  go_ret
  exact ⟨rfl, rfl⟩

set_option maxHeartbeats 4000000 in
set_option maxRecDepth 1000000 in
theorem headed_minus {s word t u : List UInt8} (L : Line s word t) (M : Minus t u) (h45 : t.headD 0 = 45) (hu : u ≠ []) (hu2 : u ≠ [48]) (hz : (u.head? == some 48 && decide (1 < u.length)) = false) (w : World) :
    Calls Tryd.prog 31 #[.string (str s), .string (str word)] w fun e w' => e = .returned (.bool (tailB u true)) ∧ w' = w := by
  obtain ⟨h1, h2, h3, h4, h5, h7, h8, h9, ht, hb0, hi, hj⟩ := L
  obtain ⟨m1, m2, m3, m4, m5⟩ := M
  rw [h45] at hi hj
  have hul : u.length ≠ 0 := by simpa using hu
  have hb : u.length ≤ 20 := by omega
  have HZ : Hid ((u.head? == some 48 && decide (1 < u.length)) = false) := hz
  have ne1 : (u.isEmpty) = false := by cases u with
    | nil => exact absurd rfl hu
    | cons c r => rfl
  have ne2 : (u == [48]) = false := by rw [beq_eq_false_iff_ne]; exact hu2
  have hk := idx_head u hu
  have hcs : (((u.headD 0).toNat : Int) == 48) = false := by
    rw [beq_eq_false_iff_ne]
    intro hq
    obtain ⟨c, r, rfl⟩ : ∃ c r, u = c :: r := by
      cases u with
      | nil => exact absurd rfl hu
      | cons c r => exact ⟨c, r, rfl⟩
    have hq2 : (c.toNat : Int) = 48 := by simpa using hq
    have : c = 48 := UInt8.toNat_inj.1 (by show c.toNat = 48; omega)
    subst this
    simp at hz
    subst hz
    exact hu2 rfl
  have hz2 : (u.length = 0) = False := by simp [hul]
  clear hz hu hu2 hb0
  generalize ((u.headD 0).toNat : Int) = x at hk hcs
  all_goals
    go_enter Tryd.func31, Tryd.ntmps31
    go_wp2
    go_loopw [6] (fun i wr => ∃ j : Nat, j ≤ u.length ∧ i = .int .i64 j ∧ wr = w ∧ (u.take j).all digB = true)
      (fun i _ => u.length - (intOf i).toNat)
    case atStart => exact ⟨0, by omega, rfl, rfl, rfl⟩
    case round =>
      obtain ⟨j, hj, rfl, rfl, hall⟩ := hrel
      by_cases hlt : j < u.length
      · have hij := idx_str u j hlt
        have hst : (u.take (j + 1)).all digB = digB u[j] := by
          rw [List.take_add_one, List.getElem?_eq_getElem hlt, List.all_append, hall]
          simp
        have hno : digB u[j] = false → u.all digB = false := fun h => by
          rw [Bool.eq_false_iff]
          intro hA
          rw [List.all_eq_true] at hA
          have := hA u[j] (List.getElem_mem hlt)
          rw [h] at this
          cases this
        generalize u[j] = c at hij hst hno
        have j1 : (0 : Int) ≤ (j : Int) ∧ (j : Int) < (u.length : Int) := by omega
        cases hc : digB c with
        | true =>
          rw [hc] at hst
          have hd : 48 ≤ c.toNat ∧ c.toNat ≤ 57 := of_decide_eq_true hc
          have d1 : ¬ (c.toNat : Int) < 48 := by omega
          have d2 : ¬ (57 : Int) < (c.toNat : Int) := by omega
          have HST : Hid ((u.take (j + 1)).all digB = true) := hst
          clear hst hno hc hd
          go_wp2
          go_roundw
          case rel => exact ⟨j + 1, by omega, by go_num, by first | rfl | trivial, HST.out⟩
          case measure => simp [intOf]; omega
        | false =>
          have hno2 := hno hc
          have hd : ¬ (48 ≤ c.toNat ∧ c.toNat ≤ 57) := of_decide_eq_false hc
          have hR : tailB u true = false := by
            unfold tailB
            rw [hno2, Bool.false_and, Bool.and_false]
          have HX : Hid (tailB u true = false) := hR
          clear hst hno hno2 hc hR
          by_cases d1 : (c.toNat : Int) < 48
          · go_wp2
            go_ret
            exact ⟨by rw [HX.out]; rfl, rfl⟩
          · have d2 : (57 : Int) < (c.toNat : Int) := by omega
            go_wp2
            go_ret
            exact ⟨by rw [HX.out]; rfl, rfl⟩
      · have hjl : j = u.length := by omega
        subst hjl
        rw [List.take_length] at hall
        have hR : tailB u true = withinB u true := by
          unfold tailB
          rw [hall, HZ.out]
          simp
        have HX : Hid (tailB u true = withinB u true) := hR
        clear hR
        go_wp2_with (go_at_call 56; refine (within_any u true _).mono ?_; rintro e w' ⟨rfl, rfl⟩)
        go_ret
        exact ⟨by rw [HX.out]; rfl, rfl⟩

theorem tail_no {u : List UInt8} {b : Bool} (h : (u.head? == some 48 && decide (1 < u.length)) = true) : tailB u b = false := by
  unfold tailB
  rw [h]
  rfl
theorem head_eq {u : List UInt8} (hu : u ≠ []) (c : UInt8) : u.head? = some c ↔ u.headD 0 = c := by
  cases u with
  | nil => exact absurd rfl hu
  | cons x r => simp

theorem headed_any {s word : List UInt8} (hs : s.length ≤ 1000) (w : World) :
    Calls Tryd.prog 31 #[.string (str s), .string (str word)] w fun e w' => e = .returned (.bool (numOf s word).isSome) ∧ w' = w := by
  by_cases h1 : s.length ≤ word.length
  · have hn : numOf s word = none := numOf_no fun v _ _ e => by
      have := itoa_ne v
      have hl : s.length = word.length + (Lib.itoa v).length := by rw [e, List.length_append]
      have : (Lib.itoa v).length ≠ 0 := by simpa using this
      omega
    rw [hn]
    exact headed_short h1 w
  · by_cases h2 : s.take word.length = word
    · obtain ⟨t, e⟩ : ∃ t, s = word ++ t := ⟨s.drop word.length, by conv => lhs; rw [← List.take_append_drop word.length s, h2]⟩
      have hl : s.length = word.length + t.length := by rw [e, List.length_append]
      have ht : t ≠ [] := by
        intro h
        rw [h] at hl
        simp at hl
        omega
      by_cases h3 : 20 < t.length
      · have hn : numOf s word = none := numOf_no fun v v1 v2 e2 => by
          rw [e] at e2
          have e3 := List.append_cancel_left e2
          have := itoa_len20 v v1 v2
          rw [← e3] at this
          omega
        rw [hn]
        exact headed_long e h3 hs w
      · have L := line_of e ht (by omega)
        rw [show numOf s word = numOf (word ++ t) word by rw [e], numOf_app ht]
        unfold numB
        by_cases h45 : t.head? = some 45
        · rw [if_pos h45]
          obtain ⟨u, rfl⟩ : ∃ u, t = 45 :: u := by
            cases t with
            | nil => exact absurd rfl ht
            | cons c r =>
              simp at h45
              exact ⟨r, by rw [h45]⟩
          rw [List.tail_cons]
          have M := minus_of u
          by_cases u1 : u = []
          · rw [show (decide (u ≠ []) && decide (u ≠ [48])) = false by simp [u1], Bool.false_and]
            exact headed_bare L M rfl (.inl u1) w
          · by_cases u2 : u = [48]
            · rw [show (decide (u ≠ []) && decide (u ≠ [48])) = false by simp [u2], Bool.false_and]
              exact headed_bare L M rfl (.inr u2) w
            · rw [decide_eq_true u1, decide_eq_true u2, Bool.and_self, Bool.true_and]
              cases hz : (u.head? == some 48 && decide (1 < u.length)) with
              | false => exact headed_minus L M rfl u1 u2 hz w
              | true =>
                rw [tail_no hz]
                rw [Bool.and_eq_true, beq_iff_eq, decide_eq_true_eq] at hz
                exact headed_minus0 L M rfl ((head_eq u1 48).1 hz.1) hz.2 w
        · rw [if_neg h45]
          cases hz : (t.head? == some 48 && decide (1 < t.length)) with
          | false => exact headed_plain L ht (fun h => h45 ((head_eq ht 45).2 h)) hz w
          | true =>
            rw [tail_no hz]
            rw [Bool.and_eq_true, beq_iff_eq, decide_eq_true_eq] at hz
            exact headed_nought L ((head_eq ht 48).1 hz.1) hz.2 w
    · have hn : numOf s word = none := numOf_no fun v _ _ e => by
        rw [e, List.take_left] at h2
        exact h2 rfl
      rw [hn]
      exact headed_word (by omega) h2 w
theorem headedH {s : List UInt8} {r : Bool} (hr : (numOf s heightW).isSome = r) (hs : s.length ≤ 1000) (w : World) :
    Calls Tryd.prog 31 #[.string (str s), .string ⟨#[104, 101, 105, 103, 104, 116, 32]⟩] w fun e w' => e = .returned (.bool r) ∧ w' = w := hr ▸ headed_any (word := heightW) hs w
theorem headedW {s : List UInt8} {r : Bool} (hr : (numOf s widthW).isSome = r) (hs : s.length ≤ 1000) (w : World) :
    Calls Tryd.prog 31 #[.string (str s), .string ⟨#[119, 105, 100, 116, 104, 32]⟩] w fun e w' => e = .returned (.bool r) ∧ w' = w := hr ▸ headed_any (word := widthW) hs w
end Go.Proofs.YtkhofbpgdkoonabDoor
