/-
  Numerals: what is printed of a number is read as it; a line of digits is a numeral of 64 bits just if it is no longer, or no greater, than the greatest. No model in this text but for the comparison of bytes.
-/
import Derived.Lib.ItoaNum
import Derived.Lib.AtoiAllCases
import Derived.Lib.Strings
import GoSem.Op.String
namespace Go.Proofs.YtkhofbpgdkoonabDoor
open Go.Lib

theorem parse_snoc (c : UInt8) : ∀ (l : List UInt8) (acc : Nat), parseUint10 acc (l ++ [c]) = match parseUint10 acc l with | .ok u => parseUint10 u [c] | .syntax => .syntax | .range => .range
  | [], _ => rfl
  | d :: r, acc => by
    simp only [List.cons_append, parseUint10]
    split
    · split
      · rfl
      · split
        · rfl
        · exact parse_snoc c r _
    · rfl

theorem ofNat_dig {n : Nat} (h : n < 10) : (UInt8.ofNat (48 + n)).toNat = 48 + n := by
  rw [UInt8.toNat_ofNat']
  omega

theorem dec_big {n : Nat} (h : ¬ n < 10) : decDigits n = decDigits (n / 10) ++ [UInt8.ofNat (48 + n % 10)] := by
  conv => lhs; rw [decDigits, dif_neg h]

theorem parse_dec (n : Nat) (h : n < 18446744073709551616) : parseUint10 0 (decDigits n) = .ok n := by
  induction n using Nat.strongRecOn with
  | _ n ih =>
    by_cases h10 : n < 10
    · rw [decDigits_one h10]
      simp only [parseUint10, ofNat_dig h10]
      rw [if_pos (by omega), if_neg (by omega), if_neg (by omega)]
      congr 1
      omega
    · rw [dec_big h10, parse_snoc, ih (n / 10) (by omega) (by omega)]
      have h2 : n % 10 < 10 := by omega
      simp only [parseUint10, ofNat_dig h2]
      rw [if_pos (by omega), if_neg (by omega), if_neg (by omega)]
      congr 1
      omega

/-- a digit -/
def isD (c : UInt8) : Prop := 48 ≤ c.toNat ∧ c.toNat ≤ 57

theorem dec_dig (n : Nat) : ∀ c ∈ decDigits n, isD c := by
  induction n using Nat.strongRecOn with
  | _ n ih =>
    intro c hc
    by_cases h10 : n < 10
    · rw [decDigits_one h10] at hc
      have := List.mem_singleton.1 hc
      subst this
      unfold isD
      rw [ofNat_dig h10]
      omega
    · rw [dec_big h10] at hc
      rcases List.mem_append.1 hc with h | h
      · exact ih _ (by omega) c h
      · have := List.mem_singleton.1 h
        subst this
        unfold isD
        rw [ofNat_dig (by omega)]
        omega

theorem dec_ne (n : Nat) : decDigits n ≠ [] := by
  intro h
  have := decDigits_length n
  rw [h] at this
  have := nDigits_pos n
  simp at *
  omega

theorem dec_cons (n : Nat) : ∃ c r, decDigits n = c :: r ∧ isD c := by
  cases h : decDigits n with
  | nil => exact absurd h (dec_ne n)
  | cons c r => exact ⟨c, r, rfl, dec_dig n c (by rw [h]; exact List.mem_cons_self)⟩

theorem atoi_itoa (v : Int) (h0 : -9223372036854775808 ≤ v) (h1 : v ≤ 9223372036854775807) : atoiAll (itoa v) = .ok v := by
  unfold itoa
  by_cases hv : v < 0
  · rw [if_pos hv]
    have hp : parseMag (decDigits v.natAbs) = .ok v.natAbs := by
      unfold parseMag
      rw [if_neg (dec_ne _), parse_dec _ (by omega)]
    simp only [atoiAll]
    have e45 : (45 : UInt8).toNat = 45 := rfl
    rw [e45, if_pos (Or.inr rfl), hp]
    simp only [not_true, false_and, if_false, true_and, if_true]
    rw [if_neg (by omega)]
    congr 1
    omega
  · rw [if_neg hv]
    obtain ⟨c, r, hc, hd⟩ := dec_cons v.toNat
    have hp : parseMag (decDigits v.toNat) = .ok v.toNat := by
      unfold parseMag
      rw [if_neg (dec_ne _), parse_dec _ (by omega)]
    rw [hc] at hp ⊢
    unfold isD at hd
    simp only [atoiAll]
    have e1 : ¬ (c.toNat = 43 ∨ c.toNat = 45) := by omega
    have e2 : ¬ c.toNat = 45 := by omega
    rw [if_neg e1, hp]
    simp only [e2, not_false_eq_true, true_and, false_and, if_false]
    rw [if_neg (by omega)]
    congr 1
    omega

theorem trim_app (w x : List UInt8) : trimPrefix (w ++ x) w = x := by
  unfold trimPrefix hasPrefix
  rw [if_pos (by rw [List.isPrefixOf_iff_prefix]; exact List.prefix_append _ _)]
  simp

/-- the number behind a word, if the line is the word and what is printed of a number of 64 bits -/
def numOf (s word : List UInt8) : Option Int :=
  match atoiAll (trimPrefix s word) with
  | .ok v => if s = word ++ itoa v then some v else none
  | _ => none

theorem numOf_iff {s word : List UInt8} {v : Int} : numOf s word = some v ↔ (s = word ++ itoa v ∧ -9223372036854775808 ≤ v ∧ v ≤ 9223372036854775807) := by
  unfold numOf
  constructor
  · intro h
    split at h
    · rename_i u hu
      split at h
      · rename_i he
        have : u = v := by simpa using h
        subst this
        exact ⟨he, atoiAll_bounds hu⟩
      · cases h
    · cases h
  · rintro ⟨rfl, h0, h1⟩
    rw [trim_app, atoi_itoa v h0 h1]
    simp

/-- the value of digits -/
def dvalF (acc : Nat) (l : List UInt8) : Nat := l.foldl (fun a c => a * 10 + (c.toNat - 48)) acc
theorem dvalF_nil (acc : Nat) : dvalF acc [] = acc := List.foldl_nil
theorem dvalF_cons (acc : Nat) (c : UInt8) (r : List UInt8) : dvalF acc (c :: r) = dvalF (acc * 10 + (c.toNat - 48)) r := List.foldl_cons

theorem dvalF_snoc (c : UInt8) (l : List UInt8) (acc : Nat) : dvalF acc (l ++ [c]) = dvalF acc l * 10 + (c.toNat - 48) := by
  unfold dvalF
  rw [List.foldl_append, List.foldl_cons, List.foldl_nil]

theorem dvalF_acc : ∀ (l : List UInt8) (acc : Nat), dvalF acc l = acc * 10 ^ l.length + dvalF 0 l
  | [], acc => by simp [dvalF_nil]
  | c :: r, acc => by
    simp only [dvalF_cons, List.length_cons]
    rw [dvalF_acc r (acc * 10 + (c.toNat - 48)), dvalF_acc r (0 * 10 + (c.toNat - 48)), Nat.pow_succ]
    generalize 10 ^ r.length = P
    rw [Nat.add_mul, Nat.zero_mul, Nat.zero_add, Nat.mul_comm P 10, Nat.mul_assoc]
    omega

theorem dval_lt : ∀ (l : List UInt8), (∀ c ∈ l, isD c) → dvalF 0 l < 10 ^ l.length
  | [], _ => by simp [dvalF_nil]
  | c :: r, h => by
    have h1 := dval_lt r fun x hx => h x (List.mem_cons_of_mem _ hx)
    have hc : isD c := h c List.mem_cons_self
    unfold isD at hc
    simp only [dvalF_cons, List.length_cons]
    rw [dvalF_acc, Nat.pow_succ, Nat.zero_mul, Nat.zero_add]
    generalize 10 ^ r.length = P at *
    have : (c.toNat - 48) * P ≤ 9 * P := Nat.mul_le_mul_right _ (by omega)
    omega

theorem dval_ge (c : UInt8) (r : List UInt8) (h : 49 ≤ c.toNat) : 10 ^ r.length ≤ dvalF 0 (c :: r) := by
  simp only [dvalF_cons]
  rw [dvalF_acc, Nat.zero_mul, Nat.zero_add]
  generalize 10 ^ r.length = P
  have : 1 * P ≤ (c.toNat - 48) * P := Nat.mul_le_mul_right _ (by omega)
  omega

theorem dval_dec (n : Nat) : dvalF 0 (decDigits n) = n := by
  induction n using Nat.strongRecOn with
  | _ n ih =>
    by_cases h10 : n < 10
    · rw [decDigits_one h10]
      simp only [dvalF_cons, dvalF_nil, ofNat_dig h10]
      omega
    · rw [dec_big h10, dvalF_snoc, ih _ (by omega), ofNat_dig (by omega)]
      omega

theorem dec_head : ∀ (n : Nat), 1 ≤ n → ∃ c r, decDigits n = c :: r ∧ 49 ≤ c.toNat := by
  intro n
  induction n using Nat.strongRecOn with
  | _ n ih =>
    intro h1
    by_cases h10 : n < 10
    · exact ⟨_, _, decDigits_one h10, by rw [ofNat_dig h10]; omega⟩
    · obtain ⟨c, r, hc, hd⟩ := ih (n / 10) (by omega) (by omega)
      exact ⟨c, r ++ [UInt8.ofNat (48 + n % 10)], by rw [dec_big h10, hc]; rfl, hd⟩

/-- digits without a nought ahead are what is printed of their value -/
theorem dec_dval : ∀ (k : Nat) (d : List UInt8), d.length = k + 1 → (∀ c ∈ d, isD c) → (2 ≤ d.length → ∀ c r, d = c :: r → 49 ≤ c.toNat) → decDigits (dvalF 0 d) = d
  | 0, d, hl, hd, _ => by
    obtain ⟨c, rfl⟩ : ∃ c, d = [c] := List.length_eq_one_iff.1 hl
    have hc := hd c List.mem_cons_self
    unfold isD at hc
    simp only [dvalF_cons, dvalF_nil]
    rw [decDigits_one (by omega)]
    congr 1
    apply UInt8.toNat_inj.1
    rw [ofNat_dig (by omega)]
    omega
  | k + 1, d, hl, hd, hh => by
    obtain ⟨i, c, rfl⟩ : ∃ i c, d = i ++ [c] := ⟨d.dropLast, d.getLast (by intro e; simp [e] at hl), (List.dropLast_concat_getLast _).symm⟩
    have hc := hd c (by simp)
    unfold isD at hc
    have hil : i.length = k + 1 := by simpa using hl
    obtain ⟨a, r, rfl⟩ : ∃ a r, i = a :: r := by
      cases i with
      | nil => simp at hil
      | cons a r => exact ⟨a, r, rfl⟩
    have ha : 49 ≤ a.toNat := hh (by simp) a (r ++ [c]) rfl
    have ih := dec_dval k (a :: r) hil (fun x hx => hd x (List.mem_append_left _ hx)) fun _ c' r' e => by
      cases e
      exact ha
    have hge := dval_ge a r ha
    have hpos : 1 ≤ 10 ^ r.length := Nat.one_le_pow _ _ (by decide)
    rw [dvalF_snoc]
    rw [dec_big (by omega)]
    rw [show (dvalF 0 (a :: r) * 10 + (c.toNat - 48)) / 10 = dvalF 0 (a :: r) by omega, ih]
    congr 2
    apply UInt8.toNat_inj.1
    rw [ofNat_dig (by omega)]
    omega

/-- of two rows of digits as long, the lesser number comes first -/
theorem less_dval : ∀ (a b : List UInt8), a.length = b.length → (∀ c ∈ a, isD c) → (∀ c ∈ b, isD c) → (Op.bytesLess a b = true ↔ dvalF 0 a < dvalF 0 b)
  | [], [], _, _, _ => by simp [Op.bytesLess]
  | [], _ :: _, h, _, _ => by simp at h
  | _ :: _, [], h, _, _ => by simp at h
  | x :: a, y :: b, h, ha, hb => by
    have hl : a.length = b.length := by simpa using h
    have ih := less_dval a b hl (fun c hc => ha c (List.mem_cons_of_mem _ hc)) (fun c hc => hb c (List.mem_cons_of_mem _ hc))
    have la := dval_lt a fun c hc => ha c (List.mem_cons_of_mem _ hc)
    have lb := dval_lt b fun c hc => hb c (List.mem_cons_of_mem _ hc)
    have hx := ha x List.mem_cons_self
    have hy := hb y List.mem_cons_self
    unfold isD at hx hy
    simp only [Op.bytesLess, dvalF_cons]
    rw [dvalF_acc a, dvalF_acc b, hl, Nat.zero_mul, Nat.zero_add, Nat.zero_add]
    rw [hl] at la
    generalize 10 ^ b.length = P at *
    simp only [Bool.or_eq_true, Bool.and_eq_true, decide_eq_true_eq, beq_iff_eq, ih, UInt8.lt_iff_toNat_lt]
    rcases Nat.lt_trichotomy x.toNat y.toNat with hlt | heq | hgt
    · have : (x.toNat - 48 + 1) * P ≤ (y.toNat - 48) * P := Nat.mul_le_mul_right _ (by omega)
      rw [Nat.add_mul] at this
      constructor
      · intro _
        omega
      · intro _
        exact Or.inl hlt
    · have e : x = y := UInt8.toNat_inj.1 heq
      subst e
      constructor
      · rintro (h | h)
        · omega
        · have := h.2
          omega
      · intro h
        exact Or.inr ⟨rfl, by omega⟩
    · have : (y.toNat - 48 + 1) * P ≤ (x.toNat - 48) * P := Nat.mul_le_mul_right _ (by omega)
      rw [Nat.add_mul] at this
      constructor
      · rintro (h | h)
        · omega
        · have := congrArg UInt8.toNat h.1
          omega
      · intro h
        omega

/-- the greatest number's digits -/
def mostL (below : Bool) : List UInt8 := if below then [57, 50, 50, 51, 51, 55, 50, 48, 51, 54, 56, 53, 52, 55, 55, 53, 56, 48, 56] else [57, 50, 50, 51, 51, 55, 50, 48, 51, 54, 56, 53, 52, 55, 55, 53, 56, 48, 55]
def mostN (below : Bool) : Nat := if below then 9223372036854775808 else 9223372036854775807
def withinB (t : List UInt8) (below : Bool) : Bool := decide (t.length < 19) || (decide (t.length = 19) && (Op.bytesLess t (mostL below) || t == mostL below))

theorem most_dval (b : Bool) : dvalF 0 (mostL b) = mostN b := by cases b <;> decide
theorem most_len (b : Bool) : (mostL b).length = 19 := by cases b <;> rfl
theorem most_dig (b : Bool) : ∀ c ∈ mostL b, isD c := by
  cases b <;> (unfold mostL isD; simp)

theorem within_iff (t : List UInt8) (below : Bool) (hd : ∀ c ∈ t, isD c) (hh : 2 ≤ t.length → ∀ c r, t = c :: r → 49 ≤ c.toNat) : withinB t below = true ↔ dvalF 0 t ≤ mostN below := by
  have hm : 10 ^ 18 ≤ mostN below ∧ mostN below < 10 ^ 19 := by cases below <;> decide
  unfold withinB
  rw [Bool.or_eq_true, Bool.and_eq_true, Bool.or_eq_true, decide_eq_true_eq, decide_eq_true_eq, beq_iff_eq]
  rcases Nat.lt_trichotomy t.length 19 with h | h | h
  · have h1 := dval_lt t hd
    have h2 : 10 ^ t.length ≤ 10 ^ 18 := Nat.pow_le_pow_right (by decide) (by omega)
    constructor
    · intro _
      omega
    · intro _
      exact Or.inl h
  · have hlen : t.length = (mostL below).length := by rw [most_len, h]
    rw [less_dval t (mostL below) hlen hd (most_dig below), most_dval]
    constructor
    · rintro (h' | ⟨_, h' | h'⟩)
      · omega
      · omega
      · rw [h', most_dval]; exact Nat.le_refl _
    · intro hle
      refine Or.inr ⟨h, ?_⟩
      rcases Nat.lt_or_ge (dvalF 0 t) (mostN below) with hl | hg
      · exact Or.inl hl
      · refine Or.inr ?_
        have e : dvalF 0 t = dvalF 0 (mostL below) := by rw [most_dval]; omega
        have e1 := dec_dval 18 t h hd hh
        have e2 := dec_dval 18 (mostL below) (most_len below) (most_dig below) (by
          cases below <;> (intro _ c r hc; unfold mostL at hc; simp at hc; rw [← hc.1]; decide))
        rw [← e1, ← e2, e]
  · obtain ⟨c, r, rfl⟩ : ∃ c r, t = c :: r := by
      cases t with
      | nil => simp at h
      | cons c r => exact ⟨c, r, rfl⟩
    have h1 := dval_ge c r (hh (by omega) c r rfl)
    have h2 : 10 ^ 19 ≤ 10 ^ r.length := Nat.pow_le_pow_right (by decide) (by simp at h; omega)
    constructor
    · rintro (h' | h') <;> omega
    · intro _
      omega

end Go.Proofs.YtkhofbpgdkoonabDoor
