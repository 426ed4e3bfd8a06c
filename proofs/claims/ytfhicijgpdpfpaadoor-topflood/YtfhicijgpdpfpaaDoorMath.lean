/-
  The plain arithmetic of costs: which of two sums of straight and diagonal steps is less, held by squares, is which of two whole numbers is less; no Go in sight.
-/
import Derived.WalkKit
namespace Go.Proofs.YtfhicijgpdpfpaaDoor

/-- a square that keeps its number's sign -/
def sqs (n : Int) : Int := if n < 0 then -n * n else n * n
/-- -1, 0 or 1 -/
def cmpI (a b : Int) : Int := if a < b then -1 else if b < a then 1 else 0
/-- two costs -/
def cmpC (s d t e : Int) : Int := cmpI (sqs (s - t)) (2 * sqs (e - d))
/-- a cost as one whole number: 54608393 / 38613965 is so near the root of 2 that no two costs are mistaken -/
def val (s d : Int) : Int := 38613965 * s + 54608393 * d

theorem mul_self_nonneg (n : Int) : 0 ≤ n * n := by
  rcases Int.le_total 0 n with h | h
  · exact Int.mul_nonneg h h
  · exact Int.mul_nonneg_of_nonpos_of_nonpos h h

theorem mul_self_bd (n : Int) (h1 : -2097152 ≤ n) (h2 : n ≤ 2097152) : 0 ≤ n * n ∧ n * n ≤ 4398046511104 := by
  refine ⟨mul_self_nonneg n, ?_⟩
  rcases Int.le_total 0 n with h | h
  · have := Int.mul_le_mul_of_nonneg_right h2 h
    omega
  · have := Int.mul_le_mul_of_nonpos_right h1 h
    omega

theorem sqs_bd (n : Int) (h1 : -2097152 ≤ n) (h2 : n ≤ 2097152) : -4398046511104 ≤ sqs n ∧ sqs n ≤ 4398046511104 := by
  have := mul_self_bd n h1 h2
  unfold sqs
  have e : -n * n = -(n * n) := Int.neg_mul n n
  split <;> omega

theorem sqs_pos (n : Int) (h : 0 ≤ n) : sqs n = n * n := by unfold sqs; rw [if_neg (by omega)]
theorem sqs_neg (n : Int) : sqs (-n) = -sqs n := by
  unfold sqs
  have e1 : -n * n = -(n * n) := Int.neg_mul n n
  have e2 : - -n * -n = -(n * n) := by rw [Int.neg_neg, Int.mul_neg]
  have e3 : -n * -n = n * n := by rw [Int.neg_mul, Int.mul_neg, Int.neg_neg]
  split
  · split
    · omega
    · omega
  · split
    · omega
    · have : n = 0 := by omega
      subst this; rfl

theorem sq_mul (k x : Int) : k * x * (k * x) = k * k * (x * x) := by
  rw [Int.mul_assoc, Int.mul_assoc, Int.mul_left_comm x k x]
theorem sq_p (y : Int) : 54608393 * y * (54608393 * y) = 2982076586042449 * (y * y) := by
  rw [sq_mul]; rfl
theorem sq_q (y : Int) : 38613965 * y * (38613965 * y) = 1491038293021225 * (y * y) := by
  rw [sq_mul]; rfl

theorem sq_le (a b : Int) (h0 : 0 ≤ a) (h : a ≤ b) : a * a ≤ b * b := Int.mul_le_mul h h h0 (by omega)

/-- both not below 0 -/
theorem pos_lt (x y : Int) (hx : 0 ≤ x) (hy : 0 ≤ y) (hq : y < 38613965) : x * x < 2 * (y * y) ↔ 38613965 * x < 54608393 * y := by
  constructor
  · intro h
    by_cases g : 38613965 * x < 54608393 * y
    · exact g
    · have g : 54608393 * y ≤ 38613965 * x := by omega
      have k := sq_le (54608393 * y) (38613965 * x) (by omega) g
      have e1 := sq_p y
      have e2 := sq_q x
      have k2 := sq_le y 38613964 hy (by omega)
      have e3 : (38613964 * 38613964 : Int) = 1491038215793296 := by decide
      rw [e1, e2] at k
      rw [e3] at k2
      clear e1 e2 e3 g hx hy hq
      generalize x * x = X at *
      generalize y * y = Y at *
      omega
  · intro g
    have hlt : 38613965 * x + 1 ≤ 54608393 * y := by omega
    have k := sq_le (38613965 * x) (54608393 * y) (by omega) (by omega)
    have e1 := sq_p y
    have e2 := sq_q x
    have hy1 : 1 ≤ y := by omega
    have k3 := sq_le 1 y (by omega) hy1
    rw [e1, e2] at k
    clear e1 e2 g hx hy hq hlt hy1
    generalize x * x = X at *
    generalize y * y = Y at *
    omega

theorem no_mid (x y : Int) (h : 38613965 * x = 54608393 * y) (h1 : -38613965 < y) (h2 : y < 38613965) : x = 0 ∧ y = 0 := by
  have e0 : 54608393 * (38613965 * x) = 54608393 * (54608393 * y) := by rw [h]
  have e : y = 38613965 * (77227930 * y - 54608393 * x) := by
    rw [Int.mul_sub, ← Int.mul_assoc, ← Int.mul_assoc]
    rw [← Int.mul_assoc, ← Int.mul_assoc] at e0
    have n1 : (54608393 * 38613965 : Int) = 2108646576008245 := by decide
    have n2 : (54608393 * 54608393 : Int) = 2982076586042449 := by decide
    have n3 : (38613965 * 77227930 : Int) = 2982076586042450 := by decide
    have n4 : (38613965 * 54608393 : Int) = 2108646576008245 := by decide
    rw [n1, n2] at e0
    rw [n3, n4, e0]
    clear e0 h n1 n2 n3 n4
    omega
  have hy : y = 0 := by
    clear e0 h
    generalize 77227930 * y - 54608393 * x = k at e
    omega
  subst hy
  exact ⟨by clear e e0; omega, rfl⟩

theorem sq_zero (n : Int) (h : n * n = 0) : n = 0 := by
  rcases Int.mul_eq_zero.mp h with h | h <;> exact h

theorem pos_gt (x y : Int) (hx : 0 ≤ x) (hy : 0 ≤ y) (hq : y < 38613965) : 2 * (y * y) < x * x ↔ 54608393 * y < 38613965 * x := by
  have h := pos_lt x y hx hy hq
  constructor
  · intro g
    rcases Int.lt_trichotomy (38613965 * x) (54608393 * y) with k | k | k
    · have := h.mpr k; omega
    · obtain ⟨rfl, rfl⟩ := no_mid x y k (Int.lt_of_lt_of_le (by decide) hy) hq
      clear k; omega
    · exact k
  · intro g
    rcases Int.lt_trichotomy (x * x) (2 * (y * y)) with k | k | k
    · have := h.mp k; omega
    · exfalso
      have k1 := sq_le (54608393 * y + 1) (38613965 * x) (by omega) (by omega)
      have e2 := sq_q x
      have e1 : (54608393 * y + 1) * (54608393 * y + 1) = 2982076586042449 * (y * y) + 109216786 * y + 1 := by
        have := sq_p y
        rw [Int.add_mul, Int.mul_add, this]; omega
      rw [e1, e2] at k1
      have k2 : y * y ≤ 38613964 * y := Int.mul_le_mul_of_nonneg_right (by omega) hy
      clear e1 e2 g hx h
      generalize x * x = X at *
      generalize y * y = Y at *
      omega
    · exact k

/-- any signs -/
theorem any_lt (x y : Int) (h1 : -38613965 < y) (h2 : y < 38613965) : sqs x < 2 * sqs y ↔ 38613965 * x < 54608393 * y := by
  have ex := mul_self_nonneg x
  have ey := mul_self_nonneg y
  have nx : -x * x = -(x * x) := Int.neg_mul x x
  have ny : -y * y = -(y * y) := Int.neg_mul y y
  have mx : -x * -x = x * x := by rw [Int.neg_mul, Int.mul_neg, Int.neg_neg]
  have my : -y * -y = y * y := by rw [Int.neg_mul, Int.mul_neg, Int.neg_neg]
  unfold sqs
  by_cases hx : x < 0 <;> by_cases hy : y < 0
  · rw [if_pos hx, if_pos hy]
    have := pos_gt (-x) (-y) (by omega) (by omega) (by omega)
    rw [mx, my] at this
    constructor
    · intro g; have := this.mp (by omega); omega
    · intro g; have := this.mpr (by omega); omega
  · rw [if_pos hx, if_neg hy]
    constructor
    · intro _; omega
    · intro _
      by_cases g : 0 < x * x
      · omega
      · have := sq_zero x (by omega); omega
  · rw [if_neg hx, if_pos hy]
    constructor
    · intro _; omega
    · intro _; omega
  · rw [if_neg hx, if_neg hy]
    exact pos_lt x y (by omega) (by omega) h2

theorem any_gt (x y : Int) (h1 : -38613965 < y) (h2 : y < 38613965) : 2 * sqs y < sqs x ↔ 54608393 * y < 38613965 * x := by
  have h := any_lt (-x) (-y) (by omega) (by omega)
  rw [sqs_neg, sqs_neg] at h
  constructor
  · intro g; have := h.mp (by omega); omega
  · intro g; have := h.mpr (by omega); omega

theorem cmpC_val (s d t u : Int) (h1 : -38613965 < u - d) (h2 : u - d < 38613965) : cmpC s d t u = cmpI (val s d) (val t u) := by
  have a := any_lt (s - t) (u - d) h1 h2
  have b := any_gt (s - t) (u - d) h1 h2
  unfold cmpC cmpI val
  have a' : (sqs (s - t) < 2 * sqs (u - d)) = (38613965 * s + 54608393 * d < 38613965 * t + 54608393 * u) := by
    rw [propext a]; apply propext; constructor <;> intro _ <;> omega
  have b' : (2 * sqs (u - d) < sqs (s - t)) = (38613965 * t + 54608393 * u < 38613965 * s + 54608393 * d) := by
    rw [propext b]; apply propext; constructor <;> intro _ <;> omega
  simp only [a', b']

theorem shift (a b c d : Int) (h : a + b = c + d) : a - c = d - b := by omega

theorem val_inj (s d t u : Int) (h1 : -38613965 < u - d) (h2 : u - d < 38613965) (h : val s d = val t u) : s = t ∧ d = u := by
  unfold val at h
  have := no_mid (s - t) (u - d) (by rw [Int.mul_sub, Int.mul_sub]; exact shift _ _ _ _ h) h1 h2
  clear h
  omega

theorem cmpI_neg (a b : Int) : cmpI a b < 0 ↔ a < b := by
  unfold cmpI
  split
  · omega
  · split <;> omega
theorem cmpI_zero (a b : Int) : cmpI a b = 0 ↔ a = b := by
  unfold cmpI
  split
  · omega
  · split <;> omega
theorem cmpI_swap (a b : Int) : cmpI b a = -cmpI a b := by
  unfold cmpI
  split <;> split <;> first | omega | (split <;> omega) | rfl
theorem cmpI_add (a b c : Int) : cmpI (a + c) (b + c) = cmpI a b := by
  unfold cmpI
  have e1 : (a + c < b + c) = (a < b) := by apply propext; omega
  have e2 : (b + c < a + c) = (b < a) := by apply propext; omega
  simp only [e1, e2]
theorem cmpI_cases (a b : Int) : cmpI a b = -1 ∨ cmpI a b = 0 ∨ cmpI a b = 1 := by
  unfold cmpI
  split
  · simp
  · split <;> simp
end Go.Proofs.YtfhicijgpdpfpaaDoor
