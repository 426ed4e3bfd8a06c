/-
  Maps as lists of bytes: lines, heads, rows; what a text is read as, and that a grid that is printed is read as it. No model in this text.
-/
import Derived.Test.YtkhofbpgdkoonabDoorNum
import Derived.Lib.IndexMore
namespace Go.Proofs.YtkhofbpgdkoonabDoor
open Go.Lib

/-- a text's first line, and what is behind its end -/
def cutL : List UInt8 → Option (List UInt8 × List UInt8)
  | [] => none
  | c :: r => if c = 10 then some ([], r) else match cutL r with | none => none | some p => some (c :: p.1, p.2)

theorem cutL_some : ∀ {s a b : List UInt8}, cutL s = some (a, b) → s = a ++ 10 :: b ∧ 10 ∉ a
  | [], _, _, h => by simp [cutL] at h
  | c :: r, a, b, h => by
    unfold cutL at h
    split at h
    · rename_i hc
      simp at h
      obtain ⟨rfl, rfl⟩ := h
      simp [hc]
    · rename_i hc
      split at h
      · cases h
      · rename_i p hp
        simp at h
        obtain ⟨rfl, rfl⟩ := h
        obtain ⟨e, hn⟩ := cutL_some (s := r) (a := p.1) (b := p.2) hp
        refine ⟨by rw [List.cons_append, ← e], ?_⟩
        simp only [List.mem_cons, not_or]
        exact ⟨fun h => hc h.symm, hn⟩

theorem cutL_none : ∀ {s : List UInt8}, cutL s = none → 10 ∉ s
  | [], _ => by simp
  | c :: r, h => by
    unfold cutL at h
    split at h
    · cases h
    · rename_i hc
      split at h
      · rename_i hr
        simp only [List.mem_cons, not_or]
        exact ⟨fun h => hc h.symm, cutL_none hr⟩
      · cases h

theorem cutL_mk (b : List UInt8) : ∀ (a : List UInt8), 10 ∉ a → cutL (a ++ 10 :: b) = some (a, b)
  | [], _ => by simp [cutL]
  | c :: r, h => by
    simp only [List.mem_cons, not_or] at h
    rw [List.cons_append]
    unfold cutL
    rw [if_neg (fun e => h.1 e.symm), cutL_mk b r h.2]

theorem cutL_not : ∀ (s : List UInt8), 10 ∉ s → cutL s = none
  | [], _ => rfl
  | c :: r, h => by
    simp only [List.mem_cons, not_or] at h
    unfold cutL
    rw [if_neg (fun e => h.1 e.symm), cutL_not r h.2]

theorem index_nl : ∀ (s : List UInt8), match cutL s with | none => index s [10] = -1 | some p => index s [10] = (p.1.length : Int)
  | [] => rfl
  | c :: r => by
    have ih := index_nl r
    unfold cutL
    by_cases hc : c = 10
    · rw [if_pos hc]
      subst hc
      simp [index]
    · rw [if_neg hc]
      have hp : List.isPrefixOf [10] (c :: r) = false := by
        simp [List.isPrefixOf]
        exact fun h => hc h.symm
      cases h : cutL r with
      | none =>
        rw [h] at ih
        simp only at ih ⊢
        unfold index
        rw [hp, ih]
        rfl
      | some p =>
        rw [h] at ih
        simp only at ih ⊢
        unfold index
        rw [hp, ih]
        have e : ((p.1.length : Int) == -1) = false := by
          rw [beq_eq_false_iff_ne]
          omega
        simp [e]

theorem cut_hit {s a b : List UInt8} (h : cutL s = some (a, b)) : cut s [10] = (a, b, true) := by
  have hi := index_nl s
  rw [h] at hi
  simp only at hi
  obtain ⟨e, _⟩ := cutL_some h
  unfold cut
  rw [hi, if_pos (by omega)]
  rw [e]
  simp

theorem cut_miss {s : List UInt8} (h : cutL s = none) : cut s [10] = (s, [], false) := by
  have hi := index_nl s
  rw [h] at hi
  simp only at hi
  unfold cut
  rw [hi, if_neg (by omega)]

/-! the words -/
def typeW : List UInt8 := [116, 121, 112, 101, 32, 111, 99, 116, 105, 108, 101]
def heightW : List UInt8 := [104, 101, 105, 103, 104, 116, 32]
def widthW : List UInt8 := [119, 105, 100, 116, 104, 32]
def mapW : List UInt8 := [109, 97, 112]

/-- a cell's byte: is it blocked? -/
def cellB (c : UInt8) : Option Bool :=
  if c = 46 ∨ c = 71 ∨ c = 83 then some false else if c = 64 ∨ c = 79 ∨ c = 84 ∨ c = 87 then some true else none
/-- a row's cells -/
def rowB : List UInt8 → Option (List Bool)
  | [] => some []
  | c :: r => match cellB c with
    | none => none
    | some b => match rowB r with
      | none => none
      | some l => some (b :: l)
/-- k rows of w cells, and nothing behind them -/
def rowsB (w : Nat) : Nat → List UInt8 → Option (List Bool)
  | 0, r => if r = [] then some [] else none
  | k + 1, r => match cutL r with
    | none => none
    | some p => if p.1.length = w then (match rowB p.1 with
      | none => none
      | some a => match rowsB w k p.2 with
        | none => none
        | some l => some (a ++ l)) else none

theorem rowB_len : ∀ {l : List UInt8} {a : List Bool}, rowB l = some a → a.length = l.length
  | [], a, h => by simp [rowB] at h; subst h; rfl
  | c :: r, a, h => by
    unfold rowB at h
    split at h
    · cases h
    · split at h
      · cases h
      · rename_i b _ l hl
        simp at h
        subst h
        simp [rowB_len hl]

theorem rowsB_len {w : Nat} : ∀ {k : Nat} {r : List UInt8} {a : List Bool}, rowsB w k r = some a → a.length = k * w
  | 0, r, a, h => by
    unfold rowsB at h
    split at h
    · simp at h
      subst h
      simp
    · cases h
  | k + 1, r, a, h => by
    unfold rowsB at h
    split at h
    · cases h
    · split at h
      · rename_i p _ hw
        split at h
        · cases h
        · rename_i x hx
          split at h
          · cases h
          · rename_i l hl
            simp at h
            subst h
            rw [List.length_append, rowB_len hx, hw, rowsB_len hl, Nat.succ_mul]
            omega
      · cases h

/-- what a text is read as: a fault, or a grid and its cells -/
inductive Read where
  | bad (n : Nat)
  | good (W H : Nat) (cs : List Bool)

/-- the four lines ahead, and the rest -/
def cut4 (s : List UInt8) : Option (List UInt8 × List UInt8 × List UInt8 × List UInt8 × List UInt8) :=
  match cutL s with
  | none => none
  | some (a, s1) => match cutL s1 with
    | none => none
    | some (b, s2) => match cutL s2 with
      | none => none
      | some (c, s3) => match cutL s3 with
        | none => none
        | some (d, s4) => some (a, b, c, d, s4)

/-- the size that four lines tell -/
def sizeOf4 (a b c d : List UInt8) : Option (Int × Int) :=
  match numOf b heightW with
  | none => none
  | some h => match numOf c widthW with
    | none => none
    | some w => if a = typeW ∧ d = mapW then some (w, h) else none

def sideN (n : Int) : Bool := decide (1 ≤ n ∧ n ≤ 16)

def readOf (s : List UInt8) : Read :=
  if 1000 < s.length then .bad 2 else match cut4 s with
  | none => .bad 3
  | some (a, b, c, d, r) => match sizeOf4 a b c d with
    | none => .bad 3
    | some (w, h) => if sideN w = true ∧ sideN h = true then (match rowsB w.toNat h.toNat r with
      | none => .bad 3
      | some cs => .good w.toNat h.toNat cs) else .bad 1

/-- what is printed of a cell -/
def byteL (b : Bool) : UInt8 := if b then 64 else 46
/-- the row from cell c on -/
def rowL (bl : Nat → Bool) (c w : Nat) : List UInt8 := (List.range w).map fun x => byteL (bl (c + x))
/-- the first k rows -/
def rowsL (bl : Nat → Bool) (w : Nat) : Nat → List UInt8
  | 0 => []
  | k + 1 => rowsL bl w k ++ (rowL bl (k * w) w ++ [10])
def headL (w h : Int) : List UInt8 := typeW ++ ([10] ++ ((heightW ++ itoa h) ++ ([10] ++ ((widthW ++ itoa w) ++ ([10] ++ (mapW ++ [10]))))))
def printL (bl : Nat → Bool) (w h : Nat) : List UInt8 := headL w h ++ rowsL bl w h

theorem byteL_ne (b : Bool) : byteL b ≠ 10 := by cases b <;> decide
theorem cellB_byteL (b : Bool) : cellB (byteL b) = some b := by cases b <;> decide
theorem rowB_map (f : Nat → Bool) : ∀ (l : List Nat), rowB (l.map fun x => byteL (f x)) = some (l.map f)
  | [] => rfl
  | x :: l => by
    simp only [List.map_cons, rowB, cellB_byteL, rowB_map f l]
theorem rowL_nl (bl : Nat → Bool) (c w : Nat) : 10 ∉ rowL bl c w := by
  unfold rowL
  intro h
  obtain ⟨x, _, hx⟩ := List.mem_map.1 h
  exact byteL_ne _ hx
theorem rowL_len (bl : Nat → Bool) (c w : Nat) : (rowL bl c w).length = w := by simp [rowL]

/-- the rows from row j on -/
def rowsFrom (bl : Nat → Bool) (w : Nat) : Nat → Nat → List UInt8
  | 0, _ => []
  | k + 1, j => rowL bl (j * w) w ++ 10 :: rowsFrom bl w k (j + 1)
theorem rowsFrom_snoc (bl : Nat → Bool) (w : Nat) : ∀ (k j : Nat), rowsFrom bl w (k + 1) j = rowsFrom bl w k j ++ (rowL bl ((j + k) * w) w ++ [10])
  | 0, j => by simp [rowsFrom]
  | k + 1, j => by
    rw [rowsFrom, rowsFrom_snoc bl w k (j + 1), rowsFrom]
    rw [show j + 1 + k = j + (k + 1) by omega]
    simp
theorem rowsL_from (bl : Nat → Bool) (w : Nat) : ∀ (k : Nat), rowsL bl w k = rowsFrom bl w k 0
  | 0 => rfl
  | k + 1 => by rw [rowsL, rowsFrom_snoc, rowsL_from bl w k, Nat.zero_add]

theorem range_at (c w : Nat) (bl : Nat → Bool) (n : Nat) : (List.range w).map (fun x => bl (c + x)) ++ (List.range n).map (fun i => bl (c + w + i)) = (List.range (w + n)).map fun i => bl (c + i) := by
  rw [List.range_add, List.map_append, List.map_map]
  congr 1
  refine List.map_congr_left fun i _ => ?_
  simp [Nat.add_assoc]

theorem rowsB_from (bl : Nat → Bool) (w : Nat) : ∀ (k j : Nat), rowsB w k (rowsFrom bl w k j) = some ((List.range (k * w)).map fun i => bl (j * w + i))
  | 0, j => by simp [rowsFrom, rowsB]
  | k + 1, j => by
    unfold rowsB rowsFrom
    rw [cutL_mk _ _ (rowL_nl _ _ _)]
    simp only
    rw [if_pos (rowL_len _ _ _)]
    have e : rowB (rowL bl (j * w) w) = some ((List.range w).map fun x => bl (j * w + x)) := rowB_map _ _
    rw [e, rowsB_from bl w k (j + 1)]
    simp only
    congr 1
    rw [Nat.succ_mul, Nat.succ_mul, Nat.add_comm (k * w) w, ← range_at (j * w) w bl (k * w)]

theorem itoa_nl (v : Int) : 10 ∉ itoa v := by
  have hd : ∀ n, 10 ∉ decDigits n := fun n h => by
    have := dec_dig n 10 h
    unfold isD at this
    simp at this
  unfold itoa
  split
  · simp only [List.mem_cons, not_or]
    exact ⟨by decide, hd _⟩
  · exact hd _

theorem itoa_len (v : Int) (h0 : 1 ≤ v) (h1 : v ≤ 16) : (itoa v).length ≤ 2 := by
  unfold itoa
  rw [if_neg (by omega), decDigits_length]
  have : nDigits v.toNat ≤ 2 := by
    by_cases h : v.toNat < 10
    · rw [nDigits_small h]; omega
    · rw [nDigits_big h, nDigits_small (by omega)]; omega
  exact this

theorem rowsFrom_len (bl : Nat → Bool) (w : Nat) : ∀ (k j : Nat), (rowsFrom bl w k j).length = k * (w + 1)
  | 0, _ => by simp [rowsFrom]
  | k + 1, j => by
    rw [rowsFrom, List.length_append, List.length_cons, rowsFrom_len bl w k, rowL_len, Nat.succ_mul]
    omega

theorem print_len (bl : Nat → Bool) (w h : Nat) (w1 : 1 ≤ w) (w2 : w ≤ 16) (h1 : 1 ≤ h) (h2 : h ≤ 16) : (printL bl w h).length ≤ 1000 := by
  have a := itoa_len w (by omega) (by omega)
  have b := itoa_len h (by omega) (by omega)
  have c : h * (w + 1) ≤ 16 * 17 := Nat.mul_le_mul h2 (by omega)
  unfold printL headL
  rw [rowsL_from]
  simp only [List.length_append, rowsFrom_len]
  simp [typeW, heightW, widthW, mapW]
  omega

theorem head_cut (w h : Int) (r : List UInt8) : cut4 (headL w h ++ r) = some (typeW, heightW ++ itoa h, widthW ++ itoa w, mapW, r) := by
  have n1 : 10 ∉ typeW := by decide
  have n2 : 10 ∉ heightW ++ itoa h := by
    rw [List.mem_append]
    exact fun hh => hh.elim (by decide) (itoa_nl h)
  have n3 : 10 ∉ widthW ++ itoa w := by
    rw [List.mem_append]
    exact fun hh => hh.elim (by decide) (itoa_nl w)
  have n4 : 10 ∉ mapW := by decide
  have e : headL w h ++ r = typeW ++ 10 :: ((heightW ++ itoa h) ++ 10 :: ((widthW ++ itoa w) ++ 10 :: (mapW ++ 10 :: r))) := by
    unfold headL
    simp
  unfold cut4
  rw [e, cutL_mk _ _ n1]
  simp only
  rw [cutL_mk _ _ n2]
  simp only
  rw [cutL_mk _ _ n3]
  simp only
  rw [cutL_mk _ _ n4]

theorem size_head (w h : Int) (w1 : -9223372036854775808 ≤ w) (w2 : w ≤ 9223372036854775807) (h1 : -9223372036854775808 ≤ h) (h2 : h ≤ 9223372036854775807) : sizeOf4 typeW (heightW ++ itoa h) (widthW ++ itoa w) mapW = some (w, h) := by
  unfold sizeOf4
  rw [(numOf_iff (v := h)).2 ⟨rfl, h1, h2⟩]
  simp only
  rw [(numOf_iff (v := w)).2 ⟨rfl, w1, w2⟩]
  simp

theorem sizeOf4_some {a b c d : List UInt8} {w h : Int} (e : sizeOf4 a b c d = some (w, h)) : a = typeW ∧ b = heightW ++ itoa h ∧ c = widthW ++ itoa w ∧ d = mapW ∧ numOf b heightW = some h ∧ numOf c widthW = some w := by
  unfold sizeOf4 at e
  split at e
  · cases e
  · rename_i h' hh
    split at e
    · cases e
    · rename_i w' hw
      split at e
      · rename_i hc
        simp at e
        obtain ⟨rfl, rfl⟩ := e
        exact ⟨hc.1, (numOf_iff.1 hh).1, (numOf_iff.1 hw).1, hc.2, hh, hw⟩
      · cases e

/-- what is printed of a grid is read as it -/
theorem read_print (bl : Nat → Bool) (w h : Nat) (w1 : 1 ≤ w) (w2 : w ≤ 16) (h1 : 1 ≤ h) (h2 : h ≤ 16) : readOf (printL bl w h) = .good w h ((List.range (h * w)).map bl) := by
  have hl := print_len bl w h w1 w2 h1 h2
  unfold readOf
  rw [if_neg (by omega)]
  unfold printL
  rw [head_cut]
  simp only
  rw [size_head w h (by omega) (by omega) (by omega) (by omega)]
  simp only
  rw [if_pos ⟨decide_eq_true (by omega), decide_eq_true (by omega)⟩]
  rw [Int.toNat_natCast, Int.toNat_natCast, rowsL_from, rowsB_from]
  simp

theorem read_good {s : List UInt8} {w h : Nat} {cs : List Bool} (e : readOf s = .good w h cs) : 1 ≤ w ∧ w ≤ 16 ∧ 1 ≤ h ∧ h ≤ 16 ∧ cs.length = h * w := by
  unfold readOf at e
  split at e
  · cases e
  · split at e
    · cases e
    · split at e
      · cases e
      · split at e
        · rename_i hs
          unfold sideN at hs
          rw [decide_eq_true_eq, decide_eq_true_eq] at hs
          obtain ⟨a, b⟩ := hs
          split at e
          · cases e
          · rename_i hr
            injection e with e1 e2 e3
            subst e1 e2 e3
            have := rowsB_len hr
            exact ⟨by omega, by omega, by omega, by omega, this⟩
        · cases e

end Go.Proofs.YtkhofbpgdkoonabDoor
