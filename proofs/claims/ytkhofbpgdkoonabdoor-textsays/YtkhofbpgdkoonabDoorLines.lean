/-
  The reference's lines of a text.
-/
import Derived.Test.YtkhofbpgdkoonabDoorParse
import Derived.Test.YtkhofbpgdkoonabDoorRead
import Derived.Test.YtkhofbpgdkoonabDoorHeaded
import Derived.Deep.LoopGhost
namespace Go.Proofs.YtkhofbpgdkoonabDoor
open Go.RowKit

/-- a text's lines, each with its end; what is behind the last end -/
def lnsL : List UInt8 → List (List UInt8) × List UInt8
  | [] => ([], [])
  | c :: r => if c = 10 then ([] :: (lnsL r).1, (lnsL r).2) else match lnsL r with
    | ([], x) => ([], c :: x)
    | (a :: l, x) => ((c :: a) :: l, x)
theorem lnsL_app (b : List UInt8) : ∀ (a : List UInt8), 10 ∉ a → lnsL (a ++ 10 :: b) = (a :: (lnsL b).1, (lnsL b).2)
  | [], _ => by simp [lnsL]
  | c :: r, h => by
    simp only [List.mem_cons, not_or] at h
    rw [List.cons_append]
    simp only [lnsL, lnsL_app b r h.2]
    rw [if_neg (fun e => h.1 e.symm)]
theorem lnsL_no : ∀ (s : List UInt8), 10 ∉ s → lnsL s = ([], s)
  | [], _ => rfl
  | c :: r, h => by
    simp only [List.mem_cons, not_or] at h
    unfold lnsL
    rw [if_neg (fun e => h.1 e.symm), lnsL_no r h.2]
theorem lnsL_cut (s : List UInt8) : lnsL s = match cutL s with | none => ([], s) | some p => (p.1 :: (lnsL p.2).1, (lnsL p.2).2) := by
  cases h : cutL s with
  | none => exact lnsL_no s (cutL_none h)
  | some p =>
    obtain ⟨e, hn⟩ := cutL_some (a := p.1) (b := p.2) h
    conv => lhs; rw [e]
    exact lnsL_app p.2 p.1 hn

/-- lines as values -/
def svals (ls : List (List UInt8)) : List Value := ls.map fun l => Value.string (str l)

theorem infoStr : (Tryd.prog.info? 9).map (fun i => (i.zero, i.size, i.bytes)) = some (some (.string ⟨#[]⟩), 1, 16) := by kernel_rfl

theorem mid_drop {s : List UInt8} {f j : Nat} (hf : f ≤ j) (hj : j < s.length) : s.drop f = (s.drop f).take (j - f) ++ s[j] :: s.drop (j + 1) := by
  have h1 : (s.drop f).drop (j - f) = s.drop j := by
    rw [List.drop_drop]
    congr 1
    omega
  have h2 : s.drop j = s[j] :: s.drop (j + 1) := List.drop_eq_getElem_cons hj
  rw [← h2, ← h1, List.take_append_drop]
theorem take_more {s : List UInt8} {f j : Nat} (hf : f ≤ j) (hj : j < s.length) : (s.drop f).take (j + 1 - f) = (s.drop f).take (j - f) ++ [s[j]] := by
  rw [show j + 1 - f = (j - f) + 1 by omega, List.take_add_one, List.getElem?_drop, show f + (j - f) = j by omega, List.getElem?_eq_getElem hj]
  rfl
theorem ext_mid (s : List UInt8) (f j : Nat) : (str s).extract f j = str ((s.drop f).take (j - f)) := by
  rw [Lib.extract_eq, str_data]
  rfl

set_option maxHeartbeats 4000000 in
set_option maxRecDepth 1000000 in
theorem lines_any (s : List UInt8) (hs : s.length ≤ 1000) (w : World) :
    Calls Tryd.prog 30 #[.string (str s)] w fun e w' => ∃ v, e = .returned (.tuple #[v, .string (str (lnsL s).2)]) ∧ w'.ownsRow w.heap.size 9 1 v (lnsL s).1.length (svals (lnsL s).1) ∧ Below w.heap.size w w' := by
  obtain ⟨i0, hi, hz⟩ := Option.map_eq_some_iff.1 infoStr
  simp only [Prod.mk.injEq] at hz
  obtain ⟨hz0, hz1, hz2⟩ := hz
  have hsz := str_size s
  go_enter Tryd.func30, Tryd.ntmps30
  go_wp2
  go_loopw [4, 5, 6] (fun l f i wr => ∃ (j from_ : Nat) (ls : List (List UInt8)), j ≤ s.length ∧ from_ ≤ j ∧ ls.length ≤ from_ ∧ i = .int .i64 j ∧ f = .int .i64 from_ ∧ 10 ∉ (s.drop from_).take (j - from_) ∧ lnsL s = (ls ++ (lnsL (s.drop from_)).1, (lnsL (s.drop from_)).2) ∧
      wr.ownsRow w.heap.size 9 1 l ls.length (svals ls) ∧ Below w.heap.size w wr)
    (fun _ _ i _ => s.length - (intOf i).toNat)
  case atStart => exact ⟨0, 0, [], by omega, by omega, by simp, rfl, rfl, by simp, by simp, ⟨by simp [svals], .inl ⟨rfl, rfl⟩⟩, Below.refl _ _⟩
  case round =>
    obtain ⟨j, f, ls, hj, hf, hll, rfl, rfl, hn, hL, hown, hB⟩ := hrel
    have hbs := hB.size
    by_cases hlt : j < s.length
    · have hix := idx_str s j hlt
      have hmd := mid_drop hf hlt
      have htm := take_more hf hlt
      have j1 : (0 : Int) ≤ (j : Int) ∧ (j : Int) < (s.length : Int) := by omega
      generalize s[j] = c at hix hmd htm
      by_cases hc : c = 10
      · subst hc
        have hx := ext_mid s f j
        have hnx : lnsL s = ((ls ++ [(s.drop f).take (j - f)]) ++ (lnsL (s.drop (j + 1))).1, (lnsL (s.drop (j + 1))).2) := by
          have h2 : lnsL (s.drop f) = ((s.drop f).take (j - f) :: (lnsL (s.drop (j + 1))).1, (lnsL (s.drop (j + 1))).2) := by
            conv => lhs; rw [hmd]
            exact lnsL_app _ _ hn
          rw [hL, h2]
          simp
        have hll2 : ls.length + 1 ≤ j + 1 := by omega
        generalize (s.drop f).take (j - f) = l at hx hnx
        have HL : Hid (lnsL s = ((ls ++ [l]) ++ (lnsL (s.drop (j + 1))).1, (lnsL (s.drop (j + 1))).2)) := hnx
        have f1 : (0 : Int) ≤ (f : Int) ∧ (f : Int) ≤ (j : Int) ∧ (j : Int) ≤ (s.length : Int) := by omega
        clear hnx hL hn hmd htm
        go_wp2_with (at_builtin; refine wpList_append_own _ rfl _ _ 73 rfl w.heap.size 9 i0 (.string ⟨#[]⟩) 1 16 Tryd.underlying73 hi hz0 hz1 hz2 rfl (by decide) _ _ _ rfl (hown.alloc _) ⟨wr.heap.size, 0, none⟩ 1 1 [.string (str l)] rfl rfl ?c1 ?c2 ?c3 ?c4 ?c5 ?_)
        case c1 => exact cell_one_new _ _ _
        case c2 => intro u hu; simp at hu; subst hu; rfl
        case c3 => unfold maxLen; omega
        case c4 => omega
        case c5 => simp; omega
        intro v' w1 hown' hgrow _
        have hbase := fun q hq => (hown.lt q hq).1
        have B1 : Below w.heap.size w w1 := (hB.alloc hbs _).grown hgrow (by simp; omega) hbase
        have O1 : w1.ownsRow w.heap.size 9 1 v' (ls ++ [l]).length (svals (ls ++ [l])) := by simpa [svals] using hown'
        clear hown' hgrow hown hB
        go_wp2
        go_roundw
        case rel => exact ⟨j + 1, j + 1, ls ++ [l], by omega, by omega, by simp; omega, by go_num, by go_num, by simp, HL.out, O1, B1⟩
        case measure => simp [intOf]; omega
      · have hc1 : ((c.toNat : Int) == 10) = false := by
          rw [beq_eq_false_iff_ne]
          intro e
          exact hc (UInt8.toNat_inj.1 (by show c.toNat = 10; omega))
        have hn2 : 10 ∉ (s.drop f).take (j + 1 - f) := by
          rw [htm, List.mem_append]
          rintro (h | h)
          · exact hn h
          · exact hc (List.mem_singleton.1 h).symm
        have HN : Hid (10 ∉ (s.drop f).take (j + 1 - f)) := hn2
        have HL : Hid (lnsL s = (ls ++ (lnsL (s.drop f)).1, (lnsL (s.drop f)).2)) := hL
        clear hn2 hL hn hmd htm
        go_wp2
        go_roundw
        case rel => exact ⟨j + 1, f, ls, by omega, by omega, hll, by go_num, rfl, HN.out, HL.out, hown, hB⟩
        case measure => simp [intOf]; omega
    · have hjl : j = s.length := by omega
      subst hjl
      have hnn : 10 ∉ s.drop f := by
        rw [List.take_of_length_le (by simp)] at hn
        exact hn
      rw [lnsL_no _ hnn] at hL
      simp only [List.append_nil] at hL
      have hx := ext_drop s f
      have HL : Hid (lnsL s = (ls, s.drop f)) := hL
      have f1 : (0 : Int) ≤ (f : Int) ∧ (f : Int) ≤ (s.length : Int) := by omega
      clear hL hn hnn
      go_wp2
      go_quiet (fail)
      go_wp2
      go_ret2
      exact ⟨_, by rw [HL.out]; rfl, by rw [HL.out]; exact hown, below_drewN hB _⟩
end Go.Proofs.YtkhofbpgdkoonabDoor
