/-
  Labels of cells in two arrays, as the reference's flood keeps them.
-/
import Derived.Test.YtddbmkgmmhppnabDoorWalkR
import Derived.Test.YtddbmkgmmhppnabDoorRefM
import Derived.Test.YtddbmkgmmhppnabDoorCopy
import Derived.Deep.MidRow
namespace Go.Proofs.YtddbmkgmmhppnabDoor
open Go.RowKit

/-- an empty array of costs -/
def zC : Array Value := (List.replicate 512 (Value.int .i64 0)).toArray
/-- .. and of bools -/
def zB : Array Value := (List.replicate 256 (Value.bool false)).toArray
theorem run_alloc54 (w : World) : (Instr.alloc 54 true (.tuple #[])).run Tryd.prog w = .ok (.pointer (some ⟨w.heap.size, 0, none⟩)) (w.alloc (.cells zC 54)) := by kernel_rfl
theorem run_alloc55 (w : World) : (Instr.alloc 55 true (.tuple #[])).run Tryd.prog w = .ok (.pointer (some ⟨w.heap.size, 0, none⟩)) (w.alloc (.cells zB 55)) := by kernel_rfl
theorem wpList_alloc54 {ops : Array Oper} {rest : List Oper} {o : Oper} {a : Act} {w : World} {Q : Exit → Act → World → Prop} (hgd : o.guard = none) (ho : o.op = .alloc 54)
    (h : wpList Tryd.prog ops Q rest (a.put o.dst (.pointer (some ⟨w.heap.size, 0, none⟩))) (w.alloc (.cells zC 54))) : wpList Tryd.prog ops Q (o :: rest) a w :=
  wpList_plain hgd fun _ hK => by
    unfold Oper.wp execOp
    simp only [ho, Sem.run_bind, run_alloc54 w, Result.andThen_ok]
    exact hK _ _ h
theorem wpList_alloc55 {ops : Array Oper} {rest : List Oper} {o : Oper} {a : Act} {w : World} {Q : Exit → Act → World → Prop} (hgd : o.guard = none) (ho : o.op = .alloc 55)
    (h : wpList Tryd.prog ops Q rest (a.put o.dst (.pointer (some ⟨w.heap.size, 0, none⟩))) (w.alloc (.cells zB 55))) : wpList Tryd.prog ops Q (o :: rest) a w :=
  wpList_plain hgd fun _ hK => by
    unfold Oper.wp execOp
    simp only [ho, Sem.run_bind, run_alloc55 w, Result.andThen_ok]
    exact hK _ _ h

/-- what a label says; nothing: zero -/
def labS (F : Int → Option (Int × Int)) (a : Int) : Int := match F a with | some c => c.1 | none => 0
def labD (F : Int → Option (Int × Int)) (a : Int) : Int := match F a with | some c => c.2 | none => 0
theorem lab_some {F : Int → Option (Int × Int)} {a s d : Int} (h : F a = some (s, d)) : labS F a = s ∧ labD F a = d := by unfold labS labD; rw [h]; exact ⟨rfl, rfl⟩
theorem lab_none {F : Int → Option (Int × Int)} {a : Int} (h : F a = none) : labS F a = 0 ∧ labD F a = 0 := by unfold labS labD; rw [h]; exact ⟨rfl, rfl⟩
theorem putH_same (F : Int → Option (Int × Int)) (a s d : Int) : putH F a s d a = some (s, d) := if_pos rfl
theorem putH_other (F : Int → Option (Int × Int)) {a i : Int} (s d : Int) (h : i ≠ a) : putH F a s d i = F i := if_neg h
theorem lab_put (F : Int → Option (Int × Int)) (a s d : Int) : labS (putH F a s d) a = s ∧ labD (putH F a s d) a = d := lab_some (putH_same F a s d)
theorem lab_other (F : Int → Option (Int × Int)) {a i : Int} (s d : Int) (h : i ≠ a) : labS (putH F a s d) i = labS F i ∧ labD (putH F a s d) i = labD F i := by
  unfold labS labD; rw [putH_other F s d h]; exact ⟨rfl, rfl⟩

/-- labels lie in blocks cb and ib -/
structure LabAt (w : World) (cb ib : Nat) (F : Int → Option (Int × Int)) : Prop where
  c0 : ∀ a : Nat, a < 256 → w.cell? ⟨cb, a * 2, none⟩ = some (.int .i64 (labS F a))
  c1 : ∀ a : Nat, a < 256 → w.cell? ⟨cb, a * 2 + 1, none⟩ = some (.int .i64 (labD F a))
  i0 : ∀ a : Nat, a < 256 → w.cell? ⟨ib, a, none⟩ = some (.bool (F a).isSome)
  zc : Free w cb
  zi : Free w ib
  ne : cb ≠ ib
theorem LabAt.lt {w : World} {cb ib : Nat} {F : Int → Option (Int × Int)} (h : LabAt w cb ib F) : cb < w.heap.size ∧ ib < w.heap.size := ⟨World.block_lt_of_cell? w _ (h.c0 0 (by decide)), World.block_lt_of_cell? w _ (h.i0 0 (by decide))⟩
theorem LabAt.keep {D : Nat → Prop} {w w' : World} {cb ib : Nat} {F : Int → Option (Int × Int)} (h : LabAt w cb ib F) (K : Keep D w w') (h1 : ¬ D cb) (h2 : ¬ D ib) : LabAt w' cb ib F :=
  ⟨fun a ha => K.cellOf (h.c0 a ha) h1, fun a ha => K.cellOf (h.c1 a ha) h1, fun a ha => K.cellOf (h.i0 a ha) h2, fun o => (K.frozen (p := ⟨cb, o, none⟩) h.lt.1 h1).trans (h.zc o), fun o => (K.frozen (p := ⟨ib, o, none⟩) h.lt.2 h2).trans (h.zi o), h.ne⟩
theorem LabAt.below {w w' : World} {cb ib : Nat} {F : Int → Option (Int × Int)} (h : LabAt w cb ib F) (hb : Below w.heap.size w w') : LabAt w' cb ib F := h.keep (Keep.of_below (F := fun _ => False) hb) id id
theorem zC_at (i : Nat) (hi : i < 512) : zC[i]? = some (Value.int .i64 0) := by unfold zC; rw [List.getElem?_toArray, List.getElem?_replicate, if_pos hi]
theorem zB_at (i : Nat) (hi : i < 256) : zB[i]? = some (Value.bool false) := by unfold zB; rw [List.getElem?_toArray, List.getElem?_replicate, if_pos hi]
/-- two new arrays: no labels -/
theorem LabAt.new (w : World) : LabAt ((w.alloc (.cells zC 54)).alloc (.cells zB 55)) w.heap.size (w.heap.size + 1) (fun _ => none) := by
  have hB : Below (w.alloc (.cells zC 54)).heap.size (w.alloc (.cells zC 54)) ((w.alloc (.cells zC 54)).alloc (.cells zB 55)) := (Below.refl _ _).alloc (Nat.le_refl _) _
  have e : (w.alloc (.cells zC 54)).heap.size = w.heap.size + 1 := by simp
  refine ⟨fun a ha => ?_, fun a ha => ?_, fun a ha => ?_, fun o => ?_, fun o => ?_, by omega⟩
  · rw [hB.cell (p := ⟨w.heap.size, a * 2, none⟩) (by rw [e]; exact Nat.lt_succ_self _), World.cell?_alloc_new]; exact zC_at _ (by omega)
  · rw [hB.cell (p := ⟨w.heap.size, a * 2 + 1, none⟩) (by rw [e]; exact Nat.lt_succ_self _), World.cell?_alloc_new]; exact zC_at _ (by omega)
  · rw [← e, World.cell?_alloc_new]; exact zB_at _ ha
  · rw [hB.frozen (p := ⟨w.heap.size, o, none⟩) (by rw [e]; exact Nat.lt_succ_self _)]; exact free_alloc w _ _ _ (Nat.le_refl _) o
  · rw [← e]; exact free_alloc _ _ _ _ (Nat.le_refl _) o
/-- the first label -/
theorem LabAt.first {w : World} {cb ib : Nat} (h : LabAt w cb ib (fun _ => none)) (a : Nat) (ha : a < 256) : LabAt (w.setCell ⟨ib, a, none⟩ (.bool true)) cb ib (putH (fun _ => none) a 0 0) := by
  have K : Keep (fun k => k = ib) w (w.setCell ⟨ib, a, none⟩ (.bool true)) := (Keep.refl (fun k => k = ib) w).setCell (p := ⟨ib, a, none⟩) (fun _ => rfl) _
  have hl : ∀ i : Int, labS (putH (fun _ => none) a 0 0) i = 0 ∧ labD (putH (fun _ => none) a 0 0) i = 0 := fun i => by
    by_cases q : i = a
    · rw [q]; exact lab_put _ _ _ _
    · rw [(lab_other _ _ _ q).1, (lab_other _ _ _ q).2]; exact lab_none rfl
  refine ⟨fun i hi => ?_, fun i hi => ?_, fun i hi => ?_, fun o => (K.frozen (p := ⟨cb, o, none⟩) h.lt.1 h.ne).trans (h.zc o), fun o => by simpa using h.zi o, h.ne⟩
  · rw [(hl i).1]; exact K.cellOf (h.c0 i hi) h.ne
  · rw [(hl i).2]; exact K.cellOf (h.c1 i hi) h.ne
  · by_cases q : i = a
    · subst q; rw [putH_same]; exact World.cell?_setCell_same _ _ _ (h.i0 i hi)
    · rw [putH_other _ _ _ (by omega), World.cell?_setCell_other _ _ _ _ (addr_ne (fun e => q e.symm))]; exact h.i0 i hi
/-- a label laid -/
theorem LabAt.put {w : World} {cb ib : Nat} {F : Int → Option (Int × Int)} (h : LabAt w cb ib F) (a : Nat) (ha : a < 256) (s d : Int) :
    LabAt (((w.setCell ⟨cb, a * 2, none⟩ (.int .i64 s)).setCell ⟨cb, a * 2 + 1, none⟩ (.int .i64 d)).setCell ⟨ib, a, none⟩ (.bool true)) cb ib (putH F a s d) := by
  have nb : ∀ o p, (⟨ib, o, none⟩ : Addr) ≠ ⟨cb, p, none⟩ := fun o p e => h.ne (by cases e; rfl)
  refine ⟨fun i hi => ?_, fun i hi => ?_, fun i hi => ?_, fun o => by simpa using h.zc o, fun o => by simpa using h.zi o, h.ne⟩
  · rw [World.cell?_setCell_other _ _ _ _ (nb _ _), World.cell?_setCell_other _ _ _ _ (addr_ne (by omega))]
    by_cases q : i = a
    · subst q; rw [(lab_put F i s d).1]; exact World.cell?_setCell_same _ _ _ (h.c0 i hi)
    · rw [(lab_other F s d (show (i : Int) ≠ a by omega)).1, World.cell?_setCell_other _ _ _ _ (addr_ne (by omega))]; exact h.c0 i hi
  · rw [World.cell?_setCell_other _ _ _ _ (nb _ _)]
    by_cases q : i = a
    · subst q; rw [(lab_put F i s d).2]
      refine World.cell?_setCell_same _ _ _ (u := .int .i64 (labD F i)) ?_
      rw [World.cell?_setCell_other _ _ _ _ (addr_ne (by omega))]; exact h.c1 i hi
    · rw [(lab_other F s d (show (i : Int) ≠ a by omega)).2, World.cell?_setCell_other _ _ _ _ (addr_ne (by omega)), World.cell?_setCell_other _ _ _ _ (addr_ne (by omega))]; exact h.c1 i hi
  · by_cases q : i = a
    · subst q; rw [putH_same]
      refine World.cell?_setCell_same _ _ _ (u := .bool (F i).isSome) ?_
      rw [World.cell?_setCell_other _ _ _ _ (nb _ _).symm, World.cell?_setCell_other _ _ _ _ (nb _ _).symm]; exact h.i0 i hi
    · rw [putH_other F s d (show (i : Int) ≠ a by omega), World.cell?_setCell_other _ _ _ _ (addr_ne (by omega)), World.cell?_setCell_other _ _ _ _ (nb _ _).symm, World.cell?_setCell_other _ _ _ _ (nb _ _).symm]; exact h.i0 i hi
theorem put_keep (w : World) (cb ib a : Nat) (s d : Int) : Keep (fun k => k = cb ∨ k = ib) w (((w.setCell ⟨cb, a * 2, none⟩ (.int .i64 s)).setCell ⟨cb, a * 2 + 1, none⟩ (.int .i64 d)).setCell ⟨ib, a, none⟩ (.bool true)) :=
  (((Keep.refl (fun k => k = cb ∨ k = ib) w).setCell (p := ⟨cb, a * 2, none⟩) (fun _ => Or.inl rfl) _).setCell (p := ⟨cb, a * 2 + 1, none⟩) (fun _ => Or.inl rfl) _).setCell (p := ⟨ib, a, none⟩) (fun _ => Or.inr rfl) _

/-- labels as the two arrays' cells -/
def costL (F : Int → Option (Int × Int)) : List Value := (List.range 512).map fun i => Value.int .i64 (if i % 2 = 0 then labS F (i / 2 : Nat) else labD F (i / 2 : Nat))
def isL (F : Int → Option (Int × Int)) : List Value := (List.range 256).map fun (i : Nat) => Value.bool (F (i : Int)).isSome
theorem costL_len (F : Int → Option (Int × Int)) : (costL F).length = 512 := by unfold costL; simp
theorem isL_len (F : Int → Option (Int × Int)) : (isL F).length = 256 := by unfold isL; simp
theorem LabAt.rangeC {w : World} {cb ib : Nat} {F : Int → Option (Int × Int)} (h : LabAt w cb ib F) : w.rangeAt cb 0 (costL F) := by
  intro j v hj
  rw [Nat.zero_add]
  have hlt : j < 512 := by have := (List.getElem?_eq_some_iff.1 hj).1; rw [costL_len] at this; exact this
  unfold costL at hj
  rw [List.getElem?_map, List.getElem?_range hlt] at hj
  simp only [Option.map_some, Option.some.injEq] at hj
  rw [← hj]
  by_cases q : j % 2 = 0
  · rw [if_pos q]
    have := h.c0 (j / 2) (by omega)
    rw [show j / 2 * 2 = j by omega] at this
    exact this
  · rw [if_neg q]
    have := h.c1 (j / 2) (by omega)
    rw [show j / 2 * 2 + 1 = j by omega] at this
    exact this
theorem LabAt.rangeI {w : World} {cb ib : Nat} {F : Int → Option (Int × Int)} (h : LabAt w cb ib F) : w.rangeAt ib 0 (isL F) := by
  intro j v hj
  rw [Nat.zero_add]
  have hlt : j < 256 := by have := (List.getElem?_eq_some_iff.1 hj).1; rw [isL_len] at this; exact this
  unfold isL at hj
  rw [List.getElem?_map, List.getElem?_range hlt] at hj
  simp only [Option.map_some, Option.some.injEq] at hj
  rw [← hj]
  exact h.i0 j hlt
theorem labAt_range {w : World} {cb ib : Nat} {F : Int → Option (Int × Int)} (hc : w.rangeAt cb 0 (costL F)) (hi : w.rangeAt ib 0 (isL F)) (zc : Free w cb) (zi : Free w ib) (ne : cb ≠ ib) : LabAt w cb ib F := by
  refine ⟨fun a ha => ?_, fun a ha => ?_, fun a ha => ?_, zc, zi, ne⟩
  · have := hc (a * 2) (.int .i64 (labS F a)) (by
      unfold costL
      rw [List.getElem?_map, List.getElem?_range (by omega)]
      simp only [Option.map_some, Option.some.injEq]
      rw [if_pos (by omega), show a * 2 / 2 = a by omega])
    rw [Nat.zero_add] at this; exact this
  · have := hc (a * 2 + 1) (.int .i64 (labD F a)) (by
      unfold costL
      rw [List.getElem?_map, List.getElem?_range (by omega)]
      simp only [Option.map_some, Option.some.injEq]
      rw [if_neg (by omega), show (a * 2 + 1) / 2 = a by omega])
    rw [Nat.zero_add] at this; exact this
  · have := hi a (.bool (F a).isSome) (by
      unfold isL
      rw [List.getElem?_map, List.getElem?_range ha]
      rfl)
    rw [Nat.zero_add] at this; exact this
theorem info54 : (Tryd.prog.info? 54).map (·.size) = some 512 := by kernel_rfl
theorem info55 : (Tryd.prog.info? 55).map (·.size) = some 256 := by kernel_rfl
end Go.Proofs.YtddbmkgmmhppnabDoor
