/-
  Labels of cells in two arrays; what the reference's flood keeps.
-/
import Derived.Test.YtfhicijgpdpfpaaDoorWalkR
import Derived.Test.YtfhicijgpdpfpaaDoorRefM
import Derived.Test.YtfhicijgpdpfpaaDoorCopy
import Derived.Deep.MidRow
import Derived.Test.YtfhicijgpdpfpaaDoorWay
import Derived.Maps.AppendAt
namespace Go.Proofs.YtfhicijgpdpfpaaDoor
open Go.RowKit Go.Maps

/-- an empty array of costs -/
def zC : Array Value := (List.replicate 512 (Value.int .i64 0)).toArray
/-- .. and of bools -/
def zB : Array Value := (List.replicate 256 (Value.bool false)).toArray
theorem run_alloc54 (w : World) : (Instr.alloc 45 true (.tuple #[])).run Tryd.prog w = .ok (.pointer (some ⟨w.heap.size, 0, none⟩)) (w.alloc (.cells zC 45)) := by kernel_rfl
theorem run_alloc55 (w : World) : (Instr.alloc 46 true (.tuple #[])).run Tryd.prog w = .ok (.pointer (some ⟨w.heap.size, 0, none⟩)) (w.alloc (.cells zB 46)) := by kernel_rfl
theorem wpList_alloc54 {ops : Array Oper} {rest : List Oper} {o : Oper} {a : Act} {w : World} {Q : Exit → Act → World → Prop} (hgd : o.guard = none) (ho : o.op = .alloc 45)
    (h : wpList Tryd.prog ops Q rest (a.put o.dst (.pointer (some ⟨w.heap.size, 0, none⟩))) (w.alloc (.cells zC 45))) : wpList Tryd.prog ops Q (o :: rest) a w :=
  wpList_plain hgd fun _ hK => by
    unfold Oper.wp execOp
    simp only [ho, Sem.run_bind, run_alloc54 w, Result.andThen_ok]
    exact hK _ _ h
theorem wpList_alloc55 {ops : Array Oper} {rest : List Oper} {o : Oper} {a : Act} {w : World} {Q : Exit → Act → World → Prop} (hgd : o.guard = none) (ho : o.op = .alloc 46)
    (h : wpList Tryd.prog ops Q rest (a.put o.dst (.pointer (some ⟨w.heap.size, 0, none⟩))) (w.alloc (.cells zB 46))) : wpList Tryd.prog ops Q (o :: rest) a w :=
  wpList_plain hgd fun _ hK => by
    unfold Oper.wp execOp
    simp only [ho, Sem.run_bind, run_alloc55 w, Result.andThen_ok]
    exact hK _ _ h

/-- what a label says; nothing: zero -/
def labS (F : Int → Option (Int × Int)) (a : Int) : Int := match F a with | some c => c.1 | none => 0
def labD (F : Int → Option (Int × Int)) (a : Int) : Int := match F a with | some c => c.2 | none => 0
theorem lab_some {F : Int → Option (Int × Int)} {a s d : Int} (h : F a = some (s, d)) : labS F a = s ∧ labD F a = d := by unfold labS labD; rw [h]; exact ⟨rfl, rfl⟩
theorem lab_none {F : Int → Option (Int × Int)} {a : Int} (h : F a = none) : labS F a = 0 ∧ labD F a = 0 := by unfold labS labD; rw [h]; exact ⟨rfl, rfl⟩
theorem putH_same (F : Int → Option (Int × Int)) (a s d : Int) : putH F a s d a = some (s, d) := if_pos rfl
theorem putH_other (F : Int → Option (Int × Int)) {a i : Int} (s d : Int) (h : i ≠ a) : putH F a s d i = F i := if_neg h
theorem lab_put (F : Int → Option (Int × Int)) (a s d : Int) : labS (putH F a s d) a = s ∧ labD (putH F a s d) a = d := lab_some (putH_same F a s d)
theorem lab_other (F : Int → Option (Int × Int)) {a i : Int} (s d : Int) (h : i ≠ a) : labS (putH F a s d) i = labS F i ∧ labD (putH F a s d) i = labD F i := by
  unfold labS labD; rw [putH_other F s d h]; exact ⟨rfl, rfl⟩

/-- labels lie in blocks cb and ib -/
structure LabAt (w : World) (cb ib : Nat) (F : Int → Option (Int × Int)) : Prop where
  c0 : ∀ a : Nat, a < 256 → w.cell? ⟨cb, a * 2, none⟩ = some (.int .i64 (labS F a))
  c1 : ∀ a : Nat, a < 256 → w.cell? ⟨cb, a * 2 + 1, none⟩ = some (.int .i64 (labD F a))
  i0 : ∀ a : Nat, a < 256 → w.cell? ⟨ib, a, none⟩ = some (.bool (F a).isSome)
  zc : Free w cb
  zi : Free w ib
  ne : cb ≠ ib
theorem LabAt.lt {w : World} {cb ib : Nat} {F : Int → Option (Int × Int)} (h : LabAt w cb ib F) : cb < w.heap.size ∧ ib < w.heap.size := ⟨World.block_lt_of_cell? w _ (h.c0 0 (by decide)), World.block_lt_of_cell? w _ (h.i0 0 (by decide))⟩
theorem LabAt.keep {D : Nat → Prop} {w w' : World} {cb ib : Nat} {F : Int → Option (Int × Int)} (h : LabAt w cb ib F) (K : Keep D w w') (h1 : ¬ D cb) (h2 : ¬ D ib) : LabAt w' cb ib F :=
  ⟨fun a ha => K.cellOf (h.c0 a ha) h1, fun a ha => K.cellOf (h.c1 a ha) h1, fun a ha => K.cellOf (h.i0 a ha) h2, fun o => (K.frozen (p := ⟨cb, o, none⟩) h.lt.1 h1).trans (h.zc o), fun o => (K.frozen (p := ⟨ib, o, none⟩) h.lt.2 h2).trans (h.zi o), h.ne⟩
theorem LabAt.below {w w' : World} {cb ib : Nat} {F : Int → Option (Int × Int)} (h : LabAt w cb ib F) (hb : Below w.heap.size w w') : LabAt w' cb ib F := h.keep (Keep.of_below (F := fun _ => False) hb) id id
theorem zC_at (i : Nat) (hi : i < 512) : zC[i]? = some (Value.int .i64 0) := by unfold zC; rw [List.getElem?_toArray, List.getElem?_replicate, if_pos hi]
theorem zB_at (i : Nat) (hi : i < 256) : zB[i]? = some (Value.bool false) := by unfold zB; rw [List.getElem?_toArray, List.getElem?_replicate, if_pos hi]
/-- two new arrays: no labels -/
theorem LabAt.new (w : World) : LabAt ((w.alloc (.cells zC 45)).alloc (.cells zB 46)) w.heap.size (w.heap.size + 1) (fun _ => none) := by
  have hB : Below (w.alloc (.cells zC 45)).heap.size (w.alloc (.cells zC 45)) ((w.alloc (.cells zC 45)).alloc (.cells zB 46)) := (Below.refl _ _).alloc (Nat.le_refl _) _
  have e : (w.alloc (.cells zC 45)).heap.size = w.heap.size + 1 := by simp
  refine ⟨fun a ha => ?_, fun a ha => ?_, fun a ha => ?_, fun o => ?_, fun o => ?_, by omega⟩
  · rw [hB.cell (p := ⟨w.heap.size, a * 2, none⟩) (by rw [e]; exact Nat.lt_succ_self _), World.cell?_alloc_new]; exact zC_at _ (by omega)
  · rw [hB.cell (p := ⟨w.heap.size, a * 2 + 1, none⟩) (by rw [e]; exact Nat.lt_succ_self _), World.cell?_alloc_new]; exact zC_at _ (by omega)
  · rw [← e, World.cell?_alloc_new]; exact zB_at _ ha
  · rw [hB.frozen (p := ⟨w.heap.size, o, none⟩) (by rw [e]; exact Nat.lt_succ_self _)]; exact free_alloc w _ _ _ (Nat.le_refl _) o
  · rw [← e]; exact free_alloc _ _ _ _ (Nat.le_refl _) o
/-- the first label -/
theorem LabAt.first {w : World} {cb ib : Nat} (h : LabAt w cb ib (fun _ => none)) (a : Nat) (ha : a < 256) : LabAt (w.setCell ⟨ib, a, none⟩ (.bool true)) cb ib (putH (fun _ => none) a 0 0) := by
  have K : Keep (fun k => k = ib) w (w.setCell ⟨ib, a, none⟩ (.bool true)) := (Keep.refl (fun k => k = ib) w).setCell (p := ⟨ib, a, none⟩) (fun _ => rfl) _
  have hl : ∀ i : Int, labS (putH (fun _ => none) a 0 0) i = 0 ∧ labD (putH (fun _ => none) a 0 0) i = 0 := fun i => by
    by_cases q : i = a
    · rw [q]; exact lab_put _ _ _ _
    · rw [(lab_other _ _ _ q).1, (lab_other _ _ _ q).2]; exact lab_none rfl
  refine ⟨fun i hi => ?_, fun i hi => ?_, fun i hi => ?_, fun o => (K.frozen (p := ⟨cb, o, none⟩) h.lt.1 h.ne).trans (h.zc o), fun o => by simpa using h.zi o, h.ne⟩
  · rw [(hl i).1]; exact K.cellOf (h.c0 i hi) h.ne
  · rw [(hl i).2]; exact K.cellOf (h.c1 i hi) h.ne
  · by_cases q : i = a
    · subst q; rw [putH_same]; exact World.cell?_setCell_same _ _ _ (h.i0 i hi)
    · rw [putH_other _ _ _ (by omega), World.cell?_setCell_other _ _ _ _ (addr_ne (fun e => q e.symm))]; exact h.i0 i hi
/-- a label laid -/
theorem LabAt.put {w : World} {cb ib : Nat} {F : Int → Option (Int × Int)} (h : LabAt w cb ib F) (a : Nat) (ha : a < 256) (s d : Int) :
    LabAt (((w.setCell ⟨cb, a * 2, none⟩ (.int .i64 s)).setCell ⟨cb, a * 2 + 1, none⟩ (.int .i64 d)).setCell ⟨ib, a, none⟩ (.bool true)) cb ib (putH F a s d) := by
  have nb : ∀ o p, (⟨ib, o, none⟩ : Addr) ≠ ⟨cb, p, none⟩ := fun o p e => h.ne (by cases e; rfl)
  refine ⟨fun i hi => ?_, fun i hi => ?_, fun i hi => ?_, fun o => by simpa using h.zc o, fun o => by simpa using h.zi o, h.ne⟩
  · rw [World.cell?_setCell_other _ _ _ _ (nb _ _), World.cell?_setCell_other _ _ _ _ (addr_ne (by omega))]
    by_cases q : i = a
    · subst q; rw [(lab_put F i s d).1]; exact World.cell?_setCell_same _ _ _ (h.c0 i hi)
    · rw [(lab_other F s d (show (i : Int) ≠ a by omega)).1, World.cell?_setCell_other _ _ _ _ (addr_ne (by omega))]; exact h.c0 i hi
  · rw [World.cell?_setCell_other _ _ _ _ (nb _ _)]
    by_cases q : i = a
    · subst q; rw [(lab_put F i s d).2]
      refine World.cell?_setCell_same _ _ _ (u := .int .i64 (labD F i)) ?_
      rw [World.cell?_setCell_other _ _ _ _ (addr_ne (by omega))]; exact h.c1 i hi
    · rw [(lab_other F s d (show (i : Int) ≠ a by omega)).2, World.cell?_setCell_other _ _ _ _ (addr_ne (by omega)), World.cell?_setCell_other _ _ _ _ (addr_ne (by omega))]; exact h.c1 i hi
  · by_cases q : i = a
    · subst q; rw [putH_same]
      refine World.cell?_setCell_same _ _ _ (u := .bool (F i).isSome) ?_
      rw [World.cell?_setCell_other _ _ _ _ (nb _ _).symm, World.cell?_setCell_other _ _ _ _ (nb _ _).symm]; exact h.i0 i hi
    · rw [putH_other F s d (show (i : Int) ≠ a by omega), World.cell?_setCell_other _ _ _ _ (addr_ne (by omega)), World.cell?_setCell_other _ _ _ _ (nb _ _).symm, World.cell?_setCell_other _ _ _ _ (nb _ _).symm]; exact h.i0 i hi
theorem put_keep (w : World) (cb ib a : Nat) (s d : Int) : Keep (fun k => k = cb ∨ k = ib) w (((w.setCell ⟨cb, a * 2, none⟩ (.int .i64 s)).setCell ⟨cb, a * 2 + 1, none⟩ (.int .i64 d)).setCell ⟨ib, a, none⟩ (.bool true)) :=
  (((Keep.refl (fun k => k = cb ∨ k = ib) w).setCell (p := ⟨cb, a * 2, none⟩) (fun _ => Or.inl rfl) _).setCell (p := ⟨cb, a * 2 + 1, none⟩) (fun _ => Or.inl rfl) _).setCell (p := ⟨ib, a, none⟩) (fun _ => Or.inr rfl) _

/-- labels as the two arrays' cells -/
def costL (F : Int → Option (Int × Int)) : List Value := (List.range 512).map fun i => Value.int .i64 (if i % 2 = 0 then labS F (i / 2 : Nat) else labD F (i / 2 : Nat))
def isL (F : Int → Option (Int × Int)) : List Value := (List.range 256).map fun (i : Nat) => Value.bool (F (i : Int)).isSome
theorem costL_len (F : Int → Option (Int × Int)) : (costL F).length = 512 := by unfold costL; simp
theorem isL_len (F : Int → Option (Int × Int)) : (isL F).length = 256 := by unfold isL; simp
theorem LabAt.rangeC {w : World} {cb ib : Nat} {F : Int → Option (Int × Int)} (h : LabAt w cb ib F) : w.rangeAt cb 0 (costL F) := by
  intro j v hj
  rw [Nat.zero_add]
  have hlt : j < 512 := by have := (List.getElem?_eq_some_iff.1 hj).1; rw [costL_len] at this; exact this
  unfold costL at hj
  rw [List.getElem?_map, List.getElem?_range hlt] at hj
  simp only [Option.map_some, Option.some.injEq] at hj
  rw [← hj]
  by_cases q : j % 2 = 0
  · rw [if_pos q]
    have := h.c0 (j / 2) (by omega)
    rw [show j / 2 * 2 = j by omega] at this
    exact this
  · rw [if_neg q]
    have := h.c1 (j / 2) (by omega)
    rw [show j / 2 * 2 + 1 = j by omega] at this
    exact this
theorem LabAt.rangeI {w : World} {cb ib : Nat} {F : Int → Option (Int × Int)} (h : LabAt w cb ib F) : w.rangeAt ib 0 (isL F) := by
  intro j v hj
  rw [Nat.zero_add]
  have hlt : j < 256 := by have := (List.getElem?_eq_some_iff.1 hj).1; rw [isL_len] at this; exact this
  unfold isL at hj
  rw [List.getElem?_map, List.getElem?_range hlt] at hj
  simp only [Option.map_some, Option.some.injEq] at hj
  rw [← hj]
  exact h.i0 j hlt
theorem labAt_range {w : World} {cb ib : Nat} {F : Int → Option (Int × Int)} (hc : w.rangeAt cb 0 (costL F)) (hi : w.rangeAt ib 0 (isL F)) (zc : Free w cb) (zi : Free w ib) (ne : cb ≠ ib) : LabAt w cb ib F := by
  refine ⟨fun a ha => ?_, fun a ha => ?_, fun a ha => ?_, zc, zi, ne⟩
  · have := hc (a * 2) (.int .i64 (labS F a)) (by
      unfold costL
      rw [List.getElem?_map, List.getElem?_range (by omega)]
      simp only [Option.map_some, Option.some.injEq]
      rw [if_pos (by omega), show a * 2 / 2 = a by omega])
    rw [Nat.zero_add] at this; exact this
  · have := hc (a * 2 + 1) (.int .i64 (labD F a)) (by
      unfold costL
      rw [List.getElem?_map, List.getElem?_range (by omega)]
      simp only [Option.map_some, Option.some.injEq]
      rw [if_neg (by omega), show (a * 2 + 1) / 2 = a by omega])
    rw [Nat.zero_add] at this; exact this
  · have := hi a (.bool (F a).isSome) (by
      unfold isL
      rw [List.getElem?_map, List.getElem?_range ha]
      rfl)
    rw [Nat.zero_add] at this; exact this
theorem info54 : (Tryd.prog.info? 45).map (·.size) = some 512 := by kernel_rfl
theorem info55 : (Tryd.prog.info? 46).map (·.size) = some 256 := by kernel_rfl


/-- a is still to be looked at -/
def pend (td : List Nat) (i : Nat) (a : Int) : Prop := ∃ j, i ≤ j ∧ j < td.length ∧ ((td.getD j 0 : Nat) : Int) = a
/-- what the flood keeps -/
structure FSt (w wr : World) (tv : Value) (td : List Nat) (W H : Int) (F : Int → Option (Int × Int)) : Prop where
  own : wr.ownsRow (w.heap.size + 4) 3 1 tv td.length (vals td)
  lab : LabAt wr (w.heap.size + 2) (w.heap.size + 3) F
  r0 : wr.there w.heap.size 0 512
  r1 : wr.there (w.heap.size + 1) 0 256
  bel : Below w.heap.size w wr
  mem : ∀ j, j < td.length → inB W H ((td.getD j 0 : Nat) : Int) = true ∧ (F ((td.getD j 0 : Nat) : Int)).isSome = true
  len : (td.length : Int) + pot F (W * H).toNat ≤ 3578815643905
theorem there_keep {D : Nat → Prop} {w w' : World} {b o n : Nat} (h : w.there b o n) (hb : b < w.heap.size) (K : Keep D w w') (hn : ¬ D b) : w'.there b o n := fun j hj => by
  obtain ⟨h1, h2⟩ := h j hj
  rw [K.cell (p := ⟨b, o + j, none⟩) hb hn, K.frozen (p := ⟨b, o + j, none⟩) hb hn]
  exact ⟨h1, h2⟩
theorem own_keep {D : Nat → Prop} {w w' : World} {base k n : Nat} {e : TypeId} {v : Value} {xs : List Value} (h : w.ownsRow base e k v n xs) (K : Keep D w w') (hn : ∀ g, base ≤ g → ¬ D g) : w'.ownsRow base e k v n xs := by
  refine ⟨h.1, ?_⟩
  rcases h.2 with h2 | ⟨g, cap, cur, hv, hbase, hg, h3⟩
  · exact Or.inl h2
  · exact Or.inr ⟨g, cap, cur, hv, hbase, (K.block g (Array.getElem?_eq_some_iff.1 hg).1 (hn g hbase)).trans hg, h3⟩
theorem FSt.big {w wr : World} {tv : Value} {td : List Nat} {W H : Int} {F : Int → Option (Int × Int)} (h : FSt w wr tv td W H F) : w.heap.size + 4 ≤ wr.heap.size := by have := h.lab.lt.2; omega
theorem FSt.below {w wr w' : World} {tv : Value} {td : List Nat} {W H : Int} {F : Int → Option (Int × Int)} (h : FSt w wr tv td W H F) (hb : Below wr.heap.size wr w') : FSt w w' tv td W H F := by
  have hs := h.big
  have K : Keep (fun _ => False) wr w' := Keep.of_below hb
  exact ⟨own_below h.own hb, h.lab.below hb, there_keep h.r0 (by omega) K id, there_keep h.r1 (by omega) K id, h.bel.trans (hb.mono h.bel.size), h.mem, h.len⟩
/-- a label laid, a cell more to be looked at -/
theorem FSt.put {w wr : World} {tv : Value} {td : List Nat} {W H : Int} {F : Int → Option (Int × Int)} (h : FSt w wr tv td W H F) (a : Nat) (ha : a < 256) (s d : Int) (hp : pot (putH F a s d) (W * H).toNat + 1 ≤ pot F (W * H).toNat) :
    FSt w (((wr.setCell ⟨w.heap.size + 2, a * 2, none⟩ (.int .i64 s)).setCell ⟨w.heap.size + 2, a * 2 + 1, none⟩ (.int .i64 d)).setCell ⟨w.heap.size + 3, a, none⟩ (.bool true)) tv td W H (putH F a s d) := by
  have hs := h.big
  have K := put_keep wr (w.heap.size + 2) (w.heap.size + 3) a s d
  refine ⟨own_keep h.own K (fun g hg => by omega), h.lab.put a ha s d, there_keep h.r0 (by omega) K (by omega), there_keep h.r1 (by omega) K (by omega), h.bel.trans (K.to_below h.bel.size (fun k hk => by omega)), fun j hj => ?_, by have := h.len; omega⟩
  obtain ⟨m1, m2⟩ := h.mem j hj
  refine ⟨m1, ?_⟩
  by_cases q : ((td.getD j 0 : Nat) : Int) = a
  · rw [q, putH_same]; rfl
  · rw [putH_other F s d q]; exact m2
/-- .. appended -/
theorem FSt.app {w wr w' : World} {tv tv' : Value} {td : List Nat} {W H : Int} {F : Int → Option (Int × Int)} {a : Nat} (h : FSt w wr tv td W H F) (ho : w'.ownsRow (w.heap.size + 4) 3 1 tv' (td ++ [a]).length (vals (td ++ [a]))) (hg : wr.grownBy w' tv.ownBlock) (ha : inB W H a = true) (hF : (F a).isSome = true) (hl : (td.length : Int) + 1 + pot F (W * H).toNat ≤ 3578815643905) :
    FSt w w' tv' (td ++ [a]) W H F := by
  have hs := h.big
  have K : Keep (fun k => w.heap.size + 4 ≤ k) wr w' := (Keep.refl _ wr).grown hg (fun k hk _ => (h.own.lt k hk).1)
  refine ⟨ho, h.lab.keep K (by omega) (by omega), there_keep h.r0 (by omega) K (by omega), there_keep h.r1 (by omega) K (by omega), h.bel.trans (K.to_below h.bel.size (fun k hk => by omega)), fun j hj => ?_, by simp; omega⟩
  rw [getD_app]
  by_cases q : j < td.length
  · rw [if_pos q]; exact h.mem j q
  · rw [if_neg q, if_pos (by simp at hj; omega)]; exact ⟨ha, hF⟩
theorem pend_app {td : List Nat} {i a : Nat} {x : Int} (hi : i ≤ td.length) : pend (td ++ [a]) i x ↔ (pend td i x ∨ x = a) := by
  constructor
  · rintro ⟨j, h1, h2, h3⟩
    rw [getD_app] at h3
    by_cases q : j < td.length
    · rw [if_pos q] at h3; exact Or.inl ⟨j, h1, q, h3⟩
    · rw [if_neg q, if_pos (by simp at h2; omega)] at h3; exact Or.inr h3.symm
  · rintro (⟨j, h1, h2, h3⟩ | rfl)
    · exact ⟨j, h1, by simp; omega, by rw [getD_app, if_pos h2]; exact h3⟩
    · exact ⟨td.length, hi, by simp, by rw [getD_app, if_neg (Nat.lt_irrefl _), if_pos rfl]⟩


/-- what the reference's flood answers -/
def RFlooded (w w' : World) (e : Ending) (W H : Int) (bl : Nat → Bool) (o : Int) : Prop :=
  ∃ F, e = .returned (.tuple #[.agg (costL F).toArray, .agg (isL F).toArray]) ∧ Best (Edge W H bl) o F ∧ Below w.heap.size w w'

theorem new_there (w : World) (l : List Value) (t : TypeId) (n : Nat) (hl : l.length = n) : (w.alloc (.cells l.toArray t)).there w.heap.size 0 n := by
  intro j hj
  rw [Nat.zero_add, World.cell?_alloc_new, List.getElem?_toArray, List.getElem?_eq_getElem (by omega)]
  exact ⟨rfl, free_alloc w _ _ _ (Nat.le_refl _) j⟩

/-- the world ahead of the loop -/
theorem fst_start {W H : Int} (w : World) (c : Nat) (hr : inB W H c = true) (h256 : W * H ≤ 256) :
    FSt w ((((((w.alloc (.cells zC 45)).alloc (.cells zB 46)).alloc (.cells zC 45)).alloc (.cells zB 46)).setCell ⟨w.heap.size + 1 + 1 + 1, c, none⟩ (.bool true)).alloc (.cells #[.int .i64 (c : Int)] 3)) (.slice (some ⟨w.heap.size + 1 + 1 + 1 + 1, 0, none⟩) 1 1) [c] W H (putH (fun _ => none) c 0 0) := by
  have hc : 0 ≤ (c : Int) ∧ (c : Int) < W * H := of_decide_eq_true hr
  have t0 : (w.alloc (.cells zC 45)).there w.heap.size 0 512 := new_there w (List.replicate 512 (Value.int .i64 0)) 45 512 List.length_replicate
  have t1 : ((w.alloc (.cells zC 45)).alloc (.cells zB 46)).there (w.heap.size + 1) 0 256 := by
    have := new_there (w.alloc (.cells zC 45)) (List.replicate 256 (Value.bool false)) 46 256 List.length_replicate
    rw [show (w.alloc (.cells zC 45)).heap.size = w.heap.size + 1 by simp] at this
    exact this
  have s1 : (w.alloc (.cells zC 45)).heap.size = w.heap.size + 1 := by simp
  have s2 : ((w.alloc (.cells zC 45)).alloc (.cells zB 46)).heap.size = w.heap.size + 2 := by simp
  have B1 : Below w.heap.size w (w.alloc (.cells zC 45)) := (Below.refl _ _).alloc (Nat.le_refl _) _
  have B2 : Below (w.alloc (.cells zC 45)).heap.size (w.alloc (.cells zC 45)) ((w.alloc (.cells zC 45)).alloc (.cells zB 46)) := (Below.refl _ _).alloc (Nat.le_refl _) _
  have B12 := B1.trans (B2.mono (by rw [s1]; omega))
  have t0' := there_keep t0 (by rw [s1]; omega) (Keep.of_below (F := fun _ => False) B2) id
  generalize (w.alloc (.cells zC 45)).alloc (.cells zB 46) = w2 at *
  have L0 := LabAt.new w2
  rw [s2] at L0
  have s4 : ((w2.alloc (.cells zC 45)).alloc (.cells zB 46)).heap.size = w.heap.size + 4 := by simp [s2]
  have B3 : Below w2.heap.size w2 ((w2.alloc (.cells zC 45)).alloc (.cells zB 46)) := ((Below.refl _ _).alloc (Nat.le_refl _) _).alloc (by simp) _
  have B13 := B12.trans (B3.mono (by rw [s2]; omega))
  have t0'' := there_keep t0' (by rw [s2]; omega) (Keep.of_below (F := fun _ => False) B3) id
  have t1'' := there_keep t1 (by rw [s2]; omega) (Keep.of_below (F := fun _ => False) B3) id
  generalize (w2.alloc (.cells zC 45)).alloc (.cells zB 46) = w4 at *
  have L1 := L0.first c (by omega)
  have K : Keep (fun k => k = w.heap.size + 2 + 1) w4 (w4.setCell ⟨w.heap.size + 2 + 1, c, none⟩ (.bool true)) := (Keep.refl (fun k => k = w.heap.size + 2 + 1) w4).setCell (p := ⟨w.heap.size + 2 + 1, c, none⟩) (fun _ => rfl) _
  have s5 : (w4.setCell ⟨w.heap.size + 2 + 1, c, none⟩ (.bool true)).heap.size = w.heap.size + 4 := by rw [← s4]; simp
  have B14 := B13.trans (K.to_below (by rw [s4]; omega) (fun k hk => by omega))
  have u0 := there_keep t0'' (by rw [s4]; omega) K (by omega)
  have u1 := there_keep t1'' (by rw [s4]; omega) K (by omega)
  show FSt w ((w4.setCell ⟨w.heap.size + 2 + 1, c, none⟩ (.bool true)).alloc (.cells #[.int .i64 (c : Int)] 3)) (.slice (some ⟨w.heap.size + 4, 0, none⟩) 1 1) [c] W H (putH (fun _ => none) c 0 0)
  generalize w4.setCell ⟨w.heap.size + 2 + 1, c, none⟩ (.bool true) = w5 at *
  have own := World.ownsRow_lit (base := w.heap.size + 4) (e := 3) (size := 1) w5 #[.int .i64 (c : Int)] 1 (by rw [s5]; omega) (by unfold maxLen; omega) rfl
  rw [s5] at own
  have B5 : Below w5.heap.size w5 (w5.alloc (.cells #[.int .i64 (c : Int)] 3)) := (Below.refl _ _).alloc (Nat.le_refl _) _
  refine ⟨own, L1.below B5, there_keep u0 (by rw [s5]; omega) (Keep.of_below (F := fun _ => False) B5) id, there_keep u1 (by rw [s5]; omega) (Keep.of_below (F := fun _ => False) B5) id, B14.trans (B5.mono (by rw [s5]; omega)), fun j hj => ?_, ?_⟩
  · have : j = 0 := by simp at hj; omega
    subst this
    exact ⟨hr, by show (putH _ (c : Int) 0 0 (c : Int)).isSome = true; rw [putH_same]; rfl⟩
  · have := pot_start (c : Int) (W * H).toNat (by omega) (by omega) (by omega)
    show ((1 : Nat) : Int) + _ ≤ _
    omega
end Go.Proofs.YtfhicijgpdpfpaaDoor
