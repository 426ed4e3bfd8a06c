/-
  Texts laid together: Labs, Ray, ROct, RDirect, RCorner.
-/
import Derived.Test.YtcagpmglijockaaGreatDoorP7
import Derived.Deep.RegionHeld3
import Derived.Deep.LoopGhost
import Derived.Deep.Light
/-
  What the reference's flood gives back, laid in memory.
-/
namespace Go.Proofs.YtcagpmglijockaaGreatDoor
open Go.RowKit

/-- the two arrays that come back, laid in memory -/
theorem lab_laid (w : World) (F : Int → Option (Int × Int)) :
    ((w.alloc (.cells zC 90)).alloc (.cells zB 31)).there w.heap.size 0 512 ∧ (((w.alloc (.cells zC 90)).alloc (.cells zB 31)).setCells w.heap.size 0 (costL F)).there (w.heap.size + 1) 0 256 ∧
      LabAt ((((w.alloc (.cells zC 90)).alloc (.cells zB 31)).setCells w.heap.size 0 (costL F)).setCells (w.heap.size + 1) 0 (isL F)) w.heap.size (w.heap.size + 1) F ∧
      Below w.heap.size w ((((w.alloc (.cells zC 90)).alloc (.cells zB 31)).setCells w.heap.size 0 (costL F)).setCells (w.heap.size + 1) 0 (isL F)) := by
  have L := LabAt.new w
  have hB : Below w.heap.size w ((w.alloc (.cells zC 90)).alloc (.cells zB 31)) := ((Below.refl _ _).alloc (Nat.le_refl _) _).alloc (by simp) _
  have t0 : ((w.alloc (.cells zC 90)).alloc (.cells zB 31)).there w.heap.size 0 512 := World.there_alloc (new_there w (List.replicate 512 (Value.int .i64 0)) 90 512 List.length_replicate) _
  have t1 : ((w.alloc (.cells zC 90)).alloc (.cells zB 31)).there (w.heap.size + 1) 0 256 := by
    have := new_there (w.alloc (.cells zC 90)) (List.replicate 256 (Value.bool false)) 31 256 List.length_replicate
    rw [show (w.alloc (.cells zC 90)).heap.size = w.heap.size + 1 by simp] at this
    exact this
  have t2 : (((w.alloc (.cells zC 90)).alloc (.cells zB 31)).setCells w.heap.size 0 (costL F)).there (w.heap.size + 1) 0 256 := World.there_setCells t1 _ _ _
  refine ⟨t0, t2, ?_, below_setCells _ (by omega) _ _ (below_setCells _ (Nat.le_refl _) _ _ hB)⟩
  refine labAt_range ?_ ?_ (fun o => ?_) (fun o => ?_) (by omega)
  · exact World.rangeAt_setCells_apart (World.rangeAt_setCells_same _ _ _ _ (by rw [costL_len]; exact t0)) _ _ _ (Or.inl (by omega))
  · exact World.rangeAt_setCells_same _ _ _ _ (by rw [isL_len]; exact t2)
  · rw [World.frozen?_setCells, World.frozen?_setCells]; exact L.zc o
  · rw [World.frozen?_setCells, World.frozen?_setCells]; exact L.zi o

theorem th_of {w : World} {b o n : Nat} {l : List Value} (hl : l.length = n) (h : w.there b o n) : w.there b o l.toArray.size := by rw [List.size_toArray, hl]; exact h
theorem in_of {P : Program} {t : TypeId} {n : Nat} {l : List Value} (hl : l.length = n) (h : (P.info? t).map (·.size) = some n) : (P.info? t).map (·.size) = some l.toArray.size := by rw [List.size_toArray, hl]; exact h


theorem lab_ok {E : Int → Nat → Int → Prop} {o : Int} {F : Int → Option (Int × Int)} (h : Best E o F) (a : Int) : okC (labS F a) (labD F a) := by
  unfold labS labD okC
  cases hF : F a with
  | none => simp
  | some c =>
    obtain ⟨s, d⟩ := c
    obtain ⟨h1, h2, h3⟩ := h.small hF
    have := val_small h1 h2 h3
    show 0 ≤ s ∧ s ≤ 2097152 ∧ 0 ≤ d ∧ d ≤ 2097152
    omega

end Go.Proofs.YtcagpmglijockaaGreatDoor
/-
  What all cells cost from one, as one value: the reference's 'from'.
-/
namespace Go.Proofs.YtcagpmglijockaaGreatDoor
open Go.RowKit

/-- a ray's cells -/
def rayL (c : Int) (F : Int → Option (Int × Int)) : List Value := Value.int .i64 c :: (costL F ++ isL F)
/-- .. of an empty one -/
def zR (c : Int) : List Value := Value.int .i64 c :: (List.replicate 512 (Value.int .i64 0) ++ List.replicate 256 (Value.bool false))
theorem zR_len (c : Int) : (zR c).length = 769 := by unfold zR; rw [List.length_cons, List.length_append, List.length_replicate, List.length_replicate]
theorem rayL_len (c : Int) (F : Int → Option (Int × Int)) : (rayL c F).length = 769 := by unfold rayL; rw [List.length_cons, List.length_append, costL_len, isL_len]
theorem zR_one (c : Int) : ∀ v ∈ zR c, v.oneCell' = true := by
  intro v hv
  unfold zR at hv
  rw [List.mem_cons, List.mem_append, List.mem_replicate, List.mem_replicate] at hv
  rcases hv with rfl | ⟨_, rfl⟩ | ⟨_, rfl⟩ <;> rfl
theorem rayL_one (c : Int) (F : Int → Option (Int × Int)) : ∀ v ∈ rayL c F, v.oneCell' = true := by
  intro v hv
  unfold rayL at hv
  rw [List.mem_cons, List.mem_append] at hv
  rcases hv with rfl | h | h
  · rfl
  · exact costL_one F v h
  · exact isL_one F v h
theorem run_alloc112 (w : World) : (Instr.alloc 92 true (.tuple #[])).run Tryz.prog w = .ok (.pointer (some ⟨w.heap.size, 0, none⟩)) (w.alloc (.cells (zR 0).toArray 92)) := by kernel_rfl
theorem built112 (c : Int) : Tryz.prog.built 92 [(0, .int .i64 c)] = some (zR c).toArray := by kernel_rfl
theorem info112 : (Tryz.prog.info? 92).map (·.size) = some 769 := by kernel_rfl
/-- memory of a type, by what is laid -/
theorem wpList_alloc_by {t : TypeId} {z : Array Value} (hal : ∀ w : World, (Instr.alloc t true (.tuple #[])).run Tryz.prog w = .ok (.pointer (some ⟨w.heap.size, 0, none⟩)) (w.alloc (.cells z t))) {ops : Array Oper} {rest : List Oper} {o : Oper} {a : Act} {w : World} {Q : Exit → Act → World → Prop} (hgd : o.guard = none) (ho : o.op = .alloc t)
    (h : wpList Tryz.prog ops Q rest (a.put o.dst (.pointer (some ⟨w.heap.size, 0, none⟩))) (w.alloc (.cells z t))) : wpList Tryz.prog ops Q (o :: rest) a w :=
  wpList_plain hgd fun _ hK => by
    unfold Oper.wp execOp
    simp only [ho, Sem.run_bind, hal w, Result.andThen_ok]
    exact hK _ _ h
/-- a struct whose first field is said -/
theorem wpList_build_by {t : TypeId} {z : Array Value} {v : Value} (hbu : Tryz.prog.built t [(0, v)] = some z) {ops : Array Oper} {rest : List Oper} {o : Oper} {a : Act} {w : World} {Q : Exit → Act → World → Prop} (hgd : o.guard = none) (x : Operand) (ho : o.op = .build t #[(0, x)])
    (hx : a.eval x = v) (h : wpList Tryz.prog ops Q rest (a.put o.dst (.agg z)) w) : wpList Tryz.prog ops Q (o :: rest) a w :=
  wpList_plain hgd fun _ hK => by
    have e : Tryz.prog.built t ((#[(0, x)] : Array (Nat × Operand)).map fun (i, x) => (i, a.eval x)).toList = some z := by
      have e0 : ((#[(0, x)] : Array (Nat × Operand)).map fun (i, x) => (i, a.eval x)).toList = [(0, a.eval x)] := by simp
      rw [e0, hx]
      exact hbu
    refine wp_build t #[(0, x)] ho (by rw [e]; rfl) ?_
    rw [e]
    exact hK _ _ h

theorem rayL_at {c : Int} {F : Int → Option (Int × Int)} (i : Nat) : (rayL c F)[1 + i]? = (costL F ++ isL F)[i]? := by
  unfold rayL
  rw [Nat.add_comm, List.getElem?_cons_succ]

/-- a ray lies in block b -/
structure RayAt (w : World) (b : Nat) (c : Int) (F : Int → Option (Int × Int)) : Prop where
  a0 : w.cell? ⟨b, 0, none⟩ = some (.int .i64 c)
  s0 : ∀ p : Nat, p < 256 → w.cell? ⟨b, 1 + p * 2, none⟩ = some (.int .i64 (labS F p))
  d0 : ∀ p : Nat, p < 256 → w.cell? ⟨b, 1 + p * 2 + 1, none⟩ = some (.int .i64 (labD F p))
  i0 : ∀ p : Nat, p < 256 → w.cell? ⟨b, 513 + p, none⟩ = some (.bool (F p).isSome)
theorem RayAt.lt {w : World} {b : Nat} {c : Int} {F : Int → Option (Int × Int)} (h : RayAt w b c F) : b < w.heap.size := World.block_lt_of_cell? w _ h.a0
theorem RayAt.below {w w' : World} {b : Nat} {c : Int} {F : Int → Option (Int × Int)} (h : RayAt w b c F) (hb : Below w.heap.size w w') : RayAt w' b c F := by
  have k : ∀ {a : Addr} {v : Value}, w.cell? a = some v → w'.cell? a = some v := fun {a v} h => (hb.cell (World.block_lt_of_cell? w a h)).trans h
  exact ⟨k h.a0, fun p hp => k (h.s0 p hp), fun p hp => k (h.d0 p hp), fun p hp => k (h.i0 p hp)⟩
theorem costL_at (F : Int → Option (Int × Int)) (i : Nat) (hi : i < 512) : (costL F)[i]? = some (Value.int .i64 (if i % 2 = 0 then labS F (i / 2 : Nat) else labD F (i / 2 : Nat))) := by
  unfold costL
  rw [List.getElem?_map, List.getElem?_range hi]
  rfl
theorem isL_at (F : Int → Option (Int × Int)) (i : Nat) (hi : i < 256) : (isL F)[i]? = some (Value.bool (F (i : Int)).isSome) := by
  unfold isL
  rw [List.getElem?_map, List.getElem?_range hi]
  rfl
theorem rayAt_range {w : World} {b : Nat} {c : Int} {F : Int → Option (Int × Int)} (h : w.rangeAt b 0 (rayL c F)) : RayAt w b c F := by
  have at_ : ∀ j v, (rayL c F)[j]? = some v → w.cell? ⟨b, j, none⟩ = some v := fun j v hj => by have := h j v hj; rw [Nat.zero_add] at this; exact this
  refine ⟨at_ 0 _ rfl, fun p hp => at_ _ _ ?_, fun p hp => at_ _ _ ?_, fun p hp => at_ _ _ ?_⟩
  · rw [rayL_at, List.getElem?_append_left (by rw [costL_len]; omega), costL_at F _ (by omega)]
    rw [if_pos (by omega), show p * 2 / 2 = p by omega]
  · rw [show 1 + p * 2 + 1 = 1 + (p * 2 + 1) by omega, rayL_at, List.getElem?_append_left (by rw [costL_len]; omega), costL_at F _ (by omega)]
    rw [if_neg (by omega), show (p * 2 + 1) / 2 = p by omega]
  · rw [show 513 + p = 1 + (512 + p) by omega, rayL_at, List.getElem?_append_right (by rw [costL_len]; omega), costL_len, show 512 + p - 512 = p by omega]
    exact isL_at F p hp
theorem range_ray {w : World} {b : Nat} {c : Int} {F : Int → Option (Int × Int)} (h0 : w.cell? ⟨b, 0, none⟩ = some (.int .i64 c)) (h1 : w.rangeAt b 1 (costL F)) (h2 : w.rangeAt b 513 (isL F)) : w.rangeAt b 0 (rayL c F) := by
  intro j v hj
  rw [Nat.zero_add]
  cases j with
  | zero =>
    have : v = .int .i64 c := (Option.some.inj hj).symm
    rw [this]; exact h0
  | succ j =>
    rw [Nat.add_comm, rayL_at] at hj
    by_cases q : j < 512
    · rw [List.getElem?_append_left (by rw [costL_len]; exact q)] at hj
      rw [Nat.add_comm]
      exact h1 j v hj
    · rw [List.getElem?_append_right (by rw [costL_len]; omega), costL_len] at hj
      have := h2 (j - 512) v hj
      rw [show 513 + (j - 512) = j + 1 by omega] at this
      exact this
theorem there_sub {w : World} {b o n o' n' : Nat} (h : w.there b o n) (h1 : o ≤ o') (h2 : o' + n' ≤ o + n) : w.there b o' n' := fun j hj => by
  have := h (o' - o + j) (by omega)
  rw [show o + (o' - o + j) = o' + j by omega] at this
  exact this
theorem there_below {w w' : World} {b o n : Nat} (h : w.there b o n) (hl : b < w.heap.size) (hb : Below w.heap.size w w') : w'.there b o n := fun j hj => by
  rw [hb.cell (p := ⟨b, o + j, none⟩) hl, hb.frozen (p := ⟨b, o + j, none⟩) hl]
  exact h j hj

def Rayed (w w' : World) (e : Ending) (W H : Int) (bl : Nat → Bool) (o : Int) : Prop :=
  ∃ F, e = .returned (.agg (rayL o F).toArray) ∧ Best (Edge W H bl) o F ∧ Below w.heap.size w w'

theorem fz_of {w : World} {b o n : Nat} (h : w.there b o n) (j : Nat) (hj : j < n) : w.frozen? ⟨b, o + 0 + j, none⟩ = false := (h j hj).2
theorem is_of {w : World} {b o n : Nat} (h : w.there b o n) (j : Nat) (hj : j < n) : (w.cell? ⟨b, o + 0 + j, none⟩).isSome = true := (h j hj).1
theorem stored {w : World} {b o n : Nat} {l : List Value} (hl : l.length = n) (h : w.there b o n) (ho : ∀ v ∈ l, v.oneCell' = true) : (storeCells ⟨b, o, none⟩ l).run Tryz.prog w = .ok () (w.setCells b o l) :=
  run_storeCells_cells (P := Tryz.prog) b o l 0 w (fun j hj => is_of h j (by omega)) (fun j hj => fz_of h j (by omega)) ho

theorem results_one {P : Program} {fn : Func} {tmps : Array Value} {w : World} {i : Nat} {s : TypeId} {A : Addr} {u : Value} (hr : fn.results = #[.cell i s]) (a : tmps.getD i undef = .pointer (some A))
    (h : (loadVar s A).run P w = .ok u w) : (results fn tmps).run P w = .ok u w := by
  unfold results
  rw [hr]
  rw [Array.getD_eq_getD_getElem?] at a
  simp [a, h, asAddr]

set_option maxHeartbeats 1000000 in
set_option maxRecDepth 1000000 in
theorem from' {M : Nat} {W H V : Int} {bl : Nat → Bool} {z0 zc : List Value} (c : Nat) (w : World) (g : RefAt w M W H V bl) (hml : M < w.heap.size) (hr : inB W H c = true)
    (hal : ∀ w : World, (Instr.alloc 92 true (.tuple #[])).run Tryz.prog w = .ok (.pointer (some ⟨w.heap.size, 0, none⟩)) (w.alloc (.cells z0.toArray 92)))
    (hbu : Tryz.prog.built 92 [(0, .int .i64 (c : Int))] = some zc.toArray) (l0 : z0.length = 769) (lc : zc.length = 769) (oc : ∀ v ∈ zc, v.oneCell' = true) (a0 : zc[0]? = some (.int .i64 (c : Int))) :
    Calls Tryz.prog 40 #[.pointer (some ⟨M, 0, none⟩), .int .i64 (c : Int)] w fun e w' => Rayed w w' e W H bl c := by
  have th0 := new_there w z0 92 769 l0
  have th1 := new_there (w.alloc (.cells z0.toArray 92)) z0 92 769 l0
  have hz1 : (w.alloc (.cells z0.toArray 92)).heap.size = w.heap.size + 1 := by simp
  rw [hz1] at th1
  have th0 := World.there_alloc th0 (.cells z0.toArray 92)
  have B1 : Below w.heap.size w ((w.alloc (.cells z0.toArray 92)).alloc (.cells z0.toArray 92)) := ((Below.refl _ _).alloc (Nat.le_refl _) _).alloc (by simp) _
  have hst := stored lc th1 oc
  have B2 : Below w.heap.size w (((w.alloc (.cells z0.toArray 92)).alloc (.cells z0.toArray 92)).setCells (w.heap.size + 1) 0 zc) := below_setCells _ (by omega) _ _ B1
  have hr1 := World.rangeAt_setCells_same ((w.alloc (.cells z0.toArray 92)).alloc (.cells z0.toArray 92)) (w.heap.size + 1) 0 zc (by rw [lc]; exact th1)
  have ha1 := hr1 0 _ a0
  have th0 := World.there_setCells th0 (w.heap.size + 1) 0 zc
  have th1 := World.there_setCells th1 (w.heap.size + 1) 0 zc
  go_enter Tryz.func40, Tryz.ntmps40
  go_wp2_with (first | (refine wpList_alloc_by hal rfl rfl ?_) | (refine wpList_build_by hbu rfl _ rfl rfl ?_))
  clear hst hr1 B1 oc a0
  generalize ((w.alloc (.cells z0.toArray 92)).alloc (.cells z0.toArray 92)).setCells (w.heap.size + 1) 0 zc = W2 at *
  have hl1 : w.heap.size + 1 < W2.heap.size := World.block_lt_of_cell? _ _ ha1
  have hfl := rflood_any c W2 (g.below B2 hml) (Nat.lt_of_lt_of_le hml B2.size) hr
  refine hfl.mono ?_
  rintro e w3 ⟨F, rfl, BF, hb3⟩
  have B3 := B2.trans (hb3.mono B2.size)
  have ha3 := (hb3.cell (p := ⟨w.heap.size + 1, 0 + 0, none⟩) hl1).trans ha1
  have th0 := there_below th0 (by omega) hb3
  have th1 := there_below th1 hl1 hb3
  have lC := costL_len F
  have lI := isL_len F
  have oC := costL_one F
  have oI := isL_one F
  have oR := rayL_one (c : Int) F
  have lR := rayL_len (c : Int) F
  have tC : w3.there (w.heap.size + 1) 1 512 := there_sub th1 (by omega) (by omega)
  have tI : (w3.setCells (w.heap.size + 1) 1 (costL F)).there (w.heap.size + 1) 513 256 := World.there_setCells (there_sub th1 (by omega) (by omega)) _ _ _
  have s1 := stored lC tC oC
  have s2 := stored lI tI oI
  have rC : ((w3.setCells (w.heap.size + 1) 1 (costL F)).setCells (w.heap.size + 1) 513 (isL F)).rangeAt (w.heap.size + 1) 1 (costL F) := World.rangeAt_setCells_apart (World.rangeAt_setCells_same _ _ _ _ (by rw [lC]; exact tC)) _ _ _ (Or.inr (Or.inl (by omega)))
  have rI : ((w3.setCells (w.heap.size + 1) 1 (costL F)).setCells (w.heap.size + 1) 513 (isL F)).rangeAt (w.heap.size + 1) 513 (isL F) := World.rangeAt_setCells_same _ _ _ _ (by rw [lI]; exact tI)
  have rA : ((w3.setCells (w.heap.size + 1) 1 (costL F)).setCells (w.heap.size + 1) 513 (isL F)).cell? ⟨w.heap.size + 1, 0, none⟩ = some (.int .i64 (c : Int)) := by
    have k1 : w3.rangeAt (w.heap.size + 1) 0 [.int .i64 (c : Int)] := fun j v hj => by
      cases j with
      | zero => cases hj; exact ha3
      | succ j => cases hj
    have k2 := World.rangeAt_setCells_apart (World.rangeAt_setCells_apart k1 (w.heap.size + 1) 1 (costL F) (Or.inr (Or.inl (by simp)))) (w.heap.size + 1) 513 (isL F) (Or.inr (Or.inl (by simp)))
    exact k2 0 _ rfl
  have rR := range_ray rA rC rI
  have B4 : Below w.heap.size w ((w3.setCells (w.heap.size + 1) 1 (costL F)).setCells (w.heap.size + 1) 513 (isL F)) := below_setCells _ (by omega) _ _ (below_setCells _ (by omega) _ _ B3)
  have th0 := World.there_setCells (World.there_setCells th0 (w.heap.size + 1) 1 (costL F)) (w.heap.size + 1) 513 (isL F)
  have s3 := stored lR th0 oR
  have rF : (((w3.setCells (w.heap.size + 1) 1 (costL F)).setCells (w.heap.size + 1) 513 (isL F)).setCells w.heap.size 0 (rayL (c : Int) F)).rangeAt w.heap.size 0 (rayL (c : Int) F) := World.rangeAt_setCells_same _ _ _ _ (by rw [lR]; exact th0)
  have B5 : Below w.heap.size w (((w3.setCells (w.heap.size + 1) 1 (costL F)).setCells (w.heap.size + 1) 513 (isL F)).setCells w.heap.size 0 (rayL (c : Int) F)) := below_setCells _ (Nat.le_refl _) _ _ B4
  clear rC rI rA oC oI tC tI ha3 ha1 B3 B2 hfl hb3 B4
  generalize hRL : rayL (c : Int) F = RL at *
  have HRL : Hid (rayL (c : Int) F = RL) := hRL
  clear hRL
  generalize costL F = CL at *
  generalize isL F = IL at *
  go_wp2_with (refine wpList_load_mid rfl 92 _ rfl (w.heap.size + 1) 0 rfl RL _ rR Tryz.underlying92 rfl (by rw [info112, lR]) ?_)
  refine bodyPost_ret (v := .agg RL.toArray) (results_one Tryz.results40 rfl (run_loadVar_mid _ w.heap.size 0 92 RL _ rF Tryz.underlying92 rfl (by rw [info112, lR]))) rfl ⟨F, by rw [HRL.out], BF, B5⟩

theorem from_any {M : Nat} {W H V : Int} {bl : Nat → Bool} (c : Nat) (w : World) (g : RefAt w M W H V bl) (hml : M < w.heap.size) (hr : inB W H c = true) :
    Calls Tryz.prog 40 #[.pointer (some ⟨M, 0, none⟩), .int .i64 (c : Int)] w fun e w' => Rayed w w' e W H bl c :=
  from' c w g hml hr run_alloc112 (built112 c) (zR_len 0) (zR_len c) (zR_one c) rfl
end Go.Proofs.YtcagpmglijockaaGreatDoor
/-
  The reference's octile cost between two cells, and what is near by its floods.
-/
namespace Go.Proofs.YtcagpmglijockaaGreatDoor
open Go.RowKit

theorem popCells (W : World) (N : Nat) (s d : Int) (a0 : W.cell? ⟨N, 0, none⟩ = some (.int .i64 0)) (a1 : W.cell? ⟨N, 1, none⟩ = some (.int .i64 0)) :
    ((W.setCell ⟨N, 0, none⟩ (.int .i64 s)).setCell ⟨N, 1, none⟩ (.int .i64 d)).cell? ⟨N, 0, none⟩ = some (.int .i64 s) ∧ ((W.setCell ⟨N, 0, none⟩ (.int .i64 s)).setCell ⟨N, 1, none⟩ (.int .i64 d)).cell? ⟨N, 1, none⟩ = some (.int .i64 d) := by
  constructor
  · rw [World.cell?_setCell_other _ _ _ _ (by intro e; cases e)]; exact World.cell?_setCell_same _ _ _ a0
  · refine World.cell?_setCell_same _ _ _ (u := .int .i64 0) ?_
    rw [World.cell?_setCell_other _ _ _ _ (by intro e; cases e)]; exact a1


theorem slot0 (w : World) : Below w.heap.size w (w.alloc (.cells #[.int .i64 0, .int .i64 0] 51)) := (Below.refl _ _).alloc (Nat.le_refl _) _
theorem slotW (w : World) {w1 : World} {m : Nat} (h : w1 = (w.alloc (.cells #[.int .i64 0, .int .i64 0] 51)).drewN m) :
    w1.cell? ⟨w.heap.size, 0, none⟩ = some (.int .i64 0) ∧ w1.cell? ⟨w.heap.size, 1, none⟩ = some (.int .i64 0) ∧ w1.frozen? ⟨w.heap.size, 0, none⟩ = false ∧ w1.frozen? ⟨w.heap.size, 1, none⟩ = false ∧ w1.heap.size = w.heap.size + 1 ∧ Below w.heap.size w w1 := by
  subst h
  have hB := slot0 w
  refine ⟨World.cell?_alloc_at #[.int .i64 0, .int .i64 0] 51 w.heap.size 0 rfl, World.cell?_alloc_at #[.int .i64 0, .int .i64 0] 51 w.heap.size 1 rfl, free_alloc w #[.int .i64 0, .int .i64 0] 51 w.heap.size (Nat.le_refl _) 0, free_alloc w #[.int .i64 0, .int .i64 0] 51 w.heap.size (Nat.le_refl _) 1, by simp, ⟨hB.os, hB.tape, hB.output, hB.size, hB.block⟩⟩


set_option maxHeartbeats 2000000 in
set_option maxRecDepth 1000000 in
theorem roct' {M : Nat} {W a b ax ay bx by' cs cd : Int} (w : World) (c0 : w.cell? ⟨M, 0, none⟩ = some (.int .i64 W)) (hne : W ≠ 0) (t1 : Int.tmod a W = ax) (t2 : Int.tmod b W = bx) (t3 : Int.tdiv a W = ay) (t4 : Int.tdiv b W = by')
    (u3 : IntKind.i64.wrap ay = ay) (u4 : IntKind.i64.wrap by' = by')
    (ho : ∀ w, Calls Tryz.prog 79 #[.int .i64 ax, .int .i64 ay, .int .i64 bx, .int .i64 by'] w fun e w' => e = .returned (.agg #[.int .i64 cs, .int .i64 cd]) ∧ Below w.heap.size w w') :
    Calls Tryz.prog 67 #[.pointer (some ⟨M, 0, none⟩), .int .i64 a, .int .i64 b] w fun e w' => e = .returned (.agg #[.int .i64 cs, .int .i64 cd]) ∧ Below w.heap.size w w' := by
  have hM : M < w.heap.size := World.block_lt_of_cell? w _ c0
  go_enter Tryz.func67, Tryz.ntmps67
  go_wp2
  obtain ⟨k0, k1, f0, f1, hsz, HB⟩ := slotW w (m := 0) rfl
  rw [World.drewN_zero] at k0 k1 f0 f1 hsz HB
  have c0 := (HB.cell (p := ⟨M, 0, none⟩) hM).trans c0
  generalize w.alloc (.cells #[.int .i64 0, .int .i64 0] 51) = W1 at *
  have c0 : W1.drew.cell? ⟨M, 0, none⟩ = some (.int .i64 W) := c0
  have k0 : W1.drew.cell? ⟨w.heap.size, 0, none⟩ = some (.int .i64 0) := k0
  have k1 : W1.drew.cell? ⟨w.heap.size, 1, none⟩ = some (.int .i64 0) := k1
  have f0 : W1.drew.frozen? ⟨w.heap.size, 0, none⟩ = false := f0
  have f1 : W1.drew.frozen? ⟨w.heap.size, 1, none⟩ = false := f1
  have HB : Below w.heap.size w W1.drew := ⟨HB.os, HB.tape, HB.output, HB.size, HB.block⟩
  have hsz : w.heap.size < W1.drew.heap.size := World.block_lt_of_cell? W1.drew _ k0
  go_region_with (first | (go_at_call 79; refine (ho _).mono ?_; rintro e w2 ⟨rfl, hb2⟩; have k0 := (hb2.cell (p := ⟨w.heap.size, 0, none⟩) hsz).trans k0; have k1 := (hb2.cell (p := ⟨w.heap.size, 1, none⟩) hsz).trans k1; have f0 := (hb2.frozen (p := ⟨w.heap.size, 0, none⟩) hsz).trans f0; have f1 := (hb2.frozen (p := ⟨w.heap.size, 1, none⟩) hsz).trans f1; have HB := HB.trans (hb2.mono HB.size)))
  all_goals
    have r0 := popCells w2 w.heap.size cs cd k0 k1
    go_wp2
    exact bodyPost_ret (v := .agg #[.int .i64 cs, .int .i64 cd]) (by simp [results, Tryz.results67, go_sem, r0.1, r0.2]) rfl ⟨rfl, (HB.setCell (p := ⟨w.heap.size, 0, none⟩) (Nat.le_refl _) _).setCell (p := ⟨w.heap.size, 1, none⟩) (Nat.le_refl _) _⟩

theorem roct_any {M : Nat} {W H V : Int} {bl : Nat → Bool} (a b : Int) (w : World) (g : RefAt w M W H V bl) (ha : inB W H a = true) (hb : inB W H b = true) :
    Calls Tryz.prog 67 #[.pointer (some ⟨M, 0, none⟩), .int .i64 a, .int .i64 b] w fun e w' => e = .returned (.agg #[.int .i64 (octS W a b), .int .i64 (octD W a b)]) ∧ Below w.heap.size w w' := by
  have gw1 := g.w1
  have gw2 := g.w2
  have gh2 := g.h2
  have qa : 0 ≤ a ∧ a < W * H := of_decide_eq_true ha
  have qb : 0 ≤ b ∧ b < W * H := of_decide_eq_true hb
  obtain ⟨m1, m3, d1, d3⟩ := place_bd gw1 ha
  obtain ⟨m2, m4, d2, d4⟩ := place_bd gw1 hb
  have t1 : Int.tmod a W = a % W := Int.tmod_eq_emod_of_nonneg qa.1
  have t2 : Int.tmod b W = b % W := Int.tmod_eq_emod_of_nonneg qb.1
  have t3 : Int.tdiv a W = a / W := Int.tdiv_eq_ediv_of_nonneg qa.1
  have t4 : Int.tdiv b W = b / W := Int.tdiv_eq_ediv_of_nonneg qb.1
  refine roct' w g.c0 (by omega) t1 t2 t3 t4 (wrap_small (by omega) (by omega)) (wrap_small (by omega) (by omega)) (fun w => ?_)
  exact rOct_any _ _ _ _ w (near_small m1 (by omega)) (near_small d1 (by omega)) (near_small m2 (by omega)) (near_small d2 (by omega))

/-- a cost and what is there, in memory -/
def Thr (w : World) (C I p : Nat) (b : Bool) (s d : Int) : Prop :=
  w.cell? ⟨I, p, none⟩ = some (.bool b) ∧ w.cell? ⟨C, p * 2, none⟩ = some (.int .i64 s) ∧ w.cell? ⟨C, p * 2 + 1, none⟩ = some (.int .i64 d)
theorem Thr.below {w w' : World} {C I p : Nat} {b : Bool} {s d : Int} (h : Thr w C I p b s d) (hb : Below w.heap.size w w') : Thr w' C I p b s d := by
  obtain ⟨h1, h2, h3⟩ := h
  have k : ∀ {a : Addr} {v : Value}, w.cell? a = some v → w'.cell? a = some v := fun {a v} h => (hb.cell (World.block_lt_of_cell? w a h)).trans h
  exact ⟨k h1, k h2, k h3⟩

end Go.Proofs.YtcagpmglijockaaGreatDoor
/-
  The reference's 'direct' over two rays.
-/
namespace Go.Proofs.YtcagpmglijockaaGreatDoor
open Go.RowKit

/-- what lies in memory while the corners are gone over -/
structure Rays (w : World) (M X Y Z : Nat) (W H V : Int) (bl : Nat → Bool) (a b : Nat) (F G : Int → Option (Int × Int)) (qs qd : Int) : Prop where
  ra : RefAt w M W H V bl
  ml : M < w.heap.size
  rx : RayAt w X a F
  ry : RayAt w Y b G
  z0 : w.cell? ⟨Z, 0, none⟩ = some (.int .i64 qs)
  z1 : w.cell? ⟨Z, 1, none⟩ = some (.int .i64 qd)
theorem Rays.below {w w' : World} {M X Y Z : Nat} {W H V : Int} {bl : Nat → Bool} {a b : Nat} {F G : Int → Option (Int × Int)} {qs qd : Int} (h : Rays w M X Y Z W H V bl a b F G qs qd) {B : Nat} (hb : Below B w w') (hB : B = w.heap.size := by rfl) : Rays w' M X Y Z W H V bl a b F G qs qd := by
  subst hB
  have k : ∀ {a : Addr} {v : Value}, w.cell? a = some v → w'.cell? a = some v := fun {a v} h => (hb.cell (World.block_lt_of_cell? w a h)).trans h
  exact ⟨h.ra.below hb h.ml, Nat.lt_of_lt_of_le h.ml hb.size, h.rx.below hb, h.ry.below hb, k h.z0, k h.z1⟩

/-- a cell that is on, by both rays -/
def OnR (F G : Int → Option (Int × Int)) (qs qd : Int) (z : Int) : Prop := ∃ s d t u, F z = some (s, d) ∧ G z = some (t, u) ∧ s + t = qs ∧ d + u = qd

def Ten (w : World) (X Y Z z a b : Nat) (s d t u x y : Int) : Prop :=
  w.cell? ⟨X, 0, none⟩ = some (.int .i64 a) ∧ w.cell? ⟨Y, 0, none⟩ = some (.int .i64 b) ∧ w.cell? ⟨X, 513 + z, none⟩ = some (.bool true) ∧ w.cell? ⟨Y, 513 + z, none⟩ = some (.bool true) ∧ w.cell? ⟨X, 1 + z * 2, none⟩ = some (.int .i64 s) ∧ w.cell? ⟨X, 1 + z * 2 + 1, none⟩ = some (.int .i64 d) ∧ w.cell? ⟨Y, 1 + z * 2, none⟩ = some (.int .i64 t) ∧ w.cell? ⟨Y, 1 + z * 2 + 1, none⟩ = some (.int .i64 u) ∧ w.cell? ⟨Z, 0, none⟩ = some (.int .i64 x) ∧ w.cell? ⟨Z, 1, none⟩ = some (.int .i64 y)
theorem Ten.below {w w' : World} {X Y Z z a b : Nat} {s d t u x y : Int} (h : Ten w X Y Z z a b s d t u x y) (hb : Below w.heap.size w w') : Ten w' X Y Z z a b s d t u x y := by
  obtain ⟨h1, h2, h3, h4, h5, h6, h7, h8, h9, h10⟩ := h
  have k : ∀ {a : Addr} {v : Value}, w.cell? a = some v → w'.cell? a = some v := fun {a v} h => (hb.cell (World.block_lt_of_cell? w a h)).trans h
  exact ⟨k h1, k h2, k h3, k h4, k h5, k h6, k h7, k h8, k h9, k h10⟩

set_option maxHeartbeats 8000000 in
set_option maxRecDepth 1000000 in
theorem direct' {M n cap : Nat} {A : Option Addr} {W H V qs qd : Int} {bl : Nat → Bool} {a b : Nat} {F G : Int → Option (Int × Int)} {RA RB : List Value} {l : List Nat} (w : World) (g : RefAt w M W H V bl) (hml : M < w.heap.size)
    (hA : ∀ w : World, RayAt (w.alloc (.cells RA.toArray 92)) w.heap.size a F) (hB : ∀ w : World, RayAt (w.alloc (.cells RB.toArray 92)) w.heap.size b G)
    (hoc : ∀ w' : World, RefAt w' M W H V bl → Calls Tryz.prog 67 #[.pointer (some ⟨M, 0, none⟩), .int .i64 a, .int .i64 b] w' fun e w'' => e = .returned (.agg #[.int .i64 qs, .int .i64 qd]) ∧ Below w'.heap.size w' w'')
    (okA : ∀ z, okC (labS F z) (labD F z)) (okB : ∀ z, okC (labS G z) (labD G z)) (hb : b < 256) (hn : l.length = n) (hn2 : n ≤ 256) (hz : ∀ j, j < l.length → l.getD j 0 < 256) (hrow : OldRow w A n (fun i => (l.getD i 0 : Nat))) :
    Calls Tryz.prog 66 #[.pointer (some ⟨M, 0, none⟩), .agg RA.toArray, .agg RB.toArray, .slice A n cap] w fun e w' => ∃ r, e = .returned (.bool r) ∧ (r = true ↔ F b = some (qs, qd) ∧ ∀ j, j < l.length → l.getD j 0 ≠ a → l.getD j 0 ≠ b → ¬ OnR F G qs qd (l.getD j 0 : Nat)) ∧ Below w.heap.size w w' := by
  subst hn
  have hx0 := hA w
  have B1 : Below w.heap.size w (w.alloc (.cells RA.toArray 92)) := (Below.refl _ _).alloc (Nat.le_refl _) _
  have hy0 := hB (w.alloc (.cells RA.toArray 92))
  have bA : Below (w.alloc (.cells RA.toArray 92)).heap.size (w.alloc (.cells RA.toArray 92)) ((w.alloc (.cells RA.toArray 92)).alloc (.cells RB.toArray 92)) := (Below.refl _ _).alloc (Nat.le_refl _) _
  have hx1 := hx0.below bA
  have hz1 : (w.alloc (.cells RA.toArray 92)).heap.size = w.heap.size + 1 := by simp
  rw [hz1] at hy0
  have B2 : Below w.heap.size w ((w.alloc (.cells RA.toArray 92)).alloc (.cells RB.toArray 92)) := B1.trans (bA.mono B1.size)
  have g2 := g.below B2 hml
  have hml2 := Nat.lt_of_lt_of_le hml B2.size
  have hrow2 := hrow.below B2
  have x0 := hx1.a0
  have y0 := hy0.a0
  have hbI : (b : Int) < 256 := by omega
  go_enter Tryz.func66, Tryz.ntmps66
  go_wp2_with fail
  refine (hoc _ g2).mono ?_
  rintro e w3 ⟨rfl, hb3⟩
  have B3 := B2.trans (hb3.mono B2.size)
  have bZ : Below w3.heap.size w3 (w3.alloc (.cells #[.int .i64 qs, .int .i64 qd] 51)) := (Below.refl _ _).alloc (Nat.le_refl _) _
  have R4 : Rays (w3.alloc (.cells #[.int .i64 qs, .int .i64 qd] 51)) M w.heap.size (w.heap.size + 1) w3.heap.size W H V bl a b F G qs qd :=
    ⟨(g2.below hb3 hml2).below bZ (Nat.lt_of_lt_of_le hml2 hb3.size), Nat.lt_of_lt_of_le (Nat.lt_of_lt_of_le hml2 hb3.size) bZ.size, (hx1.below hb3).below bZ, (hy0.below hb3).below bZ, World.cell?_alloc_at (w := w3) #[.int .i64 qs, .int .i64 qd] 51 w3.heap.size 0 rfl, World.cell?_alloc_at (w := w3) #[.int .i64 qs, .int .i64 qd] 51 w3.heap.size 1 rfl⟩
  have B4 := B3.trans (bZ.mono B3.size)
  have hrow4 := (hrow2.below hb3).below bZ
  clear hoc hx0 B1 hy0 bA hx1 hz1 B2 g2 hml2 hrow2 x0 y0 hb3 B3 bZ hrow hA hB
  go_wp2_with fail
  generalize w3.alloc (.cells #[.int .i64 qs, .int .i64 qd] 51) = w4 at *
  generalize w3.heap.size = Z at *
  generalize w.heap.size + 1 = Y at *
  obtain ⟨X, hX⟩ : ∃ X, w.heap.size = X := ⟨_, rfl⟩
  rw [hX] at R4
  simp only [hX]
  have HX : Hid (w.heap.size = X) := hX
  clear hX
  have ya := R4.ry.a0
  have xi := R4.rx.i0 b hb
  have xs := R4.rx.s0 b hb
  have xd := R4.rx.d0 b hb
  have z0 := R4.z0
  have z1 := R4.z1
  cases hFb : F (b : Int) with
  | none =>
    rw [hFb] at xi
    have xi : w4.cell? ⟨X, 513 + b, none⟩ = some (.bool false) := xi
    go_quiet (fail)
    go_wp2
    go_ret
    exact ⟨false, rfl, ⟨fun h => (by cases h), fun h => (by have := hFb.symm.trans h.1; cases this)⟩, below_drewN B4 _⟩
  | some c =>
    obtain ⟨s0, d0⟩ := c
    rw [hFb] at xi
    have xi : w4.cell? ⟨X, 513 + b, none⟩ = some (.bool true) := xi
    rw [(lab_some hFb).1] at xs
    rw [(lab_some hFb).2] at xd
    by_cases e1 : s0 = qs
    · by_cases e2 : d0 = qd
      · subst e1 e2
        go_quiet (fail)
        have R5 := R4.below (below_drewN (Below.refl w4.heap.size w4) nq)
        have B5 := below_drewN B4 nq
        have hrow5 := hrow4.below (below_drewN (Below.refl w4.heap.size w4) nq)
        clear R4 B4 hrow4 ya xi xs xd z0 z1
        generalize w4.drewN nq = w5 at *
        go_wp2
        go_loopg [10] l.length (fun gk iv wr => ∃ i : Nat, gk = l.length - i ∧ iv = .int .i64 i ∧ i ≤ l.length ∧ Hid (∀ j, j < i → l.getD j 0 ≠ a → l.getD j 0 ≠ b → ¬ OnR F G s0 d0 (l.getD j 0 : Nat)) ∧ Rays wr M X Y Z W H V bl a b F G s0 d0 ∧ OldRow wr A l.length (fun i => (l.getD i 0 : Nat)) ∧ Below w.heap.size w wr)
        case atStart => exact ⟨0, rfl, rfl, Nat.zero_le _, fun j hj => absurd hj (by omega), R5, hrow5, B5⟩
        case round =>
          obtain ⟨i, hgk, rfl, hi, hno, Rr, hrr, Br⟩ := hrel
          clear R5 B5 hrow5
          by_cases hlt : i < l.length
          · obtain ⟨ba, oa, rfl, hba, hcell⟩ := hrr i hlt
            have hz' := hz i hlt
            obtain ⟨z, hzz⟩ : ∃ z, l.getD i 0 = z := ⟨_, rfl⟩
            have hcell' : wr.cell? ⟨ba, oa + i, none⟩ = some (.int .i64 (z : Int)) := by rw [← hzz]; exact hcell
            rw [hzz] at hz'
            have HZ : Hid (l.getD i 0 = z) := hzz
            clear hzz hcell
            have z3 : (z : Int) < 256 := by omega
            have i1 : (0 : Int) ≤ (i : Int) := by omega
            have i2 : (i : Int) < (l.length : Int) := by omega
            have nxt : (z ≠ a → z ≠ b → ¬ OnR F G s0 d0 (z : Nat)) → Hid (∀ j, j < i + 1 → l.getD j 0 ≠ a → l.getD j 0 ≠ b → ¬ OnR F G s0 d0 (l.getD j 0 : Nat)) := fun h j hj => by
              by_cases e : j = i
              · rw [e, HZ.out]; exact h
              · exact hno.out j (by omega)
            have xa := Rr.rx.a0
            have ya := Rr.ry.a0
            have xi := Rr.rx.i0 z hz'
            have yi := Rr.ry.i0 z hz'
            have bD : Below wr.heap.size wr wr.drew := ⟨rfl, rfl, rfl, Nat.le_refl _, fun _ _ => rfl⟩
            by_cases ea : z = a
            · have HN := nxt (fun h => absurd ea h)
              clear nxt
              subst ea
              go_wp2
              go_quiet (fail)
              go_wp2
              go_roundg (l.length - (i + 1))
              case measure => omega
              case rel => exact ⟨i + 1, rfl, by go_num, by omega, HN, Rr.below (below_drewN (Below.refl _ _) _), hrr.below (below_drewN (Below.refl _ _) _), below_drewN Br _⟩
            · have na : (((z : Nat) : Int) != (a : Int)) = true := bne_iff_ne.2 (by omega)
              by_cases eb : z = b
              · have HN := nxt (fun _ h => absurd eb h)
                clear nxt
                subst eb
                go_wp2
                go_quiet (fail)
                go_wp2
                go_roundg (l.length - (i + 1))
                case measure => omega
                case rel => exact ⟨i + 1, rfl, by go_num, by omega, HN, Rr.below (below_drewN (Below.refl _ _) _), hrr.below (below_drewN (Below.refl _ _) _), below_drewN Br _⟩
              · have nb : (((z : Nat) : Int) != (b : Int)) = true := bne_iff_ne.2 (by omega)
                have na' : ¬ ((z : Int) = (a : Int)) := by omega
                have nb' : ¬ ((z : Int) = (b : Int)) := by omega
                cases hFz : F (z : Int) with
                | none =>
                  rw [hFz] at xi
                  have xi : wr.cell? ⟨X, 513 + z, none⟩ = some (.bool false) := xi
                  have HN := nxt (fun _ _ h => by obtain ⟨_, _, _, _, h1, _⟩ := h; rw [hFz] at h1; cases h1)
                  clear nxt
                  go_wp2
                  go_quiet (fail)
                  go_wp2
                  go_roundg (l.length - (i + 1))
                  case measure => omega
                  case rel => exact ⟨i + 1, rfl, by go_num, by omega, HN, Rr.below (below_drewN (Below.refl _ _) _), hrr.below (below_drewN (Below.refl _ _) _), below_drewN Br _⟩
                | some cz =>
                  obtain ⟨sz, dz⟩ := cz
                  rw [hFz] at xi
                  have xi : wr.cell? ⟨X, 513 + z, none⟩ = some (.bool true) := xi
                  cases hGz : G (z : Int) with
                  | none =>
                    rw [hGz] at yi
                    have yi : wr.cell? ⟨Y, 513 + z, none⟩ = some (.bool false) := yi
                    have HN := nxt (fun _ _ h => by obtain ⟨_, _, _, _, _, h1, _⟩ := h; rw [hGz] at h1; cases h1)
                    clear nxt
                    go_wp2
                    go_quiet (fail)
                    go_wp2
                    go_roundg (l.length - (i + 1))
                    case measure => omega
                    case rel => exact ⟨i + 1, rfl, by go_num, by omega, HN, Rr.below (below_drewN (Below.refl _ _) _), hrr.below (below_drewN (Below.refl _ _) _), below_drewN Br _⟩
                  | some cy =>
                    obtain ⟨tz, uz⟩ := cy
                    rw [hGz] at yi
                    have yi : wr.cell? ⟨Y, 513 + z, none⟩ = some (.bool true) := yi
                    have oA := okA (z : Int)
                    have oB := okB (z : Int)
                    rw [(lab_some hFz).1, (lab_some hFz).2] at oA
                    rw [(lab_some hGz).1, (lab_some hGz).2] at oB
                    have y0 := Rr.rx.s0 z hz'
                    have y1 := Rr.rx.d0 z hz'
                    have y2 := Rr.ry.s0 z hz'
                    have y3 := Rr.ry.d0 z hz'
                    rw [(lab_some hFz).1] at y0
                    rw [(lab_some hFz).2] at y1
                    rw [(lab_some hGz).1] at y2
                    rw [(lab_some hGz).2] at y3
                    have hpl := fun w => plus_any sz dz tz uz w oA oB
                    have CC : Ten wr.drew X Y Z z a b sz dz tz uz s0 d0 := ⟨xa, ya, xi, yi, y0, y1, y2, y3, Rr.z0, Rr.z1⟩
                    have Rr := Rr.below bD
                    have hrr := hrr.below bD
                    have Br := Br.trans (bD.mono Br.size)
                    clear bD y0 y1 y2 y3 oA oB xa ya xi yi
                    by_cases e1 : sz + tz = s0
                    · by_cases e2 : dz + uz = d0
                      · have HO : Hid (OnR F G s0 d0 (z : Nat)) := ⟨sz, dz, tz, uz, hFz, hGz, e1, e2⟩
                        clear nxt
                        go_wp2
                        go_region_held3 (fun w' => w'.cell? ⟨X, 0, none⟩ = some (.int .i64 a) ∧ w'.cell? ⟨Y, 0, none⟩ = some (.int .i64 b) ∧ w'.cell? ⟨X, 513 + z, none⟩ = some (.bool true) ∧ w'.cell? ⟨Y, 513 + z, none⟩ = some (.bool true) ∧ w'.cell? ⟨X, 1 + z * 2, none⟩ = some (.int .i64 sz) ∧ w'.cell? ⟨X, 1 + z * 2 + 1, none⟩ = some (.int .i64 dz) ∧ w'.cell? ⟨Y, 1 + z * 2, none⟩ = some (.int .i64 tz) ∧ w'.cell? ⟨Y, 1 + z * 2 + 1, none⟩ = some (.int .i64 uz) ∧ w'.cell? ⟨Z, 0, none⟩ = some (.int .i64 s0) ∧ w'.cell? ⟨Z, 1, none⟩ = some (.int .i64 d0)) (first | (exact CC)) (first | (go_at_call 77; refine (hpl _).mono ?_; rintro e wx ⟨rfl, hbx⟩; have CC := CC.below hbx; have Rr := Rr.below hbx; have hrr := hrr.below hbx; have Br := Br.trans (hbx.mono Br.size)))
                        all_goals
                          go_wp2
                          go_ret
                          exact ⟨false, rfl, ⟨fun h => (by cases h), fun h => absurd HO.out (by have := h.2 i hlt; rw [HZ.out] at this; exact this ea eb)⟩, Br⟩
                      · have HN := nxt (fun _ _ h => by obtain ⟨_, _, _, _, h1, h2, _, h4⟩ := h; rw [hFz] at h1; rw [hGz] at h2; cases h1; cases h2; exact e2 h4)
                        clear nxt
                        go_wp2
                        go_region_held3 (fun w' => w'.cell? ⟨X, 0, none⟩ = some (.int .i64 a) ∧ w'.cell? ⟨Y, 0, none⟩ = some (.int .i64 b) ∧ w'.cell? ⟨X, 513 + z, none⟩ = some (.bool true) ∧ w'.cell? ⟨Y, 513 + z, none⟩ = some (.bool true) ∧ w'.cell? ⟨X, 1 + z * 2, none⟩ = some (.int .i64 sz) ∧ w'.cell? ⟨X, 1 + z * 2 + 1, none⟩ = some (.int .i64 dz) ∧ w'.cell? ⟨Y, 1 + z * 2, none⟩ = some (.int .i64 tz) ∧ w'.cell? ⟨Y, 1 + z * 2 + 1, none⟩ = some (.int .i64 uz) ∧ w'.cell? ⟨Z, 0, none⟩ = some (.int .i64 s0) ∧ w'.cell? ⟨Z, 1, none⟩ = some (.int .i64 d0)) (first | (exact CC)) (first | (go_at_call 77; refine (hpl _).mono ?_; rintro e wx ⟨rfl, hbx⟩; have CC := CC.below hbx; have Rr := Rr.below hbx; have hrr := hrr.below hbx; have Br := Br.trans (hbx.mono Br.size)))
                        all_goals
                          go_wp2
                          go_roundg (l.length - (i + 1))
                        all_goals first | omega | exact ⟨i + 1, rfl, by go_num, by omega, HN, Rr, hrr, Br⟩
                    · have HN := nxt (fun _ _ h => by obtain ⟨_, _, _, _, h1, h2, h3, _⟩ := h; rw [hFz] at h1; rw [hGz] at h2; cases h1; cases h2; exact e1 h3)
                      clear nxt
                      go_wp2
                      go_region_held3 (fun w' => w'.cell? ⟨X, 0, none⟩ = some (.int .i64 a) ∧ w'.cell? ⟨Y, 0, none⟩ = some (.int .i64 b) ∧ w'.cell? ⟨X, 513 + z, none⟩ = some (.bool true) ∧ w'.cell? ⟨Y, 513 + z, none⟩ = some (.bool true) ∧ w'.cell? ⟨X, 1 + z * 2, none⟩ = some (.int .i64 sz) ∧ w'.cell? ⟨X, 1 + z * 2 + 1, none⟩ = some (.int .i64 dz) ∧ w'.cell? ⟨Y, 1 + z * 2, none⟩ = some (.int .i64 tz) ∧ w'.cell? ⟨Y, 1 + z * 2 + 1, none⟩ = some (.int .i64 uz) ∧ w'.cell? ⟨Z, 0, none⟩ = some (.int .i64 s0) ∧ w'.cell? ⟨Z, 1, none⟩ = some (.int .i64 d0)) (first | (exact CC)) (first | (go_at_call 77; refine (hpl _).mono ?_; rintro e wx ⟨rfl, hbx⟩; have CC := CC.below hbx; have Rr := Rr.below hbx; have hrr := hrr.below hbx; have Br := Br.trans (hbx.mono Br.size)))
                      all_goals
                        go_wp2
                        go_roundg (l.length - (i + 1))
                      all_goals first | omega | exact ⟨i + 1, rfl, by go_num, by omega, HN, Rr, hrr, Br⟩
          · have e : i = l.length := by omega
            subst e
            go_wp2
            go_ret
            exact ⟨true, rfl, ⟨fun _ => ⟨hFb, hno.out⟩, fun _ => rfl⟩, Br⟩
      · subst e1
        go_quiet (fail)
        go_wp2
        go_ret
        exact ⟨false, rfl, ⟨fun h => (by cases h), fun h => (by have := hFb.symm.trans h.1; simp at this; exact absurd this e2)⟩, below_drewN B4 _⟩
    · go_quiet (fail)
      go_wp2
      go_ret
      exact ⟨false, rfl, ⟨fun h => (by cases h), fun h => (by have := hFb.symm.trans h.1; simp at this; exact absurd this.1 e1)⟩, below_drewN B4 _⟩
end Go.Proofs.YtcagpmglijockaaGreatDoor
/-
  Corners: the reference's.
-/
namespace Go.Proofs.YtcagpmglijockaaGreatDoor
open Go.RowKit

theorem drewN_two (w : World) (m k : Nat) : (w.drewN m).drewN k = w.drewN (m + k) := by simp
/-- does a way turn here, round the cell at these differences? -/
def rcB (W H : Int) (bl : Nat → Bool) (x y : Int) (i j : Nat) : Bool := !openB W H bl (x + (2 * (i : Int) - 1)) (y + (2 * (j : Int) - 1)) && (openB W H bl (x + (2 * (i : Int) - 1)) y && openB W H bl x (y + (2 * (j : Int) - 1)))
theorem rcB_cr (W H : Int) (bl : Nat → Bool) (x y : Int) : rcB W H bl x y 1 0 = crB W H bl x y 1 ∧ rcB W H bl x y 1 1 = crB W H bl x y 3 ∧ rcB W H bl x y 0 1 = crB W H bl x y 5 ∧ rcB W H bl x y 0 0 = crB W H bl x y 7 := by
  unfold rcB crB
  refine ⟨?_, ?_, ?_, ?_⟩ <;> exact Bool.and_comm _ _
theorem turn_of_rc {W H x y : Int} {bl : Nat → Bool} {i j : Nat} (hi : i < 2) (hj : j < 2) (h : rcB W H bl x y i j = true) : turnB W H bl x y = true := by
  obtain ⟨h1, h2, h3, h4⟩ := rcB_cr W H bl x y
  have : (i = 0 ∨ i = 1) ∧ (j = 0 ∨ j = 1) := by omega
  obtain ⟨rfl | rfl, rfl | rfl⟩ := this
  · exact turnB_true (j := 3) (by omega) (by rw [← h4]; exact h)
  · exact turnB_true (j := 2) (by omega) (by rw [← h3]; exact h)
  · exact turnB_true (j := 0) (by omega) (by rw [← h1]; exact h)
  · exact turnB_true (j := 1) (by omega) (by rw [← h2]; exact h)
theorem no_turn_of_rc {W H x y : Int} {bl : Nat → Bool} (h : ∀ i j, i < 2 → j < 2 → rcB W H bl x y i j = false) : turnB W H bl x y = false := by
  obtain ⟨h1, h2, h3, h4⟩ := rcB_cr W H bl x y
  refine turnB_false fun j hj => ?_
  have : j = 0 ∨ j = 1 ∨ j = 2 ∨ j = 3 := by omega
  rcases this with rfl | rfl | rfl | rfl
  · rw [← h1]; exact h 1 0 (by omega) (by omega)
  · rw [← h2]; exact h 1 1 (by omega) (by omega)
  · rw [← h3]; exact h 0 1 (by omega) (by omega)
  · rw [← h4]; exact h 0 0 (by omega) (by omega)

set_option maxHeartbeats 1600000 in
set_option maxRecDepth 1000000 in
theorem rcorner' {b : Nat} {W H V c x y : Int} {bl : Nat → Bool} {r : Bool} (w : World) (g : RefAt w b W H V bl) (hx : Int.tmod c W = x) (hy : Int.tdiv c W = y) (hr : (openB W H bl x y && turnB W H bl x y) = r) (x1 : 0 ≤ x) (x2 : x < 16) (y1 : 0 ≤ y) (y2 : y < 16) :
    Calls Tryz.prog 64 #[.pointer (some ⟨b, 0, none⟩), .int .i64 c] w fun e w' => e = .returned (.bool r) ∧ ∃ m, w' = w.drewN m := by
  have c0 := g.c0
  have gw1 := g.w1
  have hne : W ≠ 0 := by omega
  have hwy : IntKind.i64.wrap y = y := by unfold IntKind.wrap; simp [IntKind.bits, IntKind.signed]; omega
  cases hA : openB W H bl x y with
  | false =>
    rw [hA] at hr
    simp only [Bool.false_and] at hr
    subst hr
    go_enter Tryz.func64, Tryz.ntmps64
    go_wp2_with (go_at_call 52; refine (ropen_v (by assumption) _ g).mono ?_; rintro e w' ⟨rfl, m, rfl⟩)
    go_ret
    exact ⟨rfl, _, rfl⟩
  | true =>
    rw [hA] at hr
    simp only [Bool.true_and] at hr
    have HR : Hid (turnB W H bl x y = r) := hr
    clear hr
    go_enter Tryz.func64, Tryz.ntmps64
    go_wp2_with (go_at_call 52; refine (ropen_v (by assumption) _ g).mono ?_; rintro e w' ⟨rfl, m, rfl⟩)
    go_loopg [7] (2 : Nat) (fun gk dv wr => ∃ i : Nat, i ≤ 2 ∧ gk = 2 - i ∧ dv = .int .i64 (2 * (i : Int) - 1) ∧ Hid (∀ i' j', i' < i → j' < 2 → rcB W H bl x y i' j' = false) ∧ ∃ m, wr = w.drewN m)
    case atStart => exact ⟨0, Nat.zero_le _, rfl, rfl, fun i' _ hj => absurd hj (by omega), m, rfl⟩
    case round =>
      obtain ⟨i, hi, hgk, rfl, hall, m, rfl⟩ := hrel
      by_cases hlt : i < 2
      · have hlt2 : 2 * (i : Int) - 1 < 2 := by omega
        go_wp2
        go_loopg [8] (2 : Nat) (fun gk dv wr => ∃ j : Nat, j ≤ 2 ∧ gk = 2 - j ∧ dv = .int .i64 (2 * (j : Int) - 1) ∧ Hid (∀ j', j' < j → rcB W H bl x y i j' = false) ∧ ∃ m, wr = w.drewN m)
        case atStart => exact ⟨0, Nat.zero_le _, rfl, rfl, fun j' hj => absurd hj (by omega), m, rfl⟩
        case round =>
          obtain ⟨j, hj, hgj, rfl, hin, m2, rfl⟩ := hrel
          by_cases hlj : j < 2
          · have hlj2 : 2 * (j : Int) - 1 < 2 := by omega
            have hrc : rcB W H bl x y i j = (!openB W H bl (x + (2 * (i : Int) - 1)) (y + (2 * (j : Int) - 1)) && (openB W H bl (x + (2 * (i : Int) - 1)) y && openB W H bl x (y + (2 * (j : Int) - 1)))) := rfl
            have go_on : rcB W H bl x y i j = false → Hid (∀ j', j' < j + 1 → rcB W H bl x y i j' = false) := fun h j' hj' => by
              by_cases e : j' = j
              · rw [e]; exact h
              · exact hin.out j' (by omega)
            cases hP : openB W H bl (x + (2 * (i : Int) - 1)) (y + (2 * (j : Int) - 1)) with
            | true =>
              rw [hP] at hrc
              have HN := go_on (by rw [hrc]; rfl)
              clear hrc go_on
              cases hQ : openB W H bl (x + (2 * (i : Int) - 1)) y <;> cases hS : openB W H bl x (y + (2 * (j : Int) - 1))
              all_goals
                go_wp2_with (go_at_call 52; refine (ropen_v (by assumption) _ (g.drewN _)).mono ?_; rintro e w' ⟨rfl, m3, rfl⟩)
                go_roundg (2 - (j + 1))
              all_goals first | omega | exact ⟨j + 1, by omega, rfl, by go_num, HN, _, rfl⟩
            | false =>
              cases hQ : openB W H bl (x + (2 * (i : Int) - 1)) y <;> cases hS : openB W H bl x (y + (2 * (j : Int) - 1))
              case true.true =>
                rw [hP, hQ, hS] at hrc
                have HT : Hid (turnB W H bl x y = true) := turn_of_rc hlt hlj hrc
                clear hrc go_on
                go_wp2_with (go_at_call 52; refine (ropen_v (by assumption) _ (g.drewN _)).mono ?_; rintro e w' ⟨rfl, m3, rfl⟩)
                go_ret
                exact ⟨by rw [← HR.out, HT.out]; rfl, _, rfl⟩
              all_goals
                rw [hP, hQ, hS] at hrc
                have HN := go_on (by rw [hrc]; rfl)
                clear hrc go_on
                go_wp2_with (go_at_call 52; refine (ropen_v (by assumption) _ (g.drewN _)).mono ?_; rintro e w' ⟨rfl, m3, rfl⟩)
                go_roundg (2 - (j + 1))
              all_goals first | omega | exact ⟨j + 1, by omega, rfl, by go_num, HN, _, rfl⟩
          · have e : j = 2 := by omega
            subst e
            go_wp2
            go_roundg (2 - (i + 1))
            case measure => omega
            case rel =>
              refine ⟨i + 1, by omega, rfl, by go_num, fun i' j' hi' hj' => ?_, _, rfl⟩
              by_cases e : i' = i
              · rw [e]; exact hin.out j' hj'
              · exact hall.out i' j' (by omega) hj'
      · have e : i = 2 := by omega
        subst e
        have HT : Hid (turnB W H bl x y = false) := no_turn_of_rc hall.out
        go_wp2
        go_ret
        exact ⟨by rw [← HR.out, HT.out]; rfl, _, rfl⟩

theorem rcorner_v {b : Nat} {W H V : Int} {bl : Nat → Bool} {c : Int} {r : Bool} (hc : cornB W H bl c = r) (w : World) (g : RefAt w b W H V bl) (hr : inB W H c = true) :
    Calls Tryz.prog 64 #[.pointer (some ⟨b, 0, none⟩), .int .i64 c] w fun e w' => e = .returned (.bool r) ∧ ∃ m, w' = w.drewN m := by
  obtain ⟨x1, x2, y1, y2⟩ := place_bd g.w1 hr
  have hq : 0 ≤ c ∧ c < W * H := of_decide_eq_true hr
  have gw := g.w2
  have gh := g.h2
  exact rcorner' w g (Int.tmod_eq_emod_of_nonneg hq.1) (Int.tdiv_eq_ediv_of_nonneg hq.1) hc x1 (by omega) y1 (by omega)

set_option maxHeartbeats 1600000 in
set_option maxRecDepth 1000000 in
theorem rcorners_any {b : Nat} {W H V : Int} {bl : Nat → Bool} (w : World) (g : RefAt w b W H V bl) (hb : b < w.heap.size) :
    Calls Tryz.prog 39 #[.pointer (some ⟨b, 0, none⟩)] w fun e w' => ∃ v, e = .returned v ∧
      w'.ownsRow w.heap.size 3 1 v (crs W H bl (W * H).toNat).length (vals (crs W H bl (W * H).toNat)) ∧ Below w.heap.size w w' := by
  obtain ⟨i0, hi, hz0, hz1, hz2⟩ := info_parts Tryz.info3
  obtain ⟨k1, k2⟩ := wh_bd g.w1 g.w2 g.h1 g.h2
  go_enter Tryz.func39, Tryz.ntmps39
  go_wp2
  go_loopw [3, 4] (fun v i wr => ∃ k : Nat, (k : Int) ≤ W * H ∧ i = .int .i64 k ∧ wr.ownsRow w.heap.size 3 1 v (crs W H bl k).length (vals (crs W H bl k)) ∧ Below w.heap.size w wr)
    (fun _ i _ => 1000 - (intOf i).toNat)
  case atStart => exact ⟨0, by omega, rfl, World.ownsRow_nil _ _ _ _, Below.refl _ _⟩
  case round =>
    obtain ⟨k, hk, rfl, hown, hnx⟩ := hrel
    have hl := crs_len W H bl k
    have gr := g.below hnx hb
    have c0 := gr.c0
    have c1 := gr.c1
    have hsz := hnx.size
    by_cases hlt : (k : Int) < W * H
    · have hms := crs_succ W H bl k
      have hin : inB W H (k : Nat) = true := decide_eq_true ⟨by omega, hlt⟩
      cases hM : cornB W H bl (k : Nat) with
      | false =>
        rw [hM] at hms
        have h0 : crs W H bl (k + 1) = crs W H bl k := by simpa using hms
        have HS : Hid (crs W H bl (k + 1) = crs W H bl k) := h0
        clear h0 hms
        go_wp2
        go_quiet (fail)
        go_wp2_with (go_at_call 64; refine (rcorner_v hM _ (gr.drewN _) hin).mono ?_; rintro e w' ⟨rfl, m, rfl⟩)
        go_roundw
        case rel => exact ⟨k + 1, by omega, by go_num, by rw [HS.out]; exact hown, below_drewN hnx _⟩
        case measure => simp [intOf]; omega
      | true =>
        rw [hM] at hms
        have h0 : crs W H bl (k + 1) = crs W H bl k ++ [k] := by simpa using hms
        have HS : Hid (crs W H bl (k + 1) = crs W H bl k ++ [k]) := h0
        clear h0 hms
        go_wp2
        go_quiet (fail)
        go_wp2_with (first | (go_at_call 64; refine (rcorner_v hM _ (gr.drewN _) hin).mono ?_; rintro e w' ⟨rfl, m, hm'⟩; rw [drewN_two] at hm'; subst hm') | (at_builtin; refine wpList_append_own _ rfl _ _ 22 rfl w.heap.size 3 i0 (.int .i64 0) 1 8 Tryz.underlying22 hi hz0 hz1 hz2 rfl (by decide) _ _ _ rfl (World.ownsRow.alloc hown _) ⟨wr.heap.size, 0, none⟩ 1 1 [.int .i64 k] rfl rfl ?c1 ?c2 ?c3 ?c4 ?c5 ?_))
        case c1 =>
          intro j u hj
          match j, hj with
          | 0, hj =>
            simp at hj; subst hj; simp only [Addr.add]
            exact World.cell?_alloc_at (w := wr.drewN (nq + m)) #[.int .i64 k] 3 wr.heap.size 0 rfl
        case c2 => intro u hu; simp at hu; subst hu; rfl
        case c3 => unfold maxLen; omega
        case c4 => omega
        case c5 => simp; omega
        intro v' w1 hown' hgrow _
        have hbase := fun q hq => (hown.lt q hq).1
        have B1 : Below w.heap.size w w1 := ((below_drewN hnx (nq + m)).alloc hsz _).grown hgrow (by simp; omega) hbase
        have O1 : w1.ownsRow w.heap.size 3 1 v' (crs W H bl (k + 1)).length (vals (crs W H bl (k + 1))) := by
          rw [HS.out]
          simpa [vals] using hown'
        clear hown' hgrow hown hnx gr c0 c1
        go_wp2
        go_roundw
        case rel => exact ⟨k + 1, by omega, by go_num, O1, B1⟩
        case measure => simp [intOf]; omega
    · have e : (W * H).toNat = k := by omega
      have HE : Hid ((W * H).toNat = k) := e
      clear e
      go_wp2
      go_quiet (fail)
      go_wp2
      go_ret
      exact ⟨_, rfl, by rw [HE.out]; exact hown, below_drewN hnx _⟩
end Go.Proofs.YtcagpmglijockaaGreatDoor
