/-
  Texts laid together: LaidT, FF, Ray.
-/
import Derived.Test.YtmnpplkjhnoglaaGreatDoorP41
/-
  What is laid from a plot, whatever it is.
-/
namespace Go.Proofs.YtmnpplkjhnoglaaGreatDoor
open Go.RowKit

theorem laid_any (W H : Int) (A : Option Addr) (n cap : Nat) (xs : Nat → Int) (w : World) (hm : n ≤ maxLen) (hx : OldRow w A n xs) :
    Calls Tryz.prog 8 #[.agg #[.int .i64 W, .int .i64 H, .slice A n cap]] w fun e w' => Below w.heap.size w w' ∧ (e = .returned (.tuple #[.pointer none, .pointer none, .bool false]) ∨
      (e = .returned (.tuple #[.pointer (some ⟨w.heap.size + 1, 0, none⟩), .pointer (some ⟨w.heap.size + 1 + 1, 0, none⟩), .bool true]) ∧ w'.heap.size = w.heap.size + 3 ∧ ∃ V bl, V ≤ 300 ∧ Both w' (w.heap.size + 1) (w.heap.size + 1 + 1) W H V bl)) := by
  by_cases hn : 300 < (n : Int)
  · exact (laid_many W H A n cap w hn hm).mono fun e w' ⟨h1, h2⟩ => ⟨h2, Or.inl h1⟩
  · cases hW : sideB W with
    | false => exact (laid_bad W H A n cap w hn (.inl hW)).mono fun e w' ⟨h1, h2⟩ => ⟨h2, Or.inl h1⟩
    | true =>
      cases hH : sideB H with
      | false => exact (laid_bad W H A n cap w hn (.inr ⟨hW, hH⟩)).mono fun e w' ⟨h1, h2⟩ => ⟨h2, Or.inl h1⟩
      | true => exact (laid_ok W H A n cap xs w hn hW hH hx).mono fun e w' ⟨h1, h2, h3, h4⟩ => ⟨h2, Or.inr ⟨h1, h3, h4⟩⟩
theorem Both.below' {w w' : World} {g m : Nat} {W H V : Int} {bl : Nat → Bool} (h : Both w g m W H V bl) (hb : Below w.heap.size w w') : Both w' g m W H V bl := by
  have hg : g < w.heap.size := World.block_lt_of_cell? w _ h.ga.c0
  have hm : m < w.heap.size := World.block_lt_of_cell? w _ h.ra.c0
  exact ⟨h.ga.below hb hg, fun o => (hb.frozen (p := ⟨g, o, none⟩) hg).trans (h.gf o), h.ra.below hb hm, fun o => (hb.frozen (p := ⟨m, o, none⟩) hm).trans (h.rf o), h.v1, h.ne⟩
end Go.Proofs.YtmnpplkjhnoglaaGreatDoor
/-
  Is a cell free, by the reference.
-/
namespace Go.Proofs.YtmnpplkjhnoglaaGreatDoor
open Go.RowKit

set_option maxHeartbeats 400000 in
theorem ff_out {b : Nat} {W H V : Int} {bl : Nat → Bool} (c : Int) (w : World) (g : RefAt w b W H V bl) (hr : inB W H c = false) :
    Calls Tryz.prog 36 #[.pointer (some ⟨b, 0, none⟩), .int .i64 c] w fun e w' => e = .returned (.int .i64 1) ∧ Below w.heap.size w w' := by
  go_enter Tryz.func36, Tryz.ntmps36
  go_wp2_with (go_at_call 31; refine (ris_out c _ g hr).mono ?_; rintro e w' ⟨rfl, m, rfl⟩)
  go_ret
  exact ⟨rfl, below_drewN (Below.refl _ _) _⟩
set_option maxHeartbeats 400000 in
set_option maxRecDepth 1000000 in
theorem ff_in {b : Nat} {W H V : Int} {bl : Nat → Bool} (c : Nat) (w : World) (g : RefAt w b W H V bl) (hr : inB W H c = true) :
    Calls Tryz.prog 36 #[.pointer (some ⟨b, 0, none⟩), .int .i64 c] w fun e w' => e = .returned (.int .i64 (if bl c then 4 else 0)) ∧ Below w.heap.size w w' := by
  have hc : 0 ≤ (c : Int) ∧ (c : Int) < W * H := of_decide_eq_true hr
  obtain ⟨k1, k2⟩ := wh_bd g.w1 g.w2 g.h1 g.h2
  have hcell := g.cs c (by omega)
  have i1 : (c : Int) < 256 := by omega
  cases hb : bl c with
  | true =>
    rw [hb] at hcell
    go_enter Tryz.func36, Tryz.ntmps36
    go_wp2_with (go_at_call 31; refine (ris_in c _ g hr).mono ?_; rintro e w' ⟨rfl, m, rfl⟩)
    go_ret
    exact ⟨rfl, below_drewN (Below.refl _ _) _⟩
  | false =>
    rw [hb] at hcell
    go_enter Tryz.func36, Tryz.ntmps36
    go_wp2_with (go_at_call 31; refine (ris_in c _ g hr).mono ?_; rintro e w' ⟨rfl, m, rfl⟩)
    go_ret
    exact ⟨rfl, below_drewN (Below.refl _ _) _⟩
theorem ff_any {b : Nat} {W H V : Int} {bl : Nat → Bool} (c : Int) (w : World) (g : RefAt w b W H V bl) :
    Calls Tryz.prog 36 #[.pointer (some ⟨b, 0, none⟩), .int .i64 c] w fun e w' => e = .returned (.int .i64 (ffv W H bl c)) ∧ Below w.heap.size w w' := by
  cases hr : inB W H c with
  | false =>
    have e : ffv W H bl c = 1 := by unfold ffv; rw [hr]; rfl
    rw [e]; exact ff_out c w g hr
  | true =>
    have hc : 0 ≤ c ∧ c < W * H := of_decide_eq_true hr
    obtain ⟨n, rfl⟩ : ∃ n : Nat, c = n := ⟨c.toNat, by omega⟩
    have e : ffv W H bl n = if bl n then 4 else 0 := by unfold ffv; rw [hr]; rfl
    rw [e]; exact ff_in n w g hr
end Go.Proofs.YtmnpplkjhnoglaaGreatDoor
/-
  What all cells cost from one, as one value: the reference's 'from'.
-/
namespace Go.Proofs.YtmnpplkjhnoglaaGreatDoor
open Go.RowKit

/-- a ray's cells -/
def rayL (c : Int) (F : Int → Option (Int × Int)) : List Value := Value.int .i64 c :: (costL F ++ isL F)
/-- .. of an empty one -/
def zR (c : Int) : List Value := Value.int .i64 c :: (List.replicate 512 (Value.int .i64 0) ++ List.replicate 256 (Value.bool false))
theorem zR_len (c : Int) : (zR c).length = 769 := by unfold zR; rw [List.length_cons, List.length_append, List.length_replicate, List.length_replicate]
theorem rayL_len (c : Int) (F : Int → Option (Int × Int)) : (rayL c F).length = 769 := by unfold rayL; rw [List.length_cons, List.length_append, costL_len, isL_len]
theorem zR_one (c : Int) : ∀ v ∈ zR c, v.oneCell' = true := by
  intro v hv
  unfold zR at hv
  rw [List.mem_cons, List.mem_append, List.mem_replicate, List.mem_replicate] at hv
  rcases hv with rfl | ⟨_, rfl⟩ | ⟨_, rfl⟩ <;> rfl
theorem rayL_one (c : Int) (F : Int → Option (Int × Int)) : ∀ v ∈ rayL c F, v.oneCell' = true := by
  intro v hv
  unfold rayL at hv
  rw [List.mem_cons, List.mem_append] at hv
  rcases hv with rfl | h | h
  · rfl
  · exact costL_one F v h
  · exact isL_one F v h
theorem run_alloc112 (w : World) : (Instr.alloc 103 true (.tuple #[])).run Tryz.prog w = .ok (.pointer (some ⟨w.heap.size, 0, none⟩)) (w.alloc (.cells (zR 0).toArray 103)) := by kernel_rfl
theorem built112 (c : Int) : Tryz.prog.built 103 [(0, .int .i64 c)] = some (zR c).toArray := by kernel_rfl
theorem info112 : (Tryz.prog.info? 103).map (·.size) = some 769 := by kernel_rfl
/-- memory of a type, by what is laid -/
theorem wpList_alloc_by {t : TypeId} {z : Array Value} (hal : ∀ w : World, (Instr.alloc t true (.tuple #[])).run Tryz.prog w = .ok (.pointer (some ⟨w.heap.size, 0, none⟩)) (w.alloc (.cells z t))) {ops : Array Oper} {rest : List Oper} {o : Oper} {a : Act} {w : World} {Q : Exit → Act → World → Prop} (hgd : o.guard = none) (ho : o.op = .alloc t)
    (h : wpList Tryz.prog ops Q rest (a.put o.dst (.pointer (some ⟨w.heap.size, 0, none⟩))) (w.alloc (.cells z t))) : wpList Tryz.prog ops Q (o :: rest) a w :=
  wpList_plain hgd fun _ hK => by
    unfold Oper.wp execOp
    simp only [ho, Sem.run_bind, hal w, Result.andThen_ok]
    exact hK _ _ h
/-- a struct whose first field is said -/
theorem wpList_build_by {t : TypeId} {z : Array Value} {v : Value} (hbu : Tryz.prog.built t [(0, v)] = some z) {ops : Array Oper} {rest : List Oper} {o : Oper} {a : Act} {w : World} {Q : Exit → Act → World → Prop} (hgd : o.guard = none) (x : Operand) (ho : o.op = .build t #[(0, x)])
    (hx : a.eval x = v) (h : wpList Tryz.prog ops Q rest (a.put o.dst (.agg z)) w) : wpList Tryz.prog ops Q (o :: rest) a w :=
  wpList_plain hgd fun _ hK => by
    have e : Tryz.prog.built t ((#[(0, x)] : Array (Nat × Operand)).map fun (i, x) => (i, a.eval x)).toList = some z := by
      have e0 : ((#[(0, x)] : Array (Nat × Operand)).map fun (i, x) => (i, a.eval x)).toList = [(0, a.eval x)] := by simp
      rw [e0, hx]
      exact hbu
    refine wp_build t #[(0, x)] ho (by rw [e]; rfl) ?_
    rw [e]
    exact hK _ _ h

theorem rayL_at {c : Int} {F : Int → Option (Int × Int)} (i : Nat) : (rayL c F)[1 + i]? = (costL F ++ isL F)[i]? := by
  unfold rayL
  rw [Nat.add_comm, List.getElem?_cons_succ]

/-- a ray lies in block b -/
structure RayAt (w : World) (b : Nat) (c : Int) (F : Int → Option (Int × Int)) : Prop where
  a0 : w.cell? ⟨b, 0, none⟩ = some (.int .i64 c)
  s0 : ∀ p : Nat, p < 256 → w.cell? ⟨b, 1 + p * 2, none⟩ = some (.int .i64 (labS F p))
  d0 : ∀ p : Nat, p < 256 → w.cell? ⟨b, 1 + p * 2 + 1, none⟩ = some (.int .i64 (labD F p))
  i0 : ∀ p : Nat, p < 256 → w.cell? ⟨b, 513 + p, none⟩ = some (.bool (F p).isSome)
theorem RayAt.lt {w : World} {b : Nat} {c : Int} {F : Int → Option (Int × Int)} (h : RayAt w b c F) : b < w.heap.size := World.block_lt_of_cell? w _ h.a0
theorem RayAt.below {w w' : World} {b : Nat} {c : Int} {F : Int → Option (Int × Int)} (h : RayAt w b c F) (hb : Below w.heap.size w w') : RayAt w' b c F := by
  have k : ∀ {a : Addr} {v : Value}, w.cell? a = some v → w'.cell? a = some v := fun {a v} h => (hb.cell (World.block_lt_of_cell? w a h)).trans h
  exact ⟨k h.a0, fun p hp => k (h.s0 p hp), fun p hp => k (h.d0 p hp), fun p hp => k (h.i0 p hp)⟩
theorem costL_at (F : Int → Option (Int × Int)) (i : Nat) (hi : i < 512) : (costL F)[i]? = some (Value.int .i64 (if i % 2 = 0 then labS F (i / 2 : Nat) else labD F (i / 2 : Nat))) := by
  unfold costL
  rw [List.getElem?_map, List.getElem?_range hi]
  rfl
theorem isL_at (F : Int → Option (Int × Int)) (i : Nat) (hi : i < 256) : (isL F)[i]? = some (Value.bool (F (i : Int)).isSome) := by
  unfold isL
  rw [List.getElem?_map, List.getElem?_range hi]
  rfl
theorem rayAt_range {w : World} {b : Nat} {c : Int} {F : Int → Option (Int × Int)} (h : w.rangeAt b 0 (rayL c F)) : RayAt w b c F := by
  have at_ : ∀ j v, (rayL c F)[j]? = some v → w.cell? ⟨b, j, none⟩ = some v := fun j v hj => by have := h j v hj; rw [Nat.zero_add] at this; exact this
  refine ⟨at_ 0 _ rfl, fun p hp => at_ _ _ ?_, fun p hp => at_ _ _ ?_, fun p hp => at_ _ _ ?_⟩
  · rw [rayL_at, List.getElem?_append_left (by rw [costL_len]; omega), costL_at F _ (by omega)]
    rw [if_pos (by omega), show p * 2 / 2 = p by omega]
  · rw [show 1 + p * 2 + 1 = 1 + (p * 2 + 1) by omega, rayL_at, List.getElem?_append_left (by rw [costL_len]; omega), costL_at F _ (by omega)]
    rw [if_neg (by omega), show (p * 2 + 1) / 2 = p by omega]
  · rw [show 513 + p = 1 + (512 + p) by omega, rayL_at, List.getElem?_append_right (by rw [costL_len]; omega), costL_len, show 512 + p - 512 = p by omega]
    exact isL_at F p hp
theorem range_ray {w : World} {b : Nat} {c : Int} {F : Int → Option (Int × Int)} (h0 : w.cell? ⟨b, 0, none⟩ = some (.int .i64 c)) (h1 : w.rangeAt b 1 (costL F)) (h2 : w.rangeAt b 513 (isL F)) : w.rangeAt b 0 (rayL c F) := by
  intro j v hj
  rw [Nat.zero_add]
  cases j with
  | zero =>
    have : v = .int .i64 c := (Option.some.inj hj).symm
    rw [this]; exact h0
  | succ j =>
    rw [Nat.add_comm, rayL_at] at hj
    by_cases q : j < 512
    · rw [List.getElem?_append_left (by rw [costL_len]; exact q)] at hj
      rw [Nat.add_comm]
      exact h1 j v hj
    · rw [List.getElem?_append_right (by rw [costL_len]; omega), costL_len] at hj
      have := h2 (j - 512) v hj
      rw [show 513 + (j - 512) = j + 1 by omega] at this
      exact this
theorem there_sub {w : World} {b o n o' n' : Nat} (h : w.there b o n) (h1 : o ≤ o') (h2 : o' + n' ≤ o + n) : w.there b o' n' := fun j hj => by
  have := h (o' - o + j) (by omega)
  rw [show o + (o' - o + j) = o' + j by omega] at this
  exact this
theorem there_below {w w' : World} {b o n : Nat} (h : w.there b o n) (hl : b < w.heap.size) (hb : Below w.heap.size w w') : w'.there b o n := fun j hj => by
  rw [hb.cell (p := ⟨b, o + j, none⟩) hl, hb.frozen (p := ⟨b, o + j, none⟩) hl]
  exact h j hj

def Rayed (w w' : World) (e : Ending) (W H : Int) (bl : Nat → Bool) (o : Int) : Prop :=
  ∃ F, e = .returned (.agg (rayL o F).toArray) ∧ Best (Edge W H bl) o F ∧ Below w.heap.size w w'

theorem fz_of {w : World} {b o n : Nat} (h : w.there b o n) (j : Nat) (hj : j < n) : w.frozen? ⟨b, o + 0 + j, none⟩ = false := (h j hj).2
theorem is_of {w : World} {b o n : Nat} (h : w.there b o n) (j : Nat) (hj : j < n) : (w.cell? ⟨b, o + 0 + j, none⟩).isSome = true := (h j hj).1
theorem stored {w : World} {b o n : Nat} {l : List Value} (hl : l.length = n) (h : w.there b o n) (ho : ∀ v ∈ l, v.oneCell' = true) : (storeCells ⟨b, o, none⟩ l).run Tryz.prog w = .ok () (w.setCells b o l) :=
  run_storeCells_cells (P := Tryz.prog) b o l 0 w (fun j hj => is_of h j (by omega)) (fun j hj => fz_of h j (by omega)) ho

theorem results_one {P : Program} {fn : Func} {tmps : Array Value} {w : World} {i : Nat} {s : TypeId} {A : Addr} {u : Value} (hr : fn.results = #[.cell i s]) (a : tmps.getD i undef = .pointer (some A))
    (h : (loadVar s A).run P w = .ok u w) : (results fn tmps).run P w = .ok u w := by
  unfold results
  rw [hr]
  rw [Array.getD_eq_getD_getElem?] at a
  simp [a, h, asAddr]

set_option maxHeartbeats 1000000 in
set_option maxRecDepth 1000000 in
theorem from' {M : Nat} {W H V : Int} {bl : Nat → Bool} {z0 zc : List Value} (c : Nat) (w : World) (g : RefAt w M W H V bl) (hml : M < w.heap.size) (hr : inB W H c = true)
    (hal : ∀ w : World, (Instr.alloc 103 true (.tuple #[])).run Tryz.prog w = .ok (.pointer (some ⟨w.heap.size, 0, none⟩)) (w.alloc (.cells z0.toArray 103)))
    (hbu : Tryz.prog.built 103 [(0, .int .i64 (c : Int))] = some zc.toArray) (l0 : z0.length = 769) (lc : zc.length = 769) (oc : ∀ v ∈ zc, v.oneCell' = true) (a0 : zc[0]? = some (.int .i64 (c : Int))) :
    Calls Tryz.prog 50 #[.pointer (some ⟨M, 0, none⟩), .int .i64 (c : Int)] w fun e w' => Rayed w w' e W H bl c := by
  have th0 := new_there w z0 103 769 l0
  have th1 := new_there (w.alloc (.cells z0.toArray 103)) z0 103 769 l0
  have hz1 : (w.alloc (.cells z0.toArray 103)).heap.size = w.heap.size + 1 := by simp
  rw [hz1] at th1
  have th0 := World.there_alloc th0 (.cells z0.toArray 103)
  have B1 : Below w.heap.size w ((w.alloc (.cells z0.toArray 103)).alloc (.cells z0.toArray 103)) := ((Below.refl _ _).alloc (Nat.le_refl _) _).alloc (by simp) _
  have hst := stored lc th1 oc
  have B2 : Below w.heap.size w (((w.alloc (.cells z0.toArray 103)).alloc (.cells z0.toArray 103)).setCells (w.heap.size + 1) 0 zc) := below_setCells _ (by omega) _ _ B1
  have hr1 := World.rangeAt_setCells_same ((w.alloc (.cells z0.toArray 103)).alloc (.cells z0.toArray 103)) (w.heap.size + 1) 0 zc (by rw [lc]; exact th1)
  have ha1 := hr1 0 _ a0
  have th0 := World.there_setCells th0 (w.heap.size + 1) 0 zc
  have th1 := World.there_setCells th1 (w.heap.size + 1) 0 zc
  go_enter Tryz.func50, Tryz.ntmps50
  go_wp2_with (first | (refine wpList_alloc_by hal rfl rfl ?_) | (refine wpList_build_by hbu rfl _ rfl rfl ?_))
  clear hst hr1 B1 oc a0
  generalize ((w.alloc (.cells z0.toArray 103)).alloc (.cells z0.toArray 103)).setCells (w.heap.size + 1) 0 zc = W2 at *
  have hl1 : w.heap.size + 1 < W2.heap.size := World.block_lt_of_cell? _ _ ha1
  have hfl := rflood_any c W2 (g.below B2 hml) (Nat.lt_of_lt_of_le hml B2.size) hr
  refine hfl.mono ?_
  rintro e w3 ⟨F, rfl, BF, hb3⟩
  have B3 := B2.trans (hb3.mono B2.size)
  have ha3 := (hb3.cell (p := ⟨w.heap.size + 1, 0 + 0, none⟩) hl1).trans ha1
  have th0 := there_below th0 (by omega) hb3
  have th1 := there_below th1 hl1 hb3
  have lC := costL_len F
  have lI := isL_len F
  have oC := costL_one F
  have oI := isL_one F
  have oR := rayL_one (c : Int) F
  have lR := rayL_len (c : Int) F
  have tC : w3.there (w.heap.size + 1) 1 512 := there_sub th1 (by omega) (by omega)
  have tI : (w3.setCells (w.heap.size + 1) 1 (costL F)).there (w.heap.size + 1) 513 256 := World.there_setCells (there_sub th1 (by omega) (by omega)) _ _ _
  have s1 := stored lC tC oC
  have s2 := stored lI tI oI
  have rC : ((w3.setCells (w.heap.size + 1) 1 (costL F)).setCells (w.heap.size + 1) 513 (isL F)).rangeAt (w.heap.size + 1) 1 (costL F) := World.rangeAt_setCells_apart (World.rangeAt_setCells_same _ _ _ _ (by rw [lC]; exact tC)) _ _ _ (Or.inr (Or.inl (by omega)))
  have rI : ((w3.setCells (w.heap.size + 1) 1 (costL F)).setCells (w.heap.size + 1) 513 (isL F)).rangeAt (w.heap.size + 1) 513 (isL F) := World.rangeAt_setCells_same _ _ _ _ (by rw [lI]; exact tI)
  have rA : ((w3.setCells (w.heap.size + 1) 1 (costL F)).setCells (w.heap.size + 1) 513 (isL F)).cell? ⟨w.heap.size + 1, 0, none⟩ = some (.int .i64 (c : Int)) := by
    have k1 : w3.rangeAt (w.heap.size + 1) 0 [.int .i64 (c : Int)] := fun j v hj => by
      cases j with
      | zero => cases hj; exact ha3
      | succ j => cases hj
    have k2 := World.rangeAt_setCells_apart (World.rangeAt_setCells_apart k1 (w.heap.size + 1) 1 (costL F) (Or.inr (Or.inl (by simp)))) (w.heap.size + 1) 513 (isL F) (Or.inr (Or.inl (by simp)))
    exact k2 0 _ rfl
  have rR := range_ray rA rC rI
  have B4 : Below w.heap.size w ((w3.setCells (w.heap.size + 1) 1 (costL F)).setCells (w.heap.size + 1) 513 (isL F)) := below_setCells _ (by omega) _ _ (below_setCells _ (by omega) _ _ B3)
  have th0 := World.there_setCells (World.there_setCells th0 (w.heap.size + 1) 1 (costL F)) (w.heap.size + 1) 513 (isL F)
  have s3 := stored lR th0 oR
  have rF : (((w3.setCells (w.heap.size + 1) 1 (costL F)).setCells (w.heap.size + 1) 513 (isL F)).setCells w.heap.size 0 (rayL (c : Int) F)).rangeAt w.heap.size 0 (rayL (c : Int) F) := World.rangeAt_setCells_same _ _ _ _ (by rw [lR]; exact th0)
  have B5 : Below w.heap.size w (((w3.setCells (w.heap.size + 1) 1 (costL F)).setCells (w.heap.size + 1) 513 (isL F)).setCells w.heap.size 0 (rayL (c : Int) F)) := below_setCells _ (Nat.le_refl _) _ _ B4
  clear rC rI rA oC oI tC tI ha3 ha1 B3 B2 hfl hb3 B4
  generalize hRL : rayL (c : Int) F = RL at *
  have HRL : Hid (rayL (c : Int) F = RL) := hRL
  clear hRL
  generalize costL F = CL at *
  generalize isL F = IL at *
  go_wp2_with (refine wpList_load_mid rfl 103 _ rfl (w.heap.size + 1) 0 rfl RL _ rR Tryz.underlying103 rfl (by rw [info112, lR]) ?_)
  refine bodyPost_ret (v := .agg RL.toArray) (results_one Tryz.results50 rfl (run_loadVar_mid _ w.heap.size 0 103 RL _ rF Tryz.underlying103 rfl (by rw [info112, lR]))) rfl ⟨F, by rw [HRL.out], BF, B5⟩

theorem from_any {M : Nat} {W H V : Int} {bl : Nat → Bool} (c : Nat) (w : World) (g : RefAt w M W H V bl) (hml : M < w.heap.size) (hr : inB W H c = true) :
    Calls Tryz.prog 50 #[.pointer (some ⟨M, 0, none⟩), .int .i64 (c : Int)] w fun e w' => Rayed w w' e W H bl c :=
  from' c w g hml hr run_alloc112 (built112 c) (zR_len 0) (zR_len c) (zR_one c) rfl
end Go.Proofs.YtmnpplkjhnoglaaGreatDoor
