/-
  Texts laid together: AsAid, MapF, Rep, Before.
-/
import Derived.Test.YtfhicijgpdpfpaaDoorP4
import Derived.WalkKit
import Derived.WalkSpells
import Derived.Maps.OwnSet
import Derived.Maps.OwnOps
import Derived.Deep.QuietTactic
import Derived.BigQuiet
import Derived.Test.YtfhicijgpdpfpaaDoorRows
import Derived.RegionTactic
import Derived.BigRegion
import Derived.Laws.OwnMore
/-
  Small facts for the walk of 'asGrid'.
-/
namespace Go.Proofs.YtfhicijgpdpfpaaDoor
open Go.RowKit

theorem Calls.quiet_off_same {P : Program} {f : FuncId} {args : Array Value} {w : World} {a n : Nat} {v : Value}
    (h : Calls P f args (w.drewN (a + n)) fun e w' => e = .returned v ∧ w' = w.drewN (a + n)) : Calls P f args (w.drewN (a + n)) fun e w'' => e = .returned v ∧ ∃ m, w'' = w.drewN (a + m) :=
  h.mono fun _ _ ⟨he, hm⟩ => ⟨he, n, hm⟩

/-- two rows of the same numbers -/
theorem sameRows {w : World} {A B : Option Addr} {n ca cb : Nat} {xs : Nat → Int} (hn : n ≤ 1000000) (hA : OldRow w A n xs) (hB : OldRow w B n xs) :
    Calls Tryd.prog 32 #[.slice A n ca, .slice B n cb] w fun e w' => e = .returned (.bool true) ∧ ∃ m, w' = w.drewN m := by
  by_cases h0 : n = 0
  · subst h0
    exact sameNumbers_zero A B ca cb w
  · obtain ⟨b, o, rfl, _, _⟩ := hA 0 (by omega)
    obtain ⟨b2, o2, rfl, _, _⟩ := hB 0 (by omega)
    refine sameNumbers_pos b o b2 o2 n ca cb xs w hn (fun i hi => ?_) (fun i hi => ?_)
    · obtain ⟨b', o', e, _, hc⟩ := hA i hi
      cases e
      exact hc
    · obtain ⟨b', o', e, _, hc⟩ := hB i hi
      cases e
      exact hc

theorem rmoves_v {b : Nat} {W H V c : Int} {bl : Nat → Bool} {l : List Nat} (hl : DirsOf W H bl c l) (w : World) (g : RefAt w b W H V bl) (hr : inB W H c = true) (hb : b < w.heap.size) :
    Calls Tryd.prog 24 #[.pointer (some ⟨b, 0, none⟩), .int .i64 c] w fun e w' => ∃ A cap, e = .returned (.slice A l.length cap) ∧ OldRow w' A l.length (fun i => (l.getD i 0 : Nat)) ∧ Below w.heap.size w w' :=
  (rmoves_in c w g hr hb).mono fun e w' ⟨v, he, hown, hbl⟩ => by
    rw [hl.eq] at hown
    obtain ⟨A, cap, rfl, hrow⟩ := row_of hown
    exact ⟨A, cap, he, hrow, hbl⟩

theorem rto_v {b : Nat} {W H V c r : Int} {bl : Nat → Bool} {d : Nat} (hr : c + (stepY d * W + stepX d) = r) (w : World) (g : RefAt w b W H V bl) (hd : d < 8) (c1 : -1000 ≤ c) (c2 : c ≤ 1000) :
    Calls Tryd.prog 48 #[.pointer (some ⟨b, 0, none⟩), .int .i64 c, .int .i64 d] w fun e w' => e = .returned (.int .i64 r) ∧ w' = w := by
  have := rto_any c d w g hd c1 c2
  rw [show c + stepX d + stepY d * W = r from by omega] at this
  exact this
theorem to_v {b : Nat} {W H V c r : Int} {bl : Nat → Bool} {d : Nat} (hr : c + (stepY d * W + stepX d) = r) (w : World) (g : GridAt w b W H V bl) (s : StepsAt w) (hd : d < 8) (c1 : -1000 ≤ c) (c2 : c ≤ 1000) :
    Calls Tryd.prog 25 #[.pointer (some ⟨b, 0, none⟩), .int .i64 c, .int .i64 d] w fun e w' => e = .returned (.int .i64 r) ∧ ∃ m, w' = w.drewN m := hr ▸ to_any c d w g s hd c1 c2

/-- both grids alike -/
structure Pair (w : World) (g m : Nat) (W H V : Int) (bl : Nat → Bool) : Prop where
  ga : GridAt w g W H V bl
  ra : RefAt w m W H V bl
  gl : g < w.heap.size
  ml : m < w.heap.size
  st : StepsAt w
  z : 0 < w.heap.size
theorem Pair.below {w w' : World} {g m : Nat} {W H V : Int} {bl : Nat → Bool} (h : Pair w g m W H V bl) (hb : Below w.heap.size w w') : Pair w' g m W H V bl :=
  ⟨h.ga.below hb h.gl, h.ra.below hb h.ml, Nat.lt_of_lt_of_le h.gl hb.size, Nat.lt_of_lt_of_le h.ml hb.size, h.st.below hb h.z, Nat.lt_of_lt_of_le h.z hb.size⟩
theorem Pair.drewN {w : World} {g m : Nat} {W H V : Int} {bl : Nat → Bool} (h : Pair w g m W H V bl) (k : Nat) : Pair (w.drewN k) g m W H V bl := ⟨h.ga.drewN k, h.ra.drewN k, h.gl, h.ml, h.st, h.z⟩
end Go.Proofs.YtfhicijgpdpfpaaDoor
/-
  A map with whole numbers as keys that lies in a block, told as a function of the key; and worlds that differ but in some blocks.
-/
namespace Go.Proofs.YtfhicijgpdpfpaaDoor
open Go.RowKit Go.Maps

/-- what old blocks may have turned -/
structure Keep (F : Nat → Prop) (w w' : World) : Prop where
  os : w'.os = w.os
  tape : w'.tape = w.tape
  output : w'.output = w.output
  size : w.heap.size ≤ w'.heap.size
  block : ∀ k, k < w.heap.size → ¬ F k → w'.heap[k]? = w.heap[k]?

theorem Keep.refl (F : Nat → Prop) (w : World) : Keep F w w := ⟨rfl, rfl, rfl, Nat.le_refl _, fun _ _ _ => rfl⟩
theorem Keep.trans {F G : Nat → Prop} {a b c : World} (h : Keep F a b) (k : Keep G b c) (hs : ∀ i, i < a.heap.size → G i → F i) : Keep F a c :=
  ⟨k.os.trans h.os, k.tape.trans h.tape, k.output.trans h.output, Nat.le_trans h.size k.size, fun i hi hn => (k.block i (Nat.lt_of_lt_of_le hi h.size) (fun g => hn (hs i hi g))).trans (h.block i hi hn)⟩
theorem Keep.mono {F G : Nat → Prop} {a b : World} (h : Keep F a b) (hs : ∀ i, i < a.heap.size → F i → G i) : Keep G a b :=
  ⟨h.os, h.tape, h.output, h.size, fun i hi hn => h.block i hi (fun g => hn (hs i hi g))⟩
theorem Keep.grown {F : Nat → Prop} {a b c : World} {row : Option Nat} (h : Keep F a b) (hg : b.grownBy c row) (hr : ∀ k, row = some k → k < a.heap.size → F k) : Keep F a c :=
  ⟨hg.os.trans h.os, hg.tape.trans h.tape, hg.output.trans h.output, Nat.le_trans h.size hg.size, fun i hi hn => (hg.block i (Nat.lt_of_lt_of_le hi h.size) (fun e => hn (hr i e.symm hi))).trans (h.block i hi hn)⟩
theorem Keep.alloc {F : Nat → Prop} {a b : World} (h : Keep F a b) (o : Obj) : Keep F a (b.alloc o) := h.grown (World.grownBy_alloc b o none) (by simp)
theorem Keep.setCell {F : Nat → Prop} {a b : World} (h : Keep F a b) {p : Addr} (hp : p.block < a.heap.size → F p.block) (u : Value) : Keep F a (b.setCell p u) :=
  ⟨h.os, h.tape, h.output, by simpa using h.size, fun i hi hn => (Below.heap_setCell b p u i (fun e => hn (by rw [e] at hi ⊢; exact hp hi))).trans (h.block i hi hn)⟩
theorem Keep.drewN {F : Nat → Prop} {a b : World} (h : Keep F a b) (m : Nat) : Keep F a (b.drewN m) := ⟨h.os, h.tape, h.output, h.size, h.block⟩
theorem Keep.drew {F : Nat → Prop} {a b : World} (h : Keep F a b) : Keep F a b.drew := ⟨h.os, h.tape, h.output, h.size, h.block⟩
theorem Keep.below {F : Nat → Prop} {a b c : World} (h : Keep F a b) (hb : Below b.heap.size b c) : Keep F a c :=
  ⟨hb.os.trans h.os, hb.tape.trans h.tape, hb.output.trans h.output, Nat.le_trans h.size hb.size, fun i hi hn => (hb.block i (Nat.lt_of_lt_of_le hi h.size)).trans (h.block i hi hn)⟩
theorem Keep.of_below {F : Nat → Prop} {b c : World} (hb : Below b.heap.size b c) : Keep F b c := (Keep.refl F b).below hb
theorem Keep.to_below {F : Nat → Prop} {B : Nat} {a b : World} (h : Keep F a b) (hB : B ≤ a.heap.size) (hF : ∀ k, F k → B ≤ k) : Below B a b :=
  ⟨h.os, h.tape, h.output, h.size, fun i hi => h.block i (by omega) (fun g => by have := hF i g; omega)⟩
theorem Keep.cell {F : Nat → Prop} {w w' : World} (h : Keep F w w') {p : Addr} (hp : p.block < w.heap.size) (hn : ¬ F p.block) : w'.cell? p = w.cell? p := World.cell?_of_block (w := w) (h.block p.block hp hn)
theorem Keep.frozen {F : Nat → Prop} {w w' : World} (h : Keep F w w') {p : Addr} (hp : p.block < w.heap.size) (hn : ¬ F p.block) : w'.frozen? p = w.frozen? p := World.frozen?_of_block (w := w) (h.block p.block hp hn)
theorem Keep.cellOf {F : Nat → Prop} {w w' : World} (h : Keep F w w') {p : Addr} {v : Value} (hc : w.cell? p = some v) (hn : ¬ F p.block) : w'.cell? p = some v := (h.cell (World.block_lt_of_cell? w p hc) hn).trans hc

/-- how an element reads: as itself -/
def asIs (v : Value) : Option (DataW Value × List MemPlace) := some (.held v, [])

/-- block b is a map of n entries; f says what lies at each key -/
def MapF (P : Program) (k : TypeId) (w : World) (b : Nat) (f : Int → Option Value) (n : Nat) : Prop :=
  ∃ D : DataW Value, w.ownsMap P k asIs b n D ∧ Maps.size D = n ∧ ∀ a : Int, Maps.has D (.int .i64 a) = (f a).isSome ∧ ∀ v, f a = some v → ∀ z, D.atKey (.int .i64 a) z = .held v

/-- one key's value laid -/
def putF (f : Int → Option Value) (a : Int) (v : Value) : Int → Option Value := fun i => if i = a then some v else f i
/-- one key struck -/
def delF (f : Int → Option Value) (a : Int) : Int → Option Value := fun i => if i = a then none else f i
theorem putF_same (f : Int → Option Value) (a : Int) (v : Value) : putF f a v a = some v := if_pos rfl
theorem putF_other (f : Int → Option Value) {a i : Int} (v : Value) (h : i ≠ a) : putF f a v i = f i := if_neg h
theorem delF_same (f : Int → Option Value) (a : Int) : delF f a a = none := if_pos rfl
theorem delF_other (f : Int → Option Value) {a i : Int} (h : i ≠ a) : delF f a i = f i := if_neg h

variable {P : Program} {k e t : TypeId} {w : World} {b n : Nat} {f : Int → Option Value}

theorem tight {D : DataW Value} {R : Value → Option (DataW Value × List MemPlace)} {m : Nat} (h : w.ownsMap P k R b m D) : w.ownsMap P k R b (Maps.size D) D := by
  obtain ⟨es, clock, hb, F, _, rfl⟩ := h
  exact ⟨es, clock, hb, F, by simp [Maps.size, length_sorted], rfl⟩

theorem MapF.made (w : World) (P : Program) (k : TypeId) : MapF P k (w.alloc (.map #[] 0)) w.heap.size (fun _ => none) 0 :=
  ⟨_, World.ownsMap_made w P k asIs, rfl, fun a => ⟨rfl, fun v h => by cases h⟩⟩

theorem MapF.lt (h : MapF P k w b f n) : b < w.heap.size := by obtain ⟨D, h, _⟩ := h; exact h.lt
theorem MapF.kept {w' : World} (h : MapF P k w b f n) (hb : w'.heap[b]? = w.heap[b]?) : MapF P k w' b f n := by
  obtain ⟨D, ⟨es, clock, h1, h2⟩, h3⟩ := h
  exact ⟨D, ⟨es, clock, hb.trans h1, h2⟩, h3⟩
theorem MapF.keep {F : Nat → Prop} {w' : World} (h : MapF P k w b f n) (hk : Keep F w w') (hn : ¬ F b) : MapF P k w' b f n := h.kept (hk.block b h.lt hn)
theorem MapF.cell (h : MapF P k w b f n) (o : Nat) : w.cell? ⟨b, o, none⟩ = none := by
  obtain ⟨D, ⟨es, clock, h1, _⟩, _⟩ := h
  simp [World.cell?, h1]

theorem key_of (hk : P.underlying k = some (.int .i64)) {a : Int} (ha : (Lit.int .i64 a).wf = true) : keyOf P k (.int .i64 a) = some (.int .i64 a) := keyOf_int_mk hk ha

theorem MapF.look_some (h : MapF P k w b f n) (hk : P.underlying k = some (.int .i64)) (ht : P.underlying t = some (.map k e)) {z : Value} (hz : (zeroValue e).run P w = .ok z w) {a : Int} (ha : (Lit.int .i64 a).wf = true) {v : Value} (hv : f a = some v) (c : Bool) :
    (Instr.lookup t (.map (some b)) (.int .i64 a) c).run P w = .ok (if c then .tuple #[v, .bool true] else v) w := by
  obtain ⟨D, h1, _, h3⟩ := h
  obtain ⟨h4, h5⟩ := h3 a
  rw [hv] at h4
  cases c with
  | true =>
    obtain ⟨v', ps, hrun, hR⟩ := h1.look_ok (int_keyed hk) ht hz (zd := .held z) (zp := []) rfl (key_of hk ha)
    rw [h5 v hv] at hR
    simp only [asIs, Option.some.injEq, Prod.mk.injEq, DataW.held.injEq] at hR
    rw [h4, hR.1] at hrun
    exact hrun
  | false =>
    obtain ⟨v', ps, hrun, hR⟩ := h1.lookup (int_keyed hk) ht hz (zd := .held z) (zp := []) rfl (key_of hk ha)
    rw [h5 v hv] at hR
    simp only [asIs, Option.some.injEq, Prod.mk.injEq, DataW.held.injEq] at hR
    rw [hR.1] at hrun
    exact hrun

theorem MapF.look_none (h : MapF P k w b f n) (hk : P.underlying k = some (.int .i64)) (ht : P.underlying t = some (.map k e)) {z : Value} (hz : (zeroValue e).run P w = .ok z w) {a : Int} (ha : (Lit.int .i64 a).wf = true) (hv : f a = none) (c : Bool) :
    (Instr.lookup t (.map (some b)) (.int .i64 a) c).run P w = .ok (if c then .tuple #[z, .bool false] else z) w := by
  obtain ⟨D, h1, _, h3⟩ := h
  obtain ⟨h4, _⟩ := h3 a
  rw [hv] at h4
  have h5 : D.atKey (.int .i64 a) (.held z) = .held z := atKey_of_not_has h4 _
  cases c with
  | true =>
    obtain ⟨v', ps, hrun, hR⟩ := h1.look_ok (int_keyed hk) ht hz (zd := .held z) (zp := []) rfl (key_of hk ha)
    rw [h5] at hR
    simp only [asIs, Option.some.injEq, Prod.mk.injEq, DataW.held.injEq] at hR
    rw [h4, hR.1] at hrun
    exact hrun
  | false =>
    obtain ⟨v', ps, hrun, hR⟩ := h1.lookup (int_keyed hk) ht hz (zd := .held z) (zp := []) rfl (key_of hk ha)
    rw [h5] at hR
    simp only [asIs, Option.some.injEq, Prod.mk.injEq, DataW.held.injEq] at hR
    rw [hR.1] at hrun
    exact hrun

theorem MapF.len (h : MapF P k w b f n) (ht : P.underlying t = some (.map k e)) (ty : TypeId) : (Builtin.len_ #[t] ty #[.map (some b)]).run P w = .ok (.int .i64 n) w := by
  obtain ⟨D, h1, h2, _⟩ := h
  rw [← h2]
  exact h1.len ht ty

theorem lit_ne {a i : Int} (h : i ≠ a) : (Lit.int .i64 i) ≠ .int .i64 a := fun e => h (by cases e; rfl)

theorem is_key (a : Int) : WideAt.IsKeyLit (.int .i64 a) := trivial

theorem MapF.store (h : MapF P k w b f n) (hk : P.underlying k = some (.int .i64)) (ht : P.underlying t = some (.map k e)) (hn : n < maxLen) {a : Int} (ha : (Lit.int .i64 a).wf = true) (v : Value) :
    ∃ w', (Instr.mapUpdate t (.map (some b)) (.int .i64 a) v).run P w = .ok () w' ∧ MapF P k w' b (putF f a v) (if (f a).isSome then n else n + 1) ∧ w.mapTurned w' b := by
  obtain ⟨D, h1, h2, h3⟩ := h
  obtain ⟨w', hrun, ho, hg⟩ := h1.store (int_keyed hk) ht hn (key_of hk ha) (val := v) (d := .held v) (ps := []) rfl
  refine ⟨w', hrun, ⟨D.put (.int .i64 a) (.held v), ?_, ?_, fun i => ?_⟩, hg⟩
  · have := tight ho
    rw [size_put (h1.tidy (int_keyed hk)), (h3 a).1, h2] at this
    exact this
  · rw [size_put (h1.tidy (int_keyed hk)), (h3 a).1, h2]
  · by_cases hi : i = a
    · subst hi
      rw [putF_same]
      exact ⟨has_put_same h1.isMap (is_key i) _, fun u hu z => by cases hu; exact atKey_put_same h1.isMap (is_key i) _ _⟩
    · rw [putF_other _ _ hi, has_put_other (lit_ne hi)]
      exact ⟨(h3 i).1, fun u hu z => by rw [atKey_put_other (lit_ne hi)]; exact (h3 i).2 u hu z⟩

theorem MapF.drop (h : MapF P k w b f n) (hk : P.underlying k = some (.int .i64)) (ht : P.underlying t = some (.map k e)) {a : Int} (ha : (Lit.int .i64 a).wf = true) (ty : TypeId) :
    ∃ w', (Builtin.delete_ #[t, k] ty #[.map (some b), .int .i64 a]).run P w = .ok (.tuple #[]) w' ∧ MapF P k w' b (delF f a) (if (f a).isSome then n - 1 else n) ∧ w.mapTurned w' b := by
  obtain ⟨D, h1, h2, h3⟩ := h
  obtain ⟨w', hrun, ho, hg⟩ := h1.drop (int_keyed hk) ht (key_of hk ha) ty
  have hs := size_del (k := .int .i64 a) (h1.tidy (int_keyed hk))
  rw [(h3 a).1, h2] at hs
  have hs2 : Maps.size (D.del (.int .i64 a)) = if (f a).isSome then n - 1 else n := by
    cases hx : (f a).isSome <;> simp [hx] at hs ⊢ <;> omega
  refine ⟨w', hrun, ⟨D.del (.int .i64 a), ?_, hs2, fun i => ?_⟩, hg⟩
  · rw [← hs2]; exact tight ho
  · by_cases hi : i = a
    · subst hi
      rw [delF_same]
      exact ⟨has_del_same, fun u hu => by cases hu⟩
    · rw [delF_other _ hi, has_del_other (lit_ne hi)]
      exact ⟨(h3 i).1, fun u hu z => by rw [atKey_del_other (lit_ne hi)]; exact (h3 i).2 u hu z⟩

section
variable {ops : Array Oper} {rest : List Oper} {o : Oper} {a : Act} {Q : Exit → Act → World → Prop}

/-- a store, at the operation -/
theorem wpList_put (hg : o.guard = none) (m x v : Operand) (t : TypeId) (hop : o.op = Op.mapUpdate t m x v) (k e : TypeId) (hk : P.underlying k = some (.int .i64)) (ht : P.underlying t = some (.map k e)) (b n : Nat) (f : Int → Option Value)
    (hm : a.eval m = .map (some b)) (h : MapF P k w b f n) (hn : n < maxLen) (i : Int) (val : Value) (hx : a.eval x = .int .i64 i) (hv : a.eval v = val) (hi : (Lit.int .i64 i).wf = true)
    (hK : ∀ w', MapF P k w' b (putF f i val) (if (f i).isSome then n else n + 1) → w.mapTurned w' b → wpList P ops Q rest (a.put o.dst undef) w') :
    wpList P ops Q (o :: rest) a w := by
  refine wpList_plain hg fun K' hK' => ?_
  obtain ⟨w', hrun, r1, r2⟩ := h.store hk ht hn hi val
  unfold Oper.wp
  simp [execOp, hop, hm, hx, hv, hrun, Result.andThen]
  exact hK' _ _ (hK w' r1 r2)

/-- a key struck, at the operation -/
theorem wpList_drop (hg : o.guard = none) (m x : Operand) (t k : TypeId) (hop : o.op = Op.call { callee := Callee.builtin Builtin.delete, args := #[m, x], argTypes := #[t, k] }) (e : TypeId) (hk : P.underlying k = some (.int .i64)) (ht : P.underlying t = some (.map k e)) (b n : Nat) (f : Int → Option Value)
    (hm : a.eval m = .map (some b)) (h : MapF P k w b f n) (i : Int) (hx : a.eval x = .int .i64 i) (hi : (Lit.int .i64 i).wf = true)
    (hK : ∀ w', MapF P k w' b (delF f i) (if (f i).isSome then n - 1 else n) → w.mapTurned w' b → wpList P ops Q rest (a.put o.dst (.tuple #[])) w') :
    wpList P ops Q (o :: rest) a w := by
  refine wpList_plain hg fun K' hK' => ?_
  obtain ⟨w', hrun, r1, r2⟩ := h.drop hk ht hi o.type
  unfold Oper.wp
  simp [execOp, hop, resolve, invoke, builtin, hm, hx, hrun, Result.andThen]
  exact hK' _ _ (hK w' r1 r2)

/-- a look-up of a key that is there, at the operation -/
theorem wpList_look_some (hg : o.guard = none) (m x : Operand) (t : TypeId) (c : Bool) (hop : o.op = Op.lookup t m x c) (k e : TypeId) (hk : P.underlying k = some (.int .i64)) (ht : P.underlying t = some (.map k e)) {z : Value} (hz : (zeroValue e).run P w = .ok z w) (b n : Nat) (f : Int → Option Value)
    (hm : a.eval m = .map (some b)) (h : MapF P k w b f n) (i : Int) (hx : a.eval x = .int .i64 i) (hi : (Lit.int .i64 i).wf = true) (v : Value) (hv : f i = some v)
    (hK : wpList P ops Q rest (a.put o.dst (if c then .tuple #[v, .bool true] else v)) w) :
    wpList P ops Q (o :: rest) a w := by
  refine wpList_plain hg fun K' hK' => ?_
  have hrun := h.look_some hk ht hz hi hv c
  unfold Oper.wp
  simp only [execOp, hop, hm, hx]
  rw [Sem.run_bind, hrun]
  exact hK' _ _ hK

/-- a look-up of a key that is not there, at the operation -/
theorem wpList_look_none (hg : o.guard = none) (m x : Operand) (t : TypeId) (c : Bool) (hop : o.op = Op.lookup t m x c) (k e : TypeId) (hk : P.underlying k = some (.int .i64)) (ht : P.underlying t = some (.map k e)) {z : Value} (hz : (zeroValue e).run P w = .ok z w) (b n : Nat) (f : Int → Option Value)
    (hm : a.eval m = .map (some b)) (h : MapF P k w b f n) (i : Int) (hx : a.eval x = .int .i64 i) (hi : (Lit.int .i64 i).wf = true) (hv : f i = none)
    (hK : wpList P ops Q rest (a.put o.dst (if c then .tuple #[z, .bool false] else z)) w) :
    wpList P ops Q (o :: rest) a w := by
  refine wpList_plain hg fun K' hK' => ?_
  have hrun := h.look_none hk ht hz hi hv c
  unfold Oper.wp
  simp only [execOp, hop, hm, hx]
  rw [Sem.run_bind, hrun]
  exact hK' _ _ hK
end
end Go.Proofs.YtfhicijgpdpfpaaDoor
/-
  How a heap lies in memory, and what laying an item, and changing two, does.
-/
namespace Go.Proofs.YtfhicijgpdpfpaaDoor
open Go.RowKit

/-- a row of items -/
def Row (w : World) (v : Value) (n : Nat) (it : Nat → Item) : Prop :=
  ∃ xs, w.ownsRow 0 135 3 v n xs ∧ ∀ i, i < n → xs[i * 3]? = some (.int .i64 (it i).id) ∧ xs[i * 3 + 1]? = some (.int .i64 (it i).s) ∧ xs[i * 3 + 2]? = some (.int .i64 (it i).d)

theorem Row.keep {F : Nat → Prop} {w w' : World} {v : Value} {n : Nat} {it : Nat → Item} (h : Row w v n it) (hk : Keep F w w') (hn : ∀ g, v.ownBlock = some g → ¬ F g) : Row w' v n it := by
  obtain ⟨xs, ho, hx⟩ := h
  refine ⟨xs, ⟨ho.1, ?_⟩, hx⟩
  rcases ho.2 with hl | ⟨g, cap, cur, rfl, hb, hgg, rest⟩
  · exact .inl hl
  · refine .inr ⟨g, cap, cur, rfl, hb, ?_, rest⟩
    rw [hk.block g (Array.getElem?_eq_some_iff.1 hgg).1 (hn g rfl)]
    exact hgg

theorem Row.pos {w : World} {v : Value} {n : Nat} {it : Nat → Item} (h : Row w v n it) (hn : 0 < n) : ∃ g cap, v = .slice (some ⟨g, 0, none⟩) n cap ∧ n ≤ cap ∧ cap ≤ maxLen ∧ g < w.heap.size := by
  obtain ⟨xs, ho, hx⟩ := h
  rcases ho.2 with ⟨_, h0⟩ | ⟨g, cap, cur, rfl, hb, hgg, h1, h2, _⟩
  · omega
  · exact ⟨g, cap, rfl, h1, h2, (Array.getElem?_eq_some_iff.1 hgg).1⟩

theorem Row.cells {w : World} {g n cap : Nat} {it : Nat → Item} (h : Row w (.slice (some ⟨g, 0, none⟩) n cap) n it) {i : Nat} (hi : i < n) :
    w.cell? ⟨g, i * 3, none⟩ = some (.int .i64 (it i).id) ∧ w.cell? ⟨g, i * 3 + 1, none⟩ = some (.int .i64 (it i).s) ∧ w.cell? ⟨g, i * 3 + 2, none⟩ = some (.int .i64 (it i).d) := by
  obtain ⟨xs, ho, hx⟩ := h
  obtain ⟨h1, h2, h3⟩ := hx i hi
  exact ⟨(ho.cellAt _ (by omega)).trans h1, (ho.cellAt _ (by omega)).trans h2, (ho.cellAt _ (by omega)).trans h3⟩

theorem Row.free {w : World} {g n cap : Nat} {it : Nat → Item} (h : Row w (.slice (some ⟨g, 0, none⟩) n cap) n it) (j : Nat) : w.frozen? ⟨g, j, none⟩ = false := by
  obtain ⟨xs, ho, hx⟩ := h
  exact ho.frozenAt j

/-- one item written -/
theorem Row.set {w : World} {g n cap : Nat} {it : Nat → Item} (h : Row w (.slice (some ⟨g, 0, none⟩) n cap) n it) {i : Nat} (hi : i < n) (x : Item) :
    Row (((w.setCell ⟨g, i * 3, none⟩ (.int .i64 x.id)).setCell ⟨g, i * 3 + 1, none⟩ (.int .i64 x.s)).setCell ⟨g, i * 3 + 2, none⟩ (.int .i64 x.d)) (.slice (some ⟨g, 0, none⟩) n cap) n (updI it i x) := by
  obtain ⟨xs, ho, hx⟩ := h
  have h1 := (ho.stored (i * 3) (.int .i64 x.id)).1
  have h2 := (h1.stored (i * 3 + 1) (.int .i64 x.s)).1
  have h3 := (h2.stored (i * 3 + 2) (.int .i64 x.d)).1
  refine ⟨_, h3, fun k hk => ?_⟩
  have hl : xs.length = n * 3 := ho.1
  by_cases e : k = i
  · subst e
    rw [updI_i]
    simp [List.getElem?_set, hl]
    omega
  · rw [updI_k it x e]
    obtain ⟨a1, a2, a3⟩ := hx k hk
    refine ⟨?_, ?_, ?_⟩
    · rw [List.getElem?_set_ne (by omega), List.getElem?_set_ne (by omega), List.getElem?_set_ne (by omega)]; exact a1
    · rw [List.getElem?_set_ne (by omega), List.getElem?_set_ne (by omega), List.getElem?_set_ne (by omega)]; exact a2
    · rw [List.getElem?_set_ne (by omega), List.getElem?_set_ne (by omega), List.getElem?_set_ne (by omega)]; exact a3

/-- a heap in block b, where each stands in block mb, the row v -/
structure Rep (w : World) (b mb : Nat) (v : Value) (n : Nat) (it : Nat → Item) (f : Int → Option Value) (m : Nat) : Prop where
  c0 : w.cell? ⟨b, 0, none⟩ = some v
  c1 : w.cell? ⟨b, 1, none⟩ = some (.map (some mb))
  f0 : w.frozen? ⟨b, 0, none⟩ = false
  row : Row w v n it
  map : MapF Tryd.prog 3 w mb f m
  nb : v.ownBlock ≠ some b

theorem law3 : Tryd.prog.underlying 3 = some (.int .i64) := Tryd.underlying3
theorem Tryd.under51 : Tryd.prog.underlying 129 = some (.map 3 3) := by kernel_rfl
theorem zero3 (w : World) : (zeroValue 3).run Tryd.prog w = .ok (.int .i64 0) w := by kernel_rfl

theorem Rep.blocks {w : World} {b mb n m : Nat} {v : Value} {it : Nat → Item} {f : Int → Option Value} (R : Rep w b mb v n it f m) : b < w.heap.size ∧ mb < w.heap.size ∧ b ≠ mb ∧ ∀ g, v.ownBlock = some g → g < w.heap.size ∧ g ≠ b ∧ g ≠ mb := by
  have hb : b < w.heap.size := World.block_lt_of_cell? w _ R.c0
  refine ⟨hb, R.map.lt, ?_, fun g hg => ⟨?_, ?_, ?_⟩⟩
  · intro e
    have h := R.map.cell 0
    rw [← e, R.c0] at h
    cases h
  · obtain ⟨xs, ho, _⟩ := R.row
    exact (ho.lt g hg).2
  · intro e; exact R.nb (by rw [hg, e])
  · intro e
    obtain ⟨xs, ho, _⟩ := R.row
    obtain ⟨D, ⟨es, clock, h1, _⟩, _⟩ := R.map
    rcases ho.2 with ⟨rfl, _⟩ | ⟨g', cap, cur, rfl, _, hgg, _⟩
    · cases hg
    · simp only [Value.ownBlock, Option.some.injEq] at hg
      rw [hg, e, h1] at hgg
      cases hgg

theorem Rep.keep {F : Nat → Prop} {w w' : World} {b mb n m : Nat} {v : Value} {it : Nat → Item} {f : Int → Option Value} (R : Rep w b mb v n it f m) (hk : Keep F w w') (h1 : ¬ F b) (h2 : ¬ F mb) (h3 : ∀ g, v.ownBlock = some g → ¬ F g) : Rep w' b mb v n it f m := by
  have hb := R.blocks.1
  exact ⟨(hk.cell (p := ⟨b, 0, none⟩) hb h1).trans R.c0, (hk.cell (p := ⟨b, 1, none⟩) hb h1).trans R.c1, (hk.frozen (p := ⟨b, 0, none⟩) hb h1).trans R.f0, R.row.keep hk h3, R.map.keep hk h2, R.nb⟩

theorem Rep.below {w w' : World} {b mb n m : Nat} {v : Value} {it : Nat → Item} {f : Int → Option Value} (R : Rep w b mb v n it f m) (hb : Below w.heap.size w w') : Rep w' b mb v n it f m :=
  R.keep (F := fun _ => False) (Keep.of_below hb) id id (fun _ _ => id)

/-- a map's store: what stands elsewhere stays -/
theorem turned_keep {w w' : World} {b : Nat} (h : w.mapTurned w' b) : Keep (fun k => k = b) w w' :=
  (Keep.refl _ w).grown h.grown (fun k hk _ => by cases hk; rfl)

set_option maxHeartbeats 1000000 in
theorem put_any {b mb g cap n m : Nat} {it : Nat → Item} {f : Int → Option Value} (i : Nat) (a s d : Int) (w : World) (R : Rep w b mb (.slice (some ⟨g, 0, none⟩) n cap) n it f m) (hi : i < n) (hm : m ≤ 1000000) (ha : (Lit.int .i64 a).wf = true) :
    Calls Tryd.prog 93 #[.pointer (some ⟨b, 0, none⟩), .int .i64 i, .agg #[.int .i64 a, .int .i64 s, .int .i64 d]] w fun e w' => e = .returned (.tuple #[]) ∧ Rep w' b mb (.slice (some ⟨g, 0, none⟩) n cap) n (updI it i ⟨a, s, d⟩) (putF f a (.int .i64 i)) (if (f a).isSome then m else m + 1) ∧ Keep (fun k => k = g ∨ k = mb) w w' := by
  obtain ⟨hb, hmb, hbm, hgs⟩ := R.blocks
  obtain ⟨hg, hgb, hgm⟩ := hgs g rfl
  obtain ⟨c0, c1, f0, row, map, nb⟩ := R
  obtain ⟨q1, q2, q3⟩ := row.cells hi
  have r1 := row.free (i * 3)
  have r2 := row.free (i * 3 + 1)
  have r3 := row.free (i * 3 + 2)
  have hj : (i : Int) < (n : Int) := by omega
  have HW : ∃ W1 : World, W1 = ((((w.setCell ⟨g, i * 3, none⟩ (.int .i64 a)).setCell ⟨g, i * 3 + 1, none⟩ (.int .i64 s)).setCell ⟨g, i * 3 + 2, none⟩ (.int .i64 d)).alloc (.cells #[.int .i64 a, .int .i64 s, .int .i64 d] 135)).drew ∧
      Keep (fun k => k = g) w W1 ∧ Row W1 (.slice (some ⟨g, 0, none⟩) n cap) n (updI it i ⟨a, s, d⟩) ∧ W1.cell? ⟨w.heap.size, 0, none⟩ = some (.int .i64 a) ∧ W1.heap.size = w.heap.size + 1 := by
    have K0 : Keep (fun k => k = g) w (((w.setCell ⟨g, i * 3, none⟩ (.int .i64 a)).setCell ⟨g, i * 3 + 1, none⟩ (.int .i64 s)).setCell ⟨g, i * 3 + 2, none⟩ (.int .i64 d)) :=
      (((Keep.refl (fun k => k = g) w).setCell (p := ⟨g, i * 3, none⟩) (fun _ => rfl) _).setCell (p := ⟨g, i * 3 + 1, none⟩) (fun _ => rfl) _).setCell (p := ⟨g, i * 3 + 2, none⟩) (fun _ => rfl) _
    refine ⟨_, rfl, (K0.alloc _).drew, ?_, ?_, ?_⟩
    · exact (row.set hi ⟨a, s, d⟩).keep (F := fun _ => False) ((Keep.refl _ _).alloc _).drew (fun _ _ => id)
    · exact World.cell?_alloc_at #[.int .i64 a, .int .i64 s, .int .i64 d] 135 w.heap.size 0 (by simp)
    · simp
  obtain ⟨W1, eW, K1, row1, q0, hs1⟩ := HW
  have d1 : W1.cell? ⟨b, 1, none⟩ = some (.map (some mb)) := (K1.cell (p := ⟨b, 1, none⟩) hb (fun e => hgb e.symm)).trans c1
  have map1 : MapF Tryd.prog 3 W1.drew mb f m := (map.keep K1 (fun e => hgm e.symm)).kept rfl
  obtain ⟨w2, hrun, M2, T2⟩ := map1.store law3 Tryd.under51 (by unfold maxLen; omega) ha (.int .i64 i)
  have K2 := turned_keep T2
  have RR : Rep w2 b mb (.slice (some ⟨g, 0, none⟩) n cap) n (updI it i ⟨a, s, d⟩) (putF f a (.int .i64 i)) (if (f a).isSome then m else m + 1) := by
    refine ⟨?_, ?_, ?_, (row1.keep (F := fun _ => False) (Keep.refl _ W1).drew (fun _ _ => id)).keep K2 (fun x hx => ?_), M2, nb⟩
    · exact (K2.cell (p := ⟨b, 0, none⟩) (by show b < W1.heap.size; omega) hbm).trans ((K1.cell (p := ⟨b, 0, none⟩) hb (fun e => hgb e.symm)).trans c0)
    · exact (K2.cell (p := ⟨b, 1, none⟩) (by show b < W1.heap.size; omega) hbm).trans d1
    · exact (K2.frozen (p := ⟨b, 0, none⟩) (by show b < W1.heap.size; omega) hbm).trans ((K1.frozen (p := ⟨b, 0, none⟩) hb (fun e => hgb e.symm)).trans f0)
    · simp only [Value.ownBlock, Option.some.injEq] at hx
      rw [← hx]; exact hgm
  have KK : Keep (fun k => k = g ∨ k = mb) w w2 := (K1.mono (fun _ _ h => Or.inl h)).trans ((Keep.refl (fun k => k = mb) W1).drew.trans K2 (fun _ _ h => h)) (fun _ _ h => Or.inr h)
  clear K1 row1 map1 M2 T2 K2 map row nb
  go_enter Tryd.func93, Tryd.ntmps93
  go_wp2
  go_region
  go_wp2
  rw [← eW]
  clear eW q1 q2 q3 r1 r2 r3 c0 c1 f0
  go_region
  go_end0
  exact ⟨rfl, RR, KK⟩
end Go.Proofs.YtfhicijgpdpfpaaDoor
/-
  Which of two items is before the other.
-/
namespace Go.Proofs.YtfhicijgpdpfpaaDoor
open Go.RowKit

/-- is x popped ahead of y? -/
def befB (x y : Item) : Bool := decide (x.v < y.v) || (decide (x.v = y.v) && decide (x.id < y.id))
theorem befB_iff (x y : Item) : befB x y = true ↔ bef x y := by
  unfold befB bef
  simp
theorem befB_true {x y : Item} (h : bef x y) : befB x y = true := (befB_iff x y).mpr h
theorem befB_false {x y : Item} (h : ¬ bef x y) : befB x y = false := by
  cases e : befB x y with
  | false => rfl
  | true => exact absurd ((befB_iff x y).mp e) h
theorem of_befB {x y : Item} (h : befB x y = true) : bef x y := (befB_iff x y).mp h
theorem of_befB_false {x y : Item} (h : befB x y = false) : ¬ bef x y := fun k => by rw [befB_true k] at h; cases h

set_option maxHeartbeats 400000 in
theorem up_any (i : Nat) (w : World) (h : 0 < i) (h2 : i ≤ 1000000) : Calls Tryd.prog 101 #[.int .i64 i] w fun e w' => e = .returned (.int .i64 (upN i)) ∧ w' = w := by
  have e : ((upN i : Nat) : Int) = ((i : Int) - 1) / 2 := by unfold upN; omega
  have h3 : (1 : Int) ≤ (i : Int) := by omega
  have h4 : (i : Int) ≤ 1000000 := by omega
  rw [e]
  go_enter Tryd.func101, Tryd.ntmps101
  go_wp2
  go_ret
  exact ⟨rfl, rfl⟩

set_option maxHeartbeats 1000000 in
theorem before_any {b mb g cap n m : Nat} {it : Nat → Item} {f : Int → Option Value} (i j : Nat) (w : World) (R : Rep w b mb (.slice (some ⟨g, 0, none⟩) n cap) n it f m) (hi : i < n) (hj : j < n) (ki : okC (it i).s (it i).d) (kj : okC (it j).s (it j).d) :
    Calls Tryd.prog 100 #[.pointer (some ⟨b, 0, none⟩), .int .i64 i, .int .i64 j] w fun e w' => e = .returned (.bool (befB (it i) (it j))) ∧ Below w.heap.size w w' := by
  obtain ⟨hb, hmb, hbm, hgs⟩ := R.blocks
  obtain ⟨hg, hgb, hgm⟩ := hgs g rfl
  obtain ⟨c0, c1, f0, row, map, nb⟩ := R
  obtain ⟨q1, q2, q3⟩ := row.cells hi
  obtain ⟨p1, p2, p3⟩ := row.cells hj
  have h1 : (i : Int) < (n : Int) := by omega
  have h2 : (j : Int) < (n : Int) := by omega
  have hc := cmpC_val' (it i).s (it i).d (it j).s (it j).d ki kj
  have hcase : (cmpC (it i).s (it i).d (it j).s (it j).d = -1 ∧ befB (it i) (it j) = true) ∨ (cmpC (it i).s (it i).d (it j).s (it j).d = 1 ∧ befB (it i) (it j) = false) ∨
      (cmpC (it i).s (it i).d (it j).s (it j).d = 0 ∧ befB (it i) (it j) = decide ((it i).id < (it j).id)) := by
    have hc2 : cmpC (it i).s (it i).d (it j).s (it j).d = if (it i).v < (it j).v then -1 else if (it j).v < (it i).v then 1 else 0 := hc
    rw [hc2]
    by_cases e1 : (it i).v < (it j).v
    · left; exact ⟨if_pos e1, befB_true (Or.inl e1)⟩
    · by_cases e2 : (it j).v < (it i).v
      · right; left; exact ⟨by rw [if_neg e1, if_pos e2], befB_false (by unfold bef; omega)⟩
      · right; right
        refine ⟨by rw [if_neg e1, if_neg e2], ?_⟩
        have e3 : (it i).v = (it j).v := by omega
        unfold befB
        simp [e3]
  clear map row nb hc hgs
  generalize (it i).id = ia at *
  generalize (it i).s = sa at *
  generalize (it i).d = da at *
  generalize (it j).id = ib at *
  generalize (it j).s = sb at *
  generalize (it j).d = db at *
  rcases hcase with ⟨hr, hB⟩ | ⟨hr, hB⟩ | ⟨hr, hB⟩
  all_goals
    rw [hB]
    clear hB
    go_enter Tryd.func100, Tryd.ntmps100
    go_wp2
    go_region
    all_goals
      go_wp2_with (go_at_call 26; refine (compare_v hr _ ki kj).mono ?_; rintro e w' ⟨rfl, hb1⟩; obtain ⟨hq1, hq2⟩ := bcell hb1)
      go_ret
      exact ⟨rfl, Below.trans ((((Below.refl _ _).drew).alloc (Nat.le_refl _) _).alloc (by simp) _) (hb1.mono (by simp; omega))⟩

end Go.Proofs.YtfhicijgpdpfpaaDoor
