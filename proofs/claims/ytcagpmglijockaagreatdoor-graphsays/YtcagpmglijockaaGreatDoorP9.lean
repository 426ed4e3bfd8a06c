/-
  Texts laid together: RangeF, Towards, Sets, Outward, GoOut.
-/
import Derived.Test.YtcagpmglijockaaGreatDoorP8
import Derived.Maps.Ext
import Derived.Maps.RangeWalk
import Derived.Laws.IdiomRangeMap
/-
  A range over a map that is read as a function; no dump of a program in sight.
-/
namespace Go.Proofs.YtcagpmglijockaaGreatDoor
open Go.Maps Go.RowKit

/-- a range over a map under way: which keys are still to come, and how many -/
def RngF (P : Program) (k : TypeId) (w : World) (b r : Nat) (f : Int → Option Value) (n : Nat) (left : Int → Bool) (cnt : Nat) : Prop :=
  ∃ (D : DataW Value) (lf : Lit → Bool), w.ranges P k asIs b r n D lf cnt ∧ Maps.size D = n ∧ (∀ a : Int, Maps.has D (.int .i64 a) = (f a).isSome ∧ ∀ v, f a = some v → ∀ z, D.atKey (.int .i64 a) z = .held v) ∧ ∀ a : Int, lf (.int .i64 a) = left a

variable {P : Program} {k e t : TypeId} {w : World} {b r n cnt : Nat} {f : Int → Option Value} {left : Int → Bool}
theorem RngF.map (h : RngF P k w b r f n left cnt) : MapF P k w b f n := by
  obtain ⟨D, lf, h1, h2, h3, _⟩ := h
  exact ⟨D, h1.owns, h2, h3⟩
theorem RngF.lt (h : RngF P k w b r f n left cnt) : r < w.heap.size := by obtain ⟨D, lf, h1, _⟩ := h; exact h1.lt
theorem RngF.ne (h : RngF P k w b r f n left cnt) : r ≠ b := by obtain ⟨D, lf, h1, _⟩ := h; exact h1.ne
theorem RngF.left_eq (h : RngF P k w b r f n left cnt) : w.rangeLeft b r = cnt := by obtain ⟨D, lf, h1, _⟩ := h; exact h1.left_eq
theorem RngF.kept {w' : World} (h : RngF P k w b r f n left cnt) (hb : w'.heap[b]? = w.heap[b]?) (hr : w'.heap[r]? = w.heap[r]?) : RngF P k w' b r f n left cnt := by
  obtain ⟨D, lf, ⟨es, clock, since, seen, c0, h1, h2, h3, h4, h5, h6⟩, h7⟩ := h
  exact ⟨D, lf, ⟨es, clock, since, seen, c0, hb.trans h1, h2, h3, h4, hr.trans h5, h6⟩, h7⟩
theorem RngF.keep {F : Nat → Prop} {w' : World} (h : RngF P k w b r f n left cnt) (hk : Keep F w w') (hb : ¬ F b) (hr : ¬ F r) : RngF P k w' b r f n left cnt :=
  h.kept (hk.block b h.map.lt hb) (hk.block r h.lt hr)
section
variable {ops : Array Oper} {rest : List Oper} {o : Oper} {a : Act} {Q : Exit → Act → World → Prop}
/-- 'range m' -/
theorem wpList_rangeF (hg : o.guard = none) (m : Operand) (t : TypeId) (hop : o.op = Op.range t m) (k e : TypeId) (hk : P.underlying k = some (.int .i64)) (ht : P.underlying t = some (.map k e)) (b n : Nat) (f : Int → Option Value)
    (hm : a.eval m = .map (some b)) (h : MapF P k w b f n)
    (hK : ∀ w', RngF P k w' b w.heap.size f n (fun x => (f x).isSome) n → w.grownBy w' none → w'.heap.size = w.heap.size + 1 → wpList P ops Q rest (a.put o.dst (.pointer (some ⟨w.heap.size, 0, none⟩))) w') :
    wpList P ops Q (o :: rest) a w := by
  obtain ⟨D, h1, h2, h3⟩ := h
  refine wpList_range_own w hg m t hop k e (int_keyed hk) ht asIs b n D hm h1 fun w' r1 r2 r3 => hK w' ⟨D, _, h2 ▸ r1, h2, h3, fun a => (h3 a).1⟩ r2 r3
/-- the next one -/
theorem wpList_nextF (hg : o.guard = none) (it : Operand) (hop : o.op = Op.next it false) (k : TypeId) (hk : P.underlying k = some (.int .i64)) (b r n : Nat) (f : Int → Option Value) (left : Int → Bool) (cnt : Nat)
    (hit : a.eval it = .pointer (some ⟨r, 0, none⟩)) (h : RngF P k w b r f n left cnt)
    (hDone : cnt = 0 → (∀ x, left x = false) → wpList P ops Q rest (a.put o.dst (.tuple #[.bool false])) w)
    (hMore : ∀ (x : Int) (v : Value) (w' : World) (cnt' : Nat), (Lit.int .i64 x).wf = true → left x = true → f x = some v → RngF P k w' b r f n (fun z => left z && !decide (z = x)) cnt' → cnt' < cnt →
      w.grownBy w' (some r) → w'.heap.size = w.heap.size → (Instr.entry (.pointer (some ⟨r, 0, none⟩))).run P w' = .ok (.tuple #[.int .i64 x, v]) w' → wpList P ops Q rest (a.put o.dst (.tuple #[.bool true, .int .i64 x, v])) w') :
    wpList P ops Q (o :: rest) a w := by
  obtain ⟨D, lf, h1, h2, h3, h4⟩ := h
  refine wpList_next_ranges w hg it hop k (int_keyed hk) asIs (Value.int .i64) id (fun key kl hkey => by obtain ⟨x, rfl, _⟩ := Maps.keyOf_int_inv hk hkey; exact ⟨x, rfl⟩) (fun v y _ => ⟨v, rfl⟩) b r n D lf cnt hit h1 (fun h0 hl => hDone h0 fun x => (h4 x).symm.trans (hl _)) ?_
  intro x v kl y w' cnt' hkey hl hv hat hrg hlt hgr hsz hen
  obtain ⟨x', ex, rfl, hwx⟩ := Maps.keyOf_int_inv hk hkey
  cases ex
  have hy : y.1 = .held v := by
    simp only [asIs, Option.some.injEq, id] at hv
    rw [← hv]
  rw [hy] at hat
  have hh : Maps.has D (.int .i64 x) = true := has_true_of_atKey hat
  obtain ⟨g1, g2⟩ := h3 x
  rw [hh] at g1
  have hf : f x = some v := by
    cases hfx : f x with
    | none => rw [hfx] at g1; cases g1
    | some u =>
      have := (g2 u hfx (.held v)).symm.trans (hat (.held v))
      cases this
      rfl
  refine hMore x v w' cnt' hwx ((h4 x).symm.trans hl) hf ⟨D, _, hrg, h2, h3, fun a => ?_⟩ hlt hgr hsz hen
  show (lf (.int .i64 a) && !(Lit.int .i64 a).sameKey (.int .i64 x)) = (left a && !decide (a = x))
  rw [h4 a]
  by_cases e : a = x
  · subst e
    rw [WideAt.sameKey_self (is_key a), decide_eq_true rfl]
  · rw [sameKey_ne (lit_ne e), decide_eq_false e]
end
end Go.Proofs.YtcagpmglijockaaGreatDoor
/-
  Steps towards a cell: what 'isTowards' and 'onward' of package reach say.
-/
namespace Go.Proofs.YtcagpmglijockaaGreatDoor
open Go.RowKit

/-- does a step bring one nearer by what it costs? -/
def goodB (x y u v : Int) (k : Nat) : Bool := decide (dst (dst (x + stepX k) u) (dst (y + stepY k) v) + stS k = dst (dst x u) (dst y v)) && decide (les (dst (x + stepX k) u) (dst (y + stepY k) v) + stD k = les (dst x u) (dst y v))
theorem goodB_iff {x y u v : Int} {k : Nat} : goodB x y u v k = true ↔ Good x y u v k := by
  unfold goodB Good
  rw [Bool.and_eq_true, decide_eq_true_eq, decide_eq_true_eq]
theorem oct_step (k : Nat) (h : k < 8) : dst (dst 0 (stepX k)) (dst 0 (stepY k)) = stS k ∧ les (dst 0 (stepX k)) (dst 0 (stepY k)) = stD k := by
  rcases k8 h with rfl | rfl | rfl | rfl | rfl | rfl | rfl | rfl <;> decide

set_option maxHeartbeats 2000000 in
set_option maxRecDepth 1000000 in
theorem isTowards' {x y u v dx dy s1 d1 s2 d2 s3 d3 : Int} {k : Nat} {r : Bool} (w : World)
    (x1 : -100 ≤ x) (x2 : x ≤ 100) (y1 : -100 ≤ y) (y2 : y ≤ 100) (e1 : -1 ≤ dx) (e2 : dx ≤ 1) (e3 : -1 ≤ dy) (e4 : dy ≤ 1)
    (hs : Calls Tryz.prog 68 #[.int .i64 k] w fun e w' => e = .returned (.tuple #[.int .i64 dx, .int .i64 dy]) ∧ ∃ m, w' = w.drewN m)
    (ho1 : ∀ w, Calls Tryz.prog 76 #[.int .i64 0, .int .i64 0, .int .i64 dx, .int .i64 dy] w fun e w' => e = .returned (.agg #[.int .i64 s1, .int .i64 d1]) ∧ Below w.heap.size w w')
    (ho2 : ∀ w, Calls Tryz.prog 76 #[.int .i64 (x + dx), .int .i64 (y + dy), .int .i64 u, .int .i64 v] w fun e w' => e = .returned (.agg #[.int .i64 s2, .int .i64 d2]) ∧ Below w.heap.size w w')
    (ho3 : ∀ w, Calls Tryz.prog 76 #[.int .i64 x, .int .i64 y, .int .i64 u, .int .i64 v] w fun e w' => e = .returned (.agg #[.int .i64 s3, .int .i64 d3]) ∧ Below w.heap.size w w')
    (ha : ∀ w, Calls Tryz.prog 103 #[.agg #[.int .i64 s1, .int .i64 d1], .agg #[.int .i64 s2, .int .i64 d2]] w fun e w' => e = .returned (.agg #[.int .i64 (s1 + s2), .int .i64 (d1 + d2)]) ∧ Below w.heap.size w w')
    (hr : (decide (s1 + s2 = s3) && decide (d1 + d2 = d3)) = r) :
    Calls Tryz.prog 100 #[.int .i64 x, .int .i64 y, .int .i64 k, .int .i64 u, .int .i64 v] w fun e w' => e = .returned (.bool r) ∧ Below w.heap.size w w' := by
  go_enter Tryz.func100, Tryz.ntmps100
  go_wp2_with (go_at_call 68; refine hs.mono ?_; rintro e w' ⟨rfl, m, rfl⟩)
  refine (ho1 _).mono ?_
  rintro e w1 ⟨rfl, hb1⟩
  have B1 : Below w.heap.size w w1 := (below_drewN (Below.refl _ _) m).trans hb1
  clear hb1 ho1 hs
  go_wp2_with fail
  refine (ho2 _).mono ?_
  rintro e w2 ⟨rfl, hb2⟩
  have B2 : Below w.heap.size w w2 := B1.trans (hb2.mono B1.size)
  clear hb2 ho2 B1
  go_wp2_with fail
  refine (ha _).mono ?_
  rintro e w3 ⟨rfl, hb3⟩
  have B2' : Below w.heap.size w ((w2.alloc (.cells #[.int .i64 s1, .int .i64 d1] 51)).alloc (.cells #[.int .i64 s2, .int .i64 d2] 51)) := (B2.alloc B2.size _).alloc (by have := B2.size; simp; omega) _
  have B3 : Below w.heap.size w w3 := B2'.trans (hb3.mono B2'.size)
  clear hb3 ha B2 B2'
  go_wp2_with fail
  refine (ho3 _).mono ?_
  rintro e w4 ⟨rfl, hb4⟩
  have B4 : Below w.heap.size w w4 := B3.trans (hb4.mono B3.size)
  clear hb4 ho3 B3
  by_cases q1 : s1 + s2 = s3
  · by_cases q2 : d1 + d2 = d3
    · rw [decide_eq_true q1, decide_eq_true q2] at hr
      subst hr q1 q2
      go_wp2
      go_ret
      exact ⟨rfl, B4⟩
    · rw [decide_eq_true q1, decide_eq_false q2] at hr
      subst hr q1
      go_wp2
      go_ret
      exact ⟨rfl, B4⟩
  · rw [decide_eq_false q1] at hr
    subst hr
    go_wp2
    go_ret
    exact ⟨rfl, B4⟩

theorem near_place {a : Int} (h : -100 ≤ a) (k : a ≤ 100) : nearB a := by unfold nearB; omega
theorem okC_oct {x y u v : Int} (x1 : -100 ≤ x) (x2 : x ≤ 100) (y1 : -100 ≤ y) (y2 : y ≤ 100) (u1 : -100 ≤ u) (u2 : u ≤ 100) (v1 : -100 ≤ v) (v2 : v ≤ 100) : okC (dst (dst x u) (dst y v)) (les (dst x u) (dst y v)) := by
  unfold okC
  have a : 0 ≤ dst x u ∧ dst x u ≤ 200 := by unfold dst; split <;> omega
  have b : 0 ≤ dst y v ∧ dst y v ≤ 200 := by unfold dst; split <;> omega
  generalize dst x u = X at *
  generalize dst y v = Y at *
  unfold dst les
  split <;> omega
theorem okC_st (k : Nat) : okC (stS k) (stD k) := by
  have := st_bd k
  unfold okC
  omega

theorem isTowards_v {x y u v : Int} {k : Nat} {r : Bool} (hr : goodB x y u v k = r) (w : World) (s : StepsAt w) (hk : k < 8) (x1 : 0 ≤ x) (x2 : x ≤ 50) (y1 : 0 ≤ y) (y2 : y ≤ 50) (u1 : 0 ≤ u) (u2 : u ≤ 50) (v1 : 0 ≤ v) (v2 : v ≤ 50) :
    Calls Tryz.prog 100 #[.int .i64 x, .int .i64 y, .int .i64 k, .int .i64 u, .int .i64 v] w fun e w' => e = .returned (.bool r) ∧ Below w.heap.size w w' := by
  obtain ⟨e1, e2, e3, e4⟩ := step_bd k
  obtain ⟨o1, o2⟩ := oct_step k hk
  have n1 := near_place (show -100 ≤ stepX k by omega) (by omega)
  have n2 := near_place (show -100 ≤ stepY k by omega) (by omega)
  have n0 := near_place (show -100 ≤ (0 : Int) by omega) (by omega)
  have nx := near_place (show -100 ≤ x by omega) (by omega)
  have ny := near_place (show -100 ≤ y by omega) (by omega)
  have nu := near_place (show -100 ≤ u by omega) (by omega)
  have nv := near_place (show -100 ≤ v by omega) (by omega)
  have nx' := near_place (show -100 ≤ x + stepX k by omega) (by omega)
  have ny' := near_place (show -100 ≤ y + stepY k by omega) (by omega)
  refine isTowards' (s1 := stS k) (d1 := stD k) w (by omega) (by omega) (by omega) (by omega) e1 e2 e3 e4 (step_any k w s hk) (fun w => ?_) (fun w => oct_any _ _ _ _ w nx' ny' nu nv) (fun w => oct_any _ _ _ _ w nx ny nu nv) (fun w => add_any _ _ _ _ w (okC_st k) (okC_oct (by omega) (by omega) (by omega) (by omega) (by omega) (by omega) (by omega) (by omega))) ?_
  · have := oct_any 0 0 (stepX k) (stepY k) w n0 n0 n1 n2
    rw [o1, o2] at this
    exact this
  · rw [← hr]
    unfold goodB
    rw [Int.add_comm (stS k), Int.add_comm (stD k)]
end Go.Proofs.YtcagpmglijockaaGreatDoor
/-
  Maps whose elements say nothing, as sets of cells.
-/
namespace Go.Proofs.YtcagpmglijockaaGreatDoor
open Go.RowKit

theorem law3 : Tryz.prog.underlying 3 = some (.int .i64) := Tryz.underlying3
/-- a set, as a map reads -/
def setF (S : Int → Bool) : Int → Option Value := fun i => if S i then some (.agg #[]) else none
theorem setF_some {S : Int → Bool} {i : Int} (h : S i = true) : setF S i = some (.agg #[]) := if_pos h
theorem setF_none {S : Int → Bool} {i : Int} (h : S i = false) : setF S i = none := by unfold setF; rw [h]; rfl
theorem setF_isSome (S : Int → Bool) (i : Int) : (setF S i).isSome = S i := by
  unfold setF; cases S i <;> rfl
theorem setF_val {S : Int → Bool} {i : Int} {v : Value} (h : setF S i = some v) : S i = true ∧ v = .agg #[] := by
  unfold setF at h
  cases hs : S i with
  | false => rw [hs] at h; cases h
  | true => rw [hs] at h; cases h; exact ⟨rfl, rfl⟩
/-- one more -/
def insS (S : Int → Bool) (a : Int) : Int → Bool := fun i => decide (i = a) || S i
theorem insS_iff (S : Int → Bool) (a i : Int) : insS S a i = true ↔ i = a ∨ S i = true := by unfold insS; rw [Bool.or_eq_true, decide_eq_true_eq]
theorem setF_put (S : Int → Bool) (a : Int) : putF (setF S) a (.agg #[]) = setF (insS S a) := by
  funext i
  unfold putF setF insS
  by_cases e : i = a
  · rw [if_pos e, decide_eq_true e]; rfl
  · rw [if_neg e, decide_eq_false e]; rfl
theorem insS_same {S : Int → Bool} {a : Int} (h : S a = true) : insS S a = S := by
  funext i
  unfold insS
  by_cases e : i = a
  · rw [decide_eq_true e, e, h]; rfl
  · rw [decide_eq_false e]; rfl

/-- how many -/
def cntS (S : Int → Bool) : Nat → Nat
  | 0 => 0
  | N + 1 => cntS S N + if S N then 1 else 0
theorem cntS_le (S : Int → Bool) (N : Nat) : cntS S N ≤ N := by
  induction N with
  | zero => exact Nat.le_refl _
  | succ N ih => unfold cntS; split <;> omega
theorem cntS_same (S : Int → Bool) (a : Int) (N : Nat) (h : (N : Int) ≤ a) : cntS (insS S a) N = cntS S N := by
  induction N with
  | zero => rfl
  | succ N ih =>
    unfold cntS
    rw [ih (by omega)]
    have : insS S a N = S N := by unfold insS; rw [decide_eq_false (by omega)]; rfl
    rw [this]
theorem cntS_put (S : Int → Bool) (a : Int) (N : Nat) (h0 : 0 ≤ a) (h : a < N) (hn : S a = false) : cntS (insS S a) N = cntS S N + 1 := by
  induction N with
  | zero => omega
  | succ N ih =>
    unfold cntS
    by_cases e : a = N
    · rw [cntS_same S a N (by omega)]
      have : insS S a N = true := (insS_iff _ _ _).2 (Or.inl e.symm)
      rw [this, ← e, hn]
      simp
    · rw [ih (by omega)]
      have : insS S a N = S N := by unfold insS; rw [decide_eq_false (fun q => e q.symm)]; rfl
      rw [this]
      omega
theorem cntS_pos {S : Int → Bool} {N : Nat} : 0 < cntS S N ↔ ∃ i : Int, 0 ≤ i ∧ i < N ∧ S i = true := by
  induction N with
  | zero => exact ⟨fun h => absurd h (Nat.lt_irrefl _), fun ⟨i, h1, h2, _⟩ => by omega⟩
  | succ N ih =>
    unfold cntS
    cases hs : S N with
    | true => exact ⟨fun _ => ⟨N, by omega, by omega, hs⟩, fun _ => by simp⟩
    | false =>
      simp only [Bool.false_eq_true, if_false, Nat.add_zero]
      rw [ih]
      constructor
      · rintro ⟨i, h1, h2, h3⟩; exact ⟨i, h1, by omega, h3⟩
      · rintro ⟨i, h1, h2, h3⟩
        refine ⟨i, h1, ?_, h3⟩
        by_cases e : i = N
        · rw [e, hs] at h3; cases h3
        · omega
theorem cntS_none (N : Nat) : cntS (fun _ => false) N = 0 := by
  induction N with
  | zero => rfl
  | succ N ih => unfold cntS; rw [ih]; rfl

/-- block b is a map that holds just these cells -/
structure SetAt (w : World) (b : Nat) (S : Int → Bool) : Prop where
  mp : MapF Tryz.prog 3 w b (setF S) (cntS S 256)
  bd : ∀ i, S i = true → 0 ≤ i ∧ i < 256
theorem SetAt.lt {w : World} {b : Nat} {S : Int → Bool} (h : SetAt w b S) : b < w.heap.size := h.mp.lt
theorem SetAt.below {w w' : World} {b : Nat} {S : Int → Bool} (h : SetAt w b S) (hb : Below w.heap.size w w') : SetAt w' b S := ⟨h.mp.kept (hb.block b h.lt), h.bd⟩
theorem SetAt.kept {w w' : World} {b : Nat} {S : Int → Bool} (h : SetAt w b S) (hb : w'.heap[b]? = w.heap[b]?) : SetAt w' b S := ⟨h.mp.kept hb, h.bd⟩
theorem SetAt.grown {w w' : World} {b : Nat} {S : Int → Bool} {row : Option Nat} (h : SetAt w b S) (hg : w.grownBy w' row) (hn : some b ≠ row) : SetAt w' b S := h.kept (hg.block b h.lt hn)
theorem SetAt.made (w : World) : SetAt (w.alloc (.map #[] 0)) w.heap.size (fun _ => false) :=
  ⟨by rw [cntS_none]; exact MapF.made w Tryz.prog 3, fun i h => by cases h⟩
theorem SetAt.put {w w' : World} {b : Nat} {S : Int → Bool} {a : Int} (h : SetAt w b S) (h0 : 0 ≤ a) (h1 : a < 256) (hm : MapF Tryz.prog 3 w' b (putF (setF S) a (.agg #[])) (if (setF S a).isSome then cntS S 256 else cntS S 256 + 1)) : SetAt w' b (insS S a) := by
  refine ⟨?_, fun i hi => ?_⟩
  · rw [setF_put, setF_isSome] at hm
    cases hs : S a with
    | true => rw [hs, insS_same hs] at hm; rw [insS_same hs]; exact hm
    | false => rw [hs] at hm; rw [cntS_put S a 256 h0 h1 hs]; exact hm
  · rcases (insS_iff _ _ _).1 hi with rfl | hi
    · exact ⟨h0, h1⟩
    · exact h.bd i hi
theorem SetAt.room {w : World} {b : Nat} {S : Int → Bool} (_h : SetAt w b S) : cntS S 256 < maxLen := by
  have := cntS_le S 256
  unfold maxLen
  omega
theorem SetAt.ne_nil {w : World} {b : Nat} {S : Int → Bool} (h : SetAt w b S) : 0 < cntS S 256 ↔ ∃ i, S i = true := by
  rw [cntS_pos]
  exact ⟨fun ⟨i, _, _, h3⟩ => ⟨i, h3⟩, fun ⟨i, hi⟩ => ⟨i, (h.bd i hi).1, (h.bd i hi).2, hi⟩⟩
theorem wf_small {a : Int} (h0 : 0 ≤ a) (h1 : a < 256) : (Lit.int .i64 a).wf = true := WalkArith.wf_i64 (by omega)

theorem Tryz.underS : Tryz.prog.underlying 123 = some (.map 3 109) := by kernel_rfl
theorem zeroS (w : World) : (zeroValue 109).run Tryz.prog w = .ok (.agg #[]) w := by kernel_rfl
theorem builtS : Tryz.prog.built 109 [] = some #[] := by kernel_rfl

/-- a range over a set under way -/
abbrev RngS (w : World) (b r : Nat) (S left : Int → Bool) (cnt : Nat) : Prop := RngF Tryz.prog 3 w b r (setF S) (cntS S 256) left cnt
theorem RngF.below {P : Program} {k : TypeId} {w w' : World} {b r n cnt : Nat} {f : Int → Option Value} {left : Int → Bool} (h : RngF P k w b r f n left cnt) (hb : Below w.heap.size w w') : RngF P k w' b r f n left cnt :=
  h.kept (hb.block b h.map.lt) (hb.block r h.lt)
theorem RngF.grown {P : Program} {k : TypeId} {w w' : World} {b r n cnt : Nat} {f : Int → Option Value} {left : Int → Bool} {row : Option Nat} (h : RngF P k w b r f n left cnt) (hg : w.grownBy w' row) (h1 : some b ≠ row) (h2 : some r ≠ row) : RngF P k w' b r f n left cnt :=
  h.kept (hg.block b h.map.lt h1) (hg.block r h.lt h2)

section
variable {P : Program} {w : World} {ops : Array Oper} {rest : List Oper} {o : Oper} {a : Act} {Q : Exit → Act → World → Prop}
/-- a store of a map that is written out, at the operation -/
theorem wpList_ins (hg : o.guard = none) (m x v : Operand) (t : TypeId) (hop : o.op = Op.insert t m x v) (k e : TypeId) (hk : P.underlying k = some (.int .i64)) (ht : P.underlying t = some (.map k e)) (b n : Nat) (f : Int → Option Value)
    (hm : a.eval m = .map (some b)) (h : MapF P k w b f n) (hn : n < maxLen) (i : Int) (val : Value) (hx : a.eval x = .int .i64 i) (hv : a.eval v = val) (hi : (Lit.int .i64 i).wf = true)
    (hK : ∀ w', MapF P k w' b (putF f i val) (if (f i).isSome then n else n + 1) → w.mapTurned w' b → wpList P ops Q rest (a.put o.dst undef) w') :
    wpList P ops Q (o :: rest) a w := by
  refine wpList_plain hg fun K' hK' => ?_
  obtain ⟨w', hrun, r1, r2⟩ := h.store hk ht hn hi val
  unfold Oper.wp
  simp [execOp, hop, hm, hx, hv, hrun, Result.andThen]
  exact hK' _ _ (hK w' r1 r2)
end

end Go.Proofs.YtcagpmglijockaaGreatDoor
/-
  The cells to which one may go by a step away from another one.
-/
namespace Go.Proofs.YtcagpmglijockaaGreatDoor
open Go.RowKit

theorem rback_any (k : Nat) (hk : k < 8) (w : World) : Calls Tryz.prog 101 #[.int .i64 k] w fun e w' => e = .returned (.int .i64 ((opp k : Nat) : Int)) ∧ w' = w := by
  rcases k8 hk with rfl | rfl | rfl | rfl | rfl | rfl | rfl | rfl <;> (go_enter Tryz.func101, Tryz.ntmps101; go_wp2; go_ret; exact ⟨rfl, rfl⟩)

/-- is a direction one of a step away from a cell? -/
def outB (W H : Int) (bl : Nat → Bool) (c t : Int) (k : Nat) : Bool := mayB W H bl (c % W) (c / W) k && goodB (c % W + stepX k) (c / W + stepY k) (t % W) (t / W) (opp k)
/-- where it leads -/
def tgt (W c : Int) (k : Nat) : Nat := (c + (stepY k * W + stepX k)).toNat
/-- where the first n directions lead -/
def outw (W H : Int) (bl : Nat → Bool) (c t : Int) (n : Nat) : List Nat := ((List.range n).filter fun i => outB W H bl c t i).map fun i => tgt W c i
theorem outw_succ (W H : Int) (bl : Nat → Bool) (c t : Int) (n : Nat) : outw W H bl c t (n + 1) = outw W H bl c t n ++ (if outB W H bl c t n then [tgt W c n] else []) := by
  unfold outw
  rw [List.range_succ, List.filter_append, List.map_append]
  cases h : outB W H bl c t n <;> simp [h]
theorem outw_len (W H : Int) (bl : Nat → Bool) (c t : Int) (n : Nat) : (outw W H bl c t n).length ≤ n := by
  unfold outw
  rw [List.length_map]
  have := List.length_filter_le (fun i => outB W H bl c t i) (List.range n)
  simpa using this
theorem tgt_eq {W H c : Int} {bl : Nat → Bool} {k : Nat} (w1 : 1 ≤ W) (h : mayB W H bl (c % W) (c / W) k = true) : (tgt W c k : Int) = c + (stepY k * W + stepX k) := by
  unfold tgt
  obtain ⟨_, o2, _, _⟩ := may_parts h
  obtain ⟨a1, a2, a3, a4⟩ := open_in o2
  have e : c + (stepY k * W + stepX k) = (c / W + stepY k) * W + (c % W + stepX k) := by
    have := cell_eq W c
    rw [Int.add_mul]
    omega
  have := Int.mul_nonneg a3 (show 0 ≤ W by omega)
  omega

/-- a step away from a cell -/
def Og (W H : Int) (bl : Nat → Bool) (t c : Int) (k : Nat) (r : Int) : Prop := Edge W H bl c k r ∧ Good (r % W) (r / W) (t % W) (t / W) (opp k)
theorem outw_mem {W H c t : Int} {bl : Nat → Bool} {z : Nat} (w1 : 1 ≤ W) (hc : inB W H c = true) : z ∈ outw W H bl c t 8 ↔ ∃ k, Og W H bl t c k z := by
  unfold outw
  rw [List.mem_map]
  constructor
  · rintro ⟨i, hi, rfl⟩
    rw [List.mem_filter, List.mem_range] at hi
    have h := hi.2
    unfold outB at h
    rw [Bool.and_eq_true] at h
    have e : Edge W H bl c i (tgt W c i : Int) := ⟨hi.1, hc, h.1, tgt_eq w1 h.1⟩
    obtain ⟨p1, p2⟩ := e.place w1
    exact ⟨i, e, by rw [p1, p2]; exact goodB_iff.1 h.2⟩
  · rintro ⟨k, e, hg⟩
    obtain ⟨p1, p2⟩ := e.place w1
    rw [p1, p2] at hg
    obtain ⟨h1, _, h3, h4⟩ := e
    refine ⟨k, List.mem_filter.2 ⟨List.mem_range.2 h1, ?_⟩, ?_⟩
    · unfold outB
      rw [Bool.and_eq_true]
      exact ⟨h3, goodB_iff.2 hg⟩
    · have := tgt_eq (H := H) w1 h3
      omega
theorem outw_row {W H c t z : Int} {bl : Nat → Bool} {l : List Nat} (w1 : 1 ≤ W) (hc : inB W H c = true) (hl : outw W H bl c t 8 = l) :
    (∃ i, i < l.length ∧ z = ((l.getD i 0 : Nat) : Int)) ↔ ∃ k, Og W H bl t c k z := by
  constructor
  · rintro ⟨i, hi, rfl⟩
    have hm : l.getD i 0 ∈ l := by rw [getD_at _ _ hi]; exact List.getElem_mem hi
    generalize l.getD i 0 = n at *
    rw [← hl] at hm
    exact (outw_mem w1 hc).1 hm
  · rintro ⟨k, e, hg⟩
    have hz : 0 ≤ z ∧ z < W * H := of_decide_eq_true (e.in' w1)
    have hm : z.toNat ∈ outw W H bl c t 8 := (outw_mem w1 hc).2 ⟨k, by rw [Int.toNat_of_nonneg hz.1]; exact ⟨e, hg⟩⟩
    rw [hl] at hm
    obtain ⟨i, hi, h⟩ := List.getElem_of_mem hm
    refine ⟨i, hi, ?_⟩
    rw [getD_at _ _ hi, h]
    omega

set_option maxHeartbeats 1600000 in
set_option maxRecDepth 1000000 in
theorem outward' {b : Nat} {W H V c t x y u v : Int} {bl : Nat → Bool} (w : World) (g : GridAt w b W H V bl) (s : StepsAt w) (hb : b < w.heap.size)
    (hx : c % W = x) (hy : c / W = y) (hu : t % W = u) (hv : t / W = v)
    (hP : ∀ w, GridAt w b W H V bl → Calls Tryz.prog 44 #[.pointer (some ⟨b, 0, none⟩), .int .i64 c] w fun e w' => e = .returned (.tuple #[.int .i64 x, .int .i64 y, .nilIface]) ∧ ∃ m, w' = w.drewN m)
    (hQ : ∀ w, GridAt w b W H V bl → Calls Tryz.prog 44 #[.pointer (some ⟨b, 0, none⟩), .int .i64 t] w fun e w' => e = .returned (.tuple #[.int .i64 u, .int .i64 v, .nilIface]) ∧ ∃ m, w' = w.drewN m)
    (x1 : 0 ≤ x) (x2 : x ≤ 50) (y1 : 0 ≤ y) (y2 : y ≤ 50) (u1 : 0 ≤ u) (u2 : u ≤ 50) (v1 : 0 ≤ v) (v2 : v ≤ 50) (c1 : 0 ≤ c) (c2 : c ≤ 300) :
    Calls Tryz.prog 91 #[.pointer (some ⟨b, 0, none⟩), .int .i64 c, .int .i64 t] w fun e w' => ∃ v, e = .returned v ∧
      w'.ownsRow w.heap.size 3 1 v (outw W H bl c t 8).length (vals (outw W H bl c t 8)) ∧ Below w.heap.size w w' := by
  obtain ⟨i0, hi, hz0, hz1, hz2⟩ := info_parts Tryz.info3
  go_enter Tryz.func91, Tryz.ntmps91
  go_wp2_with fail
  refine (hP _ g).mono ?_
  rintro e w1 ⟨rfl, m1, rfl⟩
  go_wp2_with fail
  refine (hQ _ (g.drewN _)).mono ?_
  rintro e w2 ⟨rfl, m2, rfl⟩
  clear hP hQ
  go_wp2
  go_loopw [13, 31] (fun v i wr => ∃ k : Nat, k ≤ 8 ∧ i = .int .i64 k ∧ wr.ownsRow w.heap.size 3 1 v (outw W H bl c t k).length (vals (outw W H bl c t k)) ∧ Below w.heap.size w wr)
    (fun _ i _ => 8 - (intOf i).toNat)
  case atStart => exact ⟨0, Nat.zero_le _, rfl, World.ownsRow_nil _ _ _ _, below_drewN (Below.refl _ _) _⟩
  case round =>
    obtain ⟨k, hk, rfl, hown, hnx⟩ := hrel
    have hl := outw_len W H bl c t k
    have gr := g.below hnx hb
    have sr := s.below hnx (by omega)
    have hsz := hnx.size
    by_cases hlt : k < 8
    · have hms := outw_succ W H bl c t k
      have hon : outB W H bl c t k = (mayB W H bl x y k && goodB (x + stepX k) (y + stepY k) u v (opp k)) := by unfold outB; rw [hx, hy, hu, hv]
      obtain ⟨s1, s2, s3, s4⟩ := step_bd k
      have hst := fun w h => step_any k w h hlt
      have htg : c + (stepY k * W + stepX k) = (tgt W c k : Int) ∨ mayB W H bl x y k = false := by
        cases hM : mayB W H bl x y k with
        | false => exact Or.inr rfl
        | true =>
          left
          rw [← hx, ← hy] at hM
          exact (tgt_eq g.w1 hM).symm
      have hto := fun (z : Int) (htz : c + (stepY k * W + stepX k) = z) w g s => to_v (b := b) (H := H) (V := V) (bl := bl) htz w g s hlt (by omega) (by omega)
      have hpl : mayB W H bl x y k = true → (0 ≤ x + stepX k ∧ x + stepX k ≤ 50) ∧ (0 ≤ y + stepY k ∧ y + stepY k ≤ 50) := fun hM => by
        obtain ⟨_, o2, _, _⟩ := may_parts hM
        obtain ⟨a1, a2, a3, a4⟩ := open_in o2
        have := g.w2
        have := g.h2
        omega
      have hop := opp_lt k
      have hit := fun (r : Bool) (hr : goodB (x + stepX k) (y + stepY k) u v (opp k) = r) w s p1 p2 p3 p4 => isTowards_v hr w s hop p1 p2 p3 p4 u1 u2 v1 v2
      have hbk := rback_any k hlt
      have hmay := fun (r : Bool) (hM : mayB W H bl x y k = r) w g s => may_v (b := b) (V := V) hM w g s hlt (by omega) (by omega) (by omega) (by omega)
      have hrw := fun (hM : mayB W H bl x y k = true) => hto (tgt W c k : Int) (htg.resolve_right (by rw [hM]; decide))
      generalize stepX k = dx at *
      generalize stepY k = dy at *
      generalize opp k = ok at *
      generalize tgt W c k = z at *
      clear hx hy hu hv hto htg
      cases hM : mayB W H bl x y k with
      | false =>
        have HS : Hid (outw W H bl c t (k + 1) = outw W H bl c t k) := by rw [hms, hon, hM]; simp [Hid]
        have hmay := hmay false hM
        clear hms hon hrw hit hpl
        go_wp2_with fail
        refine (hst _ sr).mono ?_
        rintro e w3 ⟨rfl, m3, rfl⟩
        clear hst
        go_wp2_with fail
        refine (hmay _ (gr.drewN _) (sr.drewN _)).mono ?_
        rintro e w4 ⟨rfl, m4, rfl⟩
        clear hmay
        go_wp2
        go_roundw
        case rel => exact ⟨k + 1, by omega, by go_num, by rw [HS.out]; exact hown, below_drewN hnx _⟩
        case measure => simp [intOf]; omega
      | true =>
        obtain ⟨⟨p1, p2⟩, p3, p4⟩ := hpl hM
        have hto := hrw hM
        have hmay := hmay true hM
        cases hG : goodB (x + dx) (y + dy) u v ok with
        | false =>
          have HS : Hid (outw W H bl c t (k + 1) = outw W H bl c t k) := by rw [hms, hon, hM, hG]; simp [Hid]
          have hit := fun w s => hit false hG w s p1 p2 p3 p4
          clear hms hon hto hpl hrw hG hM
          go_wp2_with fail
          refine (hst _ sr).mono ?_
          rintro e w3 ⟨rfl, m3, rfl⟩
          clear hst
          go_wp2_with fail
          refine (hmay _ (gr.drewN _) (sr.drewN _)).mono ?_
          rintro e w4 ⟨rfl, m4, rfl⟩
          clear hmay
          go_wp2_with fail
          refine (hbk _).mono ?_
          rintro e w5 ⟨rfl, rfl⟩
          clear hbk
          go_wp2_with fail
          refine (hit _ (sr.drewN _)).mono ?_
          rintro e w6 ⟨rfl, hb6⟩
          have hb4' : Below wr.heap.size wr w6 := (below_drewN (Below.refl _ _) (m3 + m4)).trans hb6
          clear hit
          go_wp2
          go_roundw
          case rel => exact ⟨k + 1, by omega, by go_num, by rw [HS.out]; exact own_below hown hb4', hnx.trans (hb4'.mono hsz)⟩
          case measure => simp [intOf]; omega
        | true =>
          have HS : Hid (outw W H bl c t (k + 1) = outw W H bl c t k ++ [z]) := by rw [hms, hon, hM, hG]; simp [Hid]
          have hit := fun w s => hit true hG w s p1 p2 p3 p4
          clear hms hon hpl hrw hG hM
          go_wp2_with fail
          refine (hst _ sr).mono ?_
          rintro e w3 ⟨rfl, m3, rfl⟩
          clear hst
          go_wp2_with fail
          refine (hmay _ (gr.drewN _) (sr.drewN _)).mono ?_
          rintro e w4 ⟨rfl, m4, rfl⟩
          clear hmay
          go_wp2_with fail
          refine (hbk _).mono ?_
          rintro e w5 ⟨rfl, rfl⟩
          clear hbk
          go_wp2_with fail
          refine (hit _ (sr.drewN _)).mono ?_
          rintro e w6 ⟨rfl, hb6⟩
          have hb4' : Below wr.heap.size wr w6 := (below_drewN (Below.refl _ _) (m3 + m4)).trans hb6
          clear hit
          have g4 := gr.below hb4' (by omega)
          have s4 := sr.below hb4' (by omega)
          have o4 := own_below hown hb4'
          have n4 := hnx.trans (hb4'.mono hsz)
          clear hb6 hb4' hown hnx gr sr
          go_wp2_with fail
          refine (hto _ g4 s4).mono ?_
          rintro e w7 ⟨rfl, m5, rfl⟩
          clear hto g4 s4
          have hz4 := n4.size
          go_wp2_with (at_builtin; refine wpList_append_own _ rfl _ _ 22 rfl w.heap.size 3 i0 (.int .i64 0) 1 8 Tryz.underlying22 hi hz0 hz1 hz2 rfl (by decide) _ _ _ rfl (World.ownsRow.alloc (show (w6.drewN m5).ownsRow w.heap.size 3 1 _ _ _ from o4) _) ⟨w6.heap.size, 0, none⟩ 1 1 [.int .i64 z] rfl rfl ?c1 ?c2 ?c3 ?c4 ?c5 ?_)
          case c1 =>
            intro j u hj
            match j, hj with
            | 0, hj =>
              simp at hj; subst hj; simp only [Addr.add]
              exact World.cell?_alloc_at (w := w6.drewN m5) #[.int .i64 z] 3 w6.heap.size 0 rfl
          case c2 => intro u hu; simp at hu; subst hu; rfl
          case c3 => unfold maxLen; omega
          case c4 => omega
          case c5 => simp; omega
          intro v' w8 hown' hgrow _
          have hbase := fun q hq => (o4.lt q hq).1
          have B1 : Below w.heap.size w w8 := ((below_drewN n4 m5).alloc hz4 _).grown hgrow (by simp; omega) hbase
          have O1 : w8.ownsRow w.heap.size 3 1 v' (outw W H bl c t (k + 1)).length (vals (outw W H bl c t (k + 1))) := by
            rw [HS.out]
            simpa [vals] using hown'
          clear hown' hgrow o4 n4
          go_wp2
          go_roundw
          case rel => exact ⟨k + 1, by omega, by go_num, O1, B1⟩
          case measure => simp [intOf]; omega
    · have : k = 8 := by omega
      subst this
      go_wp2
      go_ret
      exact ⟨_, rfl, hown, hnx⟩

theorem outward_v {b : Nat} {W H V c t : Int} {bl : Nat → Bool} {l : List Nat} (hl : outw W H bl c t 8 = l) (w : World) (g : GridAt w b W H V bl) (s : StepsAt w) (hb : b < w.heap.size) (hc : inB W H c = true) (ht : inB W H t = true) :
    Calls Tryz.prog 91 #[.pointer (some ⟨b, 0, none⟩), .int .i64 c, .int .i64 t] w fun e w' => ∃ A cap, e = .returned (.slice A l.length cap) ∧ OldRow w' A l.length (fun i => (l.getD i 0 : Nat)) ∧ Below w.heap.size w w' := by
  obtain ⟨x1, x2, y1, y2⟩ := place_bd g.w1 hc
  obtain ⟨u1, u2, v1, v2⟩ := place_bd g.w1 ht
  have gw := g.w2
  have gh := g.h2
  have hq : 0 ≤ c ∧ c < W * H := of_decide_eq_true hc
  have hk := wh_bd g.w1 g.w2 g.h1 g.h2
  refine (outward' w g s hb rfl rfl rfl rfl (fun w g => place_in c w g hc) (fun w g => place_in t w g ht) x1 (by omega) y1 (by omega) u1 (by omega) v1 (by omega) hq.1 (by omega)).mono ?_
  rintro e w' ⟨v, he, hown, hbl⟩
  rw [hl] at hown
  obtain ⟨A, cap, rfl, hrow⟩ := row_of hown
  exact ⟨A, cap, he, hrow, hbl⟩
end Go.Proofs.YtcagpmglijockaaGreatDoor
/-
  A step farther from a cell, from each of some: package reach's 'goOut'.
-/
namespace Go.Proofs.YtcagpmglijockaaGreatDoor
open Go.RowKit

theorem mkmap (w : World) : (Instr.makeMap 123 none).run Tryz.prog w = .ok (.map (some w.heap.size)) (w.alloc (.map #[] 0)) := by kernel_rfl

set_option maxHeartbeats 2000000 in
set_option maxRecDepth 1000000 in
theorem goOut_any {b fb bb : Nat} {W H V a : Int} {bl : Nat → Bool} {S B : Int → Bool} (w : World) (g : GridAt w b W H V bl) (s : StepsAt w) (hb : b < w.heap.size) (hS : SetAt w fb S) (hB : SetAt w bb B) (hfb : fb ≠ bb) (hbb : b ≠ bb) (h0 : 0 ≠ bb) (hin : ∀ i, S i = true → inB W H i = true) (ha : inB W H a = true)
    (hap : ∀ c k z, S c = true → Og W H bl a c k z → S z = false) :
    Calls Tryz.prog 75 #[.pointer (some ⟨b, 0, none⟩), .map (some fb), .map (some bb), .int .i64 a] w fun e w' => ∃ nb T B', e = .returned (.map (some nb)) ∧ SetAt w' nb T ∧ SetAt w' bb B' ∧ (∀ z, T z = true ↔ ∃ c k, S c = true ∧ Og W H bl a c k z) ∧
      (∀ z, B' z = true ↔ B z = true ∨ ∃ c k, S c = true ∧ Og W H bl a c k z ∧ (B c = true ∨ (cornB W H bl c = true ∧ c ≠ a))) ∧ w.heap.size ≤ nb ∧ Keep (fun k => k = bb) w w' := by
  have hfl := hS.lt
  have hbl := hB.lt
  have gw1 := g.w1
  have hwh := wh_bd g.w1 g.w2 g.h1 g.h2
  have hM0 := SetAt.made w
  have hS0 := hS.grown (World.grownBy_alloc w (.map #[] 0) none) (by simp)
  have hB0 := hB.grown (World.grownBy_alloc w (.map #[] 0) none) (by simp)
  have hz0 : (w.alloc (.map #[] 0)).heap.size = w.heap.size + 1 := by simp
  have K0 : Keep (fun k => k = bb) w (w.alloc (.map #[] 0)) := (Keep.refl _ _).alloc _
  have hmk := mkmap w
  have HAP : Hid (∀ c k z, S c = true → Og W H bl a c k z → S z = false) := hap
  clear hap
  go_enter Tryz.func75, Tryz.ntmps75
  go_wp2_with (first | (at_range; refine wpList_rangeF rfl _ 123 rfl 3 109 law3 Tryz.underS fb _ _ rfl hS0.mp ?_; intro w0 hrg0 hg0 hs0; rw [hz0] at hrg0 hs0 ⊢) | go_in)
  have hM1 := hM0.grown hg0 (by simp)
  have hB1 := hB0.grown hg0 (by simp)
  have K1 : Keep (fun k => k = bb) w w0 := K0.grown hg0 (by simp)
  clear hM0 hS0 hg0 K0 hB0
  go_frame
  go_loopg [] (cntS S 256) (fun gk wr => ∃ left cnt T B1, gk = cnt ∧ RngS wr fb (w.heap.size + 1) S left cnt ∧ SetAt wr w.heap.size T ∧ SetAt wr bb B1 ∧ Hid (∀ z, T z = true ↔ ∃ c k, (S c = true ∧ left c = false) ∧ Og W H bl a c k z) ∧
      Hid (∀ z, B1 z = true ↔ B z = true ∨ ∃ c k, (S c = true ∧ left c = false) ∧ Og W H bl a c k z ∧ (B c = true ∨ (cornB W H bl c = true ∧ c ≠ a))) ∧ Keep (fun k => k = bb) w wr)
  case atStart =>
    refine ⟨_, _, _, _, rfl, hrg0, hM1, hB1, fun z => ⟨fun h => (by cases h), ?_⟩, fun z => ⟨Or.inl, ?_⟩, K1⟩
    · rintro ⟨c, k, ⟨h1, h2⟩, _⟩
      rw [setF_isSome, h1] at h2
      cases h2
    · rintro (h | ⟨c, k, ⟨h1, h2⟩, _⟩)
      · exact h
      · rw [setF_isSome, h1] at h2
        cases h2
  case round =>
    obtain ⟨left, cnt, T, B1, hgk, hrg, hT, hB2, hall, hbhd, hK⟩ := hrel
    have hbz := hK.size
    go_wp2_with (first | (at_next; refine wpList_nextF rfl _ rfl 3 law3 fb (w.heap.size + 1) _ _ _ _ rfl hrg ?_ ?_) | go_in)
    · intro hc0 hl0
      go_wp2
      go_ret
      refine ⟨_, T, B1, rfl, hT, hB2, fun z => (hall.out z).trans ⟨?_, ?_⟩, fun z => (hbhd.out z).trans ⟨?_, ?_⟩, Nat.le_refl _, hK⟩
      · rintro ⟨c, k, h1, h2⟩; exact ⟨c, k, h1.1, h2⟩
      · rintro ⟨c, k, h1, h2⟩; exact ⟨c, k, ⟨h1, hl0 c⟩, h2⟩
      · rintro (h | ⟨c, k, h1, h2⟩)
        · exact Or.inl h
        · exact Or.inr ⟨c, k, h1.1, h2⟩
      · rintro (h | ⟨c, k, h1, h2⟩)
        · exact Or.inl h
        · exact Or.inr ⟨c, k, ⟨h1, hl0 c⟩, h2⟩
    · intro x v w1 cnt1 hwx hlx hfx hrg1 hlt hg1 hs1 hen
      obtain ⟨hSx, rfl⟩ := setF_val hfx
      have hxin := hin x hSx
      have hT1 := hT.grown hg1 (fun e => by have := Option.some.inj e; omega)
      have hB3 := hB2.grown hg1 (fun e => by have := Option.some.inj e; omega)
      have K2 : Keep (fun k => k = bb) w w1 := hK.grown hg1 (fun k e h => by cases e; omega)
      have hBx : B1 x = B x := by
        have h1 := hbhd.out x
        cases hb1 : B x with
        | true => rw [hb1] at h1; exact h1.2 (Or.inl rfl)
        | false =>
          cases hb2 : B1 x with
          | false => rfl
          | true =>
            rw [hb1, hb2] at h1
            obtain ⟨c, k, h3, h4, _⟩ := (h1.1 rfl).resolve_left (by decide)
            have := HAP.out c k x h3.1 h4
            rw [hSx] at this; cases this
      obtain ⟨l, hl⟩ : ∃ l, outw W H bl x a 8 = l := ⟨_, rfl⟩
      have HL : Hid (outw W H bl x a 8 = l) := hl
      have hll : l.length ≤ 8 := by rw [← hl]; exact outw_len _ _ _ _ _ _
      clear hl
      have hzb : ∀ j, j < l.length → (0 : Int) ≤ ((l.getD j 0 : Nat) : Int) ∧ ((l.getD j 0 : Nat) : Int) < 256 := fun j hj => by
        obtain ⟨k, e, _⟩ := (outw_row (z := ((l.getD j 0 : Nat) : Int)) gw1 hxin HL.out).1 ⟨j, hj, rfl⟩
        have : 0 ≤ ((l.getD j 0 : Nat) : Int) ∧ ((l.getD j 0 : Nat) : Int) < W * H := of_decide_eq_true (e.in' gw1)
        omega
      have HZ : Hid (∀ j, j < l.length → (0 : Int) ≤ ((l.getD j 0 : Nat) : Int) ∧ ((l.getD j 0 : Nat) : Int) < 256) := hzb
      clear hzb
      have g1 := g.keep K2 hbb
      have s1 := s.keep K2 h0
      have hw1 : b < w1.heap.size := Nat.lt_of_lt_of_le hb K2.size
      obtain ⟨cx, hcx⟩ : ∃ cx, cornB W H bl x = cx := ⟨_, rfl⟩
      have HCX : Hid (cornB W H bl x = cx) := hcx
      have his := is_v hcx w1 g1 s1 hxin
      obtain ⟨bx, hbx⟩ : ∃ bx, B x = bx := ⟨_, rfl⟩
      have HBX : Hid (B x = bx) := hbx
      have HBX1 : Hid (B1 x = bx) := hBx.trans hbx
      clear hcx hbx hBx
      clear hT hrg hK hg1 K1 hM1 hrg0 hB1 hB2
      go_wp2_with fail
      refine his.mono ?_
      rintro e w2 ⟨rfl, m2, hw2⟩
      have hlk : (Instr.lookup 123 (.map (some bb)) (.int .i64 x) true).run Tryz.prog w2 = .ok (.tuple #[.agg #[], .bool bx]) w2 := by
        have hB4 : SetAt w2 bb B1 := by rw [hw2]; exact hB3.below (below_drewN (Below.refl _ _) m2)
        have hq := HBX1.out
        cases bx with
        | false => exact hB4.mp.look_none law3 Tryz.underS (zeroS _) hwx (setF_none hq) true
        | true => exact hB4.mp.look_some law3 Tryz.underS (zeroS _) hwx (setF_some hq) true
      have b2 : Below w1.heap.size w1 (w2.alloc (.cells #[] 109)) := by rw [hw2]; exact (below_drewN (Below.refl _ _) m2).alloc (by simp) _
      have g2 := g1.below b2 hw1
      have s2 := s1.below b2 (by omega)
      have hT2 := hT1.below b2
      have hB4 := hB3.below b2
      have hrg2 := hrg1.below b2
      have K3 := K2.below b2
      have hw2' : b < (w2.alloc (.cells #[] 109)).heap.size := Nat.lt_of_lt_of_le hw1 b2.size
      clear b2 hw2 g1 s1 hT1 hB3 hrg1 K2 his
      have hon := outward_v HL.out (w2.alloc (.cells #[] 109)) g2 s2 hw2' hxin ha
      go_wp2_with fail
      refine hon.mono ?_
      rintro e w3 ⟨A, cap, rfl, hrow, hb3⟩
      have hT3 := hT2.below hb3
      have hB5 := hB4.below hb3
      have hrg3 := hrg2.below hb3
      have K4 := K3.below hb3
      clear hT2 hB4 hrg2 K3 hb3 hon g2 s2 hw2' hlk
      go_wp2
      go_loopg [41] l.length (fun gj iv wr => ∃ (j : Nat) (T' B' : Int → Bool), gj = l.length - j ∧ iv = .int .i64 j ∧ j ≤ l.length ∧ SetAt wr w.heap.size T' ∧ SetAt wr bb B' ∧ Hid (∀ z, T' z = true ↔ T z = true ∨ ∃ i, i < j ∧ z = ((l.getD i 0 : Nat) : Int)) ∧
          Hid (∀ z, B' z = true ↔ B1 z = true ∨ ((bx = true ∨ (cx = true ∧ x ≠ a)) ∧ ∃ i, i < j ∧ z = ((l.getD i 0 : Nat) : Int))) ∧ RngS wr fb (w.heap.size + 1) S (fun z => left z && !decide (z = x)) cnt1 ∧ OldRow wr A l.length (fun i => (l.getD i 0 : Nat)) ∧ Keep (fun k => k = bb) w wr)
      case atStart => exact ⟨0, T, B1, rfl, rfl, Nat.zero_le _, hT3, hB5, fun z => ⟨Or.inl, fun h => h.resolve_right (fun ⟨i, hi, _⟩ => by omega)⟩, fun z => ⟨Or.inl, fun h => h.resolve_right (fun ⟨_, i, hi, _⟩ => by omega)⟩, hrg3, hrow, K4⟩
      case round =>
        obtain ⟨j, T', B', hgj, rfl, hj, hT', hBB, hin', hbn', hrg', hrow', hK'⟩ := hrel
        by_cases hlj : j < l.length
        · obtain ⟨ba, oa, rfl, hba, hcell⟩ := hrow' j hlj
          obtain ⟨z0, z1⟩ := HZ.out j hlj
          have hcell' : wr.cell? ⟨ba, oa + j, none⟩ = some (.int .i64 ((l.getD j 0 : Nat) : Int)) := hcell
          clear hcell
          have HJ : Hid (∀ z : Int, (∃ i, i < j + 1 ∧ z = ((l.getD i 0 : Nat) : Int)) ↔ (∃ i, i < j ∧ z = ((l.getD i 0 : Nat) : Int)) ∨ z = ((l.getD j 0 : Nat) : Int)) := fun z => by
            constructor
            · rintro ⟨i, hi, h⟩
              by_cases e : i = j
              · subst e; exact Or.inr h
              · exact Or.inl ⟨i, by omega, h⟩
            · rintro (⟨i, hi, h⟩ | h)
              · exact ⟨i, by omega, h⟩
              · exact ⟨j, by omega, h⟩
          generalize ((l.getD j 0 : Nat) : Int) = zz at *
          have i1 : (0 : Int) ≤ (j : Int) := by omega
          have i2 : (j : Int) < (l.length : Int) := by omega
          have hneb : ba ≠ w.heap.size := fun e => by
            have h := hT'.mp.cell (oa + j)
            rw [← e, hcell'] at h
            cases h
          have hneb2 : ba ≠ bb := fun e => by
            have h := hBB.mp.cell (oa + j)
            rw [← e, hcell'] at h
            cases h
          have hRW : ∀ w' row, wr.grownBy w' (some row) → ba ≠ row → OldRow w' (some ⟨ba, oa, none⟩) l.length (fun i => (l.getD i 0 : Nat)) := fun w' row hg hn i hi => by
            obtain ⟨b', o', e, h1, h2⟩ := hrow' i hi
            cases e
            exact ⟨ba, oa, rfl, Nat.lt_of_lt_of_le h1 hg.size, (World.cell?_of_block (w := wr) (hg.block ba h1 (fun e => hn (Option.some.inj e)))).trans h2⟩
          have hnbb : w.heap.size ≠ bb := by omega
          have tok : True := trivial
          cases bx with
          | true =>
            go_wp2_with (first | (at_mapUpdate; have _t := tok; refine wpList_put rfl _ _ _ 123 rfl 3 109 law3 Tryz.underS w.heap.size _ _ rfl hT'.mp hT'.room zz (.agg #[]) rfl rfl (wf_small z0 z1) ?_; intro w4 hm4 ht4; have hT4 := hT'.put z0 z1 hm4; have hg4 := ht4.grown; have hB4 := hBB.grown hg4 (fun e => hnbb (Option.some.inj e).symm); clear tok hm4 ht4; go_frame) | (at_mapUpdate; refine wpList_put rfl _ _ _ 123 rfl 3 109 law3 Tryz.underS bb _ _ rfl hB4.mp hB4.room zz (.agg #[]) rfl rfl (wf_small z0 z1) ?_; intro w5 hm5 ht5; go_frame) | go_in)
            have hB5 := hB4.put z0 z1 hm5
            have hg5 := ht5.grown
            have hT5 := hT4.grown hg5 (fun e => hnbb (Option.some.inj e))
            have hrg4 := (hrg'.grown hg4 (fun e => by have := Option.some.inj e; omega) (fun e => by have := Option.some.inj e; omega)).grown hg5 (fun e => hfb (Option.some.inj e)) (fun e => by have := Option.some.inj e; omega)
            have hK4 : Keep (fun k => k = bb) w w5 := (hK'.grown hg4 (fun k e h => by cases e; omega)).grown hg5 (fun k e h => by cases e; rfl)
            have hrow4 := hRW w4 _ hg4 hneb
            have hrow5 : OldRow w5 (some ⟨ba, oa, none⟩) l.length (fun i => (l.getD i 0 : Nat)) := fun i hi => by
              obtain ⟨b', o', e, h1, h2⟩ := hrow4 i hi
              cases e
              exact ⟨ba, oa, rfl, Nat.lt_of_lt_of_le h1 hg5.size, (World.cell?_of_block (w := w4) (hg5.block ba h1 (fun e => hneb2 (Option.some.inj e)))).trans h2⟩
            go_roundg (l.length - (j + 1))
            case measure => omega
            case rel =>
              refine ⟨j + 1, _, _, rfl, by go_num, by omega, hT5, hB5, fun z => ?_, fun z => ?_, hrg4, hrow5, hK4⟩
              · rw [insS_iff, hin'.out z, HJ.out z]
                exact ⟨fun h => h.elim (fun e => Or.inr (Or.inr e)) (fun h => h.imp id Or.inl), fun h => h.elim (fun e => Or.inr (Or.inl e)) (fun h => h.elim (fun e => Or.inr (Or.inr e)) Or.inl)⟩
              · rw [insS_iff, hbn'.out z, HJ.out z]
                constructor
                · rintro (h | h | ⟨h1, h2⟩)
                  · exact Or.inr ⟨by simp, Or.inr h⟩
                  · exact Or.inl h
                  · exact Or.inr ⟨h1, Or.inl h2⟩
                · rintro (h | ⟨h1, h | h⟩)
                  · exact Or.inr (Or.inl h)
                  · exact Or.inr (Or.inr ⟨h1, h⟩)
                  · exact Or.inl h
          | false =>
            cases cx with
            | false =>
              go_wp2_with (first | (at_mapUpdate; have _t := tok; refine wpList_put rfl _ _ _ 123 rfl 3 109 law3 Tryz.underS w.heap.size _ _ rfl hT'.mp hT'.room zz (.agg #[]) rfl rfl (wf_small z0 z1) ?_; intro w4 hm4 ht4; have hT4 := hT'.put z0 z1 hm4; have hg4 := ht4.grown; have hB4 := hBB.grown hg4 (fun e => hnbb (Option.some.inj e).symm); clear tok hm4 ht4; go_frame) | go_in)
              have hrg4 := hrg'.grown hg4 (fun e => by have := Option.some.inj e; omega) (fun e => by have := Option.some.inj e; omega)
              have hK4 : Keep (fun k => k = bb) w w4 := hK'.grown hg4 (fun k e h => by cases e; omega)
              have hrow4 := hRW w4 _ hg4 hneb
              go_roundg (l.length - (j + 1))
              case measure => omega
              case rel =>
                refine ⟨j + 1, _, _, rfl, by go_num, by omega, hT4, hB4, fun z => ?_, fun z => ?_, hrg4, hrow4, hK4⟩
                · rw [insS_iff, hin'.out z, HJ.out z]
                  exact ⟨fun h => h.elim (fun e => Or.inr (Or.inr e)) (fun h => h.imp id Or.inl), fun h => h.elim (fun e => Or.inr (Or.inl e)) (fun h => h.elim (fun e => Or.inr (Or.inr e)) Or.inl)⟩
                · rw [hbn'.out z]
                  exact or_congr Iff.rfl ⟨fun h => absurd h.1 (by simp), fun h => absurd h.1 (by simp)⟩
            | true =>
              by_cases hxa : x = a
              · subst hxa
                go_wp2_with (first | (at_mapUpdate; have _t := tok; refine wpList_put rfl _ _ _ 123 rfl 3 109 law3 Tryz.underS w.heap.size _ _ rfl hT'.mp hT'.room zz (.agg #[]) rfl rfl (wf_small z0 z1) ?_; intro w4 hm4 ht4; have hT4 := hT'.put z0 z1 hm4; have hg4 := ht4.grown; have hB4 := hBB.grown hg4 (fun e => hnbb (Option.some.inj e).symm); clear tok hm4 ht4; go_frame) | go_in)
                have hrg4 := hrg'.grown hg4 (fun e => by have := Option.some.inj e; omega) (fun e => by have := Option.some.inj e; omega)
                have hK4 : Keep (fun k => k = bb) w w4 := hK'.grown hg4 (fun k e h => by cases e; omega)
                have hrow4 := hRW w4 _ hg4 hneb
                go_roundg (l.length - (j + 1))
                case measure => omega
                case rel =>
                  refine ⟨j + 1, _, _, rfl, by go_num, by omega, hT4, hB4, fun z => ?_, fun z => ?_, hrg4, hrow4, hK4⟩
                  · rw [insS_iff, hin'.out z, HJ.out z]
                    exact ⟨fun h => h.elim (fun e => Or.inr (Or.inr e)) (fun h => h.imp id Or.inl), fun h => h.elim (fun e => Or.inr (Or.inl e)) (fun h => h.elim (fun e => Or.inr (Or.inr e)) Or.inl)⟩
                  · rw [hbn'.out z]
                    exact or_congr Iff.rfl ⟨fun h => absurd h.1 (by simp), fun h => absurd h.1 (by simp)⟩
              · have HXA : Hid (x ≠ a) := hxa
                go_wp2_with (first | (at_mapUpdate; have _t := tok; refine wpList_put rfl _ _ _ 123 rfl 3 109 law3 Tryz.underS w.heap.size _ _ rfl hT'.mp hT'.room zz (.agg #[]) rfl rfl (wf_small z0 z1) ?_; intro w4 hm4 ht4; have hT4 := hT'.put z0 z1 hm4; have hg4 := ht4.grown; have hB4 := hBB.grown hg4 (fun e => hnbb (Option.some.inj e).symm); clear tok hm4 ht4; go_frame) | (at_mapUpdate; refine wpList_put rfl _ _ _ 123 rfl 3 109 law3 Tryz.underS bb _ _ rfl hB4.mp hB4.room zz (.agg #[]) rfl rfl (wf_small z0 z1) ?_; intro w5 hm5 ht5; go_frame) | go_in)
                have hB5 := hB4.put z0 z1 hm5
                have hg5 := ht5.grown
                have hT5 := hT4.grown hg5 (fun e => hnbb (Option.some.inj e))
                have hrg4 := (hrg'.grown hg4 (fun e => by have := Option.some.inj e; omega) (fun e => by have := Option.some.inj e; omega)).grown hg5 (fun e => hfb (Option.some.inj e)) (fun e => by have := Option.some.inj e; omega)
                have hK4 : Keep (fun k => k = bb) w w5 := (hK'.grown hg4 (fun k e h => by cases e; omega)).grown hg5 (fun k e h => by cases e; rfl)
                have hrow4 := hRW w4 _ hg4 hneb
                have hrow5 : OldRow w5 (some ⟨ba, oa, none⟩) l.length (fun i => (l.getD i 0 : Nat)) := fun i hi => by
                  obtain ⟨b', o', e, h1, h2⟩ := hrow4 i hi
                  cases e
                  exact ⟨ba, oa, rfl, Nat.lt_of_lt_of_le h1 hg5.size, (World.cell?_of_block (w := w4) (hg5.block ba h1 (fun e => hneb2 (Option.some.inj e)))).trans h2⟩
                go_roundg (l.length - (j + 1))
                case measure => omega
                case rel =>
                  refine ⟨j + 1, _, _, rfl, by go_num, by omega, hT5, hB5, fun z => ?_, fun z => ?_, hrg4, hrow5, hK4⟩
                  · rw [insS_iff, hin'.out z, HJ.out z]
                    exact ⟨fun h => h.elim (fun e => Or.inr (Or.inr e)) (fun h => h.imp id Or.inl), fun h => h.elim (fun e => Or.inr (Or.inl e)) (fun h => h.elim (fun e => Or.inr (Or.inr e)) Or.inl)⟩
                  · rw [insS_iff, hbn'.out z, HJ.out z]
                    constructor
                    · rintro (h | h | ⟨h1, h2⟩)
                      · exact Or.inr ⟨(by have := HXA.out; simp_all), Or.inr h⟩
                      · exact Or.inl h
                      · exact Or.inr ⟨h1, Or.inl h2⟩
                    · rintro (h | ⟨h1, h | h⟩)
                      · exact Or.inr (Or.inl h)
                      · exact Or.inr (Or.inr ⟨h1, h⟩)
                      · exact Or.inl h
        · have e : j = l.length := by omega
          subst e
          go_wp2
          go_roundg cnt1
          case measure => omega
          case rel =>
            refine ⟨_, cnt1, T', B', rfl, hrg', hT', hBB, fun z => ?_, fun z => ?_, hK'⟩
            · rw [hin'.out z, hall.out z, outw_row gw1 hxin HL.out]
              constructor
              · rintro (⟨c, k, ⟨h1, h2⟩, h3⟩ | ⟨k, h3⟩)
                · exact ⟨c, k, ⟨h1, by rw [h2]; rfl⟩, h3⟩
                · exact ⟨x, k, ⟨hSx, by simp⟩, h3⟩
              · rintro ⟨c, k, ⟨h1, h2⟩, h3⟩
                by_cases e : c = x
                · subst e; exact Or.inr ⟨k, h3⟩
                · rw [decide_eq_false e] at h2
                  exact Or.inl ⟨c, k, ⟨h1, by simpa using h2⟩, h3⟩
            · rw [hbn'.out z, hbhd.out z, outw_row gw1 hxin HL.out, ← HBX.out, ← HCX.out]
              constructor
              · rintro ((h | ⟨c, k, ⟨h1, h2⟩, h3⟩) | ⟨h4, k, h3⟩)
                · exact Or.inl h
                · exact Or.inr ⟨c, k, ⟨h1, by rw [h2]; rfl⟩, h3⟩
                · exact Or.inr ⟨x, k, ⟨hSx, by simp⟩, h3, h4⟩
              · rintro (h | ⟨c, k, ⟨h1, h2⟩, h3, h4⟩)
                · exact Or.inl (Or.inl h)
                · by_cases e : c = x
                  · subst e; exact Or.inr ⟨h4, k, h3⟩
                  · rw [decide_eq_false e] at h2
                    exact Or.inl (Or.inr ⟨c, k, ⟨h1, by simpa using h2⟩, h3, h4⟩)
end Go.Proofs.YtcagpmglijockaaGreatDoor
