/-
  Texts laid together: RangeF, Corner, Towards.
-/
import Derived.Test.YtmnpplkjhnoglaaGreatDoorP18
import Derived.Maps.Ext
import Derived.Maps.RangeWalk
import Derived.Laws.IdiomRangeMap
import Derived.Deep.LoopGhost
/-
  A range over a map that is read as a function; no dump of a program in sight.
-/
namespace Go.Proofs.YtmnpplkjhnoglaaGreatDoor
open Go.Maps Go.RowKit

/-- a range over a map under way: which keys are still to come, and how many -/
def RngF (P : Program) (k : TypeId) (w : World) (b r : Nat) (f : Int → Option Value) (n : Nat) (left : Int → Bool) (cnt : Nat) : Prop :=
  ∃ (D : DataW Value) (lf : Lit → Bool), w.ranges P k asIs b r n D lf cnt ∧ Maps.size D = n ∧ (∀ a : Int, Maps.has D (.int .i64 a) = (f a).isSome ∧ ∀ v, f a = some v → ∀ z, D.atKey (.int .i64 a) z = .held v) ∧ ∀ a : Int, lf (.int .i64 a) = left a

variable {P : Program} {k e t : TypeId} {w : World} {b r n cnt : Nat} {f : Int → Option Value} {left : Int → Bool}
theorem RngF.map (h : RngF P k w b r f n left cnt) : MapF P k w b f n := by
  obtain ⟨D, lf, h1, h2, h3, _⟩ := h
  exact ⟨D, h1.owns, h2, h3⟩
theorem RngF.lt (h : RngF P k w b r f n left cnt) : r < w.heap.size := by obtain ⟨D, lf, h1, _⟩ := h; exact h1.lt
theorem RngF.kept {w' : World} (h : RngF P k w b r f n left cnt) (hb : w'.heap[b]? = w.heap[b]?) (hr : w'.heap[r]? = w.heap[r]?) : RngF P k w' b r f n left cnt := by
  obtain ⟨D, lf, ⟨es, clock, since, seen, c0, h1, h2, h3, h4, h5, h6⟩, h7⟩ := h
  exact ⟨D, lf, ⟨es, clock, since, seen, c0, hb.trans h1, h2, h3, h4, hr.trans h5, h6⟩, h7⟩
theorem RngF.keep {F : Nat → Prop} {w' : World} (h : RngF P k w b r f n left cnt) (hk : Keep F w w') (hb : ¬ F b) (hr : ¬ F r) : RngF P k w' b r f n left cnt :=
  h.kept (hk.block b h.map.lt hb) (hk.block r h.lt hr)
section
variable {ops : Array Oper} {rest : List Oper} {o : Oper} {a : Act} {Q : Exit → Act → World → Prop}
/-- 'range m' -/
theorem wpList_rangeF (hg : o.guard = none) (m : Operand) (t : TypeId) (hop : o.op = Op.range t m) (k e : TypeId) (hk : P.underlying k = some (.int .i64)) (ht : P.underlying t = some (.map k e)) (b n : Nat) (f : Int → Option Value)
    (hm : a.eval m = .map (some b)) (h : MapF P k w b f n)
    (hK : ∀ w', RngF P k w' b w.heap.size f n (fun x => (f x).isSome) n → w.grownBy w' none → w'.heap.size = w.heap.size + 1 → wpList P ops Q rest (a.put o.dst (.pointer (some ⟨w.heap.size, 0, none⟩))) w') :
    wpList P ops Q (o :: rest) a w := by
  obtain ⟨D, h1, h2, h3⟩ := h
  refine wpList_range_own w hg m t hop k e (int_keyed hk) ht asIs b n D hm h1 fun w' r1 r2 r3 => hK w' ⟨D, _, h2 ▸ r1, h2, h3, fun a => (h3 a).1⟩ r2 r3
/-- the next one -/
theorem wpList_nextF (hg : o.guard = none) (it : Operand) (hop : o.op = Op.next it false) (k : TypeId) (hk : P.underlying k = some (.int .i64)) (b r n : Nat) (f : Int → Option Value) (left : Int → Bool) (cnt : Nat)
    (hit : a.eval it = .pointer (some ⟨r, 0, none⟩)) (h : RngF P k w b r f n left cnt)
    (hDone : cnt = 0 → (∀ x, left x = false) → wpList P ops Q rest (a.put o.dst (.tuple #[.bool false])) w)
    (hMore : ∀ (x : Int) (v : Value) (w' : World) (cnt' : Nat), (Lit.int .i64 x).wf = true → left x = true → f x = some v → RngF P k w' b r f n (fun z => left z && !decide (z = x)) cnt' → cnt' < cnt →
      w.grownBy w' (some r) → w'.heap.size = w.heap.size → (Instr.entry (.pointer (some ⟨r, 0, none⟩))).run P w' = .ok (.tuple #[.int .i64 x, v]) w' → wpList P ops Q rest (a.put o.dst (.tuple #[.bool true, .int .i64 x, v])) w') :
    wpList P ops Q (o :: rest) a w := by
  obtain ⟨D, lf, h1, h2, h3, h4⟩ := h
  refine wpList_next_ranges w hg it hop k (int_keyed hk) asIs (Value.int .i64) id (fun key kl hkey => by obtain ⟨x, rfl, _⟩ := Maps.keyOf_int_inv hk hkey; exact ⟨x, rfl⟩) (fun v y _ => ⟨v, rfl⟩) b r n D lf cnt hit h1 (fun h0 hl => hDone h0 fun x => (h4 x).symm.trans (hl _)) ?_
  intro x v kl y w' cnt' hkey hl hv hat hrg hlt hgr hsz hen
  obtain ⟨x', ex, rfl, hwx⟩ := Maps.keyOf_int_inv hk hkey
  cases ex
  have hy : y.1 = .held v := by
    simp only [asIs, Option.some.injEq, id] at hv
    rw [← hv]
  rw [hy] at hat
  have hh : Maps.has D (.int .i64 x) = true := has_true_of_atKey hat
  obtain ⟨g1, g2⟩ := h3 x
  rw [hh] at g1
  have hf : f x = some v := by
    cases hfx : f x with
    | none => rw [hfx] at g1; cases g1
    | some u =>
      have := (g2 u hfx (.held v)).symm.trans (hat (.held v))
      cases this
      rfl
  refine hMore x v w' cnt' hwx ((h4 x).symm.trans hl) hf ⟨D, _, hrg, h2, h3, fun a => ?_⟩ hlt hgr hsz hen
  show (lf (.int .i64 a) && !(Lit.int .i64 a).sameKey (.int .i64 x)) = (left a && !decide (a = x))
  rw [h4 a]
  by_cases e : a = x
  · subst e
    rw [WideAt.sameKey_self (is_key a), decide_eq_true rfl]
  · rw [sameKey_ne (lit_ne e), decide_eq_false e]
end
end Go.Proofs.YtmnpplkjhnoglaaGreatDoor
/-
  Corners: what package corner says.
-/
namespace Go.Proofs.YtmnpplkjhnoglaaGreatDoor
open Go.RowKit

/-- does a way turn here, round the cell in a direction? -/
def crB (W H : Int) (bl : Nat → Bool) (x y : Int) (k : Nat) : Bool := openB W H bl (x + stepX k) y && openB W H bl x (y + stepY k) && !openB W H bl (x + stepX k) (y + stepY k)
def turnB (W H : Int) (bl : Nat → Bool) (x y : Int) : Bool := (List.range 4).any fun j => crB W H bl x y (2 * j + 1)
/-- is a cell a corner? -/
def cornB (W H : Int) (bl : Nat → Bool) (c : Int) : Bool := openB W H bl (c % W) (c / W) && turnB W H bl (c % W) (c / W)

theorem turnB_false {W H x y : Int} {bl : Nat → Bool} (h : ∀ j, j < 4 → crB W H bl x y (2 * j + 1) = false) : turnB W H bl x y = false := by
  unfold turnB
  rw [List.any_eq_false]
  intro j hj
  rw [h j (List.mem_range.1 hj)]
  simp
theorem turnB_true {W H x y : Int} {bl : Nat → Bool} {j : Nat} (hj : j < 4) (h : crB W H bl x y (2 * j + 1) = true) : turnB W H bl x y = true :=
  List.any_eq_true.2 ⟨j, List.mem_range.2 hj, h⟩

set_option maxHeartbeats 1600000 in
theorem turns_any {b : Nat} {W H V : Int} {bl : Nat → Bool} (x y : Int) (w : World) (g : GridAt w b W H V bl) (s : StepsAt w) (x1 : -100 ≤ x) (x2 : x ≤ 100) (y1 : -100 ≤ y) (y2 : y ≤ 100) :
    Calls Tryz.prog 118 #[.pointer (some ⟨b, 0, none⟩), .int .i64 x, .int .i64 y] w fun e w' => e = .returned (.bool (turnB W H bl x y)) ∧ ∃ m, w' = w.drewN m := by
  go_enter Tryz.func118, Tryz.ntmps118
  go_wp2
  go_loopg [7] (4 : Nat) (fun gk dv wr => ∃ i : Nat, i ≤ 4 ∧ gk = 4 - i ∧ dv = .int .i64 ((2 * i + 1 : Nat) : Int) ∧ (∀ j, j < i → crB W H bl x y (2 * j + 1) = false) ∧ ∃ m, wr = w.drewN m)
  case atStart => exact ⟨0, Nat.zero_le _, rfl, rfl, fun j hj => absurd hj (by omega), 0, rfl⟩
  case round =>
    obtain ⟨i, hi, hgk, rfl, hall, m, rfl⟩ := hrel
    by_cases hlt : i < 4
    · have hd : 2 * i + 1 < 8 := by omega
      obtain ⟨s1, s2, s3, s4⟩ := step_bd (2 * i + 1)
      have hs := fun w h => step_any (2 * i + 1) w h hd
      have hcr : crB W H bl x y (2 * i + 1) = (openB W H bl (x + stepX (2 * i + 1)) y && openB W H bl x (y + stepY (2 * i + 1)) && !openB W H bl (x + stepX (2 * i + 1)) (y + stepY (2 * i + 1))) := rfl
      generalize stepX (2 * i + 1) = dx at *
      generalize stepY (2 * i + 1) = dy at *
      have go_on : crB W H bl x y (2 * i + 1) = false → Hid (∀ j, j < i + 1 → crB W H bl x y (2 * j + 1) = false) := fun h j hj => by
        by_cases e : j = i
        · rw [e]; exact h
        · exact hall j (by omega)
      clear hall
      cases hA : openB W H bl (x + dx) y with
      | false =>
        rw [hA] at hcr
        have HN := go_on (by rw [hcr]; rfl)
        clear hcr go_on
        go_wp2_with (first | (go_at_call 139; refine (hs _ (s.drewN _)).mono ?_; rintro e w' ⟨rfl, m, rfl⟩) | (go_at_call 117; refine (open_v (by assumption) _ (g.drewN _)).mono ?_; rintro e w' ⟨rfl, m, rfl⟩))
        go_roundg (4 - (i + 1))
        case measure => omega
        case rel => exact ⟨i + 1, by omega, rfl, by go_num, HN.out, _, rfl⟩
      | true =>
        cases hB : openB W H bl x (y + dy) with
        | false =>
          rw [hA, hB] at hcr
          have HN := go_on (by rw [hcr]; rfl)
          clear hcr go_on
          go_wp2_with (first | (go_at_call 139; refine (hs _ (s.drewN _)).mono ?_; rintro e w' ⟨rfl, m, rfl⟩) | (go_at_call 117; refine (open_v (by assumption) _ (g.drewN _)).mono ?_; rintro e w' ⟨rfl, m, rfl⟩))
          go_roundg (4 - (i + 1))
          case measure => omega
          case rel => exact ⟨i + 1, by omega, rfl, by go_num, HN.out, _, rfl⟩
        | true =>
          cases hC : openB W H bl (x + dx) (y + dy) with
          | true =>
            rw [hA, hB, hC] at hcr
            have HN := go_on (by rw [hcr]; rfl)
            clear hcr go_on
            go_wp2_with (first | (go_at_call 139; refine (hs _ (s.drewN _)).mono ?_; rintro e w' ⟨rfl, m, rfl⟩) | (go_at_call 117; refine (open_v (by assumption) _ (g.drewN _)).mono ?_; rintro e w' ⟨rfl, m, rfl⟩))
            go_roundg (4 - (i + 1))
            case measure => omega
            case rel => exact ⟨i + 1, by omega, rfl, by go_num, HN.out, _, rfl⟩
          | false =>
            rw [hA, hB, hC] at hcr
            have HT : Hid (turnB W H bl x y = true) := turnB_true hlt hcr
            clear hcr go_on
            go_wp2_with (first | (go_at_call 139; refine (hs _ (s.drewN _)).mono ?_; rintro e w' ⟨rfl, m, rfl⟩) | (go_at_call 117; refine (open_v (by assumption) _ (g.drewN _)).mono ?_; rintro e w' ⟨rfl, m, rfl⟩))
            go_ret
            exact ⟨by rw [HT.out]; rfl, _, rfl⟩
    · have : i = 4 := by omega
      subst this
      have HT : Hid (turnB W H bl x y = false) := turnB_false hall
      clear hall
      go_wp2
      go_ret
      exact ⟨by rw [HT.out]; rfl, _, rfl⟩

theorem turns_v {b : Nat} {W H V : Int} {bl : Nat → Bool} {x y : Int} {r : Bool} (hr : turnB W H bl x y = r) (w : World) (g : GridAt w b W H V bl) (s : StepsAt w) (x1 : -100 ≤ x) (x2 : x ≤ 100) (y1 : -100 ≤ y) (y2 : y ≤ 100) :
    Calls Tryz.prog 118 #[.pointer (some ⟨b, 0, none⟩), .int .i64 x, .int .i64 y] w fun e w' => e = .returned (.bool r) ∧ ∃ m, w' = w.drewN m := hr ▸ turns_any x y w g s x1 x2 y1 y2

theorem place_bd {W H c : Int} (w1 : 1 ≤ W) (hr : inB W H c = true) : 0 ≤ c % W ∧ c % W < W ∧ 0 ≤ c / W ∧ c / W < H := by
  have hc : 0 ≤ c ∧ c < W * H := of_decide_eq_true hr
  exact ⟨Int.emod_nonneg _ (by omega), Int.emod_lt_of_pos _ (by omega), Int.ediv_nonneg hc.1 (by omega), Int.ediv_lt_of_lt_mul (by omega) (by rw [Int.mul_comm]; exact hc.2)⟩

set_option maxHeartbeats 1000000 in
theorem is_in {b : Nat} {W H V : Int} {bl : Nat → Bool} (c : Int) (w : World) (g : GridAt w b W H V bl) (s : StepsAt w) (hr : inB W H c = true) :
    Calls Tryz.prog 84 #[.pointer (some ⟨b, 0, none⟩), .int .i64 c] w fun e w' => e = .returned (.tuple #[.bool (cornB W H bl c), .nilIface]) ∧ ∃ m, w' = w.drewN m := by
  obtain ⟨x1, x2, y1, y2⟩ := place_bd g.w1 hr
  have gw := g.w2
  have gh := g.h2
  have hP := fun w g => place_in (b := b) (W := W) (H := H) (V := V) (bl := bl) c w g hr
  have hm : cornB W H bl c = (openB W H bl (c % W) (c / W) && turnB W H bl (c % W) (c / W)) := rfl
  rw [hm]
  clear hm
  generalize c % W = x at *
  generalize c / W = y at *
  cases hA : openB W H bl x y with
  | false =>
    simp only [Bool.false_and]
    go_enter Tryz.func84, Tryz.ntmps84
    go_wp2_with (first | (go_at_call 116; refine (hP _ g).mono ?_; rintro e w' ⟨rfl, m, rfl⟩) | (go_at_call 117; refine (open_v (by assumption) _ (g.drewN _)).mono ?_; rintro e w' ⟨rfl, m, rfl⟩))
    go_ret2
    exact ⟨rfl, _, rfl⟩
  | true =>
    cases hB : turnB W H bl x y with
    | false =>
      simp only [Bool.and_false]
      go_enter Tryz.func84, Tryz.ntmps84
      go_wp2_with (first | (go_at_call 116; refine (hP _ g).mono ?_; rintro e w' ⟨rfl, m, rfl⟩) | (go_at_call 117; refine (open_v (by assumption) _ (g.drewN _)).mono ?_; rintro e w' ⟨rfl, m, rfl⟩) | (go_at_call 118; refine (turns_v (by assumption) _ (g.drewN _) (s.drewN _) (by omega) (by omega) (by omega) (by omega)).mono ?_; rintro e w' ⟨rfl, m, rfl⟩))
      go_ret2
      exact ⟨rfl, _, rfl⟩
    | true =>
      simp only [Bool.and_true]
      go_enter Tryz.func84, Tryz.ntmps84
      go_wp2_with (first | (go_at_call 116; refine (hP _ g).mono ?_; rintro e w' ⟨rfl, m, rfl⟩) | (go_at_call 117; refine (open_v (by assumption) _ (g.drewN _)).mono ?_; rintro e w' ⟨rfl, m, rfl⟩) | (go_at_call 118; refine (turns_v (by assumption) _ (g.drewN _) (s.drewN _) (by omega) (by omega) (by omega) (by omega)).mono ?_; rintro e w' ⟨rfl, m, rfl⟩))
      go_ret2
      exact ⟨rfl, _, rfl⟩

theorem is_v {b : Nat} {W H V : Int} {bl : Nat → Bool} {c : Int} {r : Bool} (hc : cornB W H bl c = r) (w : World) (g : GridAt w b W H V bl) (s : StepsAt w) (hr : inB W H c = true) :
    Calls Tryz.prog 84 #[.pointer (some ⟨b, 0, none⟩), .int .i64 c] w fun e w' => e = .returned (.tuple #[.bool r, .nilIface]) ∧ ∃ m, w' = w.drewN m := hc ▸ is_in c w g s hr

/-- the corners below k -/
def crs (W H : Int) (bl : Nat → Bool) (k : Nat) : List Nat := (List.range k).filter fun c => cornB W H bl (c : Nat)
theorem crs_succ (W H : Int) (bl : Nat → Bool) (k : Nat) : crs W H bl (k + 1) = crs W H bl k ++ (if cornB W H bl (k : Nat) then [k] else []) := by
  unfold crs
  rw [List.range_succ, List.filter_append]
  cases h : cornB W H bl (k : Nat) <;> simp [h]
theorem crs_len (W H : Int) (bl : Nat → Bool) (k : Nat) : (crs W H bl k).length ≤ k := by
  unfold crs
  have := List.length_filter_le (fun c : Nat => cornB W H bl (c : Nat)) (List.range k)
  simpa using this

set_option maxHeartbeats 1600000 in
set_option maxRecDepth 1000000 in
theorem all_any {b : Nat} {W H V : Int} {bl : Nat → Bool} (w : World) (g : GridAt w b W H V bl) (s : StepsAt w) (hb : b < w.heap.size) :
    Calls Tryz.prog 45 #[.pointer (some ⟨b, 0, none⟩)] w fun e w' => ∃ v, e = .returned v ∧
      w'.ownsRow w.heap.size 3 1 v (crs W H bl (W * H).toNat).length (vals (crs W H bl (W * H).toNat)) ∧ Below w.heap.size w w' := by
  obtain ⟨i0, hi, hz0, hz1, hz2⟩ := info_parts Tryz.info3
  obtain ⟨k1, k2⟩ := wh_bd g.w1 g.w2 g.h1 g.h2
  go_enter Tryz.func45, Tryz.ntmps45
  go_wp2_with (go_at_call 83; refine (cells_any _ g).mono ?_; rintro e w' ⟨rfl, m, rfl⟩)
  go_loopw [3, 9] (fun v i wr => ∃ k : Nat, (k : Int) ≤ W * H ∧ i = .int .i64 k ∧ wr.ownsRow w.heap.size 3 1 v (crs W H bl k).length (vals (crs W H bl k)) ∧ Below w.heap.size w wr)
    (fun _ i _ => 1000 - (intOf i).toNat)
  case atStart => exact ⟨0, by omega, rfl, World.ownsRow_nil _ _ _ _, below_drewN (Below.refl _ _) _⟩
  case round =>
    obtain ⟨k, hk, rfl, hown, hnx⟩ := hrel
    have hl := crs_len W H bl k
    have gr := g.below hnx hb
    have sr := s.below hnx (by omega)
    have hsz := hnx.size
    by_cases hlt : (k : Int) < W * H
    · have hms := crs_succ W H bl k
      have hin : inB W H (k : Nat) = true := decide_eq_true ⟨by omega, hlt⟩
      cases hM : cornB W H bl (k : Nat) with
      | false =>
        rw [hM] at hms
        have h0 : crs W H bl (k + 1) = crs W H bl k := by simpa using hms
        have HS : Hid (crs W H bl (k + 1) = crs W H bl k) := h0
        clear h0
        clear hms
        go_wp2_with (go_at_call 84; refine (is_v hM _ gr sr hin).mono ?_; rintro e w' ⟨rfl, m, rfl⟩)
        go_roundw
        case rel => exact ⟨k + 1, by omega, by go_num, by rw [HS.out]; exact hown, below_drewN hnx _⟩
        case measure => simp [intOf]; omega
      | true =>
        rw [hM] at hms
        have h0 : crs W H bl (k + 1) = crs W H bl k ++ [k] := by simpa using hms
        have HS : Hid (crs W H bl (k + 1) = crs W H bl k ++ [k]) := h0
        clear h0
        clear hms
        go_wp2_with (first | (go_at_call 84; refine (is_v hM _ gr sr hin).mono ?_; rintro e w' ⟨rfl, m, rfl⟩) | (at_builtin; refine wpList_append_own _ rfl _ _ 22 rfl w.heap.size 3 i0 (.int .i64 0) 1 8 Tryz.underlying22 hi hz0 hz1 hz2 rfl (by decide) _ _ _ rfl (World.ownsRow.alloc hown _) ⟨wr.heap.size, 0, none⟩ 1 1 [.int .i64 k] rfl rfl ?c1 ?c2 ?c3 ?c4 ?c5 ?_))
        case c1 =>
          intro j u hj
          match j, hj with
          | 0, hj =>
            simp at hj; subst hj; simp only [Addr.add]
            exact World.cell?_alloc_at (w := wr.drewN m) #[.int .i64 k] 3 wr.heap.size 0 rfl
        case c2 => intro u hu; simp at hu; subst hu; rfl
        case c3 => unfold maxLen; omega
        case c4 => omega
        case c5 => simp; omega
        intro v' w1 hown' hgrow _
        have hbase := fun q hq => (hown.lt q hq).1
        have B1 : Below w.heap.size w w1 := ((below_drewN hnx m).alloc hsz _).grown hgrow (by simp; omega) hbase
        have O1 : w1.ownsRow w.heap.size 3 1 v' (crs W H bl (k + 1)).length (vals (crs W H bl (k + 1))) := by
          rw [HS.out]
          simpa [vals] using hown'
        clear hown' hgrow hown hnx gr sr
        go_wp2
        go_roundw
        case rel => exact ⟨k + 1, by omega, by go_num, O1, B1⟩
        case measure => simp [intOf]; omega
    · have e : (W * H).toNat = k := by omega
      have HE : Hid ((W * H).toNat = k) := e
      clear e
      go_wp2
      go_ret
      exact ⟨_, rfl, by rw [HE.out]; exact hown, hnx⟩
end Go.Proofs.YtmnpplkjhnoglaaGreatDoor
/-
  Steps towards a cell: what 'isTowards' and 'onward' of package reach say.
-/
namespace Go.Proofs.YtmnpplkjhnoglaaGreatDoor
open Go.RowKit

/-- does a step bring one nearer by what it costs? -/
def goodB (x y u v : Int) (k : Nat) : Bool := decide (dst (dst (x + stepX k) u) (dst (y + stepY k) v) + stS k = dst (dst x u) (dst y v)) && decide (les (dst (x + stepX k) u) (dst (y + stepY k) v) + stD k = les (dst x u) (dst y v))
theorem goodB_iff {x y u v : Int} {k : Nat} : goodB x y u v k = true ↔ Good x y u v k := by
  unfold goodB Good
  rw [Bool.and_eq_true, decide_eq_true_eq, decide_eq_true_eq]
theorem oct_step (k : Nat) (h : k < 8) : dst (dst 0 (stepX k)) (dst 0 (stepY k)) = stS k ∧ les (dst 0 (stepX k)) (dst 0 (stepY k)) = stD k := by
  rcases k8 h with rfl | rfl | rfl | rfl | rfl | rfl | rfl | rfl <;> decide

set_option maxHeartbeats 2000000 in
set_option maxRecDepth 1000000 in
theorem isTowards' {x y u v dx dy s1 d1 s2 d2 s3 d3 : Int} {k : Nat} {r : Bool} (w : World)
    (x1 : -100 ≤ x) (x2 : x ≤ 100) (y1 : -100 ≤ y) (y2 : y ≤ 100) (e1 : -1 ≤ dx) (e2 : dx ≤ 1) (e3 : -1 ≤ dy) (e4 : dy ≤ 1)
    (hs : Calls Tryz.prog 139 #[.int .i64 k] w fun e w' => e = .returned (.tuple #[.int .i64 dx, .int .i64 dy]) ∧ ∃ m, w' = w.drewN m)
    (ho1 : ∀ w, Calls Tryz.prog 134 #[.int .i64 0, .int .i64 0, .int .i64 dx, .int .i64 dy] w fun e w' => e = .returned (.agg #[.int .i64 s1, .int .i64 d1]) ∧ Below w.heap.size w w')
    (ho2 : ∀ w, Calls Tryz.prog 134 #[.int .i64 (x + dx), .int .i64 (y + dy), .int .i64 u, .int .i64 v] w fun e w' => e = .returned (.agg #[.int .i64 s2, .int .i64 d2]) ∧ Below w.heap.size w w')
    (ho3 : ∀ w, Calls Tryz.prog 134 #[.int .i64 x, .int .i64 y, .int .i64 u, .int .i64 v] w fun e w' => e = .returned (.agg #[.int .i64 s3, .int .i64 d3]) ∧ Below w.heap.size w w')
    (ha : ∀ w, Calls Tryz.prog 106 #[.agg #[.int .i64 s1, .int .i64 d1], .agg #[.int .i64 s2, .int .i64 d2]] w fun e w' => e = .returned (.agg #[.int .i64 (s1 + s2), .int .i64 (d1 + d2)]) ∧ Below w.heap.size w w')
    (hr : (decide (s1 + s2 = s3) && decide (d1 + d2 = d3)) = r) :
    Calls Tryz.prog 172 #[.int .i64 x, .int .i64 y, .int .i64 k, .int .i64 u, .int .i64 v] w fun e w' => e = .returned (.bool r) ∧ Below w.heap.size w w' := by
  go_enter Tryz.func172, Tryz.ntmps172
  go_wp2_with (go_at_call 139; refine hs.mono ?_; rintro e w' ⟨rfl, m, rfl⟩)
  refine (ho1 _).mono ?_
  rintro e w1 ⟨rfl, hb1⟩
  have B1 : Below w.heap.size w w1 := (below_drewN (Below.refl _ _) m).trans hb1
  clear hb1 ho1 hs
  go_wp2_with fail
  refine (ho2 _).mono ?_
  rintro e w2 ⟨rfl, hb2⟩
  have B2 : Below w.heap.size w w2 := B1.trans (hb2.mono B1.size)
  clear hb2 ho2 B1
  go_wp2_with fail
  refine (ha _).mono ?_
  rintro e w3 ⟨rfl, hb3⟩
  have B2' : Below w.heap.size w ((w2.alloc (.cells #[.int .i64 s1, .int .i64 d1] 65)).alloc (.cells #[.int .i64 s2, .int .i64 d2] 65)) := (B2.alloc B2.size _).alloc (by have := B2.size; simp; omega) _
  have B3 : Below w.heap.size w w3 := B2'.trans (hb3.mono B2'.size)
  clear hb3 ha B2 B2'
  go_wp2_with fail
  refine (ho3 _).mono ?_
  rintro e w4 ⟨rfl, hb4⟩
  have B4 : Below w.heap.size w w4 := B3.trans (hb4.mono B3.size)
  clear hb4 ho3 B3
  by_cases q1 : s1 + s2 = s3
  · by_cases q2 : d1 + d2 = d3
    · rw [decide_eq_true q1, decide_eq_true q2] at hr
      subst hr q1 q2
      go_wp2
      go_ret
      exact ⟨rfl, B4⟩
    · rw [decide_eq_true q1, decide_eq_false q2] at hr
      subst hr q1
      go_wp2
      go_ret
      exact ⟨rfl, B4⟩
  · rw [decide_eq_false q1] at hr
    subst hr
    go_wp2
    go_ret
    exact ⟨rfl, B4⟩

theorem near_place {a : Int} (h : -100 ≤ a) (k : a ≤ 100) : nearB a := by unfold nearB; omega
theorem okC_oct {x y u v : Int} (x1 : -100 ≤ x) (x2 : x ≤ 100) (y1 : -100 ≤ y) (y2 : y ≤ 100) (u1 : -100 ≤ u) (u2 : u ≤ 100) (v1 : -100 ≤ v) (v2 : v ≤ 100) : okC (dst (dst x u) (dst y v)) (les (dst x u) (dst y v)) := by
  unfold okC
  have a : 0 ≤ dst x u ∧ dst x u ≤ 200 := by unfold dst; split <;> omega
  have b : 0 ≤ dst y v ∧ dst y v ≤ 200 := by unfold dst; split <;> omega
  generalize dst x u = X at *
  generalize dst y v = Y at *
  unfold dst les
  split <;> omega
theorem okC_st (k : Nat) : okC (stS k) (stD k) := by
  have := st_bd k
  unfold okC
  omega

theorem isTowards_v {x y u v : Int} {k : Nat} {r : Bool} (hr : goodB x y u v k = r) (w : World) (s : StepsAt w) (hk : k < 8) (x1 : 0 ≤ x) (x2 : x ≤ 50) (y1 : 0 ≤ y) (y2 : y ≤ 50) (u1 : 0 ≤ u) (u2 : u ≤ 50) (v1 : 0 ≤ v) (v2 : v ≤ 50) :
    Calls Tryz.prog 172 #[.int .i64 x, .int .i64 y, .int .i64 k, .int .i64 u, .int .i64 v] w fun e w' => e = .returned (.bool r) ∧ Below w.heap.size w w' := by
  obtain ⟨e1, e2, e3, e4⟩ := step_bd k
  obtain ⟨o1, o2⟩ := oct_step k hk
  have n1 := near_place (show -100 ≤ stepX k by omega) (by omega)
  have n2 := near_place (show -100 ≤ stepY k by omega) (by omega)
  have n0 := near_place (show -100 ≤ (0 : Int) by omega) (by omega)
  have nx := near_place (show -100 ≤ x by omega) (by omega)
  have ny := near_place (show -100 ≤ y by omega) (by omega)
  have nu := near_place (show -100 ≤ u by omega) (by omega)
  have nv := near_place (show -100 ≤ v by omega) (by omega)
  have nx' := near_place (show -100 ≤ x + stepX k by omega) (by omega)
  have ny' := near_place (show -100 ≤ y + stepY k by omega) (by omega)
  refine isTowards' (s1 := stS k) (d1 := stD k) w (by omega) (by omega) (by omega) (by omega) e1 e2 e3 e4 (step_any k w s hk) (fun w => ?_) (fun w => oct_any _ _ _ _ w nx' ny' nu nv) (fun w => oct_any _ _ _ _ w nx ny nu nv) (fun w => add_any _ _ _ _ w (okC_st k) (okC_oct (by omega) (by omega) (by omega) (by omega) (by omega) (by omega) (by omega) (by omega))) ?_
  · have := oct_any 0 0 (stepX k) (stepY k) w n0 n0 n1 n2
    rw [o1, o2] at this
    exact this
  · rw [← hr]
    unfold goodB
    rw [Int.add_comm (stS k), Int.add_comm (stD k)]
end Go.Proofs.YtmnpplkjhnoglaaGreatDoor
