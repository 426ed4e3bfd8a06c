/-
  The lines ahead of a map, cut off and held against what is printed of the size that they tell.
-/
import Derived.Test.YtkhofbpgdkoonabDoorParse
import Derived.ChangeKeysEq
namespace Go.Proofs.YtkhofbpgdkoonabDoor
open Go.RowKit

theorem parts60 (v0 v1 v2 v3 : Value) (_h0 : v0.oneCell' = true) (w : World) : (part 9 #[v0, v1, v2, v3] (0 * 1)).run Tryd.prog w = .ok v0 w ∧ (part 9 #[v0, v1, v2, v3] (1 * 1)).run Tryd.prog w = .ok v1 w ∧ (part 9 #[v0, v1, v2, v3] (2 * 1)).run Tryd.prog w = .ok v2 w ∧ (part 9 #[v0, v1, v2, v3] (3 * 1)).run Tryd.prog w = .ok v3 w :=
  ⟨by kernel_rfl, by kernel_rfl, by kernel_rfl, by kernel_rfl⟩
theorem cells9 : Tryd.prog.cellsOf 9 = 1 := by kernel_rfl
theorem info9 : (Tryd.prog.info? 9).isSome = true := by kernel_rfl
theorem equalStr (d : Nat) (a b : ByteArray) (w : World) : (Op.equalIn (d + 1) 9 (.string a) (.string b)).run Tryd.prog w = .ok (a == b) w := by
  simp [Op.equalIn, run_underlying Tryd.underlying9]

theorem items_step {P : Program} {d : Nat} {e : TypeId} {c i : Nat} {xs ys : Array Value} {is : List Nat} {a b : Value} {r : Bool} {w : World} (h1 : (part e xs (i * c)).run P w = .ok a w) (h2 : (part e ys (i * c)).run P w = .ok b w) (h3 : (Op.equalIn d e a b).run P w = .ok r w) :
    (Op.eqItems d e c xs ys (i :: is)).run P w = if r then (Op.eqItems d e c xs ys is).run P w else .ok false w := by
  simp only [Op.eqItems, Sem.run_bind, h1, h2, h3, Result.andThen_ok]
  cases r <;> rfl

theorem eql60 (a0 a1 a2 a3 b0 b1 b2 b3 : ByteArray) (w : World) :
    (binOp .eql 60 (.agg #[.string a0, .string a1, .string a2, .string a3]) (.agg #[.string b0, .string b1, .string b2, .string b3])).run Tryd.prog w = .ok (.bool (a0 == b0 && (a1 == b1 && (a2 == b2 && a3 == b3)))) w := by
  obtain ⟨i, hi⟩ := Option.isSome_iff_exists.1 info9
  have h : (Op.equalIn (9999 + 1) 60 (.agg #[.string a0, .string a1, .string a2, .string a3]) (.agg #[.string b0, .string b1, .string b2, .string b3])).run Tryd.prog w = .ok (a0 == b0 && (a1 == b1 && (a2 == b2 && a3 == b3))) w := by
    rw [run_equalIn_array w 9999 _ _ Tryd.underlying60 hi, cells9]
    obtain ⟨p0, p1, p2, p3⟩ := parts60 (.string a0) (.string a1) (.string a2) (.string a3) rfl w
    obtain ⟨q0, q1, q2, q3⟩ := parts60 (.string b0) (.string b1) (.string b2) (.string b3) rfl w
    have er : List.range 4 = [0, 1, 2, 3] := rfl
    rw [er, items_step p0 q0 (equalStr 9998 a0 b0 w), items_step p1 q1 (equalStr 9998 a1 b1 w), items_step p2 q2 (equalStr 9998 a2 b2 w), items_step p3 q3 (equalStr 9998 a3 b3 w)]
    cases a0 == b0 <;> cases a1 == b1 <;> cases a2 == b2 <;> cases a3 == b3 <;> rfl
  simp only [binOp]
  simp [Op.equal, Op.maxDepth, h]

theorem beq_str (a b : List UInt8) : (str a == str b) = decide (a = b) := by
  have h : (str a == str b) = (a.toArray == b.toArray) := rfl
  rw [h, Bool.eq_iff_iff, beq_iff_eq, decide_eq_true_eq]
  constructor
  · intro h
    have := congrArg Array.toList h
    simpa using this
  · intro h
    rw [h]

/-! numbers behind words -/
theorem trim_v {l p r : List UInt8} (h : Lib.trimPrefix l p = r) (w : World) :
    Calls Tryd.prog 54 #[.string (str l), .string (str p)] w fun e w' => e = .returned (.string (str r)) ∧ w' = w := by
  subst h
  exact Tryd.strings_TrimPrefix (str l) (str p) w
theorem trimH {l r : List UInt8} (h : Lib.trimPrefix l heightW = r) (w : World) :
    Calls Tryd.prog 54 #[.string (str l), .string ⟨#[104, 101, 105, 103, 104, 116, 32]⟩] w fun e w' => e = .returned (.string (str r)) ∧ w' = w := trim_v h w
theorem trimW {l r : List UInt8} (h : Lib.trimPrefix l widthW = r) (w : World) :
    Calls Tryd.prog 54 #[.string (str l), .string ⟨#[119, 105, 100, 116, 104, 32]⟩] w fun e w' => e = .returned (.string (str r)) ∧ w' = w := trim_v h w

theorem atoi_ok {l : List UInt8} {v : Int} (h : Lib.atoiAll l = .ok v) (hl : l.length ≤ 1000) (w : World) :
    Calls Tryd.prog 53 #[.string (str l)] w fun e w' => e = .returned (.tuple #[.int .i64 v, .nilIface]) ∧ Below w.heap.size w w' :=
  (Tryd.strconv_Atoi_ok (str l) (by rw [str_size]; omega) v h w).mono fun e w' ⟨he, hw⟩ => ⟨he, by
    rcases hw with rfl | ⟨t, rfl⟩
    · exact Below.refl _ _
    · exact Lib.bytesWorld_below w 5 t⟩
theorem atoi_bad {l : List UInt8} (h : ∀ v, Lib.atoiAll l ≠ .ok v) (hl : l.length ≤ 1000) (w : World) (E : Env w) :
    Calls Tryd.prog 53 #[.string (str l)] w fun e w' => ∃ v A, e = .returned (.tuple #[.int .i64 v, .iface 111 (.pointer (some A))]) ∧ Below w.heap.size w w' := by
  cases hc : Lib.atoiAll l with
  | ok v => exact absurd hc (h v)
  | «syntax» =>
    obtain ⟨tp, p, hv⟩ := E.es
    exact (Tryd.strconv_Atoi_syntax (str l) (by rw [str_size]; omega) hc _ w hv (.inr ⟨tp, p, rfl⟩)).mono fun e w' ⟨N, he, _, _, hb⟩ => ⟨_, _, he, hb⟩
  | range =>
    obtain ⟨tp, p, hv⟩ := E.er
    exact (Tryd.strconv_Atoi_range (str l) (by rw [str_size]; omega) hc _ w hv (.inr ⟨tp, p, rfl⟩)).mono fun e w' ⟨N, he, _, _, hb⟩ => ⟨_, _, he, hb⟩
end Go.Proofs.YtkhofbpgdkoonabDoor
