/-
  What the program's calls lean on of the variables that it finds; the lines ahead of a map.
-/
import Derived.Test.YtkhofbpgdkoonabDoorBuild
import Derived.Test.YtkhofbpgdkoonabDoorMap
import Derived.Test.YtkhofbpgdkoonabDoorLaid
import Derived.Deep.MidRow
import Derived.Lib.AppendIntMem
import Derived.WalkSmall
namespace Go.Proofs.YtkhofbpgdkoonabDoor
open Go.RowKit

/-- the variables of the library, as the calls read them -/
structure Env (w : World) : Prop where
  es : ∃ tp p, w.cell? ⟨2, 0, none⟩ = some (.iface tp p)
  er : ∃ tp p, w.cell? ⟨3, 0, none⟩ = some (.iface tp p)
  tab : Lib.TabIs Tryd.prog w "internal/strconv.uint64pow10" .u64 Lib.pow10Tab
  z : 7 ≤ w.heap.size

theorem gPow : Tryd.prog.globalNamed "internal/strconv.uint64pow10" = some 4 := by kernel_rfl

theorem Env.below {B : Nat} {w w' : World} (h : Env w) (hb : Below B w w') (hB : 7 ≤ B) : Env w' := by
  obtain ⟨⟨t2, p2, h2⟩, ⟨t3, p3, h3⟩, h4, h5⟩ := h
  refine ⟨⟨t2, p2, ?_⟩, ⟨t3, p3, ?_⟩, ?_, Nat.le_trans h5 hb.size⟩
  · exact (hb.cell (p := ⟨2, 0, none⟩) (by show 2 < B; omega)).trans h2
  · exact (hb.cell (p := ⟨3, 0, none⟩) (by show 3 < B; omega)).trans h3
  · exact var?_below hb gPow (by omega) h4
theorem Env.grown {w w' : World} (h : Env w) (hb : Below w.heap.size w w') : Env w' := h.below hb h.z

theorem itoa_len20 (v : Int) (h0 : -9223372036854775808 ≤ v) (h1 : v ≤ 9223372036854775807) : (Lib.itoa v).length ≤ 20 := by
  have key : ∀ u : Nat, u < 10 ^ 19 → Lib.nDigits u ≤ 19 := by
    intro u hu
    rcases Nat.lt_or_ge (Lib.nDigits u) 20 with h | h
    · omega
    · exfalso
      by_cases hz : 1 ≤ u
      · obtain ⟨c, r, hc, hd⟩ := dec_head u hz
        have hl := Lib.decDigits_length u
        have hg := dval_ge c r hd
        rw [← hc, dval_dec] at hg
        rw [hc] at hl
        simp at hl
        have : 10 ^ 19 ≤ 10 ^ r.length := Nat.pow_le_pow_right (by decide) (by omega)
        omega
      · rw [Lib.nDigits_small (by omega)] at h
        omega
  unfold Lib.itoa
  split
  · rw [List.length_cons, Lib.decDigits_length]
    have := key v.natAbs (by omega)
    omega
  · rw [Lib.decDigits_length]
    have := key v.toNat (by omega)
    omega

theorem itoa_any (n : Int) (h0 : -9223372036854775808 ≤ n) (h1 : n ≤ 9223372036854775807) (w : World) (E : Env w) :
    Calls Tryd.prog 50 #[.int .i64 n] w fun e w' => e = .returned (.string ⟨(Lib.itoa n).toArray⟩) ∧ Below w.heap.size w w' :=
  (Tryd.strconv_Itoa n h0 h1 w E.tab).mono fun _ _ ⟨he, k, os, hw⟩ => ⟨he, by rw [hw]; exact Lib.below_grow _ w (Nat.le_refl _) k os⟩

/-- a list of bytes as a string -/
def str (l : List UInt8) : ByteArray := ⟨l.toArray⟩
theorem str_size (l : List UInt8) : (str l).size = l.length := by
  rw [Lib.size_eq]
  rfl
theorem str_data (l : List UInt8) : (str l).data.toList = l := rfl
theorem str_append (a b : List UInt8) : str a ++ str b = str (a ++ b) := by
  apply ByteArray.ext
  rw [ByteArray.data_append]
  simp [str]

/-- the lines ahead of a map, as an array -/
def headV (w h : Int) : Array Value := #[.string (str typeW), .string (str heightW ++ str (Lib.itoa h)), .string (str widthW ++ str (Lib.itoa w)), .string (str mapW)]

theorem info60 : (Tryd.prog.info? 60).map (·.size) = some 4 := by kernel_rfl

theorem results_arr {P : Program} {fn : Func} {p : Tmp} {ty : TypeId} (h : fn.results = #[.cell p ty]) (tmps : Array Value) (w : World) (b : Nat) (cs : List Value) (d : TypeDesc)
    (hp : tmps.getD p undef = .pointer (some ⟨b, 0, none⟩)) (hc : w.rangeAt b 0 cs) (hu : P.underlying ty = some d) (hd : d.isRow = true) (hi : (P.info? ty).map (·.size) = some cs.length) :
    (results fn tmps).run P w = .ok (.agg cs.toArray) w := by
  have hp' : tmps[p]?.getD undef = .pointer (some ⟨b, 0, none⟩) := by simpa using hp
  simp [results, h, hp', asAddr, run_loadVar_mid w b 0 ty cs d hc hu hd hi]
theorem results_arr3 {P : Program} {fn : Func} {p u v : Tmp} {ty : TypeId} (h : fn.results = #[.cell p ty, .tmp u, .tmp v]) (tmps : Array Value) (w : World) (b : Nat) (cs : List Value) (d : TypeDesc)
    (hp : tmps.getD p undef = .pointer (some ⟨b, 0, none⟩)) (hc : w.rangeAt b 0 cs) (hu : P.underlying ty = some d) (hd : d.isRow = true) (hi : (P.info? ty).map (·.size) = some cs.length) :
    (results fn tmps).run P w = .ok (.tuple #[.agg cs.toArray, tmps.getD u undef, tmps.getD v undef]) w := by
  have hp' : tmps[p]?.getD undef = .pointer (some ⟨b, 0, none⟩) := by simpa using hp
  simp [results, h, hp', asAddr, run_loadVar_mid w b 0 ty cs d hc hu hd hi]

/-- four cells written one behind the other -/
theorem range4 (w : World) (b : Nat) (v0 v1 v2 v3 : Value) (ht : w.there b 0 4) :
    ((((w.setCell ⟨b, 0, none⟩ v0).setCell ⟨b, 1, none⟩ v1).setCell ⟨b, 2, none⟩ v2).setCell ⟨b, 3, none⟩ v3).rangeAt b 0 [v0, v1, v2, v3] :=
  World.rangeAt_setCells_same w b 0 [v0, v1, v2, v3] ht
theorem there4 {w : World} {b : Nat} (hc : ∀ j, j < 4 → ∃ v, w.cell? ⟨b, j, none⟩ = some v) (hf : ∀ j, w.frozen? ⟨b, j, none⟩ = false) : w.there b 0 4 := fun j hj => by
  rw [Nat.zero_add]
  obtain ⟨v, hv⟩ := hc j hj
  rw [hv]
  exact ⟨rfl, hf j⟩
theorem four_cells {b : Nat} {w : World} {v0 v1 v2 v3 : Value} (h0 : w.cell? ⟨b, 0, none⟩ = some v0) (h1 : w.cell? ⟨b, 1, none⟩ = some v1) (h2 : w.cell? ⟨b, 2, none⟩ = some v2) (h3 : w.cell? ⟨b, 3, none⟩ = some v3) : ∀ j, j < 4 → ∃ v, w.cell? ⟨b, j, none⟩ = some v := by
  intro j hj
  match j, hj with
  | 0, _ => exact ⟨_, h0⟩
  | 1, _ => exact ⟨_, h1⟩
  | 2, _ => exact ⟨_, h2⟩
  | 3, _ => exact ⟨_, h3⟩

theorem itoa_v {n : Int} {I : ByteArray} (hI : str (Lib.itoa n) = I) (h0 : -9223372036854775808 ≤ n) (h1 : n ≤ 9223372036854775807) (w : World) (E : Env w) :
    Calls Tryd.prog 50 #[.int .i64 n] w fun e w' => e = .returned (.string I) ∧ Below w.heap.size w w' := by
  subst hI
  exact itoa_any n h0 h1 w E

/-- four empty strings -/
def none4 : Array Value := #[.string ⟨#[]⟩, .string ⟨#[]⟩, .string ⟨#[]⟩, .string ⟨#[]⟩]

set_option maxHeartbeats 1000000 in
set_option maxRecDepth 100000 in
theorem headOf_any (W H : Int) (a0 : -9223372036854775808 ≤ W) (a1 : W ≤ 9223372036854775807) (b0 : -9223372036854775808 ≤ H) (b1 : H ≤ 9223372036854775807) (w : World) (E : Env w) :
    Calls Tryd.prog 21 #[.int .i64 W, .int .i64 H] w fun e w' => e = .returned (.agg (headV W H)) ∧ Below w.heap.size w w' := by
  have l1 := itoa_len20 W a0 a1
  have l2 := itoa_len20 H b0 b1
  rw [← str_size] at l1 l2
  unfold headV
  obtain ⟨IW, hW⟩ : ∃ I, str (Lib.itoa W) = I := ⟨_, rfl⟩
  obtain ⟨IH, hH⟩ : ∃ I, str (Lib.itoa H) = I := ⟨_, rfl⟩
  rw [hW] at l1 ⊢
  rw [hH] at l2 ⊢
  have HW : Hid (str (Lib.itoa W) = IW) := hW
  have HH : Hid (str (Lib.itoa H) = IH) := hH
  clear hW hH
  have hb0 : Below w.heap.size w (w.alloc (.cells #[.string ⟨#[]⟩, .string ⟨#[]⟩, .string ⟨#[]⟩, .string ⟨#[]⟩] 60)) := (Below.refl _ _).alloc (Nat.le_refl _) _
  go_enter Tryd.func21, Tryd.ntmps21
  go_wp2_with (go_at_call 50; refine (itoa_v HH.out b0 b1 _ (E.grown hb0)).mono ?_)
  rintro e w1 ⟨rfl, hb1⟩
  have hb01 := hb0.trans (hb1.mono (by simp))
  go_wp2_with (go_at_call 50; refine (itoa_v HW.out a0 a1 _ (E.grown hb01)).mono ?_)
  rintro e w2 ⟨rfl, hb2⟩
  have s1 := hb1.size
  simp only [World.size_alloc] at s1
  have hc : ∀ j : Nat, w2.cell? ⟨w.heap.size, j, none⟩ = (w.alloc (.cells #[.string ⟨#[]⟩, .string ⟨#[]⟩, .string ⟨#[]⟩, .string ⟨#[]⟩] 60)).cell? ⟨w.heap.size, j, none⟩ := fun j =>
    (hb2.cell (p := ⟨w.heap.size, j, none⟩) (by show w.heap.size < _; omega)).trans (hb1.cell (p := ⟨w.heap.size, j, none⟩) (by simp))
  have hf : ∀ j : Nat, w2.frozen? ⟨w.heap.size, j, none⟩ = false := fun j =>
    ((hb2.frozen (p := ⟨w.heap.size, j, none⟩) (by show w.heap.size < _; omega)).trans (hb1.frozen (p := ⟨w.heap.size, j, none⟩) (by simp))).trans (free_alloc w _ _ _ (Nat.le_refl _) j)
  have hbb := hb01.trans (hb2.mono (by omega))
  have k0 : w2.cell? ⟨w.heap.size, 0, none⟩ = some (.string ⟨#[]⟩) := by rw [hc, World.cell?_alloc_new]; rfl
  have k1 : w2.cell? ⟨w.heap.size, 1, none⟩ = some (.string ⟨#[]⟩) := by rw [hc, World.cell?_alloc_new]; rfl
  have k2 : w2.cell? ⟨w.heap.size, 2, none⟩ = some (.string ⟨#[]⟩) := by rw [hc, World.cell?_alloc_new]; rfl
  have k3 : w2.cell? ⟨w.heap.size, 3, none⟩ = some (.string ⟨#[]⟩) := by rw [hc, World.cell?_alloc_new]; rfl
  have f0 := hf 0
  have f1 := hf 1
  have f2 := hf 2
  have f3 := hf 3
  have ht := there4 (four_cells k0 k1 k2 k3) hf
  clear hc hf
  go_wp2
  refine bodyPost_ret (results_arr rfl _ _ w.heap.size _ _ rfl (range4 w2 w.heap.size _ _ _ _ ht) Tryd.underlying60 rfl info60) rfl ⟨rfl, ?_⟩
  exact (((hbb.setCell (p := ⟨w.heap.size, 0, none⟩) (Nat.le_refl _) _).setCell (p := ⟨w.heap.size, 1, none⟩) (Nat.le_refl _) _).setCell (p := ⟨w.heap.size, 2, none⟩) (Nat.le_refl _) _).setCell (p := ⟨w.heap.size, 3, none⟩) (Nat.le_refl _) _
end Go.Proofs.YtkhofbpgdkoonabDoor
