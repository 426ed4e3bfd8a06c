/-
  The size that four lines tell.
-/
import Derived.Test.YtkhofbpgdkoonabDoorSize
namespace Go.Proofs.YtkhofbpgdkoonabDoor
open Go.RowKit

theorem atoi_some {l : List UInt8} (hl : l.length ≤ 1000) (w : World) (E : Env w) :
    Calls Tryd.prog 53 #[.string (str l)] w fun e w' => ∃ v ev, e = .returned (.tuple #[.int .i64 v, ev]) ∧ Below w.heap.size w w' := by
  by_cases h : ∃ v, Lib.atoiAll l = .ok v
  · obtain ⟨v, hv⟩ := h
    exact (atoi_ok hv hl w).mono fun e w' ⟨he, hb⟩ => ⟨_, _, he, hb⟩
  · exact (atoi_bad (fun v hv => h ⟨v, hv⟩) hl w E).mono fun e w' ⟨_, _, he, hb⟩ => ⟨_, _, he, hb⟩

/-- four strings in a new block -/
def four (a b c d : List UInt8) : Obj := .cells #[.string (str a), .string (str b), .string (str c), .string (str d)] 60
theorem four_at (w : World) (a b c d : List UInt8) {w' : World} (hb : Below (w.heap.size + 1) (w.alloc (four a b c d)) w') :
    w'.cell? ⟨w.heap.size, 0, none⟩ = some (.string (str a)) ∧ w'.cell? ⟨w.heap.size, 1, none⟩ = some (.string (str b)) ∧ w'.cell? ⟨w.heap.size, 2, none⟩ = some (.string (str c)) ∧ w'.cell? ⟨w.heap.size, 3, none⟩ = some (.string (str d)) := by
  have h : ∀ j, w'.cell? ⟨w.heap.size, j, none⟩ = (w.alloc (four a b c d)).cell? ⟨w.heap.size, j, none⟩ := fun j => hb.cell (p := ⟨w.heap.size, j, none⟩) (Nat.lt_succ_self _)
  refine ⟨?_, ?_, ?_, ?_⟩ <;> (rw [h]; unfold four; rw [World.cell?_alloc_new]; rfl)

theorem trim_len (l p : List UInt8) (h : l.length ≤ 1000) : (Lib.trimPrefix l p).length ≤ 1000 := by
  unfold Lib.trimPrefix
  split
  · rw [List.length_drop]; omega
  · exact h

set_option maxHeartbeats 2000000 in
set_option maxRecDepth 100000 in
theorem size_badH {a b c d : List UInt8} (h : ∀ v, Lib.atoiAll (Lib.trimPrefix b heightW) ≠ .ok v) (hb : b.length ≤ 1000) (hc : c.length ≤ 1000) (w : World) (E : Env w) :
    Calls Tryd.prog 28 #[.agg #[.string (str a), .string (str b), .string (str c), .string (str d)]] w fun e w' => (∃ x y, e = .returned (.tuple #[.int .i64 x, .int .i64 y, .bool false])) ∧ Below w.heap.size w w' := by
  obtain ⟨tb, etb⟩ : ∃ l, Lib.trimPrefix b heightW = l := ⟨_, rfl⟩
  obtain ⟨tc, etc⟩ : ∃ l, Lib.trimPrefix c widthW = l := ⟨_, rfl⟩
  have lb := trim_len b heightW hb
  have lc := trim_len c widthW hc
  rw [etb] at h lb
  rw [etc] at lc
  have HB : Hid (Lib.trimPrefix b heightW = tb) := etb
  have HC : Hid (Lib.trimPrefix c widthW = tc) := etc
  clear etb etc
  have hb0 : Below w.heap.size w (w.alloc (four a b c d)) := (Below.refl _ _).alloc (Nat.le_refl _) _
  obtain ⟨k0, k1, k2, k3⟩ := four_at w a b c d (Below.refl _ _)
  unfold four at hb0 k0 k1 k2 k3
  go_enter Tryd.func28, Tryd.ntmps28
  go_wp2_with (first | (go_at_call 54; refine (trimH HB.out _).mono ?_; rintro e w' ⟨rfl, rfl⟩) | (go_at_call 53; refine (atoi_bad h lb _ (E.grown hb0)).mono ?_))
  rintro e w1 ⟨v1, A1, rfl, hb1⟩
  have sz1 := hb1.size
  simp only [World.size_alloc] at sz1
  obtain ⟨k0, k1, k2, k3⟩ := four_at w a b c d (show Below (w.heap.size + 1) _ w1 from by simpa [four] using hb1)
  have hb01 := hb0.trans (hb1.mono (by simp))
  go_wp2_with (first | (go_at_call 54; refine (trimW HC.out _).mono ?_; rintro e w' ⟨rfl, rfl⟩) | (go_at_call 53; refine (atoi_some lc _ (E.grown hb01)).mono ?_))
  rintro e w2 ⟨v2, ev, rfl, hb2⟩
  have hb02 := hb01.trans (hb2.mono (by omega))
  go_wp2
  go_quiet (fail)
  go_wp2
  go_ret3
  exact ⟨⟨_, _, rfl⟩, below_drewN hb02 _⟩

set_option maxHeartbeats 2000000 in
set_option maxRecDepth 100000 in
theorem size_badW {a b c d : List UInt8} {v1 : Int} (h : Lib.atoiAll (Lib.trimPrefix b heightW) = .ok v1) (h2 : ∀ v, Lib.atoiAll (Lib.trimPrefix c widthW) ≠ .ok v) (hb : b.length ≤ 1000) (hc : c.length ≤ 1000) (w : World) (E : Env w) :
    Calls Tryd.prog 28 #[.agg #[.string (str a), .string (str b), .string (str c), .string (str d)]] w fun e w' => (∃ x y, e = .returned (.tuple #[.int .i64 x, .int .i64 y, .bool false])) ∧ Below w.heap.size w w' := by
  obtain ⟨tb, etb⟩ : ∃ l, Lib.trimPrefix b heightW = l := ⟨_, rfl⟩
  obtain ⟨tc, etc⟩ : ∃ l, Lib.trimPrefix c widthW = l := ⟨_, rfl⟩
  have lb := trim_len b heightW hb
  have lc := trim_len c widthW hc
  rw [etb] at h lb
  rw [etc] at h2 lc
  have HB : Hid (Lib.trimPrefix b heightW = tb) := etb
  have HC : Hid (Lib.trimPrefix c widthW = tc) := etc
  have HA : Hid (Lib.atoiAll tb = .ok v1) := h
  clear etb etc h
  have hb0 : Below w.heap.size w (w.alloc (four a b c d)) := (Below.refl _ _).alloc (Nat.le_refl _) _
  obtain ⟨k0, k1, k2, k3⟩ := four_at w a b c d (Below.refl _ _)
  unfold four at hb0 k0 k1 k2 k3
  go_enter Tryd.func28, Tryd.ntmps28
  go_wp2_with (first | (go_at_call 54; refine (trimH HB.out _).mono ?_; rintro e w' ⟨rfl, rfl⟩) | (go_at_call 53; refine (atoi_ok HA.out lb _).mono ?_))
  rintro e w1 ⟨rfl, hb1⟩
  have sz1 := hb1.size
  simp only [World.size_alloc] at sz1
  obtain ⟨k0, k1, k2, k3⟩ := four_at w a b c d (show Below (w.heap.size + 1) _ w1 from by simpa [four] using hb1)
  have hb01 := hb0.trans (hb1.mono (by simp))
  go_wp2_with (first | (go_at_call 54; refine (trimW HC.out _).mono ?_; rintro e w' ⟨rfl, rfl⟩) | (go_at_call 53; refine (atoi_bad h2 lc _ (E.grown hb01)).mono ?_))
  rintro e w2 ⟨v2, ev, rfl, hb2⟩
  have hb02 := hb01.trans (hb2.mono (by omega))
  go_wp2
  go_quiet (fail)
  go_wp2
  go_ret3
  exact ⟨⟨_, _, rfl⟩, below_drewN hb02 _⟩

set_option maxHeartbeats 4000000 in
set_option maxRecDepth 100000 in
theorem size_both {a b c d : List UInt8} {v1 v2 : Int} (h : Lib.atoiAll (Lib.trimPrefix b heightW) = .ok v1) (h2 : Lib.atoiAll (Lib.trimPrefix c widthW) = .ok v2) (hb : b.length ≤ 1000) (hc : c.length ≤ 1000) (w : World) (E : Env w) :
    Calls Tryd.prog 28 #[.agg #[.string (str a), .string (str b), .string (str c), .string (str d)]] w fun e w' => e = .returned (.tuple #[.int .i64 v2, .int .i64 v1, .bool (decide (a = typeW) && (decide (b = heightW ++ Lib.itoa v1) && (decide (c = widthW ++ Lib.itoa v2) && decide (d = mapW))))]) ∧ Below w.heap.size w w' := by
  have bd1 := Lib.atoiAll_bounds h
  have bd2 := Lib.atoiAll_bounds h2
  obtain ⟨tb, etb⟩ : ∃ l, Lib.trimPrefix b heightW = l := ⟨_, rfl⟩
  obtain ⟨tc, etc⟩ : ∃ l, Lib.trimPrefix c widthW = l := ⟨_, rfl⟩
  have lb := trim_len b heightW hb
  have lc := trim_len c widthW hc
  rw [etb] at h lb
  rw [etc] at h2 lc
  have HB : Hid (Lib.trimPrefix b heightW = tb) := etb
  have HC : Hid (Lib.trimPrefix c widthW = tc) := etc
  have HA : Hid (Lib.atoiAll tb = .ok v1) := h
  have HA2 : Hid (Lib.atoiAll tc = .ok v2) := h2
  clear etb etc h h2
  rw [← beq_str, ← beq_str, ← beq_str, ← beq_str]
  obtain ⟨la, ea⟩ : ∃ l, typeW = l := ⟨_, rfl⟩
  obtain ⟨lb', eb⟩ : ∃ l, heightW ++ Lib.itoa v1 = l := ⟨_, rfl⟩
  obtain ⟨lc', ec⟩ : ∃ l, widthW ++ Lib.itoa v2 = l := ⟨_, rfl⟩
  obtain ⟨ld, ed⟩ : ∃ l, mapW = l := ⟨_, rfl⟩
  rw [ea, eb, ec, ed]
  have H1 : Hid (typeW = la) := ea
  have H2 : Hid (heightW ++ Lib.itoa v1 = lb') := eb
  have H3 : Hid (widthW ++ Lib.itoa v2 = lc') := ec
  have H4 : Hid (mapW = ld) := ed
  clear ea eb ec ed
  have heq := eql60 (str a) (str b) (str c) (str d) (str la) (str lb') (str lc') (str ld)
  have hb0 : Below w.heap.size w (w.alloc (four a b c d)) := (Below.refl _ _).alloc (Nat.le_refl _) _
  obtain ⟨k0, k1, k2, k3⟩ := four_at w a b c d (Below.refl _ _)
  unfold four at hb0 k0 k1 k2 k3
  go_enter Tryd.func28, Tryd.ntmps28
  go_wp2_with (first | (go_at_call 54; refine (trimH HB.out _).mono ?_; rintro e w' ⟨rfl, rfl⟩) | (go_at_call 53; refine (atoi_ok HA.out lb _).mono ?_))
  rintro e w1 ⟨rfl, hb1⟩
  have sz1 := hb1.size
  simp only [World.size_alloc] at sz1
  obtain ⟨k0, k1, k2, k3⟩ := four_at w a b c d (show Below (w.heap.size + 1) _ w1 from by simpa [four] using hb1)
  have hb01 := hb0.trans (hb1.mono (by simp))
  go_wp2_with (first | (go_at_call 54; refine (trimW HC.out _).mono ?_; rintro e w' ⟨rfl, rfl⟩) | (go_at_call 53; refine (atoi_ok HA2.out lc _).mono ?_))
  rintro e w2 ⟨rfl, hb2⟩
  have sz2 := hb2.size
  have hb02 := hb01.trans (hb2.mono (by omega))
  have E2 := E.grown hb02
  have S0 : ∀ x : Since w2, x.u.cell? ⟨w.heap.size, 0, none⟩ = some (.string (str a)) := fun x => ((x.cell _ _ (by omega)).trans (hb2.cell (p := ⟨w.heap.size, 0, none⟩) (by show w.heap.size < _; omega))).trans k0
  have S1 : ∀ x : Since w2, x.u.cell? ⟨w.heap.size, 1, none⟩ = some (.string (str b)) := fun x => ((x.cell _ _ (by omega)).trans (hb2.cell (p := ⟨w.heap.size, 1, none⟩) (by show w.heap.size < _; omega))).trans k1
  have S2 : ∀ x : Since w2, x.u.cell? ⟨w.heap.size, 2, none⟩ = some (.string (str c)) := fun x => ((x.cell _ _ (by omega)).trans (hb2.cell (p := ⟨w.heap.size, 2, none⟩) (by show w.heap.size < _; omega))).trans k2
  have S3 : ∀ x : Since w2, x.u.cell? ⟨w.heap.size, 3, none⟩ = some (.string (str d)) := fun x => ((x.cell _ _ (by omega)).trans (hb2.cell (p := ⟨w.heap.size, 3, none⟩) (by show w.heap.size < _; omega))).trans k3
  have hne : Nonempty (Since w2) := ⟨⟨w2, Below.refl _ _⟩⟩
  go_wp2
  refine wp_region_since (by kernel_rfl) (by kernel_rfl) ?_
  repeat (go_big_quiet_step (first | (go_at_call 21; exact Calls.since_of (headOf_v H1.out H2.out H3.out H4.out bd2.1 bd2.2 bd1.1 bd1.2 _ (E2.grown (Since.h _))))))
  refine wpQuiet_nil ?_
  rintro _ ⟨x, rfl⟩
  have hzx := x.h.size
  go_wp2
  go_ret3
  exact ⟨rfl, hb02.trans (x.h.mono (by omega))⟩
end Go.Proofs.YtkhofbpgdkoonabDoor
