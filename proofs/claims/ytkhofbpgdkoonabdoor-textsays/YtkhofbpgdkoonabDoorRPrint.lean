/-
  What the reference prints of a grid.
-/
import Derived.Test.YtkhofbpgdkoonabDoorDec
import Derived.Test.YtkhofbpgdkoonabDoorPrint
namespace Go.Proofs.YtkhofbpgdkoonabDoor
open Go.RowKit

/-- the bytes of the first c cells -/
def prL (bl : Nat → Bool) (W : Nat) : Nat → List UInt8
  | 0 => []
  | c + 1 => prL bl W c ++ ([byteL (bl c)] ++ if c % W = W - 1 then [10] else [])
theorem prL_len (bl : Nat → Bool) (W : Nat) : ∀ c, (prL bl W c).length ≤ 2 * c
  | 0 => by simp [prL]
  | c + 1 => by
    have := prL_len bl W c
    unfold prL
    rw [List.length_append, List.length_append]
    split <;> simp <;> omega
theorem prL_mid (bl : Nat → Bool) {W y : Nat} (h : prL bl W (y * W) = rowsL bl W y) : ∀ x, x < W → prL bl W (y * W + x) = rowsL bl W y ++ rowL bl (y * W) x
  | 0, _ => by simp [h, rowL]
  | x + 1, hx => by
    rw [show y * W + (x + 1) = (y * W + x) + 1 by omega]
    unfold prL
    rw [prL_mid bl h x (by omega)]
    have e : (y * W + x) % W = x := by rw [Nat.mul_comm, Nat.mul_add_mod, Nat.mod_eq_of_lt (by omega)]
    rw [e, if_neg (by omega), rowL_snoc]
    simp
theorem prL_rows (bl : Nat → Bool) {W : Nat} (hW : 1 ≤ W) : ∀ y, prL bl W (y * W) = rowsL bl W y
  | 0 => by simp [prL, rowsL]
  | y + 1 => by
    have ih := prL_rows bl hW y
    have hm := prL_mid bl ih (W - 1) (by omega)
    rw [Nat.succ_mul, show y * W + W = (y * W + (W - 1)) + 1 by omega]
    unfold prL rowsL
    rw [hm]
    have e : (y * W + (W - 1)) % W = W - 1 := by rw [Nat.mul_comm, Nat.mul_add_mod, Nat.mod_eq_of_lt (by omega)]
    rw [e, if_pos rfl]
    have e2 : rowL bl (y * W) W = rowL bl (y * W) (W - 1) ++ [byteL (bl (y * W + (W - 1)))] := by
      conv => lhs; rw [show W = (W - 1) + 1 by omega]
      rw [rowL_snoc, show W - 1 + 1 = W by omega]
    rw [e2]
    simp

theorem head_str (W H : Nat) : str [116, 121, 112, 101, 32, 111, 99, 116, 105, 108, 101, 10, 104, 101, 105, 103, 104, 116, 32] ++ str (Lib.decDigits H) ++ str [10, 119, 105, 100, 116, 104, 32] ++ str (Lib.decDigits W) ++ str [10, 109, 97, 112, 10] = str (headL W H) := by
  rw [str_append, str_append, str_append, str_append]
  congr 1
  unfold headL Lib.itoa
  rw [if_neg (by omega), if_neg (by omega), Int.toNat_natCast, Int.toNat_natCast]
  simp [typeW, heightW, widthW, mapW]

theorem dec_len {n : Nat} (h : n ≤ 16) : (str (Lib.decDigits n)).size ≤ 20 := by
  rw [str_size]
  have := itoa_len20 (n : Int) (by omega) (by omega)
  unfold Lib.itoa at this
  rw [if_neg (by omega), Int.toNat_natCast] at this
  exact this

set_option maxHeartbeats 4000000 in
set_option maxRecDepth 1000000 in
theorem rprint_any {b : Nat} {W H : Nat} {V : Int} {bl : Nat → Bool} (w : World) (g : RefAt w b W H V bl) (hbw : b < w.heap.size) :
    Calls Tryd.prog 8 #[.pointer (some ⟨b, 0, none⟩)] w fun e w' => e = .returned (.string (str (printL bl W H))) ∧ Below w.heap.size w w' := by
  have w1 := g.w1
  have w2 := g.w2
  have h1 := g.h1
  have h2 := g.h2
  have hrow := prL_rows bl (W := W) (by omega) H
  unfold printL
  rw [← hrow]
  have hst := head_str W H
  have s1 := dec_len (n := H) (by omega)
  have s2 := dec_len (n := W) (by omega)
  have HST : Hid (str [116, 121, 112, 101, 32, 111, 99, 116, 105, 108, 101, 10, 104, 101, 105, 103, 104, 116, 32] ++ str (Lib.decDigits H) ++ str [10, 119, 105, 100, 116, 104, 32] ++ str (Lib.decDigits W) ++ str [10, 109, 97, 112, 10] = str (headL W H)) := hst
  have S0 : ∀ x : Since w, x.u.cell? ⟨b, 0, none⟩ = some (.int .i64 W) := fun x => (x.cell _ _ hbw).trans g.c0
  have S1 : ∀ x : Since w, x.u.cell? ⟨b, 1, none⟩ = some (.int .i64 H) := fun x => (x.cell _ _ hbw).trans g.c1
  have hne : Nonempty (Since w) := ⟨⟨w, Below.refl _ _⟩⟩
  clear hst hrow
  have HG : Hid (RefAt w b W H V bl) := g
  clear g
  go_enter Tryd.func8, Tryd.ntmps8
  go_wp2
  refine wp_region_since (by kernel_rfl) (by kernel_rfl) ?_
  repeat (go_big_quiet_step (first | (go_at_call 26; exact Calls.since_of (dec_v rfl (by omega) _))))
  refine wpQuiet_nil ?_
  rintro _ ⟨x, rfl⟩
  have gx := HG.out.below x.h hbw
  have HB : Below w.heap.size w x.u := x.h
  clear S0 S1 hne
  generalize x.u = y at *
  have c0 := gx.c0
  have c1 := gx.c1
  have k2 : W * H ≤ 16 * 16 := Nat.mul_le_mul (by omega) (by omega)
  obtain ⟨N, hN⟩ : ∃ N, W * H = N := ⟨_, rfl⟩
  have hN2 : (W : Int) * (H : Int) = (N : Int) := by rw [← hN, Int.natCast_mul]
  have HN : Hid (W * H = N) := hN
  rw [hN] at k2
  clear hN
  have hhl : (headL W H).length ≤ 100 := by
    have i1 := itoa_len W (by omega) (by omega)
    have i2 := itoa_len H (by omega) (by omega)
    unfold headL
    simp [typeW, heightW, widthW, mapW]
    omega
  go_wp2
  go_loopw [3, 4] (fun s c wr => ∃ (j : Nat), j ≤ N ∧ c = .int .i64 j ∧ s = .string (str (headL W H ++ prL bl W j)) ∧ ∃ m, wr = y.drewN m)
    (fun _ c _ => N - (intOf c).toNat)
  case atStart => exact ⟨0, by omega, rfl, by rw [prL, List.append_nil, ← HST.out]; rfl, 0, rfl⟩
  case round =>
    obtain ⟨j, hj, rfl, rfl, m, rfl⟩ := hrel
    have hpl := prL_len bl W j
    have sx : (str (headL W H ++ prL bl W j)).size ≤ 2000 := by rw [str_size, List.length_append]; omega
    by_cases hlt : j < N
    · have j1 : (0 : Int) ≤ (j : Int) ∧ (j : Int) < (N : Int) ∧ (j : Int) < 256 := by omega
      have cj := gx.cs j (by omega)
      have tm : (j : Int).tmod (W : Int) = ((j % W : Nat) : Int) := by rw [Int.ofNat_tmod]
      have hstep : str (headL W H ++ prL bl W (j + 1)) = str (headL W H ++ prL bl W j) ++ str [byteL (bl j)] ++ str (if j % W = W - 1 then [10] else []) := by
        rw [str_append, str_append, prL]
        simp
      have HS : Hid (str (headL W H ++ prL bl W (j + 1)) = str (headL W H ++ prL bl W j) ++ str [byteL (bl j)] ++ str (if j % W = W - 1 then [10] else [])) := hstep
      clear hstep
      have hw0 : ((W : Int) == 0) = false := by rw [beq_eq_false_iff_ne]; omega
      have hmw : j % W < 16 := Nat.lt_of_lt_of_le (Nat.mod_lt j (by omega)) (by omega)
      generalize hSX : str (headL W H ++ prL bl W j) = SX at *
      clear hSX
      by_cases hq : j % W = W - 1
      · have hqe : (((j % W : Nat) : Int) == (W : Int) - 1) = true := by rw [beq_iff_eq]; omega
        have HQ : Hid (j % W = W - 1) := hq
        clear hq
        generalize j % W = z at *
        cases hb : bl j with
        | true =>
          rw [hb] at cj
          go_wp2
          go_quiet (fail)
          go_wp2
          go_quiet (fail)
          go_wp2
          go_roundw
          case rel => exact ⟨j + 1, by omega, by go_num, by rw [HS.out, if_pos HQ.out, hb]; rfl, _, rfl⟩
          case measure => simp [intOf]; omega
        | false =>
          rw [hb] at cj
          go_wp2
          go_quiet (fail)
          go_wp2
          go_quiet (fail)
          go_wp2
          go_roundw
          case rel => exact ⟨j + 1, by omega, by go_num, by rw [HS.out, if_pos HQ.out, hb]; rfl, _, rfl⟩
          case measure => simp [intOf]; omega
      · have hqe : (((j % W : Nat) : Int) == (W : Int) - 1) = false := by rw [beq_eq_false_iff_ne]; omega
        have HQ : Hid (¬ j % W = W - 1) := hq
        clear hq
        generalize j % W = z at *
        have he : ∀ S : ByteArray, S ++ str [] = S := fun S => by
          apply ByteArray.ext
          rw [ByteArray.data_append]
          simp [str]
        have HE : Hid (∀ S : ByteArray, S ++ str [] = S) := he
        clear he
        cases hb : bl j with
        | true =>
          rw [hb] at cj
          go_wp2
          go_quiet (fail)
          go_wp2
          go_quiet (fail)
          go_wp2
          go_roundw
          case rel => exact ⟨j + 1, by omega, by go_num, by rw [HS.out, if_neg HQ.out, hb, HE.out]; rfl, _, rfl⟩
          case measure => simp [intOf]; omega
        | false =>
          rw [hb] at cj
          go_wp2
          go_quiet (fail)
          go_wp2
          go_quiet (fail)
          go_wp2
          go_roundw
          case rel => exact ⟨j + 1, by omega, by go_num, by rw [HS.out, if_neg HQ.out, hb, HE.out]; rfl, _, rfl⟩
          case measure => simp [intOf]; omega
    · have hjn : j = N := by omega
      subst hjn
      have HM : Hid (H * W = j) := by show H * W = j; rw [Nat.mul_comm]; exact HN.out
      have j2 : ¬ (j : Int) < (j : Int) := by omega
      go_wp2
      go_quiet (fail)
      go_wp2
      go_ret
      exact ⟨by rw [HM.out]; rfl, below_drewN (below_drewN HB _) _⟩
end Go.Proofs.YtkhofbpgdkoonabDoor
