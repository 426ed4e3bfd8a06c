/-
  Texts laid together: NavM, LaidT, Dec, RPrint.
-/
import Derived.Test.YtipbhlofbpnpjaaGreatDoorP38
import Derived.Deep.RegionHeld3
import Derived.Laws.IdiomStrings
import Derived.Laws.BitsAllLaws
import Derived.IntWalk
namespace Go.Proofs.YtipbhlofbpnpjaaGreatDoor
open Go.RowKit
section
variable {W H W' H' : Int} {bl bl' : Nat → Bool} {a t c a' t' : Int} {way way' way2 : List Nat} {s d err s' d' err' p q e2 : Int}
theorem Rt.ok (h : Rt W H bl a t way s d err) (h0 : err = 0) : ff2 W H bl a t = 0 ∧ Wk (Edge W H bl) a t s d := by
  by_cases hf : ff2 W H bl a t = 0
  · obtain ⟨l, _, h1, _⟩ := h.path hf h0
    exact ⟨hf, h1.walk⟩
  · have := (h.bad hf).1
    exact absurd (this.symm.trans h0) hf
theorem Rt.err_no (h : Rt W H bl a t way s d err) (h0 : err ≠ 0) : s = 0 ∧ d = 0 ∧ way = [] := by
  by_cases hf : ff2 W H bl a t = 0
  · by_cases hw : ∃ p q, Wk (Edge W H bl) a t p q
    · obtain ⟨p, q, hw⟩ := hw
      exact absurd (h.yes hf hw).1 h0
    · obtain ⟨_, h1, h2, h3⟩ := h.no hf (fun p q k => hw ⟨p, q, k⟩)
      exact ⟨h2, h3, h1⟩
  · obtain ⟨_, h1, h2, h3⟩ := h.bad hf
    exact ⟨h2, h3, h1⟩
theorem Rt.len (h : Rt W H bl a t way s d err) : way.length ≤ 700 := by
  by_cases h0 : err = 0
  · obtain ⟨l, e, h1, h2⟩ := h.path (h.ok h0).1 h0
    have := h1.len
    rw [e, List.length_cons]
    omega
  · obtain ⟨_, _, e⟩ := h.err_no h0
    rw [e]
    exact Nat.zero_le _
theorem two_same (h1 : 0 ≤ d) (h2 : d ≤ 256) (h3 : 0 ≤ d') (h4 : d' ≤ 256) (e1 : val s d ≤ val s' d') (e2 : val s' d' ≤ val s d) : s = s' ∧ d = d' :=
  val_inj s d s' d' (by omega) (by omega) (Int.le_antisymm e1 e2)
end
end Go.Proofs.YtipbhlofbpnpjaaGreatDoor
namespace Go.Proofs.YtipbhlofbpnpjaaGreatDoor
open Go.RowKit
theorem laid_any (W H : Int) (A : Option Addr) (n cap : Nat) (xs : Nat → Int) (w : World) (hm : n ≤ maxLen) (hx : OldRow w A n xs) :
    Calls Tryz.prog 39 #[.agg #[.int .i64 W, .int .i64 H, .slice A n cap]] w fun e w' => Below w.heap.size w w' ∧ (e = .returned (.tuple #[.pointer none, .pointer none, .bool false]) ∨
      (e = .returned (.tuple #[.pointer (some ⟨w.heap.size + 1, 0, none⟩), .pointer (some ⟨w.heap.size + 1 + 1, 0, none⟩), .bool true]) ∧ w'.heap.size = w.heap.size + 3 ∧ ∃ V bl, V ≤ 300 ∧ Both w' (w.heap.size + 1) (w.heap.size + 1 + 1) W H V bl)) := by
  by_cases hn : 300 < (n : Int)
  · exact (laid_many W H A n cap w hn hm).mono fun e w' ⟨h1, h2⟩ => ⟨h2, Or.inl h1⟩
  · cases hW : sideB W with
    | false => exact (laid_bad W H A n cap w hn (.inl hW)).mono fun e w' ⟨h1, h2⟩ => ⟨h2, Or.inl h1⟩
    | true =>
      cases hH : sideB H with
      | false => exact (laid_bad W H A n cap w hn (.inr ⟨hW, hH⟩)).mono fun e w' ⟨h1, h2⟩ => ⟨h2, Or.inl h1⟩
      | true => exact (laid_ok W H A n cap xs w hn hW hH hx).mono fun e w' ⟨h1, h2, h3, h4⟩ => ⟨h2, Or.inr ⟨h1, h3, h4⟩⟩
theorem Both.below' {w w' : World} {g m : Nat} {W H V : Int} {bl : Nat → Bool} (h : Both w g m W H V bl) (hb : Below w.heap.size w w') : Both w' g m W H V bl := by
  have hg : g < w.heap.size := World.block_lt_of_cell? w _ h.ga.c0
  have hm : m < w.heap.size := World.block_lt_of_cell? w _ h.ra.c0
  exact ⟨h.ga.below hb hg, fun o => (hb.frozen (p := ⟨g, o, none⟩) hg).trans (h.gf o), h.ra.below hb hm, fun o => (hb.frozen (p := ⟨m, o, none⟩) hm).trans (h.rf o), h.v1, h.ne⟩
end Go.Proofs.YtipbhlofbpnpjaaGreatDoor
namespace Go.Proofs.YtipbhlofbpnpjaaGreatDoor
open Go.RowKit
theorem conv_one (b : Nat) (c : UInt8) (x : Int) (hx : x = c.toNat) (w : World) (h : w.cell? ⟨b, 0, none⟩ = some (.int .u8 x)) : (convert 158 9 (.slice (some ⟨b, 0, none⟩) 1 1)).run Tryz.prog w = .ok (.string (str [c])) w := by
  subst hx
  refine run_convert_bytes_back w 158 9 5 ⟨b, 0, none⟩ 1 [c] Tryz.underlying158 Tryz.underlying5 Tryz.underlying9 ?_
  intro j hj
  match j, hj with
  | 0, _ => simpa [Addr.add] using h
set_option maxHeartbeats 2000000 in
set_option maxRecDepth 100000 in
theorem dec_small (n : Nat) (h : n < 10) (w : World) :
    Calls Tryz.prog 51 #[.int .i64 n] w fun e w' => e = .returned (.string (str (Lib.decDigits n))) ∧ Below w.heap.size w w' := by
  rw [Lib.decDigits_one h]
  have hd := ofNat_dig h
  have h1 : (n : Int) < 10 := by omega
  have h0 : ¬ (n : Int) < 0 := by omega
  have hc := conv_one w.heap.size (UInt8.ofNat (48 + n)) (48 + (n : Int)) (by rw [hd]; omega) (w.alloc (.cells #[.int .u8 (48 + (n : Int))] 5)) (by rw [World.cell?_alloc_new]; rfl)
  clear hd
  go_enter Tryz.func51, Tryz.ntmps51
  go_wp2_with fail
  go_ret
  exact ⟨rfl, (Below.refl _ _).alloc (Nat.le_refl _) _⟩
set_option maxHeartbeats 2000000 in
set_option maxRecDepth 100000 in
theorem dec_any : ∀ (k n : Nat), n ≤ k → n < 1000000000000000000 → ∀ w : World,
    Calls Tryz.prog 51 #[.int .i64 n] w fun e w' => e = .returned (.string (str (Lib.decDigits n))) ∧ Below w.heap.size w w' := by
  intro k
  induction k with
  | zero => exact fun n hn _ w => dec_small n (by omega) w
  | succ k ih =>
    intro n hn hm w
    by_cases h : n < 10
    · exact dec_small n h w
    · rw [dec_big h]
      have hd := ofNat_dig (show n % 10 < 10 by omega)
      have h1 : ¬ (n : Int) < 10 := by omega
      have h0 : ¬ (n : Int) < 0 := by omega
      have q1 : (n : Int).tdiv 10 = ((n / 10 : Nat) : Int) := by rw [Int.ofNat_tdiv]; rfl
      have q2 : (n : Int).tmod 10 = ((n % 10 : Nat) : Int) := by rw [Int.ofNat_tmod]; rfl
      have hih := fun w => ih (n / 10) (by omega) (by omega) w
      have hl : (Lib.decDigits (n / 10)).length ≤ 20 := by
        have := itoa_len20 ((n / 10 : Nat) : Int) (by omega) (by omega)
        unfold Lib.itoa at this
        rw [if_neg (by omega), Int.toNat_natCast] at this
        exact this
      have hcv := fun b w h => conv_one b (UInt8.ofNat (48 + n % 10)) (48 + ((n % 10 : Nat) : Int)) (by rw [hd]; omega) w h
      generalize Lib.decDigits (n / 10) = L at *
      generalize UInt8.ofNat (48 + n % 10) = c at *
      have hr9 : n % 10 < 10 := by omega
      have hq9 : n / 10 < 1000000000000000000 := by omega
      generalize n % 10 = r at *
      generalize n / 10 = q at *
      clear hd
      have wq : IntKind.i64.wrap (q : Int) = q := IntWalk.i64_in _ (by omega)
      have wr : IntKind.i64.wrap (r : Int) = r := IntWalk.i64_in _ (by omega)
      have wr2 : IntKind.i64.wrap (48 + (r : Int)) = 48 + r := IntWalk.i64_in _ (by omega)
      have wr3 : IntKind.u8.wrap (48 + (r : Int)) = 48 + r := by rw [IntKind.wrap_u8']; omega
      rw [← str_append]
      have sL : (str L).size ≤ 20 := by rw [str_size]; exact hl
      have sC : (str [c]).size = 1 := by rw [str_size]; rfl
      generalize str L = SL at *
      generalize str [c] = SC at *
      have cvA : ∀ W' : World, (convert 158 9 (.slice (some ⟨W'.heap.size, 0, none⟩) 1 1)).run Tryz.prog (W'.alloc (.cells #[.int .u8 (48 + (r : Int))] 5)) = .ok (.string SC) (W'.alloc (.cells #[.int .u8 (48 + (r : Int))] 5)) := fun W' => hcv _ _ (by rw [World.cell?_alloc_new]; rfl)
      have cvA' : ∀ W' : World, (convert 158 9 (.slice (some ⟨W'.heap.size, 0, none⟩) 1 1)).run Tryz.prog (W'.alloc (.cells #[.int .u8 (48 + (r : Int))] 5)).drew = .ok (.string SC) (W'.alloc (.cells #[.int .u8 (48 + (r : Int))] 5)).drew := fun W' => hcv _ _ (by rw [show ∀ (X : World) p, X.drew.cell? p = X.cell? p from fun _ _ => rfl, World.cell?_alloc_new]; rfl)
      have cvB : ∀ {W' w1 : World}, Below (W'.alloc (.cells #[.int .u8 (48 + (r : Int))] 5)).drew.heap.size (W'.alloc (.cells #[.int .u8 (48 + (r : Int))] 5)).drew w1 → (convert 158 9 (.slice (some ⟨W'.heap.size, 0, none⟩) 1 1)).run Tryz.prog w1 = .ok (.string SC) w1 := fun {W' w1} hb => hcv _ _ ((hb.cell (p := ⟨W'.heap.size, 0, none⟩) (by simp)).trans (by rw [show ∀ (X : World) p, X.drew.cell? p = X.cell? p from fun _ _ => rfl, World.cell?_alloc_new]; rfl))
      have HB : Hid (∀ {W' w1 : World}, Below (W'.alloc (.cells #[.int .u8 (48 + (r : Int))] 5)).drew.heap.size (W'.alloc (.cells #[.int .u8 (48 + (r : Int))] 5)).drew w1 → (convert 158 9 (.slice (some ⟨W'.heap.size, 0, none⟩) 1 1)).run Tryz.prog w1 = .ok (.string SC) w1) := cvB
      clear hcv cvB ih hn hm hl
      go_enter Tryz.func51, Tryz.ntmps51
      go_wp2_with fail
      go_region_held (fun _ => True) (trivial) ((go_at_call 51; refine (hih _).mono ?_; rintro e w1 ⟨rfl, hb1⟩; first | (have hk := HB.out hb1) | skip))
      all_goals
        go_wp2_with fail
        go_ret
        first | exact ⟨rfl, (((Below.refl w.heap.size w).drew).trans hb1).alloc hb1.size _⟩ | exact ⟨rfl, (((Below.refl w.heap.size w).alloc (Nat.le_refl _) _).drew).trans (hb1.mono (Nat.le_trans (Nat.le_succ _) (Nat.le_of_eq (World.size_alloc _ _).symm)))⟩
theorem dec_v {n : Nat} {l : List UInt8} (hl : Lib.decDigits n = l) (hn : n < 1000000000000000000) (w : World) :
    Calls Tryz.prog 51 #[.int .i64 n] w fun e w' => e = .returned (.string (str l)) ∧ Below w.heap.size w w' := hl ▸ dec_any n n (Nat.le_refl _) hn w
end Go.Proofs.YtipbhlofbpnpjaaGreatDoor
namespace Go.Proofs.YtipbhlofbpnpjaaGreatDoor
open Go.RowKit
def prL (bl : Nat → Bool) (W : Nat) : Nat → List UInt8
  | 0 => []
  | c + 1 => prL bl W c ++ ([byteL (bl c)] ++ if c % W = W - 1 then [10] else [])
theorem prL_len (bl : Nat → Bool) (W : Nat) : ∀ c, (prL bl W c).length ≤ 2 * c
  | 0 => by simp [prL]
  | c + 1 => by
    have := prL_len bl W c
    unfold prL
    rw [List.length_append, List.length_append]
    split <;> simp <;> omega
theorem prL_mid (bl : Nat → Bool) {W y : Nat} (h : prL bl W (y * W) = rowsL bl W y) : ∀ x, x < W → prL bl W (y * W + x) = rowsL bl W y ++ rowL bl (y * W) x
  | 0, _ => by simp [h, rowL]
  | x + 1, hx => by
    rw [show y * W + (x + 1) = (y * W + x) + 1 by omega]
    unfold prL
    rw [prL_mid bl h x (by omega)]
    have e : (y * W + x) % W = x := by rw [Nat.mul_comm, Nat.mul_add_mod, Nat.mod_eq_of_lt (by omega)]
    rw [e, if_neg (by omega), rowL_snoc]
    simp
theorem prL_rows (bl : Nat → Bool) {W : Nat} (hW : 1 ≤ W) : ∀ y, prL bl W (y * W) = rowsL bl W y
  | 0 => by simp [prL, rowsL]
  | y + 1 => by
    have ih := prL_rows bl hW y
    have hm := prL_mid bl ih (W - 1) (by omega)
    rw [Nat.succ_mul, show y * W + W = (y * W + (W - 1)) + 1 by omega]
    unfold prL rowsL
    rw [hm]
    have e : (y * W + (W - 1)) % W = W - 1 := by rw [Nat.mul_comm, Nat.mul_add_mod, Nat.mod_eq_of_lt (by omega)]
    rw [e, if_pos rfl]
    have e2 : rowL bl (y * W) W = rowL bl (y * W) (W - 1) ++ [byteL (bl (y * W + (W - 1)))] := by
      conv => lhs; rw [show W = (W - 1) + 1 by omega]
      rw [rowL_snoc, show W - 1 + 1 = W by omega]
    rw [e2]
    simp
theorem head_str (W H : Nat) : str [116, 121, 112, 101, 32, 111, 99, 116, 105, 108, 101, 10, 104, 101, 105, 103, 104, 116, 32] ++ str (Lib.decDigits H) ++ str [10, 119, 105, 100, 116, 104, 32] ++ str (Lib.decDigits W) ++ str [10, 109, 97, 112, 10] = str (headL W H) := by
  rw [str_append, str_append, str_append, str_append]
  congr 1
  unfold headL Lib.itoa
  rw [if_neg (by omega), if_neg (by omega), Int.toNat_natCast, Int.toNat_natCast]
  simp [typeW, heightW, widthW, mapW]
theorem dec_len {n : Nat} (h : n ≤ 16) : (str (Lib.decDigits n)).size ≤ 20 := by
  rw [str_size]
  have := itoa_len20 (n : Int) (by omega) (by omega)
  unfold Lib.itoa at this
  rw [if_neg (by omega), Int.toNat_natCast] at this
  exact this
set_option maxHeartbeats 4000000 in
set_option maxRecDepth 1000000 in
theorem rprint_any {b : Nat} {W H : Nat} {V : Int} {bl : Nat → Bool} (w : World) (g : RefAt w b W H V bl) (hbw : b < w.heap.size) :
    Calls Tryz.prog 23 #[.pointer (some ⟨b, 0, none⟩)] w fun e w' => e = .returned (.string (str (printL bl W H))) ∧ Below w.heap.size w w' := by
  have w1 := g.w1
  have w2 := g.w2
  have h1 := g.h1
  have h2 := g.h2
  have hrow := prL_rows bl (W := W) (by omega) H
  unfold printL
  rw [← hrow]
  have hst := head_str W H
  have s1 := dec_len (n := H) (by omega)
  have s2 := dec_len (n := W) (by omega)
  have HST : Hid (str [116, 121, 112, 101, 32, 111, 99, 116, 105, 108, 101, 10, 104, 101, 105, 103, 104, 116, 32] ++ str (Lib.decDigits H) ++ str [10, 119, 105, 100, 116, 104, 32] ++ str (Lib.decDigits W) ++ str [10, 109, 97, 112, 10] = str (headL W H)) := hst
  have S0 : ∀ x : Since w, x.u.cell? ⟨b, 0, none⟩ = some (.int .i64 W) := fun x => (x.cell _ _ hbw).trans g.c0
  have S1 : ∀ x : Since w, x.u.cell? ⟨b, 1, none⟩ = some (.int .i64 H) := fun x => (x.cell _ _ hbw).trans g.c1
  have hne : Nonempty (Since w) := ⟨⟨w, Below.refl _ _⟩⟩
  clear hst hrow
  have HG : Hid (RefAt w b W H V bl) := g
  clear g
  go_enter Tryz.func23, Tryz.ntmps23
  go_wp2
  refine wp_region_since (by kernel_rfl) (by kernel_rfl) ?_
  repeat (go_big_quiet_step (first | (go_at_call 51; exact Calls.since_of (dec_v rfl (by omega) _))))
  refine wpQuiet_nil ?_
  rintro _ ⟨x, rfl⟩
  have gx := HG.out.below x.h hbw
  have HB : Below w.heap.size w x.u := x.h
  clear S0 S1 hne
  generalize x.u = y at *
  have c0 := gx.c0
  have c1 := gx.c1
  have k2 : W * H ≤ 16 * 16 := Nat.mul_le_mul (by omega) (by omega)
  obtain ⟨N, hN⟩ : ∃ N, W * H = N := ⟨_, rfl⟩
  have hN2 : (W : Int) * (H : Int) = (N : Int) := by rw [← hN, Int.natCast_mul]
  have HN : Hid (W * H = N) := hN
  rw [hN] at k2
  clear hN
  have hhl : (headL W H).length ≤ 100 := by
    have i1 := itoa_len W (by omega) (by omega)
    have i2 := itoa_len H (by omega) (by omega)
    unfold headL
    simp [typeW, heightW, widthW, mapW]
    omega
  go_wp2
  go_loopw [3, 4] (fun s c wr => ∃ (j : Nat), j ≤ N ∧ c = .int .i64 j ∧ s = .string (str (headL W H ++ prL bl W j)) ∧ ∃ m, wr = y.drewN m)
    (fun _ c _ => N - (intOf c).toNat)
  case atStart => exact ⟨0, by omega, rfl, by rw [prL, List.append_nil, ← HST.out]; rfl, 0, rfl⟩
  case round =>
    obtain ⟨j, hj, rfl, rfl, m, rfl⟩ := hrel
    have hpl := prL_len bl W j
    have sx : (str (headL W H ++ prL bl W j)).size ≤ 2000 := by rw [str_size, List.length_append]; omega
    by_cases hlt : j < N
    · have j1 : (0 : Int) ≤ (j : Int) ∧ (j : Int) < (N : Int) ∧ (j : Int) < 256 := by omega
      have cj := gx.cs j (by omega)
      have tm : (j : Int).tmod (W : Int) = ((j % W : Nat) : Int) := by rw [Int.ofNat_tmod]
      have hstep : str (headL W H ++ prL bl W (j + 1)) = str (headL W H ++ prL bl W j) ++ str [byteL (bl j)] ++ str (if j % W = W - 1 then [10] else []) := by
        rw [str_append, str_append, prL]
        simp
      have HS : Hid (str (headL W H ++ prL bl W (j + 1)) = str (headL W H ++ prL bl W j) ++ str [byteL (bl j)] ++ str (if j % W = W - 1 then [10] else [])) := hstep
      clear hstep
      have hw0 : ((W : Int) == 0) = false := by rw [beq_eq_false_iff_ne]; omega
      have hmw : j % W < 16 := Nat.lt_of_lt_of_le (Nat.mod_lt j (by omega)) (by omega)
      generalize hSX : str (headL W H ++ prL bl W j) = SX at *
      clear hSX
      by_cases hq : j % W = W - 1
      · have hqe : (((j % W : Nat) : Int) == (W : Int) - 1) = true := by rw [beq_iff_eq]; omega
        have HQ : Hid (j % W = W - 1) := hq
        clear hq
        generalize j % W = z at *
        cases hb : bl j with
        | true =>
          rw [hb] at cj
          go_wp2
          go_quiet (fail)
          go_wp2
          go_quiet (fail)
          go_wp2
          go_roundw
          case rel => exact ⟨j + 1, by omega, by go_num, by rw [HS.out, if_pos HQ.out, hb]; rfl, _, rfl⟩
          case measure => simp [intOf]; omega
        | false =>
          rw [hb] at cj
          go_wp2
          go_quiet (fail)
          go_wp2
          go_quiet (fail)
          go_wp2
          go_roundw
          case rel => exact ⟨j + 1, by omega, by go_num, by rw [HS.out, if_pos HQ.out, hb]; rfl, _, rfl⟩
          case measure => simp [intOf]; omega
      · have hqe : (((j % W : Nat) : Int) == (W : Int) - 1) = false := by rw [beq_eq_false_iff_ne]; omega
        have HQ : Hid (¬ j % W = W - 1) := hq
        clear hq
        generalize j % W = z at *
        have he : ∀ S : ByteArray, S ++ str [] = S := fun S => by
          apply ByteArray.ext
          rw [ByteArray.data_append]
          simp [str]
        have HE : Hid (∀ S : ByteArray, S ++ str [] = S) := he
        clear he
        cases hb : bl j with
        | true =>
          rw [hb] at cj
          go_wp2
          go_quiet (fail)
          go_wp2
          go_quiet (fail)
          go_wp2
          go_roundw
          case rel => exact ⟨j + 1, by omega, by go_num, by rw [HS.out, if_neg HQ.out, hb, HE.out]; rfl, _, rfl⟩
          case measure => simp [intOf]; omega
        | false =>
          rw [hb] at cj
          go_wp2
          go_quiet (fail)
          go_wp2
          go_quiet (fail)
          go_wp2
          go_roundw
          case rel => exact ⟨j + 1, by omega, by go_num, by rw [HS.out, if_neg HQ.out, hb, HE.out]; rfl, _, rfl⟩
          case measure => simp [intOf]; omega
    · have hjn : j = N := by omega
      subst hjn
      have HM : Hid (H * W = j) := by show H * W = j; rw [Nat.mul_comm]; exact HN.out
      have j2 : ¬ (j : Int) < (j : Int) := by omega
      go_wp2
      go_quiet (fail)
      go_wp2
      go_ret
      exact ⟨by rw [HM.out]; rfl, below_drewN (below_drewN HB _) _⟩
end Go.Proofs.YtipbhlofbpnpjaaGreatDoor
