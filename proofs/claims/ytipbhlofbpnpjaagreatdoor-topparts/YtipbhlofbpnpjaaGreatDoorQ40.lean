/-
  Texts laid together: RPrint, Nv6, Labs, Nv7.
-/
import Derived.Test.YtipbhlofbpnpjaaGreatDoorQ39
import Derived.Test.YtipbhlofbpnpjaaGreatDoorQ37
import Derived.Test.YtipbhlofbpnpjaaGreatDoorQ15
import Derived.Test.YtipbhlofbpnpjaaGreatDoorQ10
import Derived.Deep.CutRange
namespace Go.Proofs.YtipbhlofbpnpjaaGreatDoor
open Go.RowKit
def prL (bl : Nat → Bool) (W : Nat) : Nat → List UInt8
  | 0 => []
  | c + 1 => prL bl W c ++ ([byteL (bl c)] ++ if c % W = W - 1 then [10] else [])
theorem prL_len (bl : Nat → Bool) (W : Nat) : ∀ c, (prL bl W c).length ≤ 2 * c
  | 0 => by simp [prL]
  | c + 1 => by
    have := prL_len bl W c
    unfold prL
    rw [List.length_append, List.length_append]
    split <;> simp <;> omega
theorem prL_mid (bl : Nat → Bool) {W y : Nat} (h : prL bl W (y * W) = rowsL bl W y) : ∀ x, x < W → prL bl W (y * W + x) = rowsL bl W y ++ rowL bl (y * W) x
  | 0, _ => by simp [h, rowL]
  | x + 1, hx => by
    rw [show y * W + (x + 1) = (y * W + x) + 1 by omega]
    unfold prL
    rw [prL_mid bl h x (by omega)]
    have e : (y * W + x) % W = x := by rw [Nat.mul_comm, Nat.mul_add_mod, Nat.mod_eq_of_lt (by omega)]
    rw [e, if_neg (by omega), rowL_snoc]
    simp
theorem prL_rows (bl : Nat → Bool) {W : Nat} (hW : 1 ≤ W) : ∀ y, prL bl W (y * W) = rowsL bl W y
  | 0 => by simp [prL, rowsL]
  | y + 1 => by
    have ih := prL_rows bl hW y
    have hm := prL_mid bl ih (W - 1) (by omega)
    rw [Nat.succ_mul, show y * W + W = (y * W + (W - 1)) + 1 by omega]
    unfold prL rowsL
    rw [hm]
    have e : (y * W + (W - 1)) % W = W - 1 := by rw [Nat.mul_comm, Nat.mul_add_mod, Nat.mod_eq_of_lt (by omega)]
    rw [e, if_pos rfl]
    have e2 : rowL bl (y * W) W = rowL bl (y * W) (W - 1) ++ [byteL (bl (y * W + (W - 1)))] := by
      conv => lhs; rw [show W = (W - 1) + 1 by omega]
      rw [rowL_snoc, show W - 1 + 1 = W by omega]
    rw [e2]
    simp
theorem head_str (W H : Nat) : str [116, 121, 112, 101, 32, 111, 99, 116, 105, 108, 101, 10, 104, 101, 105, 103, 104, 116, 32] ++ str (Lib.decDigits H) ++ str [10, 119, 105, 100, 116, 104, 32] ++ str (Lib.decDigits W) ++ str [10, 109, 97, 112, 10] = str (headL W H) := by
  rw [str_append, str_append, str_append, str_append]
  congr 1
  unfold headL Lib.itoa
  rw [if_neg (by omega), if_neg (by omega), Int.toNat_natCast, Int.toNat_natCast]
  simp [typeW, heightW, widthW, mapW]
theorem dec_len {n : Nat} (h : n ≤ 16) : (str (Lib.decDigits n)).size ≤ 20 := by
  rw [str_size]
  have := itoa_len20 (n : Int) (by omega) (by omega)
  unfold Lib.itoa at this
  rw [if_neg (by omega), Int.toNat_natCast] at this
  exact this
set_option maxHeartbeats 4000000 in
set_option maxRecDepth 1000000 in
theorem rprint_any {b : Nat} {W H : Nat} {V : Int} {bl : Nat → Bool} (w : World) (g : RefAt w b W H V bl) (hbw : b < w.heap.size) :
    Calls Tryz.prog 23 #[.pointer (some ⟨b, 0, none⟩)] w fun e w' => e = .returned (.string (str (printL bl W H))) ∧ Below w.heap.size w w' := by
  have w1 := g.w1
  have w2 := g.w2
  have h1 := g.h1
  have h2 := g.h2
  have hrow := prL_rows bl (W := W) (by omega) H
  unfold printL
  rw [← hrow]
  have hst := head_str W H
  have s1 := dec_len (n := H) (by omega)
  have s2 := dec_len (n := W) (by omega)
  have HST : Hid (str [116, 121, 112, 101, 32, 111, 99, 116, 105, 108, 101, 10, 104, 101, 105, 103, 104, 116, 32] ++ str (Lib.decDigits H) ++ str [10, 119, 105, 100, 116, 104, 32] ++ str (Lib.decDigits W) ++ str [10, 109, 97, 112, 10] = str (headL W H)) := hst
  have S0 : ∀ x : Since w, x.u.cell? ⟨b, 0, none⟩ = some (.int .i64 W) := fun x => (x.cell _ _ hbw).trans g.c0
  have S1 : ∀ x : Since w, x.u.cell? ⟨b, 1, none⟩ = some (.int .i64 H) := fun x => (x.cell _ _ hbw).trans g.c1
  have hne : Nonempty (Since w) := ⟨⟨w, Below.refl _ _⟩⟩
  clear hst hrow
  have HG : Hid (RefAt w b W H V bl) := g
  clear g
  go_enter Tryz.func23, Tryz.ntmps23
  go_wp2
  refine wp_region_since (by kernel_rfl) (by kernel_rfl) ?_
  repeat (go_big_quiet_step (first | (go_at_call 51; exact Calls.since_of (dec_v rfl (by omega) _))))
  refine wpQuiet_nil ?_
  rintro _ ⟨x, rfl⟩
  have gx := HG.out.below x.h hbw
  have HB : Below w.heap.size w x.u := x.h
  clear S0 S1 hne
  generalize x.u = y at *
  have c0 := gx.c0
  have c1 := gx.c1
  have k2 : W * H ≤ 16 * 16 := Nat.mul_le_mul (by omega) (by omega)
  obtain ⟨N, hN⟩ : ∃ N, W * H = N := ⟨_, rfl⟩
  have hN2 : (W : Int) * (H : Int) = (N : Int) := by rw [← hN, Int.natCast_mul]
  have HN : Hid (W * H = N) := hN
  rw [hN] at k2
  clear hN
  have hhl : (headL W H).length ≤ 100 := by
    have i1 := itoa_len W (by omega) (by omega)
    have i2 := itoa_len H (by omega) (by omega)
    unfold headL
    simp [typeW, heightW, widthW, mapW]
    omega
  go_wp2
  go_loopw [3, 4] (fun s c wr => ∃ (j : Nat), j ≤ N ∧ c = .int .i64 j ∧ s = .string (str (headL W H ++ prL bl W j)) ∧ ∃ m, wr = y.drewN m)
    (fun _ c _ => N - (intOf c).toNat)
  case atStart => exact ⟨0, by omega, rfl, by rw [prL, List.append_nil, ← HST.out]; rfl, 0, rfl⟩
  case round =>
    obtain ⟨j, hj, rfl, rfl, m, rfl⟩ := hrel
    have hpl := prL_len bl W j
    have sx : (str (headL W H ++ prL bl W j)).size ≤ 2000 := by rw [str_size, List.length_append]; omega
    by_cases hlt : j < N
    · have j1 : (0 : Int) ≤ (j : Int) ∧ (j : Int) < (N : Int) ∧ (j : Int) < 256 := by omega
      have cj := gx.cs j (by omega)
      have tm : (j : Int).tmod (W : Int) = ((j % W : Nat) : Int) := by rw [Int.ofNat_tmod]
      have hstep : str (headL W H ++ prL bl W (j + 1)) = str (headL W H ++ prL bl W j) ++ str [byteL (bl j)] ++ str (if j % W = W - 1 then [10] else []) := by
        rw [str_append, str_append, prL]
        simp
      have HS : Hid (str (headL W H ++ prL bl W (j + 1)) = str (headL W H ++ prL bl W j) ++ str [byteL (bl j)] ++ str (if j % W = W - 1 then [10] else [])) := hstep
      clear hstep
      have hw0 : ((W : Int) == 0) = false := by rw [beq_eq_false_iff_ne]; omega
      have hmw : j % W < 16 := Nat.lt_of_lt_of_le (Nat.mod_lt j (by omega)) (by omega)
      generalize hSX : str (headL W H ++ prL bl W j) = SX at *
      clear hSX
      by_cases hq : j % W = W - 1
      · have hqe : (((j % W : Nat) : Int) == (W : Int) - 1) = true := by rw [beq_iff_eq]; omega
        have HQ : Hid (j % W = W - 1) := hq
        clear hq
        generalize j % W = z at *
        cases hb : bl j with
        | true =>
          rw [hb] at cj
          go_wp2
          go_quiet (fail)
          go_wp2
          go_quiet (fail)
          go_wp2
          go_roundw
          case rel => exact ⟨j + 1, by omega, by go_num, by rw [HS.out, if_pos HQ.out, hb]; rfl, _, rfl⟩
          case measure => simp [intOf]; omega
        | false =>
          rw [hb] at cj
          go_wp2
          go_quiet (fail)
          go_wp2
          go_quiet (fail)
          go_wp2
          go_roundw
          case rel => exact ⟨j + 1, by omega, by go_num, by rw [HS.out, if_pos HQ.out, hb]; rfl, _, rfl⟩
          case measure => simp [intOf]; omega
      · have hqe : (((j % W : Nat) : Int) == (W : Int) - 1) = false := by rw [beq_eq_false_iff_ne]; omega
        have HQ : Hid (¬ j % W = W - 1) := hq
        clear hq
        generalize j % W = z at *
        have he : ∀ S : ByteArray, S ++ str [] = S := fun S => by
          apply ByteArray.ext
          rw [ByteArray.data_append]
          simp [str]
        have HE : Hid (∀ S : ByteArray, S ++ str [] = S) := he
        clear he
        cases hb : bl j with
        | true =>
          rw [hb] at cj
          go_wp2
          go_quiet (fail)
          go_wp2
          go_quiet (fail)
          go_wp2
          go_roundw
          case rel => exact ⟨j + 1, by omega, by go_num, by rw [HS.out, if_neg HQ.out, hb, HE.out]; rfl, _, rfl⟩
          case measure => simp [intOf]; omega
        | false =>
          rw [hb] at cj
          go_wp2
          go_quiet (fail)
          go_wp2
          go_quiet (fail)
          go_wp2
          go_roundw
          case rel => exact ⟨j + 1, by omega, by go_num, by rw [HS.out, if_neg HQ.out, hb, HE.out]; rfl, _, rfl⟩
          case measure => simp [intOf]; omega
    · have hjn : j = N := by omega
      subst hjn
      have HM : Hid (H * W = j) := by show H * W = j; rw [Nat.mul_comm]; exact HN.out
      have j2 : ¬ (j : Int) < (j : Int) := by omega
      go_wp2
      go_quiet (fail)
      go_wp2
      go_ret
      exact ⟨by rw [HM.out]; rfl, below_drewN (below_drewN HB _) _⟩
end Go.Proofs.YtipbhlofbpnpjaaGreatDoor
namespace Go.Proofs.YtipbhlofbpnpjaaGreatDoor
open Go.RowKit Go.Lib
theorem four_way {way : List Nat} {s d err : Int} (h : Rt 2 2 (fun _ => false) 0 3 way s d err) : s = 0 ∧ d = 1 ∧ err = 0 ∧ way.length = 2 := by
  have hf : ff2 2 2 (fun _ => false) 0 3 = 0 := by decide
  have e : Edge 2 2 (fun _ => false) 0 3 3 := by unfold Edge; decide
  have hw := wk_edge e
  obtain ⟨z, hv⟩ := h.yes hf hw
  obtain ⟨l, e1, hc, b1, b2, b3, b4⟩ := h.path hf z
  have hlow := oct_low' (by decide) hc.walk
  have hq : octV 2 0 3 = val 0 1 := by decide
  have hs : val (stS 3) (stD 3) = val 0 1 := by decide
  rw [hq] at hlow
  rw [hs] at hv
  obtain ⟨e2, e3⟩ := two_same b2 b4 (by decide) (by decide) hv hlow
  have hl := hc.len
  refine ⟨e2, e3, z, ?_⟩
  rw [e1, List.length_cons]
  omega
set_option maxHeartbeats 1000000 in
set_option maxRecDepth 1000000 in
theorem works_any (w : World) (s : StepsAt w) (dg : DiagAt w) : Calls Tryz.prog 15 #[] w fun e w' => e = .returned (.bool true) ∧ Below w.heap.size w w' := by
  have hn := nnew_any (W := 2) (H := 2) (most := 1) w s (by decide) (by decide) (by decide) (by decide)
  go_enter Tryz.func15, Tryz.ntmps15
  go_wp2_with fail
  refine hn.mono ?_
  rintro e w1 ⟨sb, rfl, S1, hb1⟩
  have ha := ask_any 0 3 w1 S1 (dg.below hb1)
  clear hn
  go_wp2_with fail
  refine ha.mono ?_
  rintro e w2 ⟨v, way, sx, dx, er, rfl, hown, hA, hb2⟩
  obtain ⟨rfl, rfl, rfl, hl⟩ := four_way (hA.right w1 (by decide) (by decide) (by decide) (by decide) (by decide) (by decide))
  obtain ⟨g, cap, rfl, _⟩ := rowN_of hown (by omega)
  have B2 := hb1.trans (hb2.mono hb1.size)
  have B3 : Below w.heap.size w (w2.alloc (.cells #[.slice (some ⟨g, 0, none⟩) way.length cap, .int .i64 0, .int .i64 1, .int .i64 0] 41)) := B2.alloc B2.size _
  clear ha hA hown S1
  rw [hl] at B3
  rw [hl]
  go_wp2
  go_ret
  exact ⟨rfl, B3⟩
def Eqv (W H : Int) (bl bl' : Nat → Bool) : Prop := ∀ n : Nat, (n : Int) < W * H → bl n = bl' n
section
variable {W H : Int} {bl bl' : Nat → Bool}
theorem Eqv.opn (h : Eqv W H bl bl') : openB W H bl = openB W H bl' := by
  funext x y
  unfold openB
  cases ha : atB W H x y with
  | false => rfl
  | true =>
    have q : 0 ≤ x ∧ x < W ∧ 0 ≤ y ∧ y < H := of_decide_eq_true ha
    have h1 : 0 ≤ y * W := Int.mul_nonneg q.2.2.1 (by omega)
    have h2 : (y + 1) * W ≤ H * W := Int.mul_le_mul_of_nonneg_right (by omega) (by omega)
    rw [Int.add_mul, Int.one_mul, Int.mul_comm H W] at h2
    rw [h _ (by omega)]
theorem Eqv.edge (h : Eqv W H bl bl') : Edge W H bl = Edge W H bl' := by
  have hm : mayB W H bl = mayB W H bl' := by
    funext x y k
    unfold mayB
    rw [h.opn]
  unfold Edge
  rw [hm]
theorem Eqv.ffv (h : Eqv W H bl bl') (c : Int) : ffv W H bl c = ffv W H bl' c := by
  unfold Go.Proofs.YtipbhlofbpnpjaaGreatDoor.ffv
  cases hi : inB W H c with
  | false => rfl
  | true =>
    have q : 0 ≤ c ∧ c < W * H := of_decide_eq_true hi
    rw [h _ (by omega)]
theorem Eqv.ff2 (h : Eqv W H bl bl') (a t : Int) : ff2 W H bl a t = ff2 W H bl' a t := by
  unfold Go.Proofs.YtipbhlofbpnpjaaGreatDoor.ff2
  rw [h.ffv, h.ffv]
theorem Eqv.cp (h : Eqv W H bl bl') : ∀ {l : List Nat} {a t s d : Int}, Cp W H bl a l t s d → Cp W H bl' a l t s d
  | [], _, _, _, _, h => h
  | _ :: _, _, _, _, _, ⟨k, e, h1⟩ => ⟨k, by rw [← h.edge]; exact e, h.cp h1⟩
theorem Rt.eqv {a t s d err : Int} {way : List Nat} (r : Rt W H bl a t way s d err) (h : Eqv W H bl bl') : Rt W H bl' a t way s d err := by
  refine ⟨fun q => ?_, fun q k => ?_, fun q {p k} hw => ?_, fun q e => ?_⟩
  · rw [← h.ff2] at q ⊢; exact r.bad q
  · rw [← h.ff2] at q; rw [← h.edge] at k; exact r.no q k
  · rw [← h.ff2] at q; rw [← h.edge] at hw; exact r.yes q hw
  · rw [← h.ff2] at q
    obtain ⟨l, k1, k2, k3⟩ := r.path q e
    exact ⟨l, k1, h.cp k2, k3⟩
def nrm (W H : Nat) (bl : Nat → Bool) : Nat → Bool := cellsF ((List.range (H * W)).map bl)
theorem nrm_eqv {W H : Nat} (bl : Nat → Bool) : Eqv W H (nrm W H bl) bl := fun n hn => by
  have hn' : n < H * W := by rw [Nat.mul_comm]; exact Int.ofNat_lt.1 (by rw [Int.natCast_mul]; exact hn)
  unfold nrm cellsF
  rw [List.getD_eq_getElem?_getD, List.getElem?_map, List.getElem?_range hn']
  rfl
end
structure Srv (w' : World) (lo hi sb mb : Nat) (W H : Nat) (V : Int) (bl : Nat → Bool) (most : Nat) : Prop where
  sv : Sv w' lo hi sb W H (blocks ((List.range (H * W)).map bl)) (nrm W H bl) most
  ra : RefAt w' mb W H V bl
  rf : ∀ o, w'.frozen? ⟨mb, o, none⟩ = false
  lt : mb < lo
  hs : hi ≤ w'.heap.size
  wh : (W : Int) * (H : Int) ≤ 120
set_option maxHeartbeats 4000000 in
set_option maxRecDepth 1000000 in
theorem serve_any (W H most : Int) (A : Option Addr) (n cap : Nat) (xs : Nat → Int) (w : World) (E : Env w) (s : StepsAt w) (hm : n ≤ maxLen) (hx : OldRow w A n xs) :
    Calls Tryz.prog 16 #[.agg #[.int .i64 W, .int .i64 H, .slice A n cap], .int .i64 most] w fun e w' => Below w.heap.size w w' ∧ ((∃ p, e = .returned (.tuple #[.pointer none, p, .bool false])) ∨
      (∃ (sb mb lo Wn Hn mN : Nat) (V : Int) (bl : Nat → Bool), e = .returned (.tuple #[.pointer (some ⟨sb, 0, none⟩), .pointer (some ⟨mb, 0, none⟩), .bool true]) ∧ W = Wn ∧ H = Hn ∧ most = mN ∧ w.heap.size ≤ mb ∧ Srv w' lo w'.heap.size sb mb Wn Hn V bl mN)) := by
  have b0 : Below w.heap.size w (w.alloc (.cells #[.int .i64 W, .int .i64 H, .slice A n cap] 24)) := (Below.refl _ _).alloc (Nat.le_refl _) _
  have q : ∀ o, (w.alloc (.cells #[.int .i64 W, .int .i64 H, .slice A n cap] 24)).cell? ⟨w.heap.size, o, none⟩ = #[Value.int .i64 W, .int .i64 H, .slice A n cap][o]? := fun o => World.cell?_alloc_new ..
  have c0 := q 0
  have c1 := q 1
  have c2 := q 2
  have hLd := laid_any W H A n cap xs _ hm (hx.below b0)
  have hsp := s.pos
  clear q
  go_enter Tryz.func16, Tryz.ntmps16
  go_wp2_with fail
  generalize hwa : w.alloc (.cells #[.int .i64 W, .int .i64 H, .slice A n cap] 24) = wa at *
  have hza : wa.heap.size = w.heap.size + 1 := by rw [← hwa]; simp
  clear hwa c0 c1 c2
  refine hLd.mono ?_
  rintro e w7 ⟨hb7, hcs⟩
  have B7 := b0.trans (hb7.mono b0.size)
  rcases hcs with rfl | ⟨rfl, hsz7, V, bl, hV, hB⟩
  · clear hLd
    go_wp2
    go_quiet (fail)
    go_wp2
    go_ret3
    exact ⟨below_drewN B7 _, Or.inl ⟨_, rfl⟩⟩
  · have hmlow : w.heap.size ≤ wa.heap.size + 1 + 1 := by omega
    generalize wa.heap.size + 1 + 1 = mb at *
    generalize wa.heap.size + 1 = gb at *
    have hra := hB.ra
    have ra0 := hra.c0
    have ra1 := hra.c1
    obtain ⟨Wn, rfl⟩ : ∃ Wn : Nat, W = (Wn : Int) := ⟨W.toNat, by have := hra.w1; omega⟩
    obtain ⟨Hn, rfl⟩ : ∃ Hn : Nat, H = (Hn : Int) := ⟨H.toNat, by have := hra.h1; omega⟩
    have hwh := wh_bd hra.w1 hra.w2 hra.h1 hra.h2
    have hwr : IntKind.i64.wrap ((Wn : Int) * (Hn : Int)) = (Wn : Int) * (Hn : Int) := wrap_small (by omega) (by omega)
    have hml : mb < w7.heap.size := World.block_lt_of_cell? _ _ ra0
    clear hLd b0
    by_cases h120 : 120 < (Wn : Int) * (Hn : Int)
    · clear hB hra
      go_wp2_with fail
      go_quiet (fail)
      go_wp2
      go_ret3
      exact ⟨below_drewN B7 _, Or.inl ⟨_, rfl⟩⟩
    · go_upto_region 2 with fail
      go_cut [31] from 18 to 31 (fun b wd => b = .bool false ∧ Below w7.heap.size w7 wd)
      case first =>
        have d1 : decide (120 < (Wn : Int) * (Hn : Int)) = false := decide_eq_false (by omega)
        clear hB hra
        go_quiet (fail)
        go_wp2_with fail
        go_meet
        exact ⟨rfl, below_drewN (Below.refl _ _) _⟩
      case rest =>
        obtain ⟨rfl, hb8⟩ := hcut
        have B8 := B7.trans (hb8.mono B7.size)
        have hB8 := hB.below' hb8
        have hml8 := Nat.lt_of_lt_of_le hml hb8.size
        have hpr := rprint_any wc hB8.ra hml8
        clear ra0 ra1 hB hra hb8
        go_wp2_with fail
        refine hpr.mono ?_
        rintro e w9 ⟨rfl, hb9⟩
        have B9 := B8.trans (hb9.mono B8.size)
        have hB9 := hB8.below' hb9
        have hml9 := Nat.lt_of_lt_of_le hml8 hb9.size
        have w1' := hB8.ra.w1
        have w2' := hB8.ra.w2
        have h1' := hB8.ra.h1
        have h2' := hB8.ra.h2
        have hrd := read_print bl Wn Hn (by omega) (by omega) (by omega) (by omega)
        generalize printL bl Wn Hn = tx at *
        clear hpr hB8 hb9
        by_cases hm1 : most < 1 ∨ 6 < most
        · have hld := nload_err w9 (E.grown B9) (s.below B9 (by omega)) hrd hm1
          clear hrd
          go_wp2_with fail
          refine hld.mono ?_
          rintro e w10 ⟨rfl, hb10⟩
          clear hld hB9
          go_wp2
          go_ret3
          exact ⟨B9.trans (hb10.mono B9.size), Or.inl ⟨_, rfl⟩⟩
        · obtain ⟨mN, rfl⟩ : ∃ mN : Nat, most = (mN : Int) := ⟨most.toNat, by omega⟩
          have hld := nload_any w9 (E.grown B9) (s.below B9 (by omega)) hrd (show 1 ≤ mN by omega) (show mN ≤ 6 by omega)
          clear hrd
          go_wp2_with fail
          refine hld.mono ?_
          rintro e w10 ⟨sb, rfl, S10, hb10⟩
          have hB10 := hB9.below' hb10
          clear hld hB9
          go_wp2
          go_ret3
          exact ⟨B9.trans (hb10.mono B9.size), Or.inr ⟨sb, mb, w9.heap.size, Wn, Hn, mN, V, bl, rfl, rfl, rfl, rfl, hmlow, S10, hB10.ra, hB10.rf, hml9, Nat.le_refl _, by omega⟩⟩
end Go.Proofs.YtipbhlofbpnpjaaGreatDoor
namespace Go.Proofs.YtipbhlofbpnpjaaGreatDoor
open Go.RowKit
theorem lab_laid (w : World) (F : Int → Option (Int × Int)) :
    ((w.alloc (.cells zC 88)).alloc (.cells zB 63)).there w.heap.size 0 512 ∧ (((w.alloc (.cells zC 88)).alloc (.cells zB 63)).setCells w.heap.size 0 (costL F)).there (w.heap.size + 1) 0 256 ∧
      LabAt ((((w.alloc (.cells zC 88)).alloc (.cells zB 63)).setCells w.heap.size 0 (costL F)).setCells (w.heap.size + 1) 0 (isL F)) w.heap.size (w.heap.size + 1) F ∧
      Below w.heap.size w ((((w.alloc (.cells zC 88)).alloc (.cells zB 63)).setCells w.heap.size 0 (costL F)).setCells (w.heap.size + 1) 0 (isL F)) := by
  have L := LabAt.new w
  have hB : Below w.heap.size w ((w.alloc (.cells zC 88)).alloc (.cells zB 63)) := ((Below.refl _ _).alloc (Nat.le_refl _) _).alloc (by simp) _
  have t0 : ((w.alloc (.cells zC 88)).alloc (.cells zB 63)).there w.heap.size 0 512 := World.there_alloc (new_there w (List.replicate 512 (Value.int .i64 0)) 88 512 List.length_replicate) _
  have t1 : ((w.alloc (.cells zC 88)).alloc (.cells zB 63)).there (w.heap.size + 1) 0 256 := by
    have := new_there (w.alloc (.cells zC 88)) (List.replicate 256 (Value.bool false)) 63 256 List.length_replicate
    rw [show (w.alloc (.cells zC 88)).heap.size = w.heap.size + 1 by simp] at this
    exact this
  have t2 : (((w.alloc (.cells zC 88)).alloc (.cells zB 63)).setCells w.heap.size 0 (costL F)).there (w.heap.size + 1) 0 256 := World.there_setCells t1 _ _ _
  refine ⟨t0, t2, ?_, below_setCells _ (by omega) _ _ (below_setCells _ (Nat.le_refl _) _ _ hB)⟩
  refine labAt_range ?_ ?_ (fun o => ?_) (fun o => ?_) (by omega)
  · exact World.rangeAt_setCells_apart (World.rangeAt_setCells_same _ _ _ _ (by rw [costL_len]; exact t0)) _ _ _ (Or.inl (by omega))
  · exact World.rangeAt_setCells_same _ _ _ _ (by rw [isL_len]; exact t2)
  · rw [World.frozen?_setCells, World.frozen?_setCells]; exact L.zc o
  · rw [World.frozen?_setCells, World.frozen?_setCells]; exact L.zi o
theorem th_of {w : World} {b o n : Nat} {l : List Value} (hl : l.length = n) (h : w.there b o n) : w.there b o l.toArray.size := by rw [List.size_toArray, hl]; exact h
theorem in_of {P : Program} {t : TypeId} {n : Nat} {l : List Value} (hl : l.length = n) (h : (P.info? t).map (·.size) = some n) : (P.info? t).map (·.size) = some l.toArray.size := by rw [List.size_toArray, hl]; exact h
end Go.Proofs.YtipbhlofbpnpjaaGreatDoor
namespace Go.Proofs.YtipbhlofbpnpjaaGreatDoor
open Go.RowKit Go.Lib
theorem oldRow_of {w : World} {base : Nat} {v : Value} {l : List Nat} (h : w.ownsRow base 3 1 v l.length (vals l)) : ∃ A cap, v = .slice A l.length cap ∧ OldRow w A l.length (fun i => ((l.getD i 0 : Nat) : Int)) ∧ (l = [] → True) := by
  rcases Nat.eq_zero_or_pos l.length with h0 | h0
  · have e : l = [] := List.length_eq_zero_iff.1 h0
    subst e
    rcases h.2 with ⟨rfl, _⟩ | ⟨g, cap, _, rfl, _⟩
    · exact ⟨none, 0, rfl, fun i hi => absurd hi (Nat.not_lt_zero i), fun _ => trivial⟩
    · exact ⟨_, cap, rfl, fun i hi => absurd hi (Nat.not_lt_zero i), fun _ => trivial⟩
  · obtain ⟨g, cap, rfl, hr, _, hg, _⟩ := rowN_of h h0
    refine ⟨_, cap, rfl, fun i hi => ⟨g, 0, rfl, hg, ?_⟩, fun _ => trivial⟩
    have e : l[i]? = some (l.getD i 0) := by
      rw [List.getD_eq_getElem?_getD, List.getElem?_eq_getElem hi]; rfl
    have := hr i _ (vals_at e)
    rwa [Addr.add_lit] at this
theorem Rt.reads {W H : Int} {bl : Nat → Bool} {a t s d err : Int} {way : List Nat} {F : Int → Option (Int × Int)} (R : Rt W H bl a t way s d err) (w1 : 1 ≤ W) (hf : ff2 W H bl a t = 0) (B : Best (Edge W H bl) a F) : (F t = none ∧ err = 5 ∧ way = [] ∧ s = 0 ∧ d = 0) ∨
    (F t = some (s, d) ∧ err = 0 ∧ 0 < way.length ∧ wkV W H bl (fun i => ((way.getD i 0 : Nat) : Int)) way.length = ((s, d), 0) ∧ ((way.getD 0 0 : Nat) : Int) = a ∧ ((way.getD (way.length - 1) 0 : Nat) : Int) = t) := by
  cases hF : F t with
  | none =>
    left
    refine ⟨rfl, R.no hf (fun p q hw => ?_)⟩
    obtain ⟨s', d', e, _⟩ := B.least hw
    rw [hF] at e
    cases e
  | some c =>
    right
    obtain ⟨s', d'⟩ := c
    obtain ⟨z, hv⟩ := R.yes hf (B.sound hF)
    obtain ⟨l, rfl, hc, b1, b2, b3, b4⟩ := R.path hf z
    obtain ⟨s2, d2, e1, e2⟩ := B.least hc.walk
    rw [hF] at e1
    cases e1
    obtain ⟨q1, q2, q3⟩ := B.small hF
    obtain ⟨q4, q5⟩ := val_small q1 q2 q3
    obtain ⟨r1, r2⟩ := two_same b2 b4 q2 q5 hv e2
    subst r1 r2
    obtain ⟨⟨i1, i2⟩, _⟩ := ff2_ok hf
    have i3 : 0 ≤ a ∧ a < W * H := of_decide_eq_true i1
    obtain ⟨aN, rfl⟩ : ∃ aN : Nat, a = (aN : Int) := ⟨a.toNat, by omega⟩
    rw [Int.toNat_natCast] at *
    obtain ⟨k1, k2⟩ := hc.wkV w1 i1 i2
    exact ⟨rfl, z, Nat.succ_pos _, k1, rfl, k2⟩
set_option maxHeartbeats 8000000 in
set_option maxRecDepth 1000000 in
theorem right_any {xb mb base : Nat} {W H V a t s d err : Int} {bl : Nat → Bool} {way : List Nat} {v : Value} (w : World) (cx : w.cell? ⟨xb, 0, none⟩ = some (.pointer (some ⟨mb, 0, none⟩))) (g : RefAt w mb W H V bl) (hown : w.ownsRow base 3 1 v way.length (vals way)) (R : Rt W H bl a t way s d err) :
    Calls Tryz.prog 17 #[.pointer (some ⟨xb, 0, none⟩), .int .i64 a, .int .i64 t, .agg #[v, .int .i64 s, .int .i64 d, .int .i64 err]] w fun e w' => e = .returned (.bool true) ∧ Below w.heap.size w w' := by
  obtain ⟨A, cap, rfl, hold, _⟩ := oldRow_of hown
  have hlx := World.block_lt_of_cell? _ _ cx
  have hlm := World.block_lt_of_cell? _ _ g.c0
  have b0 : Below w.heap.size w (w.alloc (.cells #[.slice A way.length cap, .int .i64 s, .int .i64 d, .int .i64 err] 41)) := (Below.refl _ _).alloc (Nat.le_refl _) _
  have an0 := An.new w (.slice A way.length cap) s d err
  have cx0 := (b0.cell hlx).trans cx
  have hf1 := ff_any a _ (g.below b0 hlm)
  have hln := R.len
  go_enter Tryz.func17, Tryz.ntmps17
  go_wp2_with fail
  generalize w.alloc (.cells #[.slice A way.length cap, .int .i64 s, .int .i64 d, .int .i64 err] 41) = wa at *
  refine hf1.mono ?_
  rintro e wb ⟨rfl, hb1⟩
  have B1 := b0.trans (hb1.mono b0.size)
  have an1 := an0.below hb1
  have cx1 := (B1.cell hlx).trans cx
  clear hf1 an0 cx0 hb1 b0
  have ffp : ∀ c, ¬ ffv W H bl c = 0 → 0 < ffv W H bl c := fun c h => by unfold ffv at h ⊢; split <;> (try split) <;> simp_all
  by_cases hza : ffv W H bl a = 0
  · have hf2 := ff_any t wb (g.below B1 hlm)
    rw [hza]
    go_wp2_with fail
    refine hf2.mono ?_
    rintro e wd ⟨rfl, hb2⟩
    have B2 := B1.trans (hb2.mono B1.size)
    have an2 := an1.below hb2
    have cx2 := (B2.cell hlx).trans cx
    clear hf2 an1 cx1 hb2
    by_cases hzt : ffv W H bl t = 0
    · have hf : ff2 W H bl a t = 0 := by unfold ff2; rw [if_pos hza]; exact hzt
      obtain ⟨⟨hia, hfa⟩, ⟨hit, hft⟩⟩ := ff2_ok hf
      have ja : 0 ≤ a ∧ a < W * H := of_decide_eq_true hia
      have jt : 0 ≤ t ∧ t < W * H := of_decide_eq_true hit
      obtain ⟨aN, rfl⟩ : ∃ aN : Nat, a = (aN : Int) := ⟨a.toNat, by omega⟩
      obtain ⟨tN, rfl⟩ : ∃ tN : Nat, t = (tN : Int) := ⟨t.toNat, by omega⟩
      have w1' := g.w1
      have hwh := wh_bd g.w1 g.w2 g.h1 g.h2
      rw [hzt]
      have sl3 := Slot.new wd 0 0
      have b3 : Below wd.heap.size wd (wd.alloc (.cells #[.int .i64 0, .int .i64 0] 38)) := (Below.refl _ _).alloc (Nat.le_refl _) _
      have B3 := B2.trans (b3.mono B2.size)
      have an3 := an2.below b3
      have cx3 := (B3.cell hlx).trans cx
      have hfl := rflood_any aN _ (g.below B3 hlm) (Nat.lt_of_lt_of_le hlm B3.size) hia
      have hwC : w.heap.size < wd.heap.size := World.block_lt_of_cell? _ _ an2.c0
      clear an2 cx2 b3
      go_wp2_with fail
      generalize wd.alloc (.cells #[.int .i64 0, .int .i64 0] 38) = we at *
      generalize wd.heap.size = C at *
      refine hfl.mono ?_
      rintro e w21 ⟨F, rfl, BF, hb21⟩
      obtain ⟨t54, t55, LA, hbL⟩ := lab_laid w21 F
      have o1 := costL_one F
      have o2 := isL_one F
      have hcl := costL_len F
      have hil := isL_len F
      have hb22 := hb21.trans (hbL.mono hb21.size)
      have B22 := B3.trans (hb22.mono B3.size)
      have an4 := an3.below hb22
      have sl4 := sl3.below hb22
      have cx4 := (B22.cell hlx).trans cx
      have x0 := sl4.c0
      have x1 := sl4.c1
      have x2 := sl4.z0
      have x3 := sl4.z1
      have tlt : tN < 256 := by omega
      have y0 := LA.i0 tN tlt
      have y1 := LA.c0 tN tlt
      have y2 := LA.c1 tN tlt
      have i1 : (0 : Int) ≤ (tN : Int) := by omega
      have i2 : (tN : Int) < 256 := by omega
      have hcib : ∀ {q : Nat}, q = w21.heap.size ∨ q = w21.heap.size + 1 → q ≠ C := fun {q} h e => by
        have l1 : C < we.heap.size := World.block_lt_of_cell? _ _ sl3.c0
        have l2 := hb21.size
        omega
      have hrd := R.reads w1' hf BF
      clear hfl hb21 hbL hb22 BF an3 sl3 cx3
      generalize costL F = cs at *
      generalize isL F = is' at *
      have hsc := run_storeCells_cells (P := Tryz.prog) (w21.heap.size + 1) 0 is' 0 (((w21.alloc (.cells zC 88)).alloc (.cells zB 63)).setCells w21.heap.size 0 cs) (fun j hj => by simpa using (t55 j (by omega)).1) (fun j hj => by simpa using (t55 j (by omega)).2) o2
      simp only [Nat.add_zero] at hsc
      go_upto_region 7 with (first | (refine wpList_alloc54 rfl rfl ?_) | (refine wpList_alloc55 rfl rfl ?_) | (refine wpList_store_mid rfl 88 _ _ rfl _ _ cs.toArray rfl rfl (th_of hcl t54) (in_of hcl info54) (all_oneCell_toArray o1) ?_) | (refine wpList_store_mid rfl 63 _ _ rfl _ _ is'.toArray rfl rfl (th_of hil t55) (in_of hil info55) (all_oneCell_toArray o2) ?_))
      clear hsc o1 o2 hcl hil t54 t55
      generalize (((w21.alloc (.cells zC 88)).alloc (.cells zB 63)).setCells w21.heap.size 0 cs).setCells (w21.heap.size + 1) 0 is' = w22 at *
      generalize w21.heap.size + 1 = IB at *
      generalize w21.heap.size = CB at *
      have hCI := hcib (Or.inr rfl)
      have hCC := hcib (Or.inl rfl)
      clear hcib
      rcases hrd with ⟨hF, rfl, rfl, rfl, rfl⟩ | ⟨hF, rfl, hl0, hwk, hfst, hlst⟩
      · obtain ⟨e1, e2⟩ := lab_none hF
        rw [e1] at y1
        rw [e2] at y2
        rw [hF] at y0
        simp only [Option.isSome_none] at y0
        have S5 := sl4.set 0 0
        have K5 := set_keep w22 C 0 0
        have y0' := K5.cellOf y0 hCI
        have an5 := an4.keep K5 (Nat.ne_of_lt hwC)
        have u0 := an5.c0
        have u1 := an5.c1
        have u2 := an5.c2
        have u3 := an5.c3
        have B5 : Below w.heap.size w ((w22.setCell ⟨C, 0, none⟩ (.int .i64 0)).setCell ⟨C, 1, none⟩ (.int .i64 0)) := (B22.setCell (p := ⟨C, 0, none⟩) (Nat.le_of_lt hwC) _).setCell (p := ⟨C, 1, none⟩) (Nat.le_of_lt hwC) _
        clear K5 S5
        go_wp2
        go_ret
        exact ⟨rfl, B5⟩
      · obtain ⟨e1, e2⟩ := lab_some hF
        rw [e1] at y1
        rw [e2] at y2
        rw [hF] at y0
        simp only [Option.isSome_some] at y0
        have S5 := sl4.set s d
        have K5 := set_keep w22 C s d
        have y0' := K5.cellOf y0 hCI
        have an5 := an4.keep K5 (Nat.ne_of_lt hwC)
        have B5 : Below w.heap.size w ((w22.setCell ⟨C, 0, none⟩ (.int .i64 s)).setCell ⟨C, 1, none⟩ (.int .i64 d)) := (B22.setCell (p := ⟨C, 0, none⟩) (Nat.le_of_lt hwC) _).setCell (p := ⟨C, 1, none⟩) (Nat.le_of_lt hwC) _
        have cx5 := (B5.cell hlx).trans cx
        obtain ⟨n, hn⟩ : ∃ n, way.length = n + 1 := ⟨way.length - 1, by omega⟩
        obtain ⟨bA, oA, rfl, hbA, r0⟩ := hold 0 hl0
        obtain ⟨bA', oA', eA, _, rn⟩ := hold (way.length - 1) (by omega)
        cases eA
        have q0 : w.cell? ⟨bA, oA, none⟩ = some (.int .i64 (aN : Int)) := by rw [← hfst]; exact r0
        have qn : w.cell? ⟨bA, oA + n, none⟩ = some (.int .i64 (tN : Int)) := by
          rw [← hlst, show n = way.length - 1 by omega]; exact rn
        have HW : Hid (∀ w', Below w.heap.size w w' → Calls Tryz.prog 33 #[.pointer (some ⟨mb, 0, none⟩), .slice (some ⟨bA, oA, none⟩) (n + 1) cap] w' fun e w'' => e = .returned (.tuple #[.agg #[.int .i64 s, .int .i64 d], .int .i64 0]) ∧ Below w'.heap.size w' w'') := fun w' hb => by
          have h := rwalk_any (cap := cap) w' (g.below hb hlm) (Nat.lt_of_lt_of_le hlm hb.size) (hold.below hb) (show way.length ≤ 1000 by omega)
          rw [hwk, hn] at h
          exact h
        rw [hn] at an5 ⊢
        clear K5 an4 cx4 r0 rn hwk hfst hlst hold hown sl4 LA y0 hza hzt ffp
        go_upto_region 12 with fail
        clear y0' y1 y2 x0 x1 x2 x3
        generalize (w22.setCell ⟨C, 0, none⟩ (.int .i64 s)).setCell ⟨C, 1, none⟩ (.int .i64 d) = W5 at *
        have z5 := B5.size
        go_cut [13, 14] from 66 to 75 (fun pv fv wd => ∃ T, pv = .pointer (some ⟨T, 0, none⟩) ∧ fv = .int .i64 0 ∧ Slot wd T s d ∧ Below W5.heap.size W5 wd)
        case first =>
          have c0 := an5.c0
          have e0 : Below W5.heap.size W5 W5.drew := (Below.refl _ _).drew
          have eA : Below W5.heap.size W5 (W5.drew.alloc (.cells #[.int .i64 0, .int .i64 0] 38)) := e0.alloc e0.size _
          have sA : Slot (W5.drew.alloc (.cells #[.int .i64 0, .int .i64 0] 38)) W5.heap.size 0 0 := Slot.new W5.drew 0 0
          have CC : Hid (∀ w', Below W5.heap.size W5 w' → w'.cell? ⟨xb, 0, none⟩ = some (.pointer (some ⟨mb, 0, none⟩)) ∧ w'.cell? ⟨w.heap.size, 0, none⟩ = some (.slice (some ⟨bA, oA, none⟩) (n + 1) cap)) := fun w' h => ⟨(h.cell (World.block_lt_of_cell? W5 _ cx5)).trans cx5, (h.cell (World.block_lt_of_cell? W5 _ c0)).trans c0⟩
          have HW2 : Hid (∀ w', Below W5.heap.size W5 w' → _) := fun w' hb => HW.out w' (B5.trans (hb.mono z5))
          clear c0 cx5 an5 S5
          go_region_held3 (fun w' => w'.cell? ⟨xb, 0, none⟩ = some (.pointer (some ⟨mb, 0, none⟩)) ∧ w'.cell? ⟨w.heap.size, 0, none⟩ = some (.slice (some ⟨bA, oA, none⟩) (n + 1) cap)) (first | exact CC.out _ e0 | exact CC.out _ eA | exact CC.out _ e6 | exact CC.out _ (e6.alloc e6.size _) | exact CC.out _ ((e6.setCell (p := ⟨W5.heap.size, 0, none⟩) (Nat.le_refl _) _).setCell (p := ⟨W5.heap.size, 1, none⟩) (Nat.le_refl _) _))
            (first | (go_at_call 33; first | (refine (HW2.out _ e0).mono ?_; rintro r w6 ⟨rfl, hb6⟩; have e6 := e0.trans (hb6.mono e0.size)) | (refine (HW2.out _ eA).mono ?_; rintro r w6 ⟨rfl, hb6⟩; have e6 := eA.trans (hb6.mono eA.size); have s6 := sA.below hb6; have g0 := s6.c0; have g1 := s6.c1; have g2 := s6.z0; have g3 := s6.z1)))
          all_goals
            go_wp2_with fail
            go_meet
            first
              | exact ⟨_, rfl, rfl, Slot.new w6 _ _, e6.alloc e6.size _⟩
              | exact ⟨_, rfl, rfl, s6.set _ _, (e6.setCell (p := ⟨W5.heap.size, 0, none⟩) (Nat.le_refl _) _).setCell (p := ⟨W5.heap.size, 1, none⟩) (Nat.le_refl _) _⟩
        case rest =>
          obtain ⟨T, rfl, rfl, slT, hb7⟩ := hcut
          have B7 := B5.trans (hb7.mono z5)
          have an7 := an5.below hb7
          have s7 := S5.below hb7
          have u0 := an7.c0
          have u1 := an7.c1
          have u2 := an7.c2
          have u3 := an7.c3
          have v0 := s7.c0
          have v1 := s7.c1
          have t0 := slT.c0
          have t1 := slT.c1
          have q0' := (B7.cell (World.block_lt_of_cell? _ _ q0)).trans q0
          have qn' := (B7.cell (World.block_lt_of_cell? _ _ qn)).trans qn
          clear an5 S5 cx5 HW hb7 q0 qn slT s7 an7
          go_wp2
          go_ret
          exact ⟨rfl, B7⟩
    · have hbd : ff2 W H bl a t ≠ 0 := by unfold ff2; rw [if_pos hza]; exact hzt
      obtain ⟨e1, e2, e3, e4⟩ := R.bad hbd
      have e5 : err = ffv W H bl t := by rw [e1]; unfold ff2; rw [if_pos hza]
      have hp := ffp t hzt
      clear e1 hbd
      subst e2 e3 e4
      rw [e5] at an2
      generalize ffv W H bl t = n at *
      have b3 : Below wd.heap.size wd (wd.alloc (.cells #[.int .i64 0, .int .i64 0] 38)) := (Below.refl _ _).alloc (Nat.le_refl _) _
      have B3 := B2.trans (b3.mono B2.size)
      have an3 := an2.below b3
      have x0 := an3.c0
      have x1 := an3.c1
      have x2 := an3.c2
      have x3 := an3.c3
      clear b3 an2 e5
      go_wp2
      go_ret
      exact ⟨rfl, B3⟩
  · have hbd : ff2 W H bl a t ≠ 0 := by unfold ff2; rw [if_neg hza]; exact hza
    obtain ⟨e1, e2, e3, e4⟩ := R.bad hbd
    have e5 : err = ffv W H bl a := by rw [e1]; unfold ff2; rw [if_neg hza]
    have hp := ffp a hza
    clear e1 hbd
    subst e2 e3 e4
    rw [e5] at an1
    generalize ffv W H bl a = n at *
    have b3 : Below wb.heap.size wb (wb.alloc (.cells #[.int .i64 0, .int .i64 0] 38)) := (Below.refl _ _).alloc (Nat.le_refl _) _
    have B3 := B1.trans (b3.mono B1.size)
    have an3 := an1.below b3
    have x0 := an3.c0
    have x1 := an3.c1
    have x2 := an3.c2
    have x3 := an3.c3
    clear b3 an1 e5 cx1
    go_wp2
    go_ret
    exact ⟨rfl, B3⟩
end Go.Proofs.YtipbhlofbpnpjaaGreatDoor
