/- -/
import Derived.Test.YtipbhlofbpnpjaaGreatDoorLkM
namespace Go.Proofs.YtipbhlofbpnpjaaGreatDoor
open Go.RowKit Go.Lib
set_option maxHeartbeats 8000000 in
set_option maxRecDepth 1000000 in
theorem topLook_any (W H most : Int) (A : Option Addr) (n cap : Nat) (xs : Nat → Int) (c dir : Int) (w : World) (E : Env w) (s : StepsAt w) (dg : DiagAt w) (hm : n ≤ maxLen) (hx : OldRow w A n xs) :
    Calls Tryz.prog 12 #[.agg #[.int .i64 W, .int .i64 H, .slice A n cap], .int .i64 most, .int .i64 c, .int .i64 dir] w fun e w' => e = .returned (.bool true) ∧ Below w.heap.size w w' := by
  have hsp := s.pos
  have b0 : Below w.heap.size w (w.alloc (.cells #[.int .i64 W, .int .i64 H, .slice A n cap] 24)) := (Below.refl _ _).alloc (Nat.le_refl _) _
  have q : ∀ o, (w.alloc (.cells #[.int .i64 W, .int .i64 H, .slice A n cap] 24)).cell? ⟨w.heap.size, o, none⟩ = #[Value.int .i64 W, .int .i64 H, .slice A n cap][o]? := fun o => World.cell?_alloc_new ..
  have hwk := works_any _ (s.below b0 (by omega)) (dg.below b0)
  go_enter Tryz.func12, Tryz.ntmps12
  go_wp2_with fail
  have hz0 : w.heap.size < (w.alloc (.cells #[.int .i64 W, .int .i64 H, .slice A n cap] 24)).heap.size := by simp
  generalize w.alloc (.cells #[.int .i64 W, .int .i64 H, .slice A n cap] 24) = wa at *
  refine hwk.mono ?_
  rintro e wb ⟨rfl, hb1⟩
  have B1 := b0.trans (hb1.mono b0.size)
  have c0 := (hb1.cell (p := ⟨w.heap.size, 0, none⟩) hz0).trans (q 0)
  have c1 := (hb1.cell (p := ⟨w.heap.size, 1, none⟩) hz0).trans (q 1)
  have c2 := (hb1.cell (p := ⟨w.heap.size, 2, none⟩) hz0).trans (q 2)
  have hsv := serve_any W H most A n cap xs wb (E.grown B1) (s.below B1 (by omega)) hm (hx.below B1)
  clear hwk q b0 hb1 hz0
  go_wp2_with fail
  refine hsv.mono ?_
  rintro e wc ⟨hb2, hcs⟩
  have B2 := B1.trans (hb2.mono B1.size)
  clear hsv c0 c1 c2
  rcases hcs with ⟨p, rfl⟩ | ⟨sb, mb, lo, Wn, Hn, mN, V, bl, rfl, rfl, rfl, rfl, hmb, SR⟩
  · go_wp2
    go_ret
    exact ⟨rfl, B2⟩
  · have hlk := nlook_any (c := c) (d := dir) wc SR.sv
    have hS := SR.sv
    have dC := dg.below B2
    obtain ⟨w1, w2, h1, h2⟩ := hS.side
    obtain ⟨m1, m6⟩ := hS.mst
    have HA : Hid (∀ w', Below wc.heap.size wc w' → ∀ a t, _) := fun w' hb a t => ask_rt a t w' (hS.below hb) (dC.below hb)
    have hR := SR.ra
    have lmb := World.block_lt_of_cell? _ _ hR.c0
    have hev := (nrm_eqv (W := Wn) (H := Hn) bl).may
    have hwh := wh_bd w1 w2 h1 h2
    clear SR
    go_wp2_with fail
    refine hlk.mono ?_
    rintro e wd ⟨hb3, hcs⟩
    have B3 := B2.trans (hb3.mono B2.size)
    clear hlk
    rcases hcs with ⟨hbad, rfl⟩ | ⟨hic, k, rfl, hk, rfl⟩
    · rcases hbad with hic | ⟨hic, hdd⟩
      · have his := ris_out c wd (hR.below hb3 lmb) hic
        go_wp2_with fail
        refine his.mono ?_
        rintro e we ⟨rfl, m, rfl⟩
        go_wp2
        go_ret
        exact ⟨rfl, below_drewN B3 _⟩
      · have his := ris_in c wd (hR.below hb3 lmb) hic
        go_wp2_with fail
        refine his.mono ?_
        rintro e we ⟨rfl, m, rfl⟩
        by_cases hd0 : dir < 0
        · clear hdd
          go_wp2
          go_ret
          exact ⟨rfl, below_drewN B3 _⟩
        · have hd8 : 7 < dir := by omega
          clear hdd
          go_wp2
          go_ret
          exact ⟨rfl, below_drewN B3 _⟩
    · have hn16 := clr_le Wn Hn (nrm Wn Hn bl) (c % Wn) (c / Wn) k
      have L0 := LkAt.start (bl := nrm Wn Hn bl) (d := k) hic
      have hcb : 0 ≤ c ∧ c < (Wn : Int) * (Hn : Int) := of_decide_eq_true hic
      generalize clr Wn Hn (nrm Wn Hn bl) (c % Wn) (c / Wn) k = n0 at *
      have HRF : Hid (∀ w', Below wc.heap.size wc w' → RefAt w' mb Wn Hn V bl) := fun w' hb => hR.below hb lmb
      go_wp2
      go_loopw [14, 15] (fun av kv wr => ∃ (j : Nat) (p : Int), j ≤ n0 ∧ kv = .int .i64 ((j : Int) + 1) ∧ av = .int .i64 p ∧ Hid (LkAt Wn Hn (nrm Wn Hn bl) c k n0 j p) ∧ Below wc.heap.size wc wr)
        (fun _ i _ => n0 + 1 - (intOf i).toNat)
      case atStart => exact ⟨0, c, Nat.zero_le _, by go_num, rfl, L0, hb3⟩
      case round =>
        obtain ⟨j, p, hj, rfl, rfl, hL, hB⟩ := hrel
        have BW := B2.trans (hB.mono B2.size)
        have hpi : 0 ≤ p ∧ p < (Wn : Int) * (Hn : Int) := of_decide_eq_true hL.out.i
        by_cases hlt : j < n0
        · have j1 : (j : Int) + 1 ≤ (n0 : Int) := by omega
          have HLn : Hid (LkAt Wn Hn (nrm Wn Hn bl) c k n0 (j + 1) (p + (stepY k * Wn + stepX k))) := hL.out.next w1 w2 h2 hk hlt
          obtain ⟨p2, hp2⟩ : ∃ p2, p + (stepY k * Wn + stepX k) = p2 := ⟨_, rfl⟩
          have hto := rto_v (b := mb) (W := Wn) (H := Hn) (V := V) (bl := bl) (c := p) (d := k) hp2 wr (HRF.out _ hB) hk (by omega) (by omega)
          rw [hp2] at HLn
          clear hp2 hL
          go_wp2_with fail
          refine hto.mono ?_
          rintro e w5 ⟨rfl, rfl⟩
          clear hto
          go_wp2_with fail
          refine (HA.out _ hB _ _).mono ?_
          rintro e v2 ⟨A2, cap2, way2, s2, d2, r2, rfl, own2, old2, ans2, rt2, hb2'⟩
          have E2 := hB.trans (hb2'.mono hB.size)
          have D2 : Below wc.heap.size wc (v2.alloc (.cells #[.slice A2 way2.length cap2, .int .i64 s2, .int .i64 d2, .int .i64 r2] 41)) := E2.alloc E2.size _
          have n2 := An.new v2 (.slice A2 way2.length cap2) s2 d2 r2
          have g2 : Below v2.heap.size v2 (v2.alloc (.cells #[.slice A2 way2.length cap2, .int .i64 s2, .int .i64 d2, .int .i64 r2] 41)) := (Below.refl _ _).alloc (Nat.le_refl _) _
          have U2 := hB.trans ((hb2'.trans (g2.mono hb2'.size)).mono hB.size)
          have HK : Hid (r2 = 0 ∧ s2 = ((j + 1 : Nat) : Int) * stS k ∧ d2 = ((j + 1 : Nat) : Int) * stD k) := HLn.out.cost w1 hic hk hn16 (Nat.succ_pos j) rt2
          go_upto_region 16 with fail
          generalize v2.alloc (.cells #[.slice A2 way2.length cap2, .int .i64 s2, .int .i64 d2, .int .i64 r2] 41) = u2 at *
          generalize v2.heap.size = P2 at *
          clear own2 old2 ans2 g2 E2 rt2 hb2' D2
          obtain ⟨k1, k2, k3⟩ := HK.out
          have hcst := st_kind k2 k3
          subst k1
          have x1 := n2.c1
          have x2 := n2.c2
          have x3 := n2.c3
          have b4 : Below u2.heap.size u2 (u2.alloc (.cells #[.int .i64 ((j : Int) + 1), .int .i64 0] 38)) := (Below.refl _ _).alloc (Nat.le_refl _) _
          have n4 := n2.below b4
          have x1' := n4.c1
          have x2' := n4.c2
          have x3' := n4.c3
          clear k2 k3
          rcases hcst with ⟨q, rfl, rfl⟩ | ⟨q, rfl, rfl⟩
          · have hrm : Int.tmod (k : Int) 2 = 0 := by rw [Int.tmod_eq_emod_of_nonneg (by omega)]; omega
            have U4 := U2.trans (b4.mono U2.size)
            go_wp2
            go_roundw
            case rel => exact ⟨j + 1, p2, by omega, by go_num, rfl, HLn.out, U4⟩
            case measure => simp [intOf]; omega
          · have hrm : Int.tmod (k : Int) 2 = 1 := by rw [Int.tmod_eq_emod_of_nonneg (by omega)]; omega
            have b6 : Below u2.heap.size u2 (u2.alloc (.cells #[.int .i64 0, .int .i64 ((j : Int) + 1)] 38)) := (Below.refl _ _).alloc (Nat.le_refl _) _
            have n6 := n2.below b6
            have a1 := n6.c1
            have a2 := n6.c2
            have a3 := n6.c3
            go_wp2
            go_roundw
            case rel => exact ⟨j + 1, p2, by omega, by go_num, rfl, HLn.out, U2.alloc U2.size _⟩
            case measure => simp [intOf]; omega
        · have e : j = n0 := by omega
          subst e
          have hmf := hL.out.last w2 h2 hk
          rw [hev] at hmf
          obtain ⟨x1, x2, y1, y2⟩ := place_bd w1 hL.out.i
          have t1 : Int.tmod p Wn = p % Wn := Int.tmod_eq_emod_of_nonneg hpi.1
          have t2 : Int.tdiv p Wn = p / Wn := Int.tdiv_eq_ediv_of_nonneg hpi.1
          have u1 : IntKind.i64.wrap (p / (Wn : Int)) = p / Wn := wrap_small (by omega) (by omega)
          have hne : (Wn : Int) ≠ 0 := by omega
          have hne2 : ¬ Wn = 0 := by omega
          have HM : Hid (∀ w', Below wr.heap.size wr w' → _) := fun w' hb => rmay_v hmf w' (HRF.out _ (hB.trans (hb.mono hB.size))) hk (by omega) (by omega) (by omega) (by omega)
          have ra := (HRF.out _ hB).c0
          have CC : Hid (∀ w', Below wr.heap.size wr w' → w'.cell? ⟨mb, 0, none⟩ = some (.int .i64 (Wn : Int))) := fun w' h => (h.cell (World.block_lt_of_cell? wr _ ra)).trans ra
          clear hmf hL
          generalize p % (Wn : Int) = px at *
          generalize p / (Wn : Int) = py at *
          go_upto_region 21 with fail
          have e0 : Below wr.heap.size wr wr.drew := (Below.refl _ _).drew
          clear ra
          go_region_held3 (fun w' => w'.cell? ⟨mb, 0, none⟩ = some (.int .i64 (Wn : Int))) (first | exact CC.out _ e0 | exact CC.out _ e5)
            (first | (go_at_call 36; refine (HM.out _ e0).mono ?_; rintro r w5 ⟨rfl, m5, hw5⟩; have e5 : Below wr.heap.size wr w5 := (by rw [hw5]; exact below_drewN e0 _); clear hw5))
          go_wp2
          go_ret
          exact ⟨rfl, BW.trans (e5.mono BW.size)⟩
end Go.Proofs.YtipbhlofbpnpjaaGreatDoor
