/- -/
import Derived.Test.YtipbhlofbpnpjaaGreatDoorNv8
namespace Go.Proofs.YtipbhlofbpnpjaaGreatDoor
open Go.RowKit Go.Lib
set_option maxHeartbeats 8000000 in
set_option maxRecDepth 1000000 in
theorem topBack_any (W H most : Int) (A : Option Addr) (n cap : Nat) (xs : Nat → Int) (a b c : Int) (w : World) (E : Env w) (s : StepsAt w) (dg : DiagAt w) (hm : n ≤ maxLen) (hx : OldRow w A n xs) :
    Calls Tryz.prog 7 #[.agg #[.int .i64 W, .int .i64 H, .slice A n cap], .int .i64 most, .int .i64 a, .int .i64 b, .int .i64 c] w fun e w' => e = .returned (.bool true) ∧ Below w.heap.size w w' := by
  have hsp := s.pos
  have b0 : Below w.heap.size w (w.alloc (.cells #[.int .i64 W, .int .i64 H, .slice A n cap] 24)) := (Below.refl _ _).alloc (Nat.le_refl _) _
  have q : ∀ o, (w.alloc (.cells #[.int .i64 W, .int .i64 H, .slice A n cap] 24)).cell? ⟨w.heap.size, o, none⟩ = #[Value.int .i64 W, .int .i64 H, .slice A n cap][o]? := fun o => World.cell?_alloc_new ..
  have hwk := works_any _ (s.below b0 (by omega)) (dg.below b0)
  go_enter Tryz.func7, Tryz.ntmps7
  go_wp2_with fail
  have hz0 : w.heap.size < (w.alloc (.cells #[.int .i64 W, .int .i64 H, .slice A n cap] 24)).heap.size := by simp
  generalize w.alloc (.cells #[.int .i64 W, .int .i64 H, .slice A n cap] 24) = wa at *
  refine hwk.mono ?_
  rintro e wb ⟨rfl, hb1⟩
  have B1 := b0.trans (hb1.mono b0.size)
  have c0 := (hb1.cell (p := ⟨w.heap.size, 0, none⟩) hz0).trans (q 0)
  have c1 := (hb1.cell (p := ⟨w.heap.size, 1, none⟩) hz0).trans (q 1)
  have c2 := (hb1.cell (p := ⟨w.heap.size, 2, none⟩) hz0).trans (q 2)
  have hsv := serve_any W H most A n cap xs wb (E.grown B1) (s.below B1 (by omega)) hm (hx.below B1)
  clear hwk q b0 hb1 hz0
  go_wp2_with fail
  refine hsv.mono ?_
  rintro e wc ⟨hb2, hcs⟩
  have B2 := B1.trans (hb2.mono B1.size)
  clear hsv c0 c1 c2
  rcases hcs with ⟨p, rfl⟩ | ⟨sb, mb, lo, Wn, Hn, mN, V, bl, rfl, rfl, rfl, rfl, hmb, SR⟩
  · go_wp2
    go_ret
    exact ⟨rfl, B2⟩
  · have hS := SR.sv
    have dC := dg.below B2
    obtain ⟨w1, w2, h1, h2⟩ := hS.side
    obtain ⟨m1, m6⟩ := hS.mst
    have HA : Hid (∀ w', Below wc.heap.size wc w' → ∀ a t, _) := fun w' hb a t => ask_rt a t w' (hS.below hb) (dC.below hb)
    have D0 : Below wc.heap.size wc wc := Below.refl _ _
    clear SR
    go_wp2_with fail
    refine (HA.out _ D0 _ _).mono ?_
    rintro e v1 ⟨A1, cap1, way1, s1, d1, r1, rfl, own1, old1, ans1, rt1, hb1'⟩
    have E1 := D0.trans (hb1'.mono D0.size)
    have D1 : Below wc.heap.size wc (v1.alloc (.cells #[.slice A1 way1.length cap1, .int .i64 s1, .int .i64 d1, .int .i64 r1] 41)) := E1.alloc E1.size _
    have n1 := An.new v1 (.slice A1 way1.length cap1) s1 d1 r1
    have g1 : Below v1.heap.size v1 (v1.alloc (.cells #[.slice A1 way1.length cap1, .int .i64 s1, .int .i64 d1, .int .i64 r1] 41)) := (Below.refl _ _).alloc (Nat.le_refl _) _
    go_upto_region 8 with fail
    generalize v1.alloc (.cells #[.slice A1 way1.length cap1, .int .i64 s1, .int .i64 d1, .int .i64 r1] 41) = u1 at *
    generalize v1.heap.size = P1 at *
    clear own1 old1 ans1 g1 E1 hb1'
    go_wp2_with fail
    refine (HA.out _ D1 _ _).mono ?_
    rintro e v2 ⟨A2, cap2, way2, s2, d2, r2, rfl, own2, old2, ans2, rt2, hb2'⟩
    have E2 := D1.trans (hb2'.mono D1.size)
    have D2 : Below wc.heap.size wc (v2.alloc (.cells #[.slice A2 way2.length cap2, .int .i64 s2, .int .i64 d2, .int .i64 r2] 41)) := E2.alloc E2.size _
    have n2 := An.new v2 (.slice A2 way2.length cap2) s2 d2 r2
    have g2 : Below v2.heap.size v2 (v2.alloc (.cells #[.slice A2 way2.length cap2, .int .i64 s2, .int .i64 d2, .int .i64 r2] 41)) := (Below.refl _ _).alloc (Nat.le_refl _) _
    have n1 := n1.below (hb2'.trans (g2.mono hb2'.size))
    go_upto_region 9 with fail
    generalize v2.alloc (.cells #[.slice A2 way2.length cap2, .int .i64 s2, .int .i64 d2, .int .i64 r2] 41) = u2 at *
    generalize v2.heap.size = P2 at *
    obtain ⟨e1, e2, e3⟩ := rt1.back w1 rt2
    subst e1 e2
    have x1 := n1.c1
    have x2 := n1.c2
    have x3 := n1.c3
    have y1 := n2.c1
    have y2 := n2.c2
    have y3 := n2.c3
    have e4 : (r1 == 0) = (r2 == 0) := by
      by_cases z : r1 = 0
      · rw [z, e3.1 z]
      · have z2 : ¬ r2 = 0 := fun q => z (e3.2 q)
        rw [beq_eq_false_iff_ne.2 z, beq_eq_false_iff_ne.2 z2]
    generalize hr2 : (r2 == 0) = rb at *
    clear own2 old2 ans2 g2 E2 hb2' e3
    go_upto_region 11 with fail
    clear x1 x2 x3 y1 y2 y3
    go_wp2_with fail
    refine (HA.out _ D2 _ _).mono ?_
    rintro e v3 ⟨A3, cap3, way3, s3, d3, r3, rfl, own3, old3, ans3, rt3, hb3'⟩
    have E3 := D2.trans (hb3'.mono D2.size)
    have D3 : Below wc.heap.size wc (v3.alloc (.cells #[.slice A3 way3.length cap3, .int .i64 s3, .int .i64 d3, .int .i64 r3] 41)) := E3.alloc E3.size _
    have n3 := An.new v3 (.slice A3 way3.length cap3) s3 d3 r3
    have g3 : Below v3.heap.size v3 (v3.alloc (.cells #[.slice A3 way3.length cap3, .int .i64 s3, .int .i64 d3, .int .i64 r3] 41)) := (Below.refl _ _).alloc (Nat.le_refl _) _
    have n1 := n1.below (hb3'.trans (g3.mono hb3'.size))
    go_upto_region 12 with fail
    generalize v3.alloc (.cells #[.slice A3 way3.length cap3, .int .i64 s3, .int .i64 d3, .int .i64 r3] 41) = u3 at *
    generalize v3.heap.size = P3 at *
    clear own3 old3 ans3 g3 E3 hb3' n2
    go_wp2_with fail
    refine (HA.out _ D3 _ _).mono ?_
    rintro e v4 ⟨A4, cap4, way4, s4, d4, r4, rfl, own4, old4, ans4, rt4, hb4'⟩
    have E4 := D3.trans (hb4'.mono D3.size)
    have D4 : Below wc.heap.size wc (v4.alloc (.cells #[.slice A4 way4.length cap4, .int .i64 s4, .int .i64 d4, .int .i64 r4] 41)) := E4.alloc E4.size _
    have n4 := An.new v4 (.slice A4 way4.length cap4) s4 d4 r4
    have g4 : Below v4.heap.size v4 (v4.alloc (.cells #[.slice A4 way4.length cap4, .int .i64 s4, .int .i64 d4, .int .i64 r4] 41)) := (Below.refl _ _).alloc (Nat.le_refl _) _
    have n1 := n1.below (hb4'.trans (g4.mono hb4'.size))
    have n3 := n3.below (hb4'.trans (g4.mono hb4'.size))
    go_upto_region 13 with fail
    generalize v4.alloc (.cells #[.slice A4 way4.length cap4, .int .i64 s4, .int .i64 d4, .int .i64 r4] 41) = u4 at *
    generalize v4.heap.size = P4 at *
    clear own4 old4 ans4 g4 E4 hb4'
    have x1 := n1.c1
    have x2 := n1.c2
    have x3 := n1.c3
    have y1 := n3.c1
    have y2 := n3.c2
    have y3 := n3.c3
    have z1 := n4.c1
    have z2 := n4.c2
    have z3 := n4.c3
    have B4 := B2.trans (D4.mono B2.size)
    by_cases k3 : r3 = 0
    · by_cases k4 : r4 = 0
      · obtain ⟨k1, k5⟩ := rt1.third rt3 rt4 k3 k4
        have q1 := rt1.bd
        have q3 := rt3.bd
        have q4 := rt4.bd
        have hk := rt1.okC
        have hk2 := okC_two q3 q4
        have hcm : cmpC s1 d1 (s3 + s4) (d3 + d4) ≤ 0 := by
          rw [cmpC_val _ _ _ _ (by omega) (by omega)]
          unfold cmpI
          split
          · decide
          · split <;> omega
        have HAD : Hid (∀ w', _) := fun w' => add_any s3 d3 s4 d4 w' rt3.okC rt4.okC
        have HCM : Hid (∀ w', _) := fun w' => compare_any s1 d1 (s3 + s4) (d3 + d4) w' hk hk2
        generalize cmpC s1 d1 (s3 + s4) (d3 + d4) = cm at *
        generalize s3 + s4 = ss at *
        generalize d3 + d4 = dd at *
        subst k1 k3 k4
        clear rt1 rt2 rt3 rt4 hk hk2 k5
        go_upto_region 15 with fail
        have e0 : Below u4.heap.size u4 u4.drew := (Below.refl _ _).drew
        have CC : Hid (∀ w', Below u4.heap.size u4 w' → w'.cell? ⟨P1, 1, none⟩ = some (.int .i64 s1) ∧ w'.cell? ⟨P1, 2, none⟩ = some (.int .i64 d1) ∧ w'.cell? ⟨P1, 3, none⟩ = some (.int .i64 0) ∧ w'.cell? ⟨P3, 1, none⟩ = some (.int .i64 s3) ∧ w'.cell? ⟨P3, 2, none⟩ = some (.int .i64 d3) ∧ w'.cell? ⟨P4, 1, none⟩ = some (.int .i64 s4) ∧ w'.cell? ⟨P4, 2, none⟩ = some (.int .i64 d4)) := fun w' h => by
          have k : ∀ {a : Addr} {v : Value}, u4.cell? a = some v → w'.cell? a = some v := fun {a v} q => (h.cell (World.block_lt_of_cell? u4 a q)).trans q
          exact ⟨k x1, k x2, k x3, k y1, k y2, k z1, k z2⟩
        have dcm : decide (cm ≤ 0) = true := decide_eq_true hcm
        clear x1 x2 x3 y1 y2 y3 z1 z2 z3 n1 n3 n4
        go_region_held3 (fun w' => w'.cell? ⟨P1, 1, none⟩ = some (.int .i64 s1) ∧ w'.cell? ⟨P1, 2, none⟩ = some (.int .i64 d1) ∧ w'.cell? ⟨P1, 3, none⟩ = some (.int .i64 0) ∧ w'.cell? ⟨P3, 1, none⟩ = some (.int .i64 s3) ∧ w'.cell? ⟨P3, 2, none⟩ = some (.int .i64 d3) ∧ w'.cell? ⟨P4, 1, none⟩ = some (.int .i64 s4) ∧ w'.cell? ⟨P4, 2, none⟩ = some (.int .i64 d4)) (first | exact CC.out _ e0 | exact CC.out _ e5 | exact CC.out _ e6)
          (first
            | (go_at_call 30; refine (HAD.out _).mono ?_; rintro r w5 ⟨rfl, hb5⟩; have e5 := e0.trans (hb5.mono e0.size))
            | (go_at_call 29; refine (HCM.out _).mono ?_; rintro r w6 ⟨rfl, hb6⟩; have e6 := e5.trans (hb6.mono e5.size)))
        go_wp2
        go_ret
        exact ⟨rfl, B4.trans (e6.mono B4.size)⟩
      · have z4 : (r4 == 0) = false := beq_eq_false_iff_ne.2 k4
        subst k3
        go_wp2
        go_ret
        exact ⟨rfl, B4⟩
    · have z3' : (r3 == 0) = false := beq_eq_false_iff_ne.2 k3
      go_wp2
      go_ret
      exact ⟨rfl, B4⟩
end Go.Proofs.YtipbhlofbpnpjaaGreatDoor
