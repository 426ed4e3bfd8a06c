/- -/
import Derived.Test.YtipbhlofbpnpjaaGreatDoorNv8
namespace Go.Proofs.YtipbhlofbpnpjaaGreatDoor
open Go.RowKit Go.Lib
set_option maxHeartbeats 8000000 in
set_option maxRecDepth 1000000 in
theorem topParts_any (W H most : Int) (A : Option Addr) (n cap : Nat) (xs : Nat → Int) (a b : Int) (w : World) (E : Env w) (s : StepsAt w) (dg : DiagAt w) (hm : n ≤ maxLen) (hx : OldRow w A n xs) :
    Calls Tryz.prog 11 #[.agg #[.int .i64 W, .int .i64 H, .slice A n cap], .int .i64 most, .int .i64 a, .int .i64 b] w fun e w' => e = .returned (.bool true) ∧ Below w.heap.size w w' := by
  have hsp := s.pos
  have b0 : Below w.heap.size w (w.alloc (.cells #[.int .i64 W, .int .i64 H, .slice A n cap] 24)) := (Below.refl _ _).alloc (Nat.le_refl _) _
  have q : ∀ o, (w.alloc (.cells #[.int .i64 W, .int .i64 H, .slice A n cap] 24)).cell? ⟨w.heap.size, o, none⟩ = #[Value.int .i64 W, .int .i64 H, .slice A n cap][o]? := fun o => World.cell?_alloc_new ..
  have hwk := works_any _ (s.below b0 (by omega)) (dg.below b0)
  go_enter Tryz.func11, Tryz.ntmps11
  go_wp2_with fail
  have hz0 : w.heap.size < (w.alloc (.cells #[.int .i64 W, .int .i64 H, .slice A n cap] 24)).heap.size := by simp
  generalize w.alloc (.cells #[.int .i64 W, .int .i64 H, .slice A n cap] 24) = wa at *
  refine hwk.mono ?_
  rintro e wb ⟨rfl, hb1⟩
  have B1 := b0.trans (hb1.mono b0.size)
  have c0 := (hb1.cell (p := ⟨w.heap.size, 0, none⟩) hz0).trans (q 0)
  have c1 := (hb1.cell (p := ⟨w.heap.size, 1, none⟩) hz0).trans (q 1)
  have c2 := (hb1.cell (p := ⟨w.heap.size, 2, none⟩) hz0).trans (q 2)
  have hsv := serve_any W H most A n cap xs wb (E.grown B1) (s.below B1 (by omega)) hm (hx.below B1)
  clear hwk q b0 hb1 hz0
  go_wp2_with fail
  refine hsv.mono ?_
  rintro e wc ⟨hb2, hcs⟩
  have B2 := B1.trans (hb2.mono B1.size)
  clear hsv c0 c1 c2
  rcases hcs with ⟨p, rfl⟩ | ⟨sb, mb, lo, Wn, Hn, mN, V, bl, rfl, rfl, rfl, rfl, hmb, SR⟩
  · go_wp2
    go_ret
    exact ⟨rfl, B2⟩
  · have hS := SR.sv
    have dC := dg.below B2
    obtain ⟨w1, w2, h1, h2⟩ := hS.side
    obtain ⟨m1, m6⟩ := hS.mst
    have HA : Hid (∀ w', Below wc.heap.size wc w' → ∀ a t, _) := fun w' hb a t => ask_rt a t w' (hS.below hb) (dC.below hb)
    have D0 : Below wc.heap.size wc wc := Below.refl _ _
    clear SR
    go_wp2_with fail
    refine (HA.out _ D0 _ _).mono ?_
    rintro e v1 ⟨A1, cap1, way1, s1, d1, r1, rfl, own1, old1, ans1, rt1, hb1'⟩
    have E1 := D0.trans (hb1'.mono D0.size)
    have D1 : Below wc.heap.size wc (v1.alloc (.cells #[.slice A1 way1.length cap1, .int .i64 s1, .int .i64 d1, .int .i64 r1] 41)) := E1.alloc E1.size _
    have n1 := An.new v1 (.slice A1 way1.length cap1) s1 d1 r1
    have g1 : Below v1.heap.size v1 (v1.alloc (.cells #[.slice A1 way1.length cap1, .int .i64 s1, .int .i64 d1, .int .i64 r1] 41)) := (Below.refl _ _).alloc (Nat.le_refl _) _
    have old1' := old1.below g1
    go_upto_region 8 with fail
    generalize v1.alloc (.cells #[.slice A1 way1.length cap1, .int .i64 s1, .int .i64 d1, .int .i64 r1] 41) = u1 at *
    generalize v1.heap.size = P1 at *
    clear own1 old1 ans1 g1 E1 hb1'
    have hw1 := n1.c0
    have q1 := n1.c1
    have q2 := n1.c2
    have HO : Hid (OldRow u1 A1 way1.length (fun i => ((way1.getD i 0 : Nat) : Int))) := old1'
    have HN : Hid (An u1 P1 (.slice A1 way1.length cap1) s1 d1 r1) := n1
    clear n1 old1'
    have hln := rt1.len
    go_wp2
    go_loopw [13] (fun iv wr => ∃ i : Nat, i ≤ way1.length ∧ iv = .int .i64 i ∧ Below u1.heap.size u1 wr)
      (fun i _ => way1.length - (intOf i).toNat)
    case atStart => exact ⟨0, Nat.zero_le _, rfl, Below.refl _ _⟩
    case round =>
      clear hw1 q1 q2
      obtain ⟨i, hi, rfl, hB⟩ := hrel
      have nr := HN.out.below hB
      have hw := nr.c0
      have DB := D1.trans (hB.mono D1.size)
      by_cases hlt : i < way1.length
      · obtain ⟨bA, oA, rfl, hbA, f00⟩ := (HO.out.below hB) i hlt
        have i1 : (i : Int) < (way1.length : Int) := by omega
        obtain ⟨xN, hxN⟩ : ∃ xN, way1.getD i 0 = xN := ⟨_, rfl⟩
        have f0 : wr.cell? ⟨bA, oA + i, none⟩ = some (.int .i64 (xN : Int)) := by rw [← hxN]; exact f00
        have HXN : Hid (way1.getD i 0 = xN) := hxN
        clear hxN f00
        go_wp2_with fail
        refine (HA.out _ DB _ _).mono ?_
        rintro e v2 ⟨A2, cap2, way2, s2, d2, r2, rfl, own2, old2, ans2, rt2, hb2'⟩
        have E2 := DB.trans (hb2'.mono DB.size)
        have D2 : Below wc.heap.size wc (v2.alloc (.cells #[.slice A2 way2.length cap2, .int .i64 s2, .int .i64 d2, .int .i64 r2] 41)) := E2.alloc E2.size _
        have n2 := An.new v2 (.slice A2 way2.length cap2) s2 d2 r2
        have g2 : Below v2.heap.size v2 (v2.alloc (.cells #[.slice A2 way2.length cap2, .int .i64 s2, .int .i64 d2, .int .i64 r2] 41)) := (Below.refl _ _).alloc (Nat.le_refl _) _
        have nr2 := nr.below (hb2'.trans (g2.mono hb2'.size))
        have U2 := hB.trans ((hb2'.trans (g2.mono hb2'.size)).mono hB.size)
        have hw2 := nr2.c0
        have f2 := ((hb2'.trans (g2.mono hb2'.size)).cell (World.block_lt_of_cell? _ _ f0)).trans f0
        go_upto_region 12 with fail
        generalize v2.alloc (.cells #[.slice A2 way2.length cap2, .int .i64 s2, .int .i64 d2, .int .i64 r2] 41) = u2 at *
        generalize v2.heap.size = P2 at *
        clear own2 old2 ans2 g2 E2 hw f0 nr
        go_wp2_with fail
        refine (HA.out _ D2 _ _).mono ?_
        rintro e v3 ⟨A3, cap3, way3, s3, d3, r3, rfl, own3, old3, ans3, rt3, hb3'⟩
        have E3 := D2.trans (hb3'.mono D2.size)
        have D3 : Below wc.heap.size wc (v3.alloc (.cells #[.slice A3 way3.length cap3, .int .i64 s3, .int .i64 d3, .int .i64 r3] 41)) := E3.alloc E3.size _
        have n3 := An.new v3 (.slice A3 way3.length cap3) s3 d3 r3
        have g3 : Below v3.heap.size v3 (v3.alloc (.cells #[.slice A3 way3.length cap3, .int .i64 s3, .int .i64 d3, .int .i64 r3] 41)) := (Below.refl _ _).alloc (Nat.le_refl _) _
        have g23 := hb3'.trans (g3.mono hb3'.size)
        have nr3 := nr2.below g23
        have U3 := U2.trans (g23.mono U2.size)
        have n2' := n2.below g23
        obtain ⟨k2, k3, e1, e2⟩ := rt1.part w1 hlt (by rw [HXN.out]; exact rt2) (by rw [HXN.out]; exact rt3)
        have HAD : Hid (∀ w', Calls Tryz.prog 30 #[.agg #[.int .i64 s2, .int .i64 d2], .agg #[.int .i64 s3, .int .i64 d3]] w' fun e w'' => e = .returned (.agg #[.int .i64 s1, .int .i64 d1]) ∧ Below w'.heap.size w' w'') := fun w' => by
          have h := add_any s2 d2 s3 d3 w' rt2.okC rt3.okC
          rw [e1, e2] at h
          exact h
        subst k2 k3
        go_upto_region 13 with fail
        generalize v3.alloc (.cells #[.slice A3 way3.length cap3, .int .i64 s3, .int .i64 d3, .int .i64 0] 41) = u3 at *
        generalize v3.heap.size = P3 at *
        have x1 := nr3.c1
        have x2 := nr3.c2
        have y1 := n2'.c1
        have y2 := n2'.c2
        have y3 := n2'.c3
        have z1 := n3.c1
        have z2 := n3.c2
        have z3 := n3.c3
        clear own3 old3 ans3 g3 E3 g23 hw2 f2 nr2 n2 e1 e2 rt2 rt3
        have e0 : Below u3.heap.size u3 u3.drew := (Below.refl _ _).drew
        have CC : Hid (∀ w', Below u3.heap.size u3 w' → w'.cell? ⟨P1, 1, none⟩ = some (.int .i64 s1) ∧ w'.cell? ⟨P1, 2, none⟩ = some (.int .i64 d1) ∧ w'.cell? ⟨P2, 1, none⟩ = some (.int .i64 s2) ∧ w'.cell? ⟨P2, 2, none⟩ = some (.int .i64 d2) ∧ w'.cell? ⟨P2, 3, none⟩ = some (.int .i64 0) ∧ w'.cell? ⟨P3, 1, none⟩ = some (.int .i64 s3) ∧ w'.cell? ⟨P3, 2, none⟩ = some (.int .i64 d3) ∧ w'.cell? ⟨P3, 3, none⟩ = some (.int .i64 0)) := fun w' h => by
          have k : ∀ {a : Addr} {v : Value}, u3.cell? a = some v → w'.cell? a = some v := fun {a v} q => (h.cell (World.block_lt_of_cell? u3 a q)).trans q
          exact ⟨k x1, k x2, k y1, k y2, k y3, k z1, k z2, k z3⟩
        clear x1 x2 y1 y2 y3 z1 z2 z3 nr3 n2' n3
        go_region_held3 (fun w' => w'.cell? ⟨P1, 1, none⟩ = some (.int .i64 s1) ∧ w'.cell? ⟨P1, 2, none⟩ = some (.int .i64 d1) ∧ w'.cell? ⟨P2, 1, none⟩ = some (.int .i64 s2) ∧ w'.cell? ⟨P2, 2, none⟩ = some (.int .i64 d2) ∧ w'.cell? ⟨P2, 3, none⟩ = some (.int .i64 0) ∧ w'.cell? ⟨P3, 1, none⟩ = some (.int .i64 s3) ∧ w'.cell? ⟨P3, 2, none⟩ = some (.int .i64 d3) ∧ w'.cell? ⟨P3, 3, none⟩ = some (.int .i64 0)) (first | exact CC.out _ e0 | exact CC.out _ e5)
          (first | (go_at_call 30; refine (HAD.out _).mono ?_; rintro r w5 ⟨rfl, hb5⟩; have e5 := e0.trans (hb5.mono e0.size)))
        have R5 := U3.trans (e5.mono U3.size)
        go_wp2
        go_roundw
        case rel => exact ⟨i + 1, by omega, by go_num, R5⟩
        case measure => simp [intOf]; omega
      · have e : i = way1.length := by omega
        subst e
        have B4 := B2.trans (DB.mono B2.size)
        go_wp2
        go_ret
        exact ⟨rfl, B4⟩
end Go.Proofs.YtipbhlofbpnpjaaGreatDoor
