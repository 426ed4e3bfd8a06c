/- -/
import Derived.Test.YtipbhlofbpnpjaaGreatDoorQ40
import Derived.Test.YtipbhlofbpnpjaaGreatDoorQ41
namespace Go.Proofs.YtipbhlofbpnpjaaGreatDoor
open Go.RowKit Go.Lib
set_option maxHeartbeats 4000000 in
set_option maxRecDepth 1000000 in
theorem topBest_any (W H most : Int) (A A2 : Option Addr) (n cap n2 cap2 : Nat) (xs fs ts : Nat → Int) (w : World) (E : Env w) (s : StepsAt w) (dg : DiagAt w) (hm : n ≤ maxLen) (hx : OldRow w A n xs) (hq : OldAsk w A2 n2 fs ts) :
    Calls Tryz.prog 3 #[.agg #[.int .i64 W, .int .i64 H, .slice A n cap], .int .i64 most, .slice A2 n2 cap2] w fun e w' => e = .returned (.bool true) ∧ Below w.heap.size w w' := by
  have hsp := s.pos
  have b0 : Below w.heap.size w (w.alloc (.cells #[.int .i64 W, .int .i64 H, .slice A n cap] 24)) := (Below.refl _ _).alloc (Nat.le_refl _) _
  have q : ∀ o, (w.alloc (.cells #[.int .i64 W, .int .i64 H, .slice A n cap] 24)).cell? ⟨w.heap.size, o, none⟩ = #[Value.int .i64 W, .int .i64 H, .slice A n cap][o]? := fun o => World.cell?_alloc_new ..
  have hwk := works_any _ (s.below b0 (by omega)) (dg.below b0)
  go_enter Tryz.func3, Tryz.ntmps3
  go_wp2_with fail
  have hz0 : w.heap.size < (w.alloc (.cells #[.int .i64 W, .int .i64 H, .slice A n cap] 24)).heap.size := by simp
  generalize w.alloc (.cells #[.int .i64 W, .int .i64 H, .slice A n cap] 24) = wa at *
  refine hwk.mono ?_
  rintro e wb ⟨rfl, hb1⟩
  have B1 := b0.trans (hb1.mono b0.size)
  have c0 := (hb1.cell (p := ⟨w.heap.size, 0, none⟩) hz0).trans (q 0)
  have c1 := (hb1.cell (p := ⟨w.heap.size, 1, none⟩) hz0).trans (q 1)
  have c2 := (hb1.cell (p := ⟨w.heap.size, 2, none⟩) hz0).trans (q 2)
  have hsv := serve_any W H most A n cap xs wb (E.grown B1) (s.below B1 (by omega)) hm (hx.below B1)
  clear hwk q b0 hb1 hz0
  go_wp2_with fail
  refine hsv.mono ?_
  rintro e wc ⟨hb2, hcs⟩
  have B2 := B1.trans (hb2.mono B1.size)
  clear hsv c0 c1 c2
  rcases hcs with ⟨p, rfl⟩ | ⟨sb, mb, lo, Wn, Hn, mN, V, bl, rfl, rfl, rfl, rfl, hmb, SR⟩
  · go_wp2
    go_ret
    exact ⟨rfl, B2⟩
  · by_cases h30 : (30 : Int) < (n2 : Int)
    · clear SR
      go_wp2
      go_ret
      exact ⟨rfl, B2⟩
    · have b3 : Below wc.heap.size wc (wc.alloc (.cells #[.pointer (some ⟨mb, 0, none⟩), .int .i64 (mN : Int)] 33)) := (Below.refl _ _).alloc (Nat.le_refl _) _
      have cx : (wc.alloc (.cells #[.pointer (some ⟨mb, 0, none⟩), .int .i64 (mN : Int)] 33)).cell? ⟨wc.heap.size, 0, none⟩ = some (.pointer (some ⟨mb, 0, none⟩)) := World.cell?_alloc_at #[.pointer (some ⟨mb, 0, none⟩), .int .i64 (mN : Int)] 33 wc.heap.size 0 rfl
      have B3 := B2.trans (b3.mono B2.size)
      have hS := SR.sv.below b3
      have hR := SR.ra.below b3 (World.block_lt_of_cell? _ _ SR.ra.c0)
      have hQ := hq.below B3
      have d3 := dg.below B3
      have lmb := World.block_lt_of_cell? _ _ hR.c0
      obtain ⟨w1, w2, h1, h2⟩ := hS.side
      obtain ⟨m1, m6⟩ := hS.mst
      have hev := nrm_eqv (W := Wn) (H := Hn) bl
      clear SR b3
      go_wp2
      generalize wc.alloc (.cells #[.pointer (some ⟨mb, 0, none⟩), .int .i64 (mN : Int)] 33) = wd at *
      generalize hxb : wc.heap.size = xb at *
      clear hxb
      have HQ : Hid (OldAsk wd A2 n2 fs ts) := hQ
      have HS : Hid (∀ w', Below wd.heap.size wd w' → ∀ a t, _) := fun w' hb a t => ask_any a t w' (hS.below hb) (d3.below hb)
      have HX : Hid (∀ w', Below wd.heap.size wd w' → ∀ (v : Value) (way : List Nat) (a t s d err : Int) (base : Nat), w'.ownsRow base 3 1 v way.length (vals way) → AnsR Wn Hn (nrm Wn Hn bl) mN a t way s d err → _) := fun w' hb v way a t s d err base ho hA => right_any (xb := xb) (v := v) (base := base) w' ((hb.cell (World.block_lt_of_cell? _ _ cx)).trans cx) (hR.below hb lmb) ho ((hA.right w' w1 w2 h1 h2 m1 m6).eqv hev)
      clear hQ hS hR cx hev
      go_loopw [11] (fun iv wr => ∃ i : Nat, i ≤ n2 ∧ iv = .int .i64 i ∧ Below wd.heap.size wd wr)
        (fun i _ => n2 - (intOf i).toNat)
      case atStart => exact ⟨0, Nat.zero_le _, rfl, Below.refl _ _⟩
      case round =>
        obtain ⟨i, hi, rfl, hB⟩ := hrel
        by_cases hlt : i < n2
        · obtain ⟨bA, oA, rfl, hbA, f0, t0⟩ := (HQ.out.below hB) i hlt
          have i1 : (i : Int) < (n2 : Int) := by omega
          generalize fs i = fa at *
          generalize ts i = tt at *
          have e0 : Below wr.heap.size wr wr.drew := (Below.refl _ _).drew
          have E0 := hB.trans (e0.mono hB.size)
          have CC : Hid (∀ w', Below wr.heap.size wr w' → w'.cell? ⟨bA, oA + i * 2, none⟩ = some (.int .i64 fa) ∧ w'.cell? ⟨bA, oA + i * 2 + 1, none⟩ = some (.int .i64 tt)) := fun w' h => ⟨(h.cell (World.block_lt_of_cell? wr _ f0)).trans f0, (h.cell (World.block_lt_of_cell? wr _ t0)).trans t0⟩
          go_upto_region 11 with fail
          clear f0 t0
          go_region_held3 (fun w' => w'.cell? ⟨bA, oA + i * 2, none⟩ = some (.int .i64 fa) ∧ w'.cell? ⟨bA, oA + i * 2 + 1, none⟩ = some (.int .i64 tt)) (first | exact CC.out _ e0 | exact CC.out _ e5 | exact CC.out _ e6)
            (first
              | (go_at_call 18; refine (HS.out _ E0 _ _).mono ?_; rintro r w5 ⟨v, way, sx, dx, er, rfl, ho, hA, hb5⟩; have e5 := e0.trans (hb5.mono e0.size); have E5 := hB.trans (e5.mono hB.size))
              | (go_at_call 17; refine (HX.out _ E5 _ _ _ _ _ _ _ _ ho hA).mono ?_; rintro r w6 ⟨rfl, hb6⟩; have e6 := e5.trans (hb6.mono e5.size)))
          have B6 := hB.trans (e6.mono hB.size)
          clear ho hA
          go_wp2
          go_roundw
          case rel => exact ⟨i + 1, by omega, by go_num, B6⟩
          case measure => simp [intOf]; omega
        · have e : i = n2 := by omega
          subst e
          go_wp2
          go_ret
          exact ⟨rfl, B3.trans (hB.mono B3.size)⟩
end Go.Proofs.YtipbhlofbpnpjaaGreatDoor
