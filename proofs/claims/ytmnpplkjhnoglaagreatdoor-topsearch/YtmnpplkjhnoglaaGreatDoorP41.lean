/-
  Texts laid together: Between, Reach, Sr9.
-/
import Derived.Test.YtmnpplkjhnoglaaGreatDoorP40
/-
  What is between: package reach's 'between'.
-/
namespace Go.Proofs.YtmnpplkjhnoglaaGreatDoor
open Go.RowKit

set_option maxHeartbeats 2000000 in
set_option maxRecDepth 1000000 in
theorem rbtw_any {b : Nat} {W H V a t : Int} {bl : Nat → Bool} (w : World) (g : GridAt w b W H V bl) (s : StepsAt w) (d : DiagAt w) (hb : b < w.heap.size) (ha : inB W H a = true) (ht : inB W H t = true) :
    Calls Tryz.prog 82 #[.pointer (some ⟨b, 0, none⟩), .int .i64 a, .int .i64 t] w fun e w' => ∃ nb T, e = .returned (.map (some nb)) ∧ SetAt w' nb T ∧ (∀ z, T z = true ↔ On W H bl a t z) ∧ w.heap.size ≤ nb ∧ Below w.heap.size w w' := by
  have hmm := @run_makeMap Tryz.prog
  have hM0 := SetAt.made w
  have hz0 : (w.alloc (.map #[] 0)).heap.size = w.heap.size + 1 := by simp
  have B0 : Below w.heap.size w (w.alloc (.map #[] 0)) := (Below.refl _ _).alloc (Nat.le_refl _) _
  have hsp := rspread_any (w.alloc (.map #[] 0)) (g.below B0 hb) (s.below B0 (by omega)) (d.below B0) (by omega) ht ha
  go_enter Tryz.func82, Tryz.ntmps82
  go_wp2_with fail
  refine hsp.mono ?_
  rintro e w1 ⟨kb, SB, rfl, hB, hBi, hkb, hb1⟩
  have hM1 := hM0.below hb1
  have B1 : Below w.heap.size w w1 := B0.trans (hb1.mono B0.size)
  have hb' : b < w1.heap.size := Nat.lt_of_lt_of_le hb B1.size
  have hsp2 := rspread_any w1 (g.below B1 hb) (s.below B1 (by omega)) (d.below B1) hb' ha ht
  rw [hz0] at hkb
  have HBi : Hid (∀ z, SB z = true ↔ Tw W H bl t a z) := hBi
  have hk1 := hB.lt
  clear hsp hM0 hz0 B0 hb1 hmm hBi
  go_wp2_with fail
  refine hsp2.mono ?_
  rintro e w2 ⟨fb, SF, rfl, hF, hFi, hfb, hb2⟩
  have hM2 := hM1.below hb2
  have hB2 := hB.below hb2
  have B2 : Below w.heap.size w w2 := B1.trans (hb2.mono B1.size)
  have HFi : Hid (∀ z, SF z = true ↔ Tw W H bl a t z) := hFi
  have hk2 := Nat.lt_of_lt_of_le hk1 hb2.size
  have hf2 := hF.lt
  have z2 := B1.size
  have hm2 := hM2.lt
  clear hM1 hB hb2 hsp2 hFi
  go_wp2_with (first | (at_range; refine wpList_rangeF rfl _ 146 rfl 3 176 law3 Tryz.underS fb _ _ rfl hF.mp ?_; intro w0 hrg0 hg0 hs0) | go_in)
  have hM3 := hM2.grown hg0 (by simp)
  have hB3 := hB2.grown hg0 (by simp)
  have B3 : Below w.heap.size w w0 := B2.grown hg0 B2.size (by simp)
  generalize hr : w2.heap.size = r at *
  clear hM2 hB2 B2 hg0
  go_frame
  go_loopg [] (cntS SF 256) (fun gk wr => ∃ left cnt T, gk = cnt ∧ RngS wr fb r SF left cnt ∧ SetAt wr w.heap.size T ∧ SetAt wr kb SB ∧ Hid (∀ z, T z = true ↔ (SF z = true ∧ left z = false) ∧ SB z = true) ∧ Below w.heap.size w wr)
  case atStart =>
    refine ⟨_, _, _, rfl, hrg0, hM3, hB3, fun z => ⟨fun h => (by cases h), ?_⟩, B3⟩
    rintro ⟨⟨h1, h2⟩, _⟩
    rw [setF_isSome, h1] at h2
    cases h2
  case round =>
    obtain ⟨left, cnt, T, hgk, hrg, hT, hK, hall, hBw⟩ := hrel
    have hbz := hBw.size
    go_wp2_with (first | (at_next; refine wpList_nextF rfl _ rfl 3 law3 fb r _ _ _ _ rfl hrg ?_ ?_) | go_in)
    · intro hc0 hl0
      go_wp2
      go_ret
      refine ⟨_, T, rfl, hT, fun z => ?_, Nat.le_refl _, hBw⟩
      rw [hall.out z, HFi.out z, HBi.out z]
      exact ⟨fun h => ⟨h.1.1, h.2⟩, fun h => ⟨⟨h.1, hl0 z⟩, h.2⟩⟩
    · intro x v w4 cnt1 hwx hlx hfx hrg1 hlt hg1 hs1 hen
      obtain ⟨hSx, rfl⟩ := setF_val hfx
      have hx := hF.bd x hSx
      have hT1 := hT.grown hg1 (fun e => by have := Option.some.inj e; omega)
      have hK1 := hK.grown hg1 (fun e => by have := Option.some.inj e; omega)
      have B4 : Below w.heap.size w w4 := hBw.grown hg1 hbz (fun k e => by cases e; omega)
      have hT2 := hT1.grown (World.grownBy_alloc w4 (.cells #[] 176) none) (by simp)
      have hK2 := hK1.grown (World.grownBy_alloc w4 (.cells #[] 176) none) (by simp)
      have hrg2 := hrg1.grown (World.grownBy_alloc w4 (.cells #[] 176) none) (by simp) (by simp)
      have B5 := B4.alloc B4.size (.cells #[] 176)
      cases hSB : SB x with
      | false =>
        have hlk : (Instr.lookup 146 (.map (some kb)) (.int .i64 x) true).run Tryz.prog w4 = .ok (.tuple #[.agg #[], .bool false]) w4 := hK1.mp.look_none law3 Tryz.underS (zeroS _) hwx (setF_none hSB) true
        clear hT hK hrg hBw hT1 hK1 B4 hg1
        go_wp2
        go_roundg cnt1
        case measure => omega
        case rel =>
          refine ⟨_, cnt1, T, rfl, hrg2, hT2, hK2, fun z => ?_, B5⟩
          rw [hall.out z]
          by_cases e : z = x
          · subst e; simp [hSB]
          · simp [e]
      | true =>
        have hlk : (Instr.lookup 146 (.map (some kb)) (.int .i64 x) true).run Tryz.prog w4 = .ok (.tuple #[.agg #[], .bool true]) w4 := hK1.mp.look_some law3 Tryz.underS (zeroS _) hwx (setF_some hSB) true
        clear hT hK hrg hBw hT1 hK1 B4 hg1
        go_wp2_with (first | (at_mapUpdate; refine wpList_put rfl _ _ _ 146 rfl 3 176 law3 Tryz.underS w.heap.size _ _ rfl hT2.mp hT2.room x (.agg #[]) rfl rfl hwx ?_; intro w5 hm5 ht5; go_frame) | go_in)
        have hT3 := hT2.put hx.1 hx.2 hm5
        have hg5 := ht5.grown
        have hrg3 := hrg2.grown hg5 (fun e => by have := Option.some.inj e; omega) (fun e => by have := Option.some.inj e; omega)
        have hK3 := hK2.grown hg5 (fun e => by have := Option.some.inj e; omega)
        have B6 : Below w.heap.size w w5 := B5.grown hg5 B5.size (fun k e => by cases e; exact Nat.le_refl _)
        go_roundg cnt1
        case measure => omega
        case rel =>
          refine ⟨_, cnt1, _, rfl, hrg3, hT3, hK3, fun z => ?_, B6⟩
          rw [insS_iff, hall.out z]
          by_cases e : z = x
          · subst e; simp [hSB, hSx]
          · simp [e]
end Go.Proofs.YtmnpplkjhnoglaaGreatDoor
/-
  Near or not: package reach's 'Near'.
-/
namespace Go.Proofs.YtmnpplkjhnoglaaGreatDoor
open Go.RowKit

/-- what is wrong with two cells, the first one's first -/
def ff2 (W H : Int) (bl : Nat → Bool) (a t : Int) : Int := if ffv W H bl a = 0 then ffv W H bl t else ffv W H bl a
theorem ff2_ok {W H : Int} {bl : Nat → Bool} {a t : Int} (h : ff2 W H bl a t = 0) : (inB W H a = true ∧ bl a.toNat = false) ∧ (inB W H t = true ∧ bl t.toNat = false) := by
  have one : ∀ c, ffv W H bl c = 0 → inB W H c = true ∧ bl c.toNat = false := fun c h => by
    unfold ffv at h
    cases h1 : inB W H c with
    | false => rw [h1] at h; cases h
    | true =>
      cases h2 : bl c.toNat with
      | false => exact ⟨rfl, rfl⟩
      | true => rw [h1, h2] at h; cases h
  unfold ff2 at h
  split at h
  · rename_i h1; exact ⟨one a h1, one t h⟩
  · rename_i h1; exact absurd h h1
set_option maxHeartbeats 400000 in
theorem check2_any {b : Nat} {W H V : Int} {bl : Nat → Bool} (a t : Int) (w : World) (g : GridAt w b W H V bl) (hb : b < w.heap.size) :
    Calls Tryz.prog 81 #[.pointer (some ⟨b, 0, none⟩), .int .i64 a, .int .i64 t] w fun e w' => e = .returned (errV (ff2 W H bl a t)) ∧ Below w.heap.size w w' := by
  have h1 := check_any a w g
  unfold ff2
  by_cases h : ffv W H bl a = 0
  · rw [if_pos h]
    rw [h, errV_nil] at h1
    go_enter Tryz.func81, Tryz.ntmps81
    go_wp2_with fail
    refine h1.mono ?_
    rintro e w1 ⟨rfl, hb1⟩
    have h2 := check_any t w1 (g.below hb1 hb)
    clear h1
    go_wp2_with fail
    refine h2.mono ?_
    rintro e w2 ⟨rfl, hb2⟩
    clear h2
    go_wp2
    go_ret
    exact ⟨rfl, hb1.trans (hb2.mono hb1.size)⟩
  · rw [if_neg h]
    rw [errV_some h] at h1 ⊢
    go_enter Tryz.func81, Tryz.ntmps81
    go_wp2_with fail
    refine h1.mono ?_
    rintro e w1 ⟨rfl, hb1⟩
    clear h1
    go_wp2
    go_ret
    exact ⟨rfl, hb1⟩
set_option maxHeartbeats 400000 in
theorem near_err {b : Nat} {W H V : Int} {bl : Nat → Bool} (a t : Int) (w : World) (g : GridAt w b W H V bl) (hb : b < w.heap.size) (hf : ff2 W H bl a t ≠ 0) :
    Calls Tryz.prog 41 #[.pointer (some ⟨b, 0, none⟩), .int .i64 a, .int .i64 t] w fun e w' => e = .returned (.tuple #[.bool false, errV (ff2 W H bl a t)]) ∧ Below w.heap.size w w' := by
  have h1 := check2_any a t w g hb
  rw [errV_some hf] at h1 ⊢
  go_enter Tryz.func41, Tryz.ntmps41
  go_wp2_with fail
  refine h1.mono ?_
  rintro e w1 ⟨rfl, hb1⟩
  clear h1
  go_wp2
  go_ret2
  exact ⟨rfl, hb1⟩
set_option maxHeartbeats 1000000 in
theorem near_ok {b : Nat} {W H V : Int} {bl : Nat → Bool} (a t : Int) (w : World) (g : GridAt w b W H V bl) (s : StepsAt w) (d : DiagAt w) (hb : b < w.heap.size) (hf : ff2 W H bl a t = 0) :
    Calls Tryz.prog 41 #[.pointer (some ⟨b, 0, none⟩), .int .i64 a, .int .i64 t] w fun e w' => ∃ r, e = .returned (.tuple #[.bool r, .nilIface]) ∧ (r = true ↔ ∃ z, On W H bl a t z) ∧ Below w.heap.size w w' := by
  have h1 := check2_any a t w g hb
  rw [hf, errV_nil] at h1
  obtain ⟨⟨ha, _⟩, ⟨ht, _⟩⟩ := ff2_ok hf
  go_enter Tryz.func41, Tryz.ntmps41
  go_wp2_with fail
  refine h1.mono ?_
  rintro e w1 ⟨rfl, hb1⟩
  have h2 := rbtw_any w1 (g.below hb1 hb) (s.below hb1 (by omega)) (d.below hb1) (Nat.lt_of_lt_of_le hb hb1.size) ha ht
  clear h1
  go_wp2_with fail
  refine h2.mono ?_
  rintro e w2 ⟨nb, T, rfl, hT, hTi, _, hb2⟩
  have B2 := hb1.trans (hb2.mono hb1.size)
  have hne := hT.ne_nil
  have hlen := fun ty => hT.mp.len (t := 146) Tryz.underS ty
  have hex : (∃ z, T z = true) ↔ ∃ z, On W H bl a t z := ⟨fun ⟨z, h⟩ => ⟨z, (hTi z).1 h⟩, fun ⟨z, h⟩ => ⟨z, (hTi z).2 h⟩⟩
  rw [hex] at hne
  clear h2 hb2 hT hTi hex
  generalize cntS T 256 = cn at *
  by_cases hp : 0 < cn
  · have hp' : (0 : Int) < (cn : Int) := by omega
    have HN := hne.1 hp
    clear hne
    go_wp2
    go_ret2
    exact ⟨true, rfl, ⟨fun _ => HN, fun _ => rfl⟩, B2⟩
  · have HN : ¬ ∃ z, On W H bl a t z := fun h => hp (hne.2 h)
    obtain rfl : cn = 0 := by omega
    clear hne hp
    go_wp2
    go_ret2
    exact ⟨false, rfl, ⟨fun h => (by cases h), fun h => absurd h HN⟩, B2⟩
end Go.Proofs.YtmnpplkjhnoglaaGreatDoor
/-
  Searches over levels in memory: their answers; a closed fact of nine cells.
-/
namespace Go.Proofs.YtmnpplkjhnoglaaGreatDoor
open Go.RowKit

theorem tw_in {t a p : Int} (Rr : List Int) (ha : a ∈ Rr) (hs : ∀ p ∈ Rr, ∀ k, k < 8 → mayB 3 3 mid9 (p % 3) (p / 3) k = true → Good (p % 3) (p / 3) (t % 3) (t / 3) k → p + (stepY k * 3 + stepX k) ∈ Rr) (h : Tw 3 3 mid9 a t p) : p ∈ Rr :=
  h (fun p => p ∈ Rr) ha (fun p k r hp e hg => by rw [e.2.2.2]; exact hs p hp k e.1 e.2.2.1 hg)
theorem tw02 {p : Int} (h : Tw 3 3 mid9 0 2 p) : p ∈ ([0, 1, 2] : List Int) := tw_in _ (by decide) (by unfold Good; decide) h
theorem tw28 {p : Int} (h : Tw 3 3 mid9 2 8 p) : p ∈ ([2, 5, 8] : List Int) := tw_in _ (by decide) (by unfold Good; decide) h
theorem on02 : On 3 3 mid9 0 2 2 := ⟨(Tw.nil.step (k := 2) (r := 1) (by unfold Edge; decide) (by unfold Good; decide)).step (k := 2) (r := 2) (by unfold Edge; decide) (by unfold Good; decide), Tw.nil⟩
theorem on28 : On 3 3 mid9 2 8 8 := ⟨(Tw.nil.step (k := 4) (r := 5) (by unfold Edge; decide) (by unfold Good; decide)).step (k := 4) (r := 8) (by unfold Edge; decide) (by unfold Good; decide), Tw.nil⟩
theorem dir02 : Dir 3 3 mid9 0 2 := ⟨⟨2, on02⟩, fun k hk hc => by
  have h := tw02 hk.1
  simp only [List.mem_cons, List.not_mem_nil, or_false] at h
  rcases h with rfl | rfl | rfl
  · exact Or.inl rfl
  · exact absurd (cornB_iff.2 hc) (by decide)
  · exact Or.inr rfl⟩
theorem dir28 : Dir 3 3 mid9 2 8 := ⟨⟨8, on28⟩, fun k hk hc => by
  have h := tw28 hk.1
  simp only [List.mem_cons, List.not_mem_nil, or_false] at h
  rcases h with rfl | rfl | rfl
  · exact Or.inl rfl
  · exact absurd (cornB_iff.2 hc) (by decide)
  · exact Or.inr rfl⟩
theorem src9 (n : Nat) (h : n ∈ [0, 2, 6, 8]) : srcE (crs 3 3 mid9 (3 * 3 : Int).toNat) [⟨n, 0, 0, 0⟩] n 0 0 := by
  refine ⟨_, List.mem_singleton.2 rfl, ⟨⟨by show (0 : Int) ≤ (n : Int); omega, ?_⟩, Int.le_refl _, by show (0 : Int) ≤ 1048576; decide, Int.le_refl _, by show (0 : Int) ≤ 1048576; decide⟩, rfl, rfl, rfl⟩
  show (n : Int).toNat ∈ _
  rw [corn9, Int.toNat_natCast]
  exact h
theorem found9 {es : Nat → List LE} (G : GEs 3 3 mid9 es) {s d : Int} {f : Bool} (S : Srch 3 3 mid9 es [⟨0, 0, 0, 0⟩] [⟨8, 0, 0, 0⟩] s d f) : f = true := by
  have e1 : GrE es 0 2 (octS 3 (0 : Nat) (2 : Nat)) (octD 3 (0 : Nat) (2 : Nat)) := ⟨_, G.in (a := 0) (m := 2) (by decide) (by decide) dir02 (by decide), rfl, rfl, rfl⟩
  have e2 : GrE es 2 8 (octS 3 (2 : Nat) (8 : Nat)) (octD 3 (2 : Nat) (8 : Nat)) := ⟨_, G.in (a := 2) (m := 8) (by decide) (by decide) dir28 (by decide), rfl, rfl, rfl⟩
  exact (S.opt (src9 0 (by decide)) (src9 8 (by decide)) ((Wg.one e1).trans (Wg.one e2))).1
theorem Lvd.below {w w' : World} {N lb most : Nat} {W H : Int} {bl : Nat → Bool} {es : Nat → List LE} (h : Lvd w N lb most W H bl es) (hb : Below w.heap.size w w') : Lvd w' N lb most W H bl es := by
  obtain ⟨vb, eb, k, st, f, h1, h2, V⟩ := h
  exact ⟨vb, eb, k, st, f, h1, h2, V.below hb⟩
theorem srch_any {N lb most gf cap cap2 : Nat} {W H : Int} {bl : Nat → Bool} {es : Nat → List LE} {cs : List Value} {g : Int → Int × Int} {A A2 : Option Addr} {out inn : List IE} (w : World) (hL : Lvd w N lb most W H bl es) (G : GEs W H bl es) (w1 : 1 ≤ W) (w2 : W ≤ 16) (h1 : 1 ≤ H) (h2 : H ≤ 16) (m6 : most ≤ 6) (m1 : 1 ≤ most)
    (hg : GsOk w w.heap.size gf cs g) (hgb : ∀ n : Nat, 0 ≤ (g n).1 ∧ (g n).1 ≤ 1024 ∧ 0 ≤ (g n).2 ∧ (g n).2 ≤ 1024) (hA : ∀ {k st}, Rds most (crs W H bl (W * H).toNat) ⟨fun _ => 0, es⟩ k st → Adm (crs W H bl (W * H).toNat) st.es g (srcE (crs W H bl (W * H).toNat) inn))
    (ho : RowI w A out) (hi : RowI w A2 inn) (hol : out.length ≤ 1000) (hil : inn.length ≤ 1000) :
    Calls Tryz.prog 29 #[.pointer (some ⟨lb, 0, none⟩), .slice A out.length cap, .slice A2 inn.length cap2, .func (.func gf) #[] cs.toArray] w fun e w' => ∃ s d b v, e = .returned (.tuple #[v, .agg #[.int .i64 s, .int .i64 d], .bool b]) ∧ Srch W H bl es out inn s d b ∧ Below w.heap.size w w' := by
  obtain ⟨vb, eb, k, st, f, hR, _, V⟩ := hL
  obtain ⟨O, hlv, hU⟩ := lvOk G w1 w2 h1 h2 m6 m1 hR
  refine (best_any w V O hlv hU hg hgb ho hi hol hil).mono ?_
  rintro e w' ⟨way, s, d, b, v, rfl, hB, _, hwl, hb⟩
  exact ⟨s, d, b, v, rfl, srch G w1 w2 h1 h2 m6 m1 hR (hA hR) hB hwl, hb⟩
theorem srch_none {N lb most cap cap2 : Nat} {W H : Int} {bl : Nat → Bool} {es : Nat → List LE} {A A2 : Option Addr} {out inn : List IE} (w : World) (hL : Lvd w N lb most W H bl es) (G : GEs W H bl es) (w1 : 1 ≤ W) (w2 : W ≤ 16) (h1 : 1 ≤ H) (h2 : H ≤ 16) (m6 : most ≤ 6) (m1 : 1 ≤ most)
    (ho : RowI w A out) (hi : RowI w A2 inn) (hol : out.length ≤ 1000) (hil : inn.length ≤ 1000) :
    Calls Tryz.prog 29 #[.pointer (some ⟨lb, 0, none⟩), .slice A out.length cap, .slice A2 inn.length cap2, .func (.func 35) #[] #[]] w fun e w' => ∃ s d b v, e = .returned (.tuple #[v, .agg #[.int .i64 s, .int .i64 d], .bool b]) ∧ Srch W H bl es out inn s d b ∧ Below w.heap.size w w' :=
  srch_any (cs := []) w hL G w1 w2 h1 h2 m6 m1 (none_ok w) (fun _ => ⟨Int.le_refl _, by decide, Int.le_refl _, by decide⟩) (fun hR => adm_none (lvOk G w1 w2 h1 h2 m6 m1 hR).1) ho hi hol hil
theorem cns_len {W H : Int} {bl : Nat → Bool} {c : Nat} {l : List Nat} (w1 : 1 ≤ W) (w2 : W ≤ 16) (h1 : 1 ≤ H) (h2 : H ≤ 16) (hr : l.Pairwise (· < ·)) (hl : Cns W H bl c l) : l.length ≤ 256 ∧ ∀ n ∈ l, n < 256 := by
  have hwh := wh_bd w1 w2 h1 h2
  have hm : ∀ n ∈ l, n ∈ crs W H bl (W * H).toNat := fun n hn => by
    have h := ((hl n).1 hn).2
    have h4 : 0 ≤ (n : Int) ∧ (n : Int) < W * H := of_decide_eq_true (cornC_in w1 (cornB_iff.1 h))
    exact crs_mem.2 ⟨by omega, h⟩
  have he : l = (crs W H bl (W * H).toNat).filter (fun x => decide (x ∈ l)) :=
    rise_eq hr (List.Pairwise.filter _ (crs_rise _ _ _ _)) (fun n => by
      rw [List.mem_filter, decide_eq_true_iff]
      exact ⟨fun h => ⟨hm n h, h⟩, fun h => h.2⟩)
  have a1 := congrArg List.length he
  have a2 := List.length_filter_le (fun x => decide (x ∈ l)) (crs W H bl (W * H).toNat)
  have a3 := crs_len W H bl (W * H).toNat
  refine ⟨by omega, fun n hn => ?_⟩
  have := (crs_mem.1 (hm n hn)).1
  omega
theorem rowI_of {w : World} {base c : Nat} {v : Value} {W : Int} {l : List Nat} (h : w.ownsRow base 67 4 v l.length (edgesV W (c : Int) l)) (hl : ∀ n ∈ l, n < 256) : ∃ A cap, v = .slice A (frI W c l).length cap ∧ RowI w A (frI W c l) := by
  rw [← lesV_edges W c l] at h
  have e : (frC W c l).length = l.length := by unfold frC; rw [List.length_map]
  have h' : w.ownsRow base 67 4 v (frC W c l).length (lesV (frC W c l)) := by rw [e]; exact h
  obtain ⟨A, cap, rfl, hr, _⟩ := rowL_of h'
  refine ⟨A, cap, by rw [frI_len, e], fun i x hi => ?_⟩
  unfold frI at hi
  rw [List.getElem?_map] at hi
  cases hq : (frC W c l)[i]? with
  | none => rw [hq] at hi; cases hi
  | some y =>
    rw [hq] at hi
    cases hi
    refine ⟨?_, hr i y hq⟩
    have hy := List.mem_of_getElem? hq
    unfold frC at hy
    obtain ⟨m, hm, rfl⟩ := List.mem_map.1 hy
    have := hl m hm
    exact wf_small (by show (0 : Int) ≤ (m : Int); omega) (by show (m : Int) < 256; omega)
/-- connections of a free cell, as edges of a search -/
theorem conn_rows {rb pb mb : Nat} {W H V : Int} {c : Nat} {bl : Nat → Bool} (w : World) (G : GraphAt w rb pb mb W H V bl) (s : StepsAt w) (w1 : 1 ≤ W) (w2 : W ≤ 16) (h1 : 1 ≤ H) (h2 : H ≤ 16) (hc : inB W H c = true) (hfree : bl c = false) :
    Calls Tryz.prog 37 #[.pointer (some ⟨rb, 0, none⟩), .int .i64 (c : Int)] w fun e w' => ∃ A cap l, e = .returned (.tuple #[.slice A (frI W c l).length cap, .nilIface]) ∧ RowI w' A (frI W c l) ∧ Cns W H bl c l ∧ (frI W c l).length ≤ 1000 ∧ Below w.heap.size w w' := by
  refine (conn_ok w G s hc (by rw [Int.toNat_natCast]; exact hfree)).mono ?_
  rintro e w' ⟨v, l, rfl, hown, ⟨hr, hl⟩, hb⟩
  obtain ⟨a1, a2⟩ := cns_len w1 w2 h1 h2 hr hl
  obtain ⟨A, cap, rfl, hrow⟩ := rowI_of hown a2
  exact ⟨A, cap, l, rfl, hrow, hl, by rw [frI_len]; omega, hb⟩
end Go.Proofs.YtmnpplkjhnoglaaGreatDoor
