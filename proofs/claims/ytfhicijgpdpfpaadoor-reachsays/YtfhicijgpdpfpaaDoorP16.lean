/-
  Texts laid together: RSpread, Between, Reach, RWay.
-/
import Derived.Test.YtfhicijgpdpfpaaDoorP15
/-
  All that is come to by steps towards a cell: package reach's 'spread' and 'between'.
-/
namespace Go.Proofs.YtfhicijgpdpfpaaDoor
open Go.RowKit

/-- how many steps if nothing is in the way -/
def octN (W a b : Int) : Int := octS W a b + octD W a b
theorem octN_nonneg (W a b : Int) : 0 ≤ octN W a b := by
  have := octS_nonneg W a b
  have := octD_nonneg W a b
  unfold octN; omega
theorem octN_step {W H : Int} {bl : Nat → Bool} (w1 : 1 ≤ W) {p r t : Int} {k : Nat} (e : Edge W H bl p k r) (g : Good (p % W) (p / W) (t % W) (t / W) k) : octN W r t + 1 = octN W p t := by
  obtain ⟨h1, h2⟩ := (good_iff w1 e).1 g
  have := st_bd k
  unfold octN
  omega
theorem Tw.inv {W H : Int} {bl : Nat → Bool} {a t z : Int} (h : Tw W H bl a t z) : z = a ∨ ∃ p k, Tw W H bl a t p ∧ Edge W H bl p k z ∧ Good (p % W) (p / W) (t % W) (t / W) k := by
  have := h (fun z => Tw W H bl a t z ∧ (z = a ∨ ∃ p k, Tw W H bl a t p ∧ Edge W H bl p k z ∧ Good (p % W) (p / W) (t % W) (t / W) k)) ⟨Tw.nil, Or.inl rfl⟩ (fun p k r hp e g => ⟨hp.1.step e g, Or.inr ⟨p, k, hp.1, e, g⟩⟩)
  exact this.2
theorem Tw.in {W H : Int} {bl : Nat → Bool} {a t z : Int} (w1 : 1 ≤ W) (ha : inB W H a = true) (h : Tw W H bl a t z) : inB W H z = true :=
  h (fun z => inB W H z = true) ha (fun _ _ _ _ e _ => e.in' w1)
theorem Tw.top {W H : Int} {bl : Nat → Bool} {a t z : Int} (w1 : 1 ≤ W) (h : Tw W H bl a t z) : octN W z t ≤ octN W a t :=
  h (fun z => octN W z t ≤ octN W a t) (Int.le_refl _) (fun p k r hp e g => by have := octN_step w1 e g; omega)
theorem Tw.mid {W H : Int} {bl : Nat → Bool} {a t z : Int} (w1 : 1 ≤ W) (h : Tw W H bl a t z) : ∀ j, octN W z t ≤ j → j ≤ octN W a t → ∃ z', Tw W H bl a t z' ∧ octN W z' t = j := by
  have := h (fun z => Tw W H bl a t z ∧ ∀ j, octN W z t ≤ j → j ≤ octN W a t → ∃ z', Tw W H bl a t z' ∧ octN W z' t = j) ⟨Tw.nil, fun j h1 h2 => ⟨a, Tw.nil, by omega⟩⟩ (fun p k r hp e g => ⟨hp.1.step e g, fun j h1 h2 => by
    have := octN_step w1 e g
    by_cases q : octN W r t = j
    · exact ⟨r, hp.1.step e g, q⟩
    · exact hp.2 j (by omega) h2⟩)
  exact this.2

set_option maxHeartbeats 2000000 in
set_option maxRecDepth 1000000 in
theorem rspread_any {b : Nat} {W H V a t : Int} {bl : Nat → Bool} (w : World) (g : GridAt w b W H V bl) (s : StepsAt w) (d : DiagAt w) (hb : b < w.heap.size) (ha : inB W H a = true) (ht : inB W H t = true) :
    Calls Tryd.prog 88 #[.pointer (some ⟨b, 0, none⟩), .int .i64 a, .int .i64 t] w fun e w' => ∃ nb T, e = .returned (.map (some nb)) ∧ SetAt w' nb T ∧ (∀ z, T z = true ↔ Tw W H bl a t z) ∧ w.heap.size ≤ nb ∧ Below w.heap.size w w' := by
  have gw1 := g.w1
  have hwh := wh_bd g.w1 g.w2 g.h1 g.h2
  have hia : 0 ≤ a ∧ a < W * H := of_decide_eq_true ha
  have hwa := wf_small hia.1 (show a < 256 by omega)
  have hmm := @run_makeMap Tryd.prog
  have hM0 := (SetAt.made w).grown (World.grownBy_alloc (w.alloc (.map #[] 0)) (.map #[] 0) none) (by simp)
  have hM1 := SetAt.made (w.alloc (.map #[] 0))
  have hz0 : (w.alloc (.map #[] 0)).heap.size = w.heap.size + 1 := by simp
  have B0 : Below w.heap.size w ((w.alloc (.map #[] 0)).alloc (.map #[] 0)) := ((Below.refl _ _).alloc (Nat.le_refl _) _).alloc (by simp) _
  rw [hz0] at hM1
  go_enter Tryd.func88, Tryd.ntmps88
  go_wp2_with (first | (refine wpList_ins rfl _ _ _ 106 rfl 3 126 law3 Tryd.under106 (w.heap.size + 1) _ _ (by first | rfl | (rw [hz0]; rfl)) hM1.mp hM1.room a (.agg #[]) rfl rfl hwa ?_; intro w1 hm1 ht1; go_frame) | go_in)
  have hF0 := hM1.put hia.1 (show a < 256 by omega) hm1
  have hg1 := ht1.grown
  have hA0 := hM0.grown hg1 (fun e => by have := Option.some.inj e; omega)
  have B1 : Below w.heap.size w w1 := B0.grown hg1 (by simp; omega) (fun k e => by cases e; omega)
  clear hM0 hM1 hz0 B0 hm1 ht1 hg1 hmm
  have hn0 := octN_nonneg W a t
  go_loopg [8] (octN W a t + 1).toNat (fun gk fv wr => ∃ (i fb : Nat) (SF SA : Int → Bool), gk = (octN W a t + 1 - i).toNat ∧ fv = .map (some fb) ∧ w.heap.size < fb ∧ SetAt wr fb SF ∧ SetAt wr w.heap.size SA ∧ Hid (∀ z, SF z = true ↔ Tw W H bl a t z ∧ octN W z t + i = octN W a t) ∧ Hid (∀ z, SA z = true ↔ Tw W H bl a t z ∧ octN W a t < octN W z t + i) ∧ Below w.heap.size w wr)
  case atStart =>
    refine ⟨0, _, _, _, by simp, rfl, Nat.lt_succ_self _, hF0, hA0, fun z => ?_, fun z => ⟨fun h => (by cases h), fun ⟨h1, h2⟩ => ?_⟩, B1⟩
    · rw [insS_iff]
      constructor
      · rintro (rfl | h)
        · exact ⟨Tw.nil, by simp⟩
        · cases h
      · rintro ⟨h1, h2⟩
        rcases h1.inv with e | ⟨p, k, hp, e, hg⟩
        · exact Or.inl e
        · exfalso
          have h3 := octN_step gw1 e hg
          have h4 := Tw.top gw1 hp
          simp at h2
          omega
    · exfalso
      have h4 := Tw.top gw1 h1
      simp at h2
      omega
  case round =>
    obtain ⟨i, fb, SF, SA, hgk, rfl, hfb, hF, hA, hFi, hAi, hB⟩ := hrel
    have hlen := fun ty => hF.mp.len (t := 106) Tryd.under106 ty
    have hne := hF.ne_nil
    by_cases hpos : 0 < cntS SF 256
    · obtain ⟨z, hz⟩ := hne.1 hpos
      have hz' := (hFi.out z).1 hz
      have hzn := octN_nonneg W z t
      have hcp : (0 : Int) < ((cntS SF 256 : Nat) : Int) := by omega
      have hle : (i : Int) ≤ octN W a t := by omega
      clear hne hz hz' hzn
      have hmc := mcopy_any wr hA hF (Nat.ne_of_lt hfb)
      generalize cntS SF 256 = cn at *
      go_wp2_with fail
      refine hmc.mono ?_
      rintro e w2 ⟨rfl, ⟨T, hT, hTi⟩, hK⟩
      have hF2 : SetAt w2 fb SF := hF.kept (hK.block fb hF.lt (by omega))
      have B2 : Below w.heap.size w w2 := hB.trans (hK.to_below hB.size (fun k e => by omega))
      have hin : ∀ i, SF i = true → inB W H i = true := fun i hi => ((hFi.out i).1 hi).1.in gw1 ha
      have had := advance_any w2 (g.below B2 hb) (s.below B2 (by omega)) (d.below B2) (Nat.lt_of_lt_of_le hb B2.size) hF2 hin ht
      have z2 := B2.size
      clear hmc hlen hF hA hK
      go_wp2_with fail
      refine had.mono ?_
      rintro e w3 ⟨nb, T2, rfl, hT2, hT2i, hnb, hb3⟩
      have hT3 := hT.below hb3
      have B3 := B2.trans (hb3.mono B2.size)
      have hTl := hT.lt
      clear had hb3 hT hF2
      go_wp2
      go_roundg (octN W a t + 1 - ((i + 1 : Nat) : Int)).toNat
      case measure => omega
      case rel =>
        refine ⟨i + 1, nb, T2, T, rfl, rfl, by omega, hT2, hT3, fun z => ?_, fun z => ?_, B3⟩
        · rw [hT2i z]
          constructor
          · rintro ⟨c, k, h1, h2, h3⟩
            obtain ⟨q1, q2⟩ := (hFi.out c).1 h1
            have := octN_step gw1 h2 h3
            exact ⟨q1.step h2 h3, by omega⟩
          · rintro ⟨h1, h2⟩
            rcases h1.inv with e | ⟨p, k, hp, e, hg⟩
            · subst e; exfalso; omega
            · have := octN_step gw1 e hg
              exact ⟨p, k, (hFi.out p).2 ⟨hp, by omega⟩, e, hg⟩
        · rw [hTi z, hAi.out z, hFi.out z]
          constructor
          · rintro (⟨h1, h2⟩ | ⟨h1, h2⟩)
            · exact ⟨h1, by omega⟩
            · exact ⟨h1, by omega⟩
          · rintro ⟨h1, h2⟩
            by_cases q : octN W z t + i = octN W a t
            · exact Or.inr ⟨h1, q⟩
            · exact Or.inl ⟨h1, by omega⟩
    · have hno : ∀ z, SF z = false := fun z => by
        cases hz : SF z with
        | false => rfl
        | true => exact absurd (hne.2 ⟨z, hz⟩) hpos
      have hc0 : cntS SF 256 = 0 := by omega
      have hfin : ∀ z, SA z = true ↔ Tw W H bl a t z := fun z => by
        rw [hAi.out z]
        refine ⟨fun h => h.1, fun h => ⟨h, ?_⟩⟩
        by_cases q : octN W a t < octN W z t + i
        · exact q
        · exfalso
          obtain ⟨z', h1, h2⟩ := h.mid gw1 (octN W a t - i) (by omega) (by omega)
          have := (hFi.out z').2 ⟨h1, by omega⟩
          rw [hno z'] at this
          cases this
      have HF : Hid (∀ z, SA z = true ↔ Tw W H bl a t z) := hfin
      rw [hc0] at hlen
      clear hfin hno hne hpos hFi hAi
      go_wp2
      go_ret
      exact ⟨_, SA, rfl, hA, HF.out, Nat.le_refl _, hB⟩
end Go.Proofs.YtfhicijgpdpfpaaDoor
/-
  The cells on ways that cost as if nothing were in the way: package reach's 'between', 'hasCorner', 'next'.
-/
namespace Go.Proofs.YtfhicijgpdpfpaaDoor
open Go.RowKit

set_option maxHeartbeats 2000000 in
set_option maxRecDepth 1000000 in
theorem rbtw_any {b : Nat} {W H V a t : Int} {bl : Nat → Bool} (w : World) (g : GridAt w b W H V bl) (s : StepsAt w) (d : DiagAt w) (hb : b < w.heap.size) (ha : inB W H a = true) (ht : inB W H t = true) :
    Calls Tryd.prog 68 #[.pointer (some ⟨b, 0, none⟩), .int .i64 a, .int .i64 t] w fun e w' => ∃ nb T, e = .returned (.map (some nb)) ∧ SetAt w' nb T ∧ (∀ z, T z = true ↔ On W H bl a t z) ∧ w.heap.size ≤ nb ∧ Below w.heap.size w w' := by
  have hmm := @run_makeMap Tryd.prog
  have hM0 := SetAt.made w
  have hz0 : (w.alloc (.map #[] 0)).heap.size = w.heap.size + 1 := by simp
  have B0 : Below w.heap.size w (w.alloc (.map #[] 0)) := (Below.refl _ _).alloc (Nat.le_refl _) _
  have hsp := rspread_any (w.alloc (.map #[] 0)) (g.below B0 hb) (s.below B0 (by omega)) (d.below B0) (by omega) ht ha
  go_enter Tryd.func68, Tryd.ntmps68
  go_wp2_with fail
  refine hsp.mono ?_
  rintro e w1 ⟨kb, SB, rfl, hB, hBi, hkb, hb1⟩
  have hM1 := hM0.below hb1
  have B1 : Below w.heap.size w w1 := B0.trans (hb1.mono B0.size)
  have hb' : b < w1.heap.size := Nat.lt_of_lt_of_le hb B1.size
  have hsp2 := rspread_any w1 (g.below B1 hb) (s.below B1 (by omega)) (d.below B1) hb' ha ht
  rw [hz0] at hkb
  have HBi : Hid (∀ z, SB z = true ↔ Tw W H bl t a z) := hBi
  have hk1 := hB.lt
  clear hsp hM0 hz0 B0 hb1 hmm hBi
  go_wp2_with fail
  refine hsp2.mono ?_
  rintro e w2 ⟨fb, SF, rfl, hF, hFi, hfb, hb2⟩
  have hM2 := hM1.below hb2
  have hB2 := hB.below hb2
  have B2 : Below w.heap.size w w2 := B1.trans (hb2.mono B1.size)
  have HFi : Hid (∀ z, SF z = true ↔ Tw W H bl a t z) := hFi
  have hk2 := Nat.lt_of_lt_of_le hk1 hb2.size
  have hf2 := hF.lt
  have z2 := B1.size
  have hm2 := hM2.lt
  clear hM1 hB hb2 hsp2 hFi
  go_wp2_with (first | (at_range; refine wpList_rangeF rfl _ 106 rfl 3 126 law3 Tryd.under106 fb _ _ rfl hF.mp ?_; intro w0 hrg0 hg0 hs0) | go_in)
  have hM3 := hM2.grown hg0 (by simp)
  have hB3 := hB2.grown hg0 (by simp)
  have B3 : Below w.heap.size w w0 := B2.grown hg0 B2.size (by simp)
  generalize hr : w2.heap.size = r at *
  clear hM2 hB2 B2 hg0
  go_frame
  go_loopg [] (cntS SF 256) (fun gk wr => ∃ left cnt T, gk = cnt ∧ RngS wr fb r SF left cnt ∧ SetAt wr w.heap.size T ∧ SetAt wr kb SB ∧ Hid (∀ z, T z = true ↔ (SF z = true ∧ left z = false) ∧ SB z = true) ∧ Below w.heap.size w wr)
  case atStart =>
    refine ⟨_, _, _, rfl, hrg0, hM3, hB3, fun z => ⟨fun h => (by cases h), ?_⟩, B3⟩
    rintro ⟨⟨h1, h2⟩, _⟩
    rw [setF_isSome, h1] at h2
    cases h2
  case round =>
    obtain ⟨left, cnt, T, hgk, hrg, hT, hK, hall, hBw⟩ := hrel
    have hbz := hBw.size
    go_wp2_with (first | (at_next; refine wpList_nextF rfl _ rfl 3 law3 fb r _ _ _ _ rfl hrg ?_ ?_) | go_in)
    · intro hc0 hl0
      go_wp2
      go_ret
      refine ⟨_, T, rfl, hT, fun z => ?_, Nat.le_refl _, hBw⟩
      rw [hall.out z, HFi.out z, HBi.out z]
      exact ⟨fun h => ⟨h.1.1, h.2⟩, fun h => ⟨⟨h.1, hl0 z⟩, h.2⟩⟩
    · intro x v w4 cnt1 hwx hlx hfx hrg1 hlt hg1 hs1 hen
      obtain ⟨hSx, rfl⟩ := setF_val hfx
      have hx := hF.bd x hSx
      have hT1 := hT.grown hg1 (fun e => by have := Option.some.inj e; omega)
      have hK1 := hK.grown hg1 (fun e => by have := Option.some.inj e; omega)
      have B4 : Below w.heap.size w w4 := hBw.grown hg1 hbz (fun k e => by cases e; omega)
      have hT2 := hT1.grown (World.grownBy_alloc w4 (.cells #[] 126) none) (by simp)
      have hK2 := hK1.grown (World.grownBy_alloc w4 (.cells #[] 126) none) (by simp)
      have hrg2 := hrg1.grown (World.grownBy_alloc w4 (.cells #[] 126) none) (by simp) (by simp)
      have B5 := B4.alloc B4.size (.cells #[] 126)
      cases hSB : SB x with
      | false =>
        have hlk : (Instr.lookup 106 (.map (some kb)) (.int .i64 x) true).run Tryd.prog w4 = .ok (.tuple #[.agg #[], .bool false]) w4 := hK1.mp.look_none law3 Tryd.under106 (zero126 _) hwx (setF_none hSB) true
        clear hT hK hrg hBw hT1 hK1 B4 hg1
        go_wp2
        go_roundg cnt1
        case measure => omega
        case rel =>
          refine ⟨_, cnt1, T, rfl, hrg2, hT2, hK2, fun z => ?_, B5⟩
          rw [hall.out z]
          by_cases e : z = x
          · subst e; simp [hSB]
          · simp [e]
      | true =>
        have hlk : (Instr.lookup 106 (.map (some kb)) (.int .i64 x) true).run Tryd.prog w4 = .ok (.tuple #[.agg #[], .bool true]) w4 := hK1.mp.look_some law3 Tryd.under106 (zero126 _) hwx (setF_some hSB) true
        clear hT hK hrg hBw hT1 hK1 B4 hg1
        go_wp2_with (first | (at_mapUpdate; refine wpList_put rfl _ _ _ 106 rfl 3 126 law3 Tryd.under106 w.heap.size _ _ rfl hT2.mp hT2.room x (.agg #[]) rfl rfl hwx ?_; intro w5 hm5 ht5; go_frame) | go_in)
        have hT3 := hT2.put hx.1 hx.2 hm5
        have hg5 := ht5.grown
        have hrg3 := hrg2.grown hg5 (fun e => by have := Option.some.inj e; omega) (fun e => by have := Option.some.inj e; omega)
        have hK3 := hK2.grown hg5 (fun e => by have := Option.some.inj e; omega)
        have B6 : Below w.heap.size w w5 := B5.grown hg5 B5.size (fun k e => by cases e; exact Nat.le_refl _)
        go_roundg cnt1
        case measure => omega
        case rel =>
          refine ⟨_, cnt1, _, rfl, hrg3, hT3, hK3, fun z => ?_, B6⟩
          rw [insS_iff, hall.out z]
          by_cases e : z = x
          · subst e; simp [hSB, hSx]
          · simp [e]

set_option maxHeartbeats 2000000 in
set_option maxRecDepth 1000000 in
theorem hasCorner_any {b ob : Nat} {W H V a t : Int} {bl : Nat → Bool} {S : Int → Bool} (w : World) (g : GridAt w b W H V bl) (s : StepsAt w) (hb : b < w.heap.size) (hS : SetAt w ob S) (hin : ∀ i, S i = true → inB W H i = true) :
    Calls Tryd.prog 69 #[.pointer (some ⟨b, 0, none⟩), .map (some ob), .int .i64 a, .int .i64 t] w fun e w' => ∃ r, e = .returned (.bool r) ∧ (r = true ↔ ∃ c, S c = true ∧ cornB W H bl c = true ∧ c ≠ a ∧ c ≠ t) ∧ Below w.heap.size w w' := by
  have hob := hS.lt
  go_enter Tryd.func69, Tryd.ntmps69
  go_wp2_with (first | (at_range; refine wpList_rangeF rfl _ 106 rfl 3 126 law3 Tryd.under106 ob _ _ rfl hS.mp ?_; intro w0 hrg0 hg0 hs0) | go_in)
  have B0 : Below w.heap.size w w0 := (Below.refl _ _).grown hg0 (Nat.le_refl _) (by simp)
  go_frame
  go_loopg [] (cntS S 256) (fun gk wr => ∃ left cnt, gk = cnt ∧ RngS wr ob w.heap.size S left cnt ∧ Hid (∀ c, S c = true → left c = false → ¬ (cornB W H bl c = true ∧ c ≠ a ∧ c ≠ t)) ∧ Below w.heap.size w wr)
  case atStart =>
    refine ⟨_, _, rfl, hrg0, fun c h1 h2 => ?_, B0⟩
    rw [setF_isSome, h1] at h2
    cases h2
  case round =>
    obtain ⟨left, cnt, hgk, hrg, hall, hBw⟩ := hrel
    have hbz := hBw.size
    go_wp2_with (first | (at_next; refine wpList_nextF rfl _ rfl 3 law3 ob w.heap.size _ _ _ _ rfl hrg ?_ ?_) | go_in)
    · intro hc0 hl0
      go_wp2
      go_ret
      refine ⟨false, rfl, ⟨fun h => (by cases h), ?_⟩, hBw⟩
      rintro ⟨c, h1, h2⟩
      exact absurd h2 (hall.out c h1 (hl0 c))
    · intro x v w4 cnt1 hwx hlx hfx hrg1 hlt hg1 hs1 hen
      obtain ⟨hSx, rfl⟩ := setF_val hfx
      have hxin := hin x hSx
      have B4 : Below w.heap.size w w4 := hBw.grown hg1 hbz (fun k e => by cases e; omega)
      have g4 := g.below B4 hb
      have s4 := s.below B4 (by omega)
      have more : ¬ (cornB W H bl x = true ∧ x ≠ a ∧ x ≠ t) → Hid (∀ c, S c = true → (left c && !decide (c = x)) = false → ¬ (cornB W H bl c = true ∧ c ≠ a ∧ c ≠ t)) := fun h c h1 h2 => by
        by_cases e : c = x
        · rw [e]; exact h
        · rw [decide_eq_false e] at h2
          exact hall.out c h1 (by simpa using h2)
      clear hrg hBw hg1 B0 hrg0 hg0
      cases hC : cornB W H bl x with
      | false =>
        have HM := more (fun h => by rw [hC] at h; cases h.1)
        clear more
        go_wp2_with (go_at_call 30; refine (is_v hC _ g4 s4 hxin).mono ?_; rintro e w' ⟨rfl, m, rfl⟩)
        go_roundg cnt1
        case measure => omega
        case rel => exact ⟨_, cnt1, rfl, hrg1, HM, below_drewN B4 _⟩
      | true =>
        by_cases ea : x = a
        · have HM := more (fun h => h.2.1 ea)
          clear more
          subst ea
          go_wp2_with (go_at_call 30; refine (is_v hC _ g4 s4 hxin).mono ?_; rintro e w' ⟨rfl, m, rfl⟩)
          go_roundg cnt1
          case measure => omega
          case rel => exact ⟨_, cnt1, rfl, hrg1, HM, below_drewN B4 _⟩
        · by_cases et : x = t
          · have HM := more (fun h => h.2.2 et)
            clear more
            subst et
            go_wp2_with (go_at_call 30; refine (is_v hC _ g4 s4 hxin).mono ?_; rintro e w' ⟨rfl, m, rfl⟩)
            go_roundg cnt1
            case measure => omega
            case rel => exact ⟨_, cnt1, rfl, hrg1, HM, below_drewN B4 _⟩
          · clear more
            have na : (x != a) = true := bne_iff_ne.2 ea
            have nt : (x != t) = true := bne_iff_ne.2 et
            go_wp2_with (go_at_call 30; refine (is_v hC _ g4 s4 hxin).mono ?_; rintro e w' ⟨rfl, m, rfl⟩)
            go_ret
            exact ⟨true, rfl, ⟨fun _ => ⟨x, hSx, hC, ea, et⟩, fun _ => rfl⟩, below_drewN B4 _⟩

set_option maxHeartbeats 2000000 in
set_option maxRecDepth 1000000 in
theorem rnext_any {b ob : Nat} {W H V c t : Int} {bl : Nat → Bool} {S : Int → Bool} {l : List Nat} (hl : onw W H bl c t 8 = l) (w : World) (g : GridAt w b W H V bl) (s : StepsAt w) (d : DiagAt w) (hb : b < w.heap.size) (hS : SetAt w ob S) (hc : inB W H c = true) (ht : inB W H t = true) :
    Calls Tryd.prog 70 #[.pointer (some ⟨b, 0, none⟩), .map (some ob), .int .i64 c, .int .i64 t] w fun e w' => Below w.heap.size w w' ∧
      ((∃ i, i < l.length ∧ S ((l.getD i 0 : Nat) : Int) = true ∧ (∀ j, j < i → S ((l.getD j 0 : Nat) : Int) = false) ∧ e = .returned (.tuple #[.int .i64 ((l.getD i 0 : Nat) : Int), .bool true])) ∨
       ((∀ i, i < l.length → S ((l.getD i 0 : Nat) : Int) = false) ∧ e = .returned (.tuple #[.int .i64 0, .bool false]))) := by
  have gw1 := g.w1
  have hwh := wh_bd g.w1 g.w2 g.h1 g.h2
  have hob := hS.lt
  have hll : l.length ≤ 8 := by rw [← hl]; exact onw_len _ _ _ _ _ _
  have HZ : Hid (∀ j, j < l.length → (0 : Int) ≤ ((l.getD j 0 : Nat) : Int) ∧ ((l.getD j 0 : Nat) : Int) < 256) := fun j hj => by
    obtain ⟨k, e, _⟩ := (onw_row (z := ((l.getD j 0 : Nat) : Int)) gw1 hc hl).1 ⟨j, hj, rfl⟩
    have : 0 ≤ ((l.getD j 0 : Nat) : Int) ∧ ((l.getD j 0 : Nat) : Int) < W * H := of_decide_eq_true (e.in' gw1)
    omega
  have hon := onward_v hl w g s d hb hc ht
  clear hl
  go_enter Tryd.func70, Tryd.ntmps70
  go_wp2_with fail
  refine hon.mono ?_
  rintro e w1 ⟨A, cap, rfl, hrow, hb1⟩
  have hS1 := hS.below hb1
  clear hon hS
  go_wp2
  go_loopg [19] l.length (fun gj iv wr => ∃ j : Nat, gj = l.length - j ∧ iv = .int .i64 j ∧ j ≤ l.length ∧ SetAt wr ob S ∧ Hid (∀ i, i < j → S ((l.getD i 0 : Nat) : Int) = false) ∧ OldRow wr A l.length (fun i => (l.getD i 0 : Nat)) ∧ Below w.heap.size w wr)
  case atStart => exact ⟨0, rfl, rfl, Nat.zero_le _, hS1, fun i hi => absurd hi (by omega), hrow, hb1⟩
  case round =>
    obtain ⟨j, hgj, rfl, hj, hT, hno, hrow', hB⟩ := hrel
    by_cases hlj : j < l.length
    · obtain ⟨ba, oa, rfl, hba, hcell⟩ := hrow' j hlj
      obtain ⟨z0, z1⟩ := HZ.out j hlj
      have hcell' : wr.cell? ⟨ba, oa + j, none⟩ = some (.int .i64 ((l.getD j 0 : Nat) : Int)) := hcell
      clear hcell
      obtain ⟨zz, hzz⟩ : ∃ zz, ((l.getD j 0 : Nat) : Int) = zz := ⟨_, rfl⟩
      have HZZ : Hid (((l.getD j 0 : Nat) : Int) = zz) := hzz
      rw [hzz] at hcell' z0 z1
      clear hzz
      have i1 : (0 : Int) ≤ (j : Int) := by omega
      have i2 : (j : Int) < (l.length : Int) := by omega
      have bA : Below wr.heap.size wr (wr.alloc (.cells #[] 126)) := (Below.refl _ _).alloc (Nat.le_refl _) _
      have hT2 := hT.below bA
      have hB2 := hB.trans (bA.mono hB.size)
      have hrow2 := hrow'.below bA
      cases hSz : S zz with
      | false =>
        have hlk : (Instr.lookup 106 (.map (some ob)) (.int .i64 zz) true).run Tryd.prog wr = .ok (.tuple #[.agg #[], .bool false]) wr := hT.mp.look_none law3 Tryd.under106 (zero126 _) (wf_small z0 z1) (setF_none hSz) true
        clear hT hB hrow' bA
        go_wp2
        go_roundg (l.length - (j + 1))
        case measure => omega
        case rel =>
          refine ⟨j + 1, rfl, by go_num, by omega, hT2, fun i hi => ?_, hrow2, hB2⟩
          by_cases e : i = j
          · rw [e, HZZ.out]; exact hSz
          · exact hno.out i (by omega)
      | true =>
        have hlk : (Instr.lookup 106 (.map (some ob)) (.int .i64 zz) true).run Tryd.prog wr = .ok (.tuple #[.agg #[], .bool true]) wr := hT.mp.look_some law3 Tryd.under106 (zero126 _) (wf_small z0 z1) (setF_some hSz) true
        clear hT hB hrow' bA
        go_wp2
        go_ret2
        exact ⟨hB2, Or.inl ⟨j, hlj, by rw [HZZ.out]; exact hSz, hno.out, by rw [HZZ.out]; rfl⟩⟩
    · have e : j = l.length := by omega
      subst e
      go_wp2
      go_ret2
      exact ⟨hB, Or.inr ⟨hno.out, rfl⟩⟩
end Go.Proofs.YtfhicijgpdpfpaaDoor
/-
  Package reach: Near, Direct, Way.
-/
namespace Go.Proofs.YtfhicijgpdpfpaaDoor
open Go.RowKit

/-- what is wrong with two cells, the first one's first -/
def ff2 (W H : Int) (bl : Nat → Bool) (a t : Int) : Int := if ffv W H bl a = 0 then ffv W H bl t else ffv W H bl a
theorem ff2_ok {W H : Int} {bl : Nat → Bool} {a t : Int} (h : ff2 W H bl a t = 0) : (inB W H a = true ∧ bl a.toNat = false) ∧ (inB W H t = true ∧ bl t.toNat = false) := by
  have one : ∀ c, ffv W H bl c = 0 → inB W H c = true ∧ bl c.toNat = false := fun c h => by
    unfold ffv at h
    cases h1 : inB W H c with
    | false => rw [h1] at h; cases h
    | true =>
      cases h2 : bl c.toNat with
      | false => exact ⟨rfl, rfl⟩
      | true => rw [h1, h2] at h; cases h
  unfold ff2 at h
  split at h
  · rename_i h1; exact ⟨one a h1, one t h⟩
  · rename_i h1; exact absurd h h1
theorem errV_nil : errV 0 = .nilIface := rfl
theorem errV_some {n : Int} (h : n ≠ 0) : errV n = .iface 78 (.int .i64 n) := by unfold errV; rw [if_neg h]

set_option maxHeartbeats 400000 in
theorem check2_any {b : Nat} {W H V : Int} {bl : Nat → Bool} (a t : Int) (w : World) (g : GridAt w b W H V bl) (hb : b < w.heap.size) :
    Calls Tryd.prog 67 #[.pointer (some ⟨b, 0, none⟩), .int .i64 a, .int .i64 t] w fun e w' => e = .returned (errV (ff2 W H bl a t)) ∧ Below w.heap.size w w' := by
  have h1 := check_any a w g
  unfold ff2
  by_cases h : ffv W H bl a = 0
  · rw [if_pos h]
    rw [h, errV_nil] at h1
    go_enter Tryd.func67, Tryd.ntmps67
    go_wp2_with fail
    refine h1.mono ?_
    rintro e w1 ⟨rfl, hb1⟩
    have h2 := check_any t w1 (g.below hb1 hb)
    clear h1
    go_wp2_with fail
    refine h2.mono ?_
    rintro e w2 ⟨rfl, hb2⟩
    clear h2
    go_wp2
    go_ret
    exact ⟨rfl, hb1.trans (hb2.mono hb1.size)⟩
  · rw [if_neg h]
    rw [errV_some h] at h1 ⊢
    go_enter Tryd.func67, Tryd.ntmps67
    go_wp2_with fail
    refine h1.mono ?_
    rintro e w1 ⟨rfl, hb1⟩
    clear h1
    go_wp2
    go_ret
    exact ⟨rfl, hb1⟩

set_option maxHeartbeats 400000 in
theorem near_err {b : Nat} {W H V : Int} {bl : Nat → Bool} (a t : Int) (w : World) (g : GridAt w b W H V bl) (hb : b < w.heap.size) (hf : ff2 W H bl a t ≠ 0) :
    Calls Tryd.prog 36 #[.pointer (some ⟨b, 0, none⟩), .int .i64 a, .int .i64 t] w fun e w' => e = .returned (.tuple #[.bool false, errV (ff2 W H bl a t)]) ∧ Below w.heap.size w w' := by
  have h1 := check2_any a t w g hb
  rw [errV_some hf] at h1 ⊢
  go_enter Tryd.func36, Tryd.ntmps36
  go_wp2_with fail
  refine h1.mono ?_
  rintro e w1 ⟨rfl, hb1⟩
  clear h1
  go_wp2
  go_ret2
  exact ⟨rfl, hb1⟩
set_option maxHeartbeats 400000 in
theorem direct_err {b : Nat} {W H V : Int} {bl : Nat → Bool} (a t : Int) (w : World) (g : GridAt w b W H V bl) (hb : b < w.heap.size) (hf : ff2 W H bl a t ≠ 0) :
    Calls Tryd.prog 37 #[.pointer (some ⟨b, 0, none⟩), .int .i64 a, .int .i64 t] w fun e w' => e = .returned (.tuple #[.bool false, errV (ff2 W H bl a t)]) ∧ Below w.heap.size w w' := by
  have h1 := check2_any a t w g hb
  rw [errV_some hf] at h1 ⊢
  go_enter Tryd.func37, Tryd.ntmps37
  go_wp2_with fail
  refine h1.mono ?_
  rintro e w1 ⟨rfl, hb1⟩
  clear h1
  go_wp2
  go_ret2
  exact ⟨rfl, hb1⟩
set_option maxHeartbeats 400000 in
theorem rway_err {b : Nat} {W H V : Int} {bl : Nat → Bool} (a t : Int) (w : World) (g : GridAt w b W H V bl) (hb : b < w.heap.size) (hf : ff2 W H bl a t ≠ 0) :
    Calls Tryd.prog 38 #[.pointer (some ⟨b, 0, none⟩), .int .i64 a, .int .i64 t] w fun e w' => e = .returned (.tuple #[.slice none 0 0, errV (ff2 W H bl a t)]) ∧ Below w.heap.size w w' := by
  have h1 := check2_any a t w g hb
  rw [errV_some hf] at h1 ⊢
  go_enter Tryd.func38, Tryd.ntmps38
  go_wp2_with fail
  refine h1.mono ?_
  rintro e w1 ⟨rfl, hb1⟩
  clear h1
  go_wp2
  go_ret2
  exact ⟨rfl, hb1⟩

set_option maxHeartbeats 1000000 in
theorem near_ok {b : Nat} {W H V : Int} {bl : Nat → Bool} (a t : Int) (w : World) (g : GridAt w b W H V bl) (s : StepsAt w) (d : DiagAt w) (hb : b < w.heap.size) (hf : ff2 W H bl a t = 0) :
    Calls Tryd.prog 36 #[.pointer (some ⟨b, 0, none⟩), .int .i64 a, .int .i64 t] w fun e w' => ∃ r, e = .returned (.tuple #[.bool r, .nilIface]) ∧ (r = true ↔ ∃ z, On W H bl a t z) ∧ Below w.heap.size w w' := by
  have h1 := check2_any a t w g hb
  rw [hf, errV_nil] at h1
  obtain ⟨⟨ha, _⟩, ⟨ht, _⟩⟩ := ff2_ok hf
  go_enter Tryd.func36, Tryd.ntmps36
  go_wp2_with fail
  refine h1.mono ?_
  rintro e w1 ⟨rfl, hb1⟩
  have h2 := rbtw_any w1 (g.below hb1 hb) (s.below hb1 (by omega)) (d.below hb1) (Nat.lt_of_lt_of_le hb hb1.size) ha ht
  clear h1
  go_wp2_with fail
  refine h2.mono ?_
  rintro e w2 ⟨nb, T, rfl, hT, hTi, _, hb2⟩
  have B2 := hb1.trans (hb2.mono hb1.size)
  have hne := hT.ne_nil
  have hlen := fun ty => hT.mp.len (t := 106) Tryd.under106 ty
  have hex : (∃ z, T z = true) ↔ ∃ z, On W H bl a t z := ⟨fun ⟨z, h⟩ => ⟨z, (hTi z).1 h⟩, fun ⟨z, h⟩ => ⟨z, (hTi z).2 h⟩⟩
  rw [hex] at hne
  clear h2 hb2 hT hTi hex
  generalize cntS T 256 = cn at *
  by_cases hp : 0 < cn
  · have hp' : (0 : Int) < (cn : Int) := by omega
    have HN := hne.1 hp
    clear hne
    go_wp2
    go_ret2
    exact ⟨true, rfl, ⟨fun _ => HN, fun _ => rfl⟩, B2⟩
  · have HN : ¬ ∃ z, On W H bl a t z := fun h => hp (hne.2 h)
    obtain rfl : cn = 0 := by omega
    clear hne hp
    go_wp2
    go_ret2
    exact ⟨false, rfl, ⟨fun h => (by cases h), fun h => absurd h HN⟩, B2⟩

set_option maxHeartbeats 1000000 in
theorem direct_ok {b : Nat} {W H V : Int} {bl : Nat → Bool} (a t : Int) (w : World) (g : GridAt w b W H V bl) (s : StepsAt w) (d : DiagAt w) (hb : b < w.heap.size) (hf : ff2 W H bl a t = 0) :
    Calls Tryd.prog 37 #[.pointer (some ⟨b, 0, none⟩), .int .i64 a, .int .i64 t] w fun e w' => ∃ r, e = .returned (.tuple #[.bool r, .nilIface]) ∧ (r = true ↔ (∃ z, On W H bl a t z) ∧ ¬ ∃ c, On W H bl a t c ∧ cornB W H bl c = true ∧ c ≠ a ∧ c ≠ t) ∧ Below w.heap.size w w' := by
  have h1 := check2_any a t w g hb
  rw [hf, errV_nil] at h1
  obtain ⟨⟨ha, _⟩, ⟨ht, _⟩⟩ := ff2_ok hf
  have gw1 := g.w1
  go_enter Tryd.func37, Tryd.ntmps37
  go_wp2_with fail
  refine h1.mono ?_
  rintro e w1 ⟨rfl, hb1⟩
  have h2 := rbtw_any w1 (g.below hb1 hb) (s.below hb1 (by omega)) (d.below hb1) (Nat.lt_of_lt_of_le hb hb1.size) ha ht
  clear h1
  go_wp2_with fail
  refine h2.mono ?_
  rintro e w2 ⟨nb, T, rfl, hT, hTi, _, hb2⟩
  have B2 := hb1.trans (hb2.mono hb1.size)
  have hne := hT.ne_nil
  have hlen := fun ty => hT.mp.len (t := 106) Tryd.under106 ty
  have hex : (∃ z, T z = true) ↔ ∃ z, On W H bl a t z := ⟨fun ⟨z, h⟩ => ⟨z, (hTi z).1 h⟩, fun ⟨z, h⟩ => ⟨z, (hTi z).2 h⟩⟩
  have hco : (∃ c, T c = true ∧ cornB W H bl c = true ∧ c ≠ a ∧ c ≠ t) ↔ ∃ c, On W H bl a t c ∧ cornB W H bl c = true ∧ c ≠ a ∧ c ≠ t := ⟨fun ⟨z, h, k⟩ => ⟨z, (hTi z).1 h, k⟩, fun ⟨z, h, k⟩ => ⟨z, (hTi z).2 h, k⟩⟩
  rw [hex] at hne
  have hin : ∀ i, T i = true → inB W H i = true := fun i hi => ((hTi i).1 hi).1.in gw1 ha
  have h3 := hasCorner_any (a := a) (t := t) w2 (g.below B2 hb) (s.below B2 (by omega)) (Nat.lt_of_lt_of_le hb B2.size) hT hin
  rw [hco] at h3
  clear h2 hb2 hT hTi hex hco hin
  generalize cntS T 256 = cn at *
  by_cases hp : 0 < cn
  · have hp' : (0 : Int) < (cn : Int) := by omega
    have HN := hne.1 hp
    clear hne
    go_wp2_with fail
    refine h3.mono ?_
    rintro e w3 ⟨r, rfl, hr, hb3⟩
    clear h3 hlen
    cases r with
    | false =>
      go_wp2
      go_ret2
      exact ⟨true, rfl, ⟨fun _ => ⟨HN, fun h => by cases hr.2 h⟩, fun _ => rfl⟩, B2.trans (hb3.mono B2.size)⟩
    | true =>
      go_wp2
      go_ret2
      exact ⟨false, rfl, ⟨fun h => (by cases h), fun h => absurd (hr.1 (by trivial)) h.2⟩, B2.trans (hb3.mono B2.size)⟩
  · have HN : ¬ ∃ z, On W H bl a t z := fun h => hp (hne.2 h)
    obtain rfl : cn = 0 := by omega
    clear hne hp h3
    go_wp2
    go_ret2
    exact ⟨false, rfl, ⟨fun h => (by cases h), fun h => absurd h.1 HN⟩, B2⟩

set_option maxHeartbeats 1000000 in
theorem rway_none {b : Nat} {W H V : Int} {bl : Nat → Bool} (a t : Int) (w : World) (g : GridAt w b W H V bl) (s : StepsAt w) (d : DiagAt w) (hb : b < w.heap.size) (hf : ff2 W H bl a t = 0) (hno : ¬ ∃ z, On W H bl a t z) :
    Calls Tryd.prog 38 #[.pointer (some ⟨b, 0, none⟩), .int .i64 a, .int .i64 t] w fun e w' => e = .returned (.tuple #[.slice none 0 0, .iface 78 (.int .i64 5)]) ∧ Below w.heap.size w w' := by
  have h1 := check2_any a t w g hb
  rw [hf, errV_nil] at h1
  obtain ⟨⟨ha, _⟩, ⟨ht, _⟩⟩ := ff2_ok hf
  go_enter Tryd.func38, Tryd.ntmps38
  go_wp2_with fail
  refine h1.mono ?_
  rintro e w1 ⟨rfl, hb1⟩
  have h2 := rbtw_any w1 (g.below hb1 hb) (s.below hb1 (by omega)) (d.below hb1) (Nat.lt_of_lt_of_le hb hb1.size) ha ht
  clear h1
  go_wp2_with fail
  refine h2.mono ?_
  rintro e w2 ⟨nb, T, rfl, hT, hTi, _, hb2⟩
  have B2 := hb1.trans (hb2.mono hb1.size)
  have hlen := fun ty => hT.mp.len (t := 106) Tryd.under106 ty
  have hc0 : cntS T 256 = 0 := by
    by_cases hp : 0 < cntS T 256
    · obtain ⟨z, hz⟩ := hT.ne_nil.1 hp
      exact absurd ⟨z, (hTi z).1 hz⟩ hno
    · omega
  rw [hc0] at hlen
  clear h2 hb2 hT hTi hno
  go_wp2
  go_ret2
  exact ⟨rfl, B2⟩
end Go.Proofs.YtfhicijgpdpfpaaDoor
/-
  Package reach: the way.
-/
namespace Go.Proofs.YtfhicijgpdpfpaaDoor
open Go.RowKit

variable {W H : Int} {bl : Nat → Bool}
theorem onw_mem4 {c t : Int} {z : Nat} (w1 : 1 ≤ W) (hc : inB W H c = true) : z ∈ onw W H bl c t 4 ↔ ∃ k, k % 2 = 1 ∧ Edge W H bl c k z ∧ Good (c % W) (c / W) (t % W) (t / W) k := by
  unfold onw
  rw [List.mem_map]
  constructor
  · rintro ⟨i, hi, rfl⟩
    rw [List.mem_filter] at hi
    have h := hi.2
    have hi4 := List.mem_range.1 hi.1
    unfold onB at h
    rw [Bool.and_eq_true] at h
    refine ⟨dF i, ?_, ⟨dF_lt i, hc, h.1, tgt_eq w1 h.1⟩, goodB_iff.1 h.2⟩
    have : i = 0 ∨ i = 1 ∨ i = 2 ∨ i = 3 := by omega
    rcases this with rfl | rfl | rfl | rfl <;> decide
  · rintro ⟨k, hk, ⟨h1, _, h3, h4⟩, hg⟩
    have hdf : ∃ i, i < 4 ∧ dF i = k := by
      have : k = 1 ∨ k = 3 ∨ k = 5 ∨ k = 7 := by omega
      rcases this with rfl | rfl | rfl | rfl
      · exact ⟨0, by decide, rfl⟩
      · exact ⟨1, by decide, rfl⟩
      · exact ⟨2, by decide, rfl⟩
      · exact ⟨3, by decide, rfl⟩
    obtain ⟨i, hi, rfl⟩ := hdf
    refine ⟨i, List.mem_filter.2 ⟨List.mem_range.2 hi, ?_⟩, ?_⟩
    · unfold onB
      rw [Bool.and_eq_true]
      exact ⟨h3, goodB_iff.2 hg⟩
    · have := tgt_eq (H := H) w1 h3
      omega
theorem onw_split (c t : Int) : ∃ r, onw W H bl c t 8 = onw W H bl c t 4 ++ r := by
  rw [onw_succ W H bl c t 7, onw_succ W H bl c t 6, onw_succ W H bl c t 5, onw_succ W H bl c t 4, List.append_assoc, List.append_assoc, List.append_assoc]
  exact ⟨_, rfl⟩

/-- the first one that is on leads on as the way does -/
theorem pick_chosen {a t p : Int} {S : Int → Bool} {l : List Nat} {i : Nat} (w1 : 1 ≤ W) (hp : inB W H p = true) (hl : onw W H bl p t 8 = l) (hS : ∀ z, S z = true ↔ On W H bl a t z) (hi : i < l.length) (h1 : S ((l.getD i 0 : Nat) : Int) = true) (h2 : ∀ j, j < i → S ((l.getD j 0 : Nat) : Int) = false) :
    ∃ k, Chosen W H bl a t p k ((l.getD i 0 : Nat) : Int) := by
  obtain ⟨r, hr⟩ := onw_split (W := W) (H := H) (bl := bl) p t
  rw [hl] at hr
  by_cases q : i < (onw W H bl p t 4).length
  · have e : l.getD i 0 = (onw W H bl p t 4).getD i 0 := by
      rw [hr, List.getD_eq_getElem?_getD, List.getD_eq_getElem?_getD, List.getElem?_append_left q]
    have hm : l.getD i 0 ∈ onw W H bl p t 4 := by rw [e, getD_at _ _ q]; exact List.getElem_mem q
    obtain ⟨k, k1, k2, k3⟩ := (onw_mem4 w1 hp).1 hm
    exact ⟨k, ⟨k2, k3, (hS _).1 h1⟩, fun h => by omega⟩
  · obtain ⟨k, e, g⟩ := (onw_row (z := ((l.getD i 0 : Nat) : Int)) w1 hp hl).1 ⟨i, hi, rfl⟩
    refine ⟨k, ⟨e, g, (hS _).1 h1⟩, fun _ j z hj hc => ?_⟩
    have hz : 0 ≤ z ∧ z < W * H := of_decide_eq_true (hc.1.in' w1)
    have hm : z.toNat ∈ onw W H bl p t 4 := (onw_mem4 w1 hp).2 ⟨j, hj, by rw [Int.toNat_of_nonneg hz.1]; exact hc.1, hc.2.1⟩
    obtain ⟨n, hn, h⟩ := List.getElem_of_mem hm
    have e : l.getD n 0 = z.toNat := by
      rw [hr, List.getD_eq_getElem?_getD, List.getElem?_append_left hn, List.getElem?_eq_getElem hn, h]; rfl
    have := h2 n (by omega)
    rw [e, Int.toNat_of_nonneg hz.1, (hS z).2 hc.2.2] at this
    cases this
/-- where none is on the way is at its end -/
theorem pick_none {a t p : Int} {S : Int → Bool} {l : List Nat} (w1 : 1 ≤ W) (hoS : octS W a t ≤ 1000) (hoD : octD W a t ≤ 1000) (hp : inB W H p = true) (hl : onw W H bl p t 8 = l) (hS : ∀ z, S z = true ↔ On W H bl a t z) (hon : On W H bl a t p) (h2 : ∀ j, j < l.length → S ((l.getD j 0 : Nat) : Int) = false) : p = t := by
  apply Classical.byContradiction
  intro hne
  obtain ⟨j, r, e, g, ho⟩ := hon.next w1 hoS hoD hne
  obtain ⟨i, hi, rfl⟩ := (onw_row (z := r) w1 hp hl).2 ⟨j, e, g⟩
  have := h2 i hi
  rw [(hS _).2 ho] at this
  cases this

/-- where a way stands: the next one, or at the end -/
def NextIs (W H : Int) (bl : Nat → Bool) (a t p : Int) (cv mv : Value) : Prop := (∃ k, ∃ r : Nat, cv = .int .i64 r ∧ mv = .bool true ∧ Chosen W H bl a t p k r) ∨ (cv = .int .i64 0 ∧ mv = .bool false ∧ p = t)

theorem rnext_v {b ob : Nat} {V a t p : Int} {S : Int → Bool} (w : World) (g : GridAt w b W H V bl) (s : StepsAt w) (d : DiagAt w) (hb : b < w.heap.size) (hS : SetAt w ob S) (hSi : ∀ z, S z = true ↔ On W H bl a t z) (hoS : octS W a t ≤ 1000) (hoD : octD W a t ≤ 1000) (ht : inB W H t = true) (hp : inB W H p = true) (hon : On W H bl a t p) :
    Calls Tryd.prog 70 #[.pointer (some ⟨b, 0, none⟩), .map (some ob), .int .i64 p, .int .i64 t] w fun e w' => Below w.heap.size w w' ∧ ∃ cv mv, e = .returned (.tuple #[cv, mv]) ∧ NextIs W H bl a t p cv mv := by
  refine (rnext_any rfl w g s d hb hS hp ht).mono ?_
  rintro e w' ⟨hb', ⟨i, hi, h1, h2, rfl⟩ | ⟨h2, rfl⟩⟩
  · obtain ⟨k, hk⟩ := pick_chosen g.w1 hp rfl hSi hi h1 h2
    exact ⟨hb', _, _, rfl, Or.inl ⟨k, _, rfl, rfl, hk⟩⟩
  · exact ⟨hb', _, _, rfl, Or.inr ⟨rfl, rfl, pick_none g.w1 hoS hoD hp rfl hSi hon h2⟩⟩

/-- numbers of a list -/
def ints (l : List Nat) : List Int := l.map fun n : Nat => (n : Int)
theorem ints_snoc (l : List Nat) (n : Nat) : ints (l ++ [n]) = ints l ++ [(n : Int)] := by unfold ints; rw [List.map_append]; rfl

theorem own_base {w : World} {base base' k n : Nat} {e : TypeId} {v : Value} {xs : List Value} (h : w.ownsRow base e k v n xs) (hb : base' ≤ base) : w.ownsRow base' e k v n xs := by
  obtain ⟨h1, h2⟩ := h
  refine ⟨h1, ?_⟩
  rcases h2 with h2 | ⟨g, cap, cur, q1, q2, q3⟩
  · exact .inl h2
  · exact .inr ⟨g, cap, cur, q1, Nat.le_trans hb q2, q3⟩

set_option maxHeartbeats 2000000 in
set_option maxRecDepth 1000000 in
theorem rway_ok {b : Nat} {V : Int} (a : Nat) (t : Int) (w : World) (g : GridAt w b W H V bl) (s : StepsAt w) (d : DiagAt w) (hb : b < w.heap.size) (hf : ff2 W H bl a t = 0) (hyes : ∃ z, On W H bl a t z) :
    Calls Tryd.prog 38 #[.pointer (some ⟨b, 0, none⟩), .int .i64 a, .int .i64 t] w fun e w' => ∃ v l, e = .returned (.tuple #[v, .nilIface]) ∧ w'.ownsRow w.heap.size 3 1 v (a :: l).length (vals (a :: l)) ∧ Chn (WSt W H bl a t) a (ints l) t ∧ l.length ≤ 64 ∧ Below w.heap.size w w' := by
  have h1 := check2_any a t w g hb
  rw [hf, errV_nil] at h1
  obtain ⟨⟨ha, _⟩, ⟨ht, _⟩⟩ := ff2_ok hf
  obtain ⟨i0, hi, hz0, hz1, hz2⟩ := info_parts Tryd.info3
  have gw1 := g.w1
  have hsm := oct_small g.w1 g.w2 g.h1 g.h2 ha ht
  have hoS : octS W a t ≤ 1000 := by omega
  have hoD : octD W a t ≤ 1000 := by omega
  obtain ⟨z, hz⟩ := hyes
  have hona := (hz.ends gw1 hoS hoD).1
  go_enter Tryd.func38, Tryd.ntmps38
  go_wp2_with fail
  refine h1.mono ?_
  rintro e w1 ⟨rfl, hb1⟩
  have h2 := rbtw_any w1 (g.below hb1 hb) (s.below hb1 (by omega)) (d.below hb1) (Nat.lt_of_lt_of_le hb hb1.size) ha ht
  clear h1
  go_wp2_with fail
  refine h2.mono ?_
  rintro e w2 ⟨nb, T, rfl, hT, hTi, hnb, hb2⟩
  have B2 := hb1.trans (hb2.mono hb1.size)
  have hlen := fun ty => hT.mp.len (t := 106) Tryd.under106 ty
  have hcp : 0 < cntS T 256 := hT.ne_nil.2 ⟨z, (hTi z).2 hz⟩
  have hcn : ((cntS T 256 : Nat) : Int) ≠ 0 := by omega
  have bA : Below w2.heap.size w2 (w2.alloc (.cells #[.int .i64 a] 3)) := (Below.refl _ _).alloc (Nat.le_refl _) _
  have B3 := B2.trans (bA.mono B2.size)
  have hT3 := hT.below bA
  have h3 := rnext_v (w2.alloc (.cells #[.int .i64 a] 3)) (g.below B3 hb) (s.below B3 (by omega)) (d.below B3) (Nat.lt_of_lt_of_le hb B3.size) hT3 hTi hoS hoD ht ha hona
  have HTi : Hid (∀ z, T z = true ↔ On W H bl a t z) := hTi
  have hcn' : (((cntS T 256 : Nat) : Int) == 0) = false := by simpa using hcn
  have hO2 : (w2.alloc (.cells #[.int .i64 a] 3)).ownsRow w2.heap.size 3 1 (.slice (some ⟨w2.heap.size, 0, none⟩) 1 1) [a].length (vals [a]) := World.ownsRow_lit w2 #[.int .i64 a] 1 (Nat.le_refl _) (by unfold maxLen; omega) rfl
  have hnl := hT.lt
  have z2 := B2.size
  clear h2 hb2 hTi hz hT hcn
  generalize cntS T 256 = cn at *
  go_wp2_with fail
  refine h3.mono ?_
  rintro e w3 ⟨hb3, cv, mv, rfl, hnx⟩
  have hT4 := hT3.below hb3
  have hO3 := own_below hO2 hb3
  have B4 := B3.trans (hb3.mono B3.size)
  have z3 : w2.heap.size ≤ w3.heap.size := by have h := hb3.size; simp at h; omega
  have hn0 := octN_nonneg W a t
  have hn1 : octN W a t ≤ 32 := by unfold octN; omega
  clear h3 hb3 hT3 hO2 B3 bA
  generalize w2.heap.size = N2 at *
  go_wp2
  go_loopg [10, 11, 12] (octN W a t).toNat (fun gk v cv mv wr => ∃ (p : Int) (l : List Nat), gk = (octN W p t).toNat ∧ (l.length : Int) + octN W p t = octN W a t ∧ wr.ownsRow N2 3 1 v (a :: l).length (vals (a :: l)) ∧ Hid (Chn (WSt W H bl a t) a (ints l) p) ∧ On W H bl a t p ∧ inB W H p = true ∧ NextIs W H bl a t p cv mv ∧ SetAt wr nb T ∧ N2 ≤ wr.heap.size ∧ Below w.heap.size w wr)
  case atStart => exact ⟨a, [], rfl, by simp, hO3, rfl, hona, ha, hnx, hT4, z3, B4⟩
  case round =>
    obtain ⟨p, l, hgk, hln, hown, hch, hon, hpin, hnx', hT', hz', hB⟩ := hrel
    have hsz := hB.size
    have hpn := octN_nonneg W p t
    rcases hnx' with ⟨k, r, rfl, rfl, hck⟩ | ⟨rfl, rfl, rfl⟩
    · have hrn := octN_step gw1 hck.1.1 hck.1.2.1
      have hrin := hck.1.1.in' gw1
      have hron := hck.1.2.2
      have HC : Hid (Chn (WSt W H bl a t) a (ints (l ++ [r])) r) := by
        have := Chn.snoc hch.out (show WSt W H bl a t p r from ⟨k, hck⟩)
        rw [← ints_snoc] at this
        exact this
      have hnbz : nb < wr.heap.size := hT'.lt
      clear hck hch
      go_wp2_with (at_builtin; refine wpList_append_own _ rfl _ _ 22 rfl N2 3 i0 (.int .i64 0) 1 8 Tryd.underlying22 hi hz0 hz1 hz2 rfl (by decide) _ _ _ rfl (World.ownsRow.alloc hown _) ⟨wr.heap.size, 0, none⟩ 1 1 [.int .i64 r] rfl rfl ?c1 ?c2 ?c3 ?c4 ?c5 ?_)
      case c1 =>
        intro j u hj
        match j, hj with
        | 0, hj =>
          simp at hj; subst hj; simp only [Addr.add]
          exact World.cell?_alloc_at (w := wr) #[.int .i64 r] 3 wr.heap.size 0 rfl
      case c2 => intro u hu; simp at hu; subst hu; rfl
      case c3 => simp; unfold maxLen; omega
      case c4 => simp; omega
      case c5 => simp; omega
      intro v' w4 hown' hgrow _
      have hg4 := hgrow.size
      have hbase := fun q hq => (hown.lt q hq).1
      have B5 : Below w.heap.size w w4 := (hB.alloc hsz _).grown hgrow (by simp; omega) (fun q hq => Nat.le_trans z2 (hbase q hq))
      have hT5 : SetAt w4 nb T := (hT'.grown (World.grownBy_alloc wr _ none) (by simp)).grown hgrow (fun e => by have := hbase nb e.symm; omega)
      have O5 : w4.ownsRow N2 3 1 v' (a :: (l ++ [r])).length (vals (a :: (l ++ [r]))) := by
        have e1 : (a :: (l ++ [r])).length = (a :: l).length + 1 := by simp
        have e2 : vals (a :: (l ++ [r])) = vals (a :: l) ++ [.int .i64 r] := by simp [vals]
        rw [e1, e2]
        exact hown'
      have h6 := rnext_v w4 (g.below B5 hb) (s.below B5 (by omega)) (d.below B5) (Nat.lt_of_lt_of_le hb B5.size) hT5 HTi.out hoS hoD ht hrin hron
      clear hown' hgrow hown hT' hB hon
      go_wp2_with fail
      refine h6.mono ?_
      rintro e w5 ⟨hb5, cv', mv', rfl, hnx5⟩
      have hT6 := hT5.below hb5
      have O6 := own_below O5 hb5
      have B6 := B5.trans (hb5.mono B5.size)
      have z6 : N2 ≤ w5.heap.size := by have h1 := hg4; have h2 := hb5.size; simp at h1; omega
      clear h6 hT5 O5 hb5 B5
      go_wp2
      go_roundg (octN W r t).toNat
      case measure => have := octN_nonneg W r t; omega
      case rel => exact ⟨r, l ++ [r], rfl, by simp; omega, O6, HC, hron, hrin, hnx5, hT6, z6, B6⟩
    · go_wp2
      go_ret2
      exact ⟨_, l, rfl, own_base hown z2, hch.out, by omega, hB⟩
end Go.Proofs.YtfhicijgpdpfpaaDoor
