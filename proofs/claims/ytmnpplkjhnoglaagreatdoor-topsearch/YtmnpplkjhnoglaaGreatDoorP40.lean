/-
  Texts laid together: Sets2, Advance, RSpread.
-/
import Derived.Test.YtmnpplkjhnoglaaGreatDoorP39
/-
  Sets laid together: maps.Copy.
-/
namespace Go.Proofs.YtmnpplkjhnoglaaGreatDoor
open Go.RowKit

/-- the set of another one laid into a set -/
theorem mcopy_any {bd bs : Nat} {Sd Ss : Int → Bool} (w : World) (hd : SetAt w bd Sd) (hs : SetAt w bs Ss) (hne : bd ≠ bs) :
    Calls Tryz.prog 136 #[.map (some bd), .map (some bs)] w fun e w' => e = .returned (.tuple #[]) ∧ (∃ T, SetAt w' bd T ∧ ∀ z, T z = true ↔ Sd z = true ∨ Ss z = true) ∧ Keep (fun k => k = bd) w w' := by
  have hbd := hd.lt
  have hbs := hs.lt
  go_enter Tryz.func136, Tryz.ntmps136
  go_wp2_with (first | (at_range; refine wpList_rangeF rfl _ 146 rfl 3 176 law3 Tryz.underS bs _ _ rfl hs.mp ?_; intro w0 hrg0 hg0 hs0) | go_in)
  go_frame
  go_loopg [] (cntS Ss 256) (fun gk wr => ∃ left cnt T, gk = cnt ∧ RngS wr bs w.heap.size Ss left cnt ∧ SetAt wr bd T ∧ Hid (∀ z, T z = true ↔ Sd z = true ∨ (Ss z = true ∧ left z = false)) ∧ Keep (fun k => k = bd) w wr)
  case atStart =>
    refine ⟨_, _, Sd, rfl, hrg0, hd.grown hg0 (by simp), fun z => ?_, (Keep.refl _ _).grown hg0 (by simp)⟩
    rw [setF_isSome]
    cases Ss z <;> simp
  case round =>
    obtain ⟨left, cnt, T, hgk, hrg, hT, hall, hK⟩ := hrel
    go_wp2_with (first | (at_next; refine wpList_nextF rfl _ rfl 3 law3 bs w.heap.size _ _ _ _ rfl hrg ?_ ?_) | go_in)
    · intro hc0 hl0
      go_wp2
      go_end0
      exact ⟨rfl, ⟨T, hT, fun z => (hall.out z).trans ⟨fun h => h.imp id (fun q => q.1), fun h => h.imp id (fun q => ⟨q, hl0 z⟩)⟩⟩, hK⟩
    · intro x v w1 cnt1 hwx hlx hfx hrg1 hlt hg1 hs1 hen
      obtain ⟨hSx, rfl⟩ := setF_val hfx
      have hT1 := hT.grown hg1 (fun e => by have := Option.some.inj e; omega)
      have hT2 := hT1.grown (World.grownBy_alloc w1 (.cells #[] 176) none) (by simp)
      have hx := hs.bd x hSx
      have hK1 : Keep (fun k => k = bd) w w1 := hK.grown hg1 (fun k e h => by cases e; omega)
      have hrg2 := hrg1.grown (World.grownBy_alloc w1 (.cells #[] 176) none) (by simp) (by simp)
      go_wp2_with (first | (at_mapUpdate; refine wpList_put rfl _ _ _ 146 rfl 3 176 law3 Tryz.underS bd _ _ rfl hT2.mp hT2.room x (.agg #[]) rfl rfl hwx ?_; intro w2 hm2 ht2; go_frame) | go_in)
      have hT3 := hT2.put hx.1 hx.2 hm2
      have hg2 := ht2.grown
      have hrg3 := hrg2.grown hg2 (fun e => hne (Option.some.inj e).symm) (fun e => by have := Option.some.inj e; omega)
      go_roundg cnt1
      case measure => omega
      case rel =>
        refine ⟨_, cnt1, _, rfl, hrg3, hT3, fun z => ?_, ((hK1.alloc _).grown hg2 (fun k e _ => (Option.some.inj e).symm))⟩
        rw [insS_iff, hall.out z]
        by_cases e : z = x
        · subst e
          simp [hSx]
        · simp [e]
end Go.Proofs.YtmnpplkjhnoglaaGreatDoor
/-
  A step towards a cell: package reach's 'advance'.
-/
namespace Go.Proofs.YtmnpplkjhnoglaaGreatDoor
open Go.RowKit

theorem onw_row {W H c t z : Int} {bl : Nat → Bool} {l : List Nat} (w1 : 1 ≤ W) (hc : inB W H c = true) (hl : onw W H bl c t 8 = l) :
    (∃ i, i < l.length ∧ z = ((l.getD i 0 : Nat) : Int)) ↔ ∃ k, Edge W H bl c k z ∧ Good (c % W) (c / W) (t % W) (t / W) k := by
  constructor
  · rintro ⟨i, hi, rfl⟩
    have hm : l.getD i 0 ∈ l := by rw [getD_at _ _ hi]; exact List.getElem_mem hi
    generalize l.getD i 0 = n at *
    rw [← hl] at hm
    exact (onw_mem w1 hc).1 hm
  · rintro ⟨k, e, hg⟩
    have hz : 0 ≤ z ∧ z < W * H := of_decide_eq_true (e.in' w1)
    have hm : z.toNat ∈ onw W H bl c t 8 := (onw_mem w1 hc).2 ⟨k, by rw [Int.toNat_of_nonneg hz.1]; exact e, hg⟩
    rw [hl] at hm
    obtain ⟨i, hi, h⟩ := List.getElem_of_mem hm
    refine ⟨i, hi, ?_⟩
    rw [getD_at _ _ hi, h]
    omega
theorem mkmapS (w : World) : (Instr.makeMap 146 none).run Tryz.prog w = .ok (.map (some w.heap.size)) (w.alloc (.map #[] 0)) := by kernel_rfl
set_option maxHeartbeats 2000000 in
set_option maxRecDepth 1000000 in
theorem advance_any {b fb : Nat} {W H V t : Int} {bl : Nat → Bool} {S : Int → Bool} (w : World) (g : GridAt w b W H V bl) (s : StepsAt w) (d : DiagAt w) (hb : b < w.heap.size) (hS : SetAt w fb S) (hin : ∀ i, S i = true → inB W H i = true) (ht : inB W H t = true) :
    Calls Tryz.prog 135 #[.pointer (some ⟨b, 0, none⟩), .map (some fb), .int .i64 t] w fun e w' => ∃ nb T, e = .returned (.map (some nb)) ∧ SetAt w' nb T ∧ (∀ z, T z = true ↔ ∃ c k, S c = true ∧ Edge W H bl c k z ∧ Good (c % W) (c / W) (t % W) (t / W) k) ∧ w.heap.size ≤ nb ∧ Below w.heap.size w w' := by
  have hfb := hS.lt
  have gw1 := g.w1
  have hwh := wh_bd g.w1 g.w2 g.h1 g.h2
  have hM0 := SetAt.made w
  have hS0 := hS.grown (World.grownBy_alloc w (.map #[] 0) none) (by simp)
  have hz0 : (w.alloc (.map #[] 0)).heap.size = w.heap.size + 1 := by simp
  have B0 : Below w.heap.size w (w.alloc (.map #[] 0)) := (Below.refl _ _).alloc (Nat.le_refl _) _
  have hmk := mkmapS w
  go_enter Tryz.func135, Tryz.ntmps135
  go_wp2_with (first | (at_range; refine wpList_rangeF rfl _ 146 rfl 3 176 law3 Tryz.underS fb _ _ rfl hS0.mp ?_; intro w0 hrg0 hg0 hs0; rw [hz0] at hrg0 hs0 ⊢) | go_in)
  have hM1 := hM0.grown hg0 (by simp)
  have B1 : Below w.heap.size w w0 := B0.grown hg0 (by simp) (by simp)
  clear hM0 hS0 hg0 B0
  go_frame
  go_loopg [] (cntS S 256) (fun gk wr => ∃ left cnt T, gk = cnt ∧ RngS wr fb (w.heap.size + 1) S left cnt ∧ SetAt wr w.heap.size T ∧ Hid (∀ z, T z = true ↔ ∃ c k, (S c = true ∧ left c = false) ∧ Edge W H bl c k z ∧ Good (c % W) (c / W) (t % W) (t / W) k) ∧ Below w.heap.size w wr)
  case atStart =>
    refine ⟨_, _, _, rfl, hrg0, hM1, fun z => ⟨fun h => (by cases h), ?_⟩, B1⟩
    rintro ⟨c, k, ⟨h1, h2⟩, _⟩
    rw [setF_isSome, h1] at h2
    cases h2
  case round =>
    obtain ⟨left, cnt, T, hgk, hrg, hT, hall, hB⟩ := hrel
    have hbz := hB.size
    go_wp2_with (first | (at_next; refine wpList_nextF rfl _ rfl 3 law3 fb (w.heap.size + 1) _ _ _ _ rfl hrg ?_ ?_) | go_in)
    · intro hc0 hl0
      go_wp2
      go_ret
      refine ⟨_, T, rfl, hT, fun z => (hall.out z).trans ⟨?_, ?_⟩, Nat.le_refl _, hB⟩
      · rintro ⟨c, k, h1, h2⟩; exact ⟨c, k, h1.1, h2⟩
      · rintro ⟨c, k, h1, h2⟩; exact ⟨c, k, ⟨h1, hl0 c⟩, h2⟩
    · intro x v w1 cnt1 hwx hlx hfx hrg1 hlt hg1 hs1 hen
      obtain ⟨hSx, rfl⟩ := setF_val hfx
      have hxin := hin x hSx
      have hT1 := hT.grown hg1 (fun e => by have := Option.some.inj e; omega)
      have B2 : Below w.heap.size w w1 := hB.grown hg1 hbz (fun k e => by cases e; omega)
      obtain ⟨l, hl⟩ : ∃ l, onw W H bl x t 8 = l := ⟨_, rfl⟩
      have HL : Hid (onw W H bl x t 8 = l) := hl
      have hll : l.length ≤ 8 := by rw [← hl]; exact onw_len _ _ _ _ _ _
      clear hl
      have hzb : ∀ j, j < l.length → (0 : Int) ≤ ((l.getD j 0 : Nat) : Int) ∧ ((l.getD j 0 : Nat) : Int) < 256 := fun j hj => by
        obtain ⟨k, e, _⟩ := (onw_row (z := ((l.getD j 0 : Nat) : Int)) gw1 hxin HL.out).1 ⟨j, hj, rfl⟩
        have : 0 ≤ ((l.getD j 0 : Nat) : Int) ∧ ((l.getD j 0 : Nat) : Int) < W * H := of_decide_eq_true (e.in' gw1)
        omega
      have HZ : Hid (∀ j, j < l.length → (0 : Int) ≤ ((l.getD j 0 : Nat) : Int) ∧ ((l.getD j 0 : Nat) : Int) < 256) := hzb
      clear hzb
      have hon := onward_v HL.out w1 (g.below B2 hb) (s.below B2 (by omega)) (d.below B2) (by omega) hxin ht
      clear hT hrg hB hg1 B1 hM1 hrg0
      go_wp2_with fail
      refine hon.mono ?_
      rintro e w2 ⟨A, cap, rfl, hrow, hb2⟩
      have hT2 := hT1.below hb2
      have hrg2 := hrg1.below hb2
      have B3 := B2.trans (hb2.mono B2.size)
      clear hT1 hrg1 B2 hb2 hon
      go_wp2
      go_loopg [23] l.length (fun gj iv wr => ∃ (j : Nat) (T' : Int → Bool), gj = l.length - j ∧ iv = .int .i64 j ∧ j ≤ l.length ∧ SetAt wr w.heap.size T' ∧ Hid (∀ z, T' z = true ↔ T z = true ∨ ∃ i, i < j ∧ z = ((l.getD i 0 : Nat) : Int)) ∧ RngS wr fb (w.heap.size + 1) S (fun z => left z && !decide (z = x)) cnt1 ∧ OldRow wr A l.length (fun i => (l.getD i 0 : Nat)) ∧ Below w.heap.size w wr)
      case atStart => exact ⟨0, T, rfl, rfl, Nat.zero_le _, hT2, fun z => ⟨Or.inl, fun h => h.resolve_right (fun ⟨i, hi, _⟩ => by omega)⟩, hrg2, hrow, B3⟩
      case round =>
        obtain ⟨j, T', hgj, rfl, hj, hT', hin', hrg', hrow', hB'⟩ := hrel
        by_cases hlj : j < l.length
        · obtain ⟨ba, oa, rfl, hba, hcell⟩ := hrow' j hlj
          obtain ⟨z0, z1⟩ := HZ.out j hlj
          have hcell' : wr.cell? ⟨ba, oa + j, none⟩ = some (.int .i64 ((l.getD j 0 : Nat) : Int)) := hcell
          clear hcell
          have HJ : Hid (∀ z : Int, (∃ i, i < j + 1 ∧ z = ((l.getD i 0 : Nat) : Int)) ↔ (∃ i, i < j ∧ z = ((l.getD i 0 : Nat) : Int)) ∨ z = ((l.getD j 0 : Nat) : Int)) := fun z => by
            constructor
            · rintro ⟨i, hi, h⟩
              by_cases e : i = j
              · subst e; exact Or.inr h
              · exact Or.inl ⟨i, by omega, h⟩
            · rintro (⟨i, hi, h⟩ | h)
              · exact ⟨i, by omega, h⟩
              · exact ⟨j, by omega, h⟩
          generalize ((l.getD j 0 : Nat) : Int) = zz at *
          have i1 : (0 : Int) ≤ (j : Int) := by omega
          have i2 : (j : Int) < (l.length : Int) := by omega
          go_wp2_with (first | (at_mapUpdate; refine wpList_put rfl _ _ _ 146 rfl 3 176 law3 Tryz.underS w.heap.size _ _ rfl hT'.mp hT'.room zz (.agg #[]) rfl rfl (wf_small z0 z1) ?_; intro w3 hm3 ht3; go_frame) | go_in)
          have hT3 := hT'.put z0 z1 hm3
          have hg3 := ht3.grown
          have hrg3 := hrg'.grown hg3 (fun e => by have := Option.some.inj e; omega) (fun e => by have := Option.some.inj e; omega)
          have hB3 : Below w.heap.size w w3 := hB'.grown hg3 hB'.size (fun k e => by cases e; exact Nat.le_refl _)
          have hneb : ba ≠ w.heap.size := fun e => by
            have h := hT'.mp.cell (oa + j)
            rw [← e, hcell'] at h
            cases h
          have hrow3 : OldRow w3 (some ⟨ba, oa, none⟩) l.length (fun i => (l.getD i 0 : Nat)) := fun i hi => by
            obtain ⟨b', o', e, h1, h2⟩ := hrow' i hi
            cases e
            exact ⟨ba, oa, rfl, Nat.lt_of_lt_of_le h1 hg3.size, (World.cell?_of_block (w := wr) (hg3.block ba h1 (fun e => hneb (Option.some.inj e)))).trans h2⟩
          go_roundg (l.length - (j + 1))
          case measure => omega
          case rel =>
            refine ⟨j + 1, _, rfl, by go_num, by omega, hT3, fun z => ?_, hrg3, hrow3, hB3⟩
            rw [insS_iff, hin'.out z, HJ.out z]
            exact ⟨fun h => h.elim (fun e => Or.inr (Or.inr e)) (fun h => h.imp id Or.inl), fun h => h.elim (fun e => Or.inr (Or.inl e)) (fun h => h.elim (fun e => Or.inr (Or.inr e)) Or.inl)⟩
        · have e : j = l.length := by omega
          subst e
          go_wp2
          go_roundg cnt1
          case measure => omega
          case rel =>
            refine ⟨_, cnt1, T', rfl, hrg', hT', fun z => ?_, hB'⟩
            rw [hin'.out z, hall.out z, onw_row gw1 hxin HL.out]
            constructor
            · rintro (⟨c, k, ⟨h1, h2⟩, h3⟩ | ⟨k, h3⟩)
              · exact ⟨c, k, ⟨h1, by rw [h2]; rfl⟩, h3⟩
              · exact ⟨x, k, ⟨hSx, by simp⟩, h3⟩
            · rintro ⟨c, k, ⟨h1, h2⟩, h3⟩
              by_cases e : c = x
              · subst e; exact Or.inr ⟨k, h3⟩
              · rw [decide_eq_false e] at h2
                exact Or.inl ⟨c, k, ⟨h1, by simpa using h2⟩, h3⟩
end Go.Proofs.YtmnpplkjhnoglaaGreatDoor
/-
  All steps towards a cell: package reach's 'spread'.
-/
namespace Go.Proofs.YtmnpplkjhnoglaaGreatDoor
open Go.RowKit

theorem octN_step {W H : Int} {bl : Nat → Bool} (w1 : 1 ≤ W) {p r t : Int} {k : Nat} (e : Edge W H bl p k r) (g : Good (p % W) (p / W) (t % W) (t / W) k) : octN W r t + 1 = octN W p t := by
  obtain ⟨h1, h2⟩ := (good_iff w1 e).1 g
  have := st_bd k
  unfold octN
  omega
theorem Tw.inv {W H : Int} {bl : Nat → Bool} {a t z : Int} (h : Tw W H bl a t z) : z = a ∨ ∃ p k, Tw W H bl a t p ∧ Edge W H bl p k z ∧ Good (p % W) (p / W) (t % W) (t / W) k := by
  have := h (fun z => Tw W H bl a t z ∧ (z = a ∨ ∃ p k, Tw W H bl a t p ∧ Edge W H bl p k z ∧ Good (p % W) (p / W) (t % W) (t / W) k)) ⟨Tw.nil, Or.inl rfl⟩ (fun p k r hp e g => ⟨hp.1.step e g, Or.inr ⟨p, k, hp.1, e, g⟩⟩)
  exact this.2
theorem Tw.top {W H : Int} {bl : Nat → Bool} {a t z : Int} (w1 : 1 ≤ W) (h : Tw W H bl a t z) : octN W z t ≤ octN W a t :=
  h (fun z => octN W z t ≤ octN W a t) (Int.le_refl _) (fun p k r hp e g => by have := octN_step w1 e g; omega)
theorem Tw.mid {W H : Int} {bl : Nat → Bool} {a t z : Int} (w1 : 1 ≤ W) (h : Tw W H bl a t z) : ∀ j, octN W z t ≤ j → j ≤ octN W a t → ∃ z', Tw W H bl a t z' ∧ octN W z' t = j := by
  have := h (fun z => Tw W H bl a t z ∧ ∀ j, octN W z t ≤ j → j ≤ octN W a t → ∃ z', Tw W H bl a t z' ∧ octN W z' t = j) ⟨Tw.nil, fun j h1 h2 => ⟨a, Tw.nil, by omega⟩⟩ (fun p k r hp e g => ⟨hp.1.step e g, fun j h1 h2 => by
    have := octN_step w1 e g
    by_cases q : octN W r t = j
    · exact ⟨r, hp.1.step e g, q⟩
    · exact hp.2 j (by omega) h2⟩)
  exact this.2
set_option maxHeartbeats 2000000 in
set_option maxRecDepth 1000000 in
theorem rspread_any {b : Nat} {W H V a t : Int} {bl : Nat → Bool} (w : World) (g : GridAt w b W H V bl) (s : StepsAt w) (d : DiagAt w) (hb : b < w.heap.size) (ha : inB W H a = true) (ht : inB W H t = true) :
    Calls Tryz.prog 115 #[.pointer (some ⟨b, 0, none⟩), .int .i64 a, .int .i64 t] w fun e w' => ∃ nb T, e = .returned (.map (some nb)) ∧ SetAt w' nb T ∧ (∀ z, T z = true ↔ Tw W H bl a t z) ∧ w.heap.size ≤ nb ∧ Below w.heap.size w w' := by
  have gw1 := g.w1
  have hwh := wh_bd g.w1 g.w2 g.h1 g.h2
  have hia : 0 ≤ a ∧ a < W * H := of_decide_eq_true ha
  have hwa := wf_small hia.1 (show a < 256 by omega)
  have hmm := @run_makeMap Tryz.prog
  have hM0 := (SetAt.made w).grown (World.grownBy_alloc (w.alloc (.map #[] 0)) (.map #[] 0) none) (by simp)
  have hM1 := SetAt.made (w.alloc (.map #[] 0))
  have hz0 : (w.alloc (.map #[] 0)).heap.size = w.heap.size + 1 := by simp
  have B0 : Below w.heap.size w ((w.alloc (.map #[] 0)).alloc (.map #[] 0)) := ((Below.refl _ _).alloc (Nat.le_refl _) _).alloc (by simp) _
  rw [hz0] at hM1
  go_enter Tryz.func115, Tryz.ntmps115
  go_wp2_with (first | (refine wpList_ins rfl _ _ _ 146 rfl 3 176 law3 Tryz.underS (w.heap.size + 1) _ _ (by first | rfl | (rw [hz0]; rfl)) hM1.mp hM1.room a (.agg #[]) rfl rfl hwa ?_; intro w1 hm1 ht1; go_frame) | go_in)
  have hF0 := hM1.put hia.1 (show a < 256 by omega) hm1
  have hg1 := ht1.grown
  have hA0 := hM0.grown hg1 (fun e => by have := Option.some.inj e; omega)
  have B1 : Below w.heap.size w w1 := B0.grown hg1 (by simp; omega) (fun k e => by cases e; omega)
  clear hM0 hM1 hz0 B0 hm1 ht1 hg1 hmm
  have hn0 := octN_nonneg W a t
  go_loopg [8] (octN W a t + 1).toNat (fun gk fv wr => ∃ (i fb : Nat) (SF SA : Int → Bool), gk = (octN W a t + 1 - i).toNat ∧ fv = .map (some fb) ∧ w.heap.size < fb ∧ SetAt wr fb SF ∧ SetAt wr w.heap.size SA ∧ Hid (∀ z, SF z = true ↔ Tw W H bl a t z ∧ octN W z t + i = octN W a t) ∧ Hid (∀ z, SA z = true ↔ Tw W H bl a t z ∧ octN W a t < octN W z t + i) ∧ Below w.heap.size w wr)
  case atStart =>
    refine ⟨0, _, _, _, by simp, rfl, Nat.lt_succ_self _, hF0, hA0, fun z => ?_, fun z => ⟨fun h => (by cases h), fun ⟨h1, h2⟩ => ?_⟩, B1⟩
    · rw [insS_iff]
      constructor
      · rintro (rfl | h)
        · exact ⟨Tw.nil, by simp⟩
        · cases h
      · rintro ⟨h1, h2⟩
        rcases h1.inv with e | ⟨p, k, hp, e, hg⟩
        · exact Or.inl e
        · exfalso
          have h3 := octN_step gw1 e hg
          have h4 := Tw.top gw1 hp
          simp at h2
          omega
    · exfalso
      have h4 := Tw.top gw1 h1
      simp at h2
      omega
  case round =>
    obtain ⟨i, fb, SF, SA, hgk, rfl, hfb, hF, hA, hFi, hAi, hB⟩ := hrel
    have hlen := fun ty => hF.mp.len (t := 146) Tryz.underS ty
    have hne := hF.ne_nil
    by_cases hpos : 0 < cntS SF 256
    · obtain ⟨z, hz⟩ := hne.1 hpos
      have hz' := (hFi.out z).1 hz
      have hzn := octN_nonneg W z t
      have hcp : (0 : Int) < ((cntS SF 256 : Nat) : Int) := by omega
      have hle : (i : Int) ≤ octN W a t := by omega
      clear hne hz hz' hzn
      have hmc := mcopy_any wr hA hF (Nat.ne_of_lt hfb)
      generalize cntS SF 256 = cn at *
      go_wp2_with fail
      refine hmc.mono ?_
      rintro e w2 ⟨rfl, ⟨T, hT, hTi⟩, hK⟩
      have hF2 : SetAt w2 fb SF := hF.kept (hK.block fb hF.lt (by omega))
      have B2 : Below w.heap.size w w2 := hB.trans (hK.to_below hB.size (fun k e => by omega))
      have hin : ∀ i, SF i = true → inB W H i = true := fun i hi => ((hFi.out i).1 hi).1.in gw1 ha
      have had := advance_any w2 (g.below B2 hb) (s.below B2 (by omega)) (d.below B2) (Nat.lt_of_lt_of_le hb B2.size) hF2 hin ht
      have z2 := B2.size
      clear hmc hlen hF hA hK
      go_wp2_with fail
      refine had.mono ?_
      rintro e w3 ⟨nb, T2, rfl, hT2, hT2i, hnb, hb3⟩
      have hT3 := hT.below hb3
      have B3 := B2.trans (hb3.mono B2.size)
      have hTl := hT.lt
      clear had hb3 hT hF2
      go_wp2
      go_roundg (octN W a t + 1 - ((i + 1 : Nat) : Int)).toNat
      case measure => omega
      case rel =>
        refine ⟨i + 1, nb, T2, T, rfl, rfl, by omega, hT2, hT3, fun z => ?_, fun z => ?_, B3⟩
        · rw [hT2i z]
          constructor
          · rintro ⟨c, k, h1, h2, h3⟩
            obtain ⟨q1, q2⟩ := (hFi.out c).1 h1
            have := octN_step gw1 h2 h3
            exact ⟨q1.step h2 h3, by omega⟩
          · rintro ⟨h1, h2⟩
            rcases h1.inv with e | ⟨p, k, hp, e, hg⟩
            · subst e; exfalso; omega
            · have := octN_step gw1 e hg
              exact ⟨p, k, (hFi.out p).2 ⟨hp, by omega⟩, e, hg⟩
        · rw [hTi z, hAi.out z, hFi.out z]
          constructor
          · rintro (⟨h1, h2⟩ | ⟨h1, h2⟩)
            · exact ⟨h1, by omega⟩
            · exact ⟨h1, by omega⟩
          · rintro ⟨h1, h2⟩
            by_cases q : octN W z t + i = octN W a t
            · exact Or.inr ⟨h1, q⟩
            · exact Or.inl ⟨h1, by omega⟩
    · have hno : ∀ z, SF z = false := fun z => by
        cases hz : SF z with
        | false => rfl
        | true => exact absurd (hne.2 ⟨z, hz⟩) hpos
      have hc0 : cntS SF 256 = 0 := by omega
      have hfin : ∀ z, SA z = true ↔ Tw W H bl a t z := fun z => by
        rw [hAi.out z]
        refine ⟨fun h => h.1, fun h => ⟨h, ?_⟩⟩
        by_cases q : octN W a t < octN W z t + i
        · exact q
        · exfalso
          obtain ⟨z', h1, h2⟩ := h.mid gw1 (octN W a t - i) (by omega) (by omega)
          have := (hFi.out z').2 ⟨h1, by omega⟩
          rw [hno z'] at this
          cases this
      have HF : Hid (∀ z, SA z = true ↔ Tw W H bl a t z) := hfin
      rw [hc0] at hlen
      clear hfin hno hne hpos hFi hAi
      go_wp2
      go_ret
      exact ⟨_, SA, rfl, hA, HF.out, Nat.le_refl _, hB⟩
end Go.Proofs.YtmnpplkjhnoglaaGreatDoor
