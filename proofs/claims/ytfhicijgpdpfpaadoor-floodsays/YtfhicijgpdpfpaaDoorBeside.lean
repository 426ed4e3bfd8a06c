/-
  A flood in memory; those beside a cell are pushed.
-/
import Derived.Test.YtfhicijgpdpfpaaDoorEdge
import Derived.Test.YtfhicijgpdpfpaaDoorPushAll
import Derived.Deep.RegionHeld3
namespace Go.Proofs.YtfhicijgpdpfpaaDoor
open Go.RowKit

/-- costs as values -/
def fv (F : Int → Option (Int × Int)) : Int → Option Value := fun a => (F a).map fun c => .agg #[.int .i64 c.1, .int .i64 c.2]
theorem fv_some {F : Int → Option (Int × Int)} {a s d : Int} (h : F a = some (s, d)) : fv F a = some (.agg #[.int .i64 s, .int .i64 d]) := by unfold fv; rw [h]; rfl
theorem fv_none {F : Int → Option (Int × Int)} {a : Int} (h : F a = none) : fv F a = none := by unfold fv; rw [h]; rfl
theorem fv_put (F : Int → Option (Int × Int)) (a s d : Int) : putF (fv F) a (.agg #[.int .i64 s, .int .i64 d]) = fv (putH F a s d) := by
  funext i
  unfold putF fv putH
  by_cases h : i = a
  · rw [if_pos h, if_pos h]; rfl
  · rw [if_neg h, if_neg h]

/-- a flood in block fb: its grid in gb, its costs in cb -/
structure FloodAt (w : World) (fb gb cb : Nat) (W H V : Int) (bl : Nat → Bool) (F : Int → Option (Int × Int)) (n : Nat) : Prop where
  p0 : w.cell? ⟨fb, 0, none⟩ = some (.pointer (some ⟨gb, 0, none⟩))
  p1 : w.cell? ⟨fb, 1, none⟩ = some (.map (some cb))
  ga : GridAt w gb W H V bl
  mp : MapF Tryd.prog 3 w cb (fv F) n
  st : StepsAt w

theorem GridAt.keep {D : Nat → Prop} {w w' : World} {b : Nat} {W H V : Int} {bl : Nat → Bool} (g : GridAt w b W H V bl) (K : Keep D w w') (h : ¬ D b) : GridAt w' b W H V bl := by
  have hb : b < w.heap.size := World.block_lt_of_cell? w _ g.c0
  exact ⟨g.w1, g.w2, g.h1, g.h2, (K.cell (p := ⟨b, 0, none⟩) hb h).trans g.c0, (K.cell (p := ⟨b, 1, none⟩) hb h).trans g.c1, (K.cell (p := ⟨b, 2, none⟩) hb h).trans g.c2, fun i hi => (K.cell (p := ⟨b, 3 + i, none⟩) hb h).trans (g.cs i hi)⟩
theorem StepsAt.pos {w : World} (s : StepsAt w) : 0 < w.heap.size := World.block_lt_of_cell? w _ (s 0 (by decide)).1
theorem StepsAt.keep {D : Nat → Prop} {w w' : World} (s : StepsAt w) (K : Keep D w w') (h : ¬ D 0) : StepsAt w' :=
  fun i hi => ⟨(K.cell (p := ⟨0, 2 * i, none⟩) s.pos h).trans (s i hi).1, (K.cell (p := ⟨0, 2 * i + 1, none⟩) s.pos h).trans (s i hi).2⟩
theorem FloodAt.blocks {w : World} {fb gb cb : Nat} {W H V : Int} {bl : Nat → Bool} {F : Int → Option (Int × Int)} {n : Nat} (f : FloodAt w fb gb cb W H V bl F n) : fb < w.heap.size ∧ gb < w.heap.size ∧ cb < w.heap.size ∧ 0 < w.heap.size :=
  ⟨World.block_lt_of_cell? w _ f.p0, World.block_lt_of_cell? w _ f.ga.c0, f.mp.lt, f.st.pos⟩
theorem FloodAt.keep {D : Nat → Prop} {w w' : World} {fb gb cb : Nat} {W H V : Int} {bl : Nat → Bool} {F : Int → Option (Int × Int)} {n : Nat} (f : FloodAt w fb gb cb W H V bl F n) (K : Keep D w w') (h1 : ¬ D fb) (h2 : ¬ D gb) (h3 : ¬ D cb) (h4 : ¬ D 0) : FloodAt w' fb gb cb W H V bl F n :=
  ⟨(K.cell (p := ⟨fb, 0, none⟩) f.blocks.1 h1).trans f.p0, (K.cell (p := ⟨fb, 1, none⟩) f.blocks.1 h1).trans f.p1, f.ga.keep K h2, f.mp.keep K h3, f.st.keep K h4⟩
theorem FloodAt.below {w w' : World} {fb gb cb : Nat} {W H V : Int} {bl : Nat → Bool} {F : Int → Option (Int × Int)} {n : Nat} (f : FloodAt w fb gb cb W H V bl F n) (hb : Below w.heap.size w w') : FloodAt w' fb gb cb W H V bl F n :=
  f.keep (D := fun _ => False) (Keep.of_below hb) id id id id

theorem Tryd.under113 : Tryd.prog.underlying 85 = some (.map 3 31) := by kernel_rfl
theorem zero43 (w : World) : (zeroValue 31).run Tryd.prog w = .ok (.agg #[.int .i64 0, .int .i64 0]) w := by kernel_rfl

theorem FloodAt.look1 {w : World} {fb gb cb : Nat} {W H V : Int} {bl : Nat → Bool} {F : Int → Option (Int × Int)} {n : Nat} (f : FloodAt w fb gb cb W H V bl F n) {a s d : Int} (ha : (Lit.int .i64 a).wf = true) (h : F a = some (s, d)) :
    (Instr.lookup 85 (.map (some cb)) (.int .i64 a) false).run Tryd.prog w = .ok (.agg #[.int .i64 s, .int .i64 d]) w := f.mp.look_some law3 Tryd.under113 (zero43 _) ha (fv_some h) false

theorem wf_cell {W H c : Int} (w1 : 1 ≤ W) (w2 : W ≤ 16) (h1 : 1 ≤ H) (h2 : H ≤ 16) (h : inB W H c = true) : (Lit.int .i64 c).wf = true := by
  have hc : 0 ≤ c ∧ c < W * H := of_decide_eq_true h
  obtain ⟨k1, k2⟩ := wh_bd w1 w2 h1 h2
  exact WalkArith.wf_i64 (by omega)

theorem moves_b {b : Nat} {W H V c : Int} {bl : Nat → Bool} {l : List Nat} (hl : DirsOf W H bl c l) (w : World) (g : GridAt w b W H V bl) (s : StepsAt w) (hr : inB W H c = true) (hb : b < w.heap.size) :
    Calls Tryd.prog 96 #[.pointer (some ⟨b, 0, none⟩), .int .i64 c] w fun e w' => ∃ A cap, e = .returned (.tuple #[.slice A l.length cap, .nilIface]) ∧ (OldRow w' A l.length (fun i => (l.getD i 0 : Nat)) ∧ ∀ g o, A = some ⟨g, o, none⟩ → w.heap.size ≤ g) ∧ Below w.heap.size w w' :=
  (moves_in c w g s hr hb).mono fun e w' ⟨v, he, hown, hbl⟩ => by
    rw [hl.eq] at hown
    obtain ⟨A, cap, rfl, hrow⟩ := row_of hown
    refine ⟨A, cap, he, ⟨hrow, fun g o e => ?_⟩, hbl⟩
    rcases hown.2 with ⟨hv, _⟩ | ⟨g', cap', cur, hv, hg, _⟩
    · simp only [Value.slice.injEq] at hv
      rw [hv.1] at e; cases e
    · simp only [Value.slice.injEq] at hv
      rw [hv.1] at e; cases e; exact hg

/-- those beside a cell have been pushed -/
def Beside (w w' : World) (b mb : Nat) (v : Value) (nh : Nat) (E : Int → Nat → Int → Prop) (o : Int) (F : Int → Option (Int × Int)) (D : Int → Nat → Prop) (N k : Nat) : Prop :=
  ∃ v' nh' H', HeapAt w' b mb v' nh' H' ∧ nh' ≤ nh + k ∧ Dij E o F H' D N ∧ (∀ g, v'.ownBlock = some g → v.ownBlock = some g ∨ w.heap.size ≤ g) ∧ Keep (hb3 b mb v) w w'

set_option maxHeartbeats 2000000 in
set_option maxRecDepth 1000000 in
theorem pushBeside_any {fb gb cb b mb n nh N : Nat} {W H V : Int} {bl : Nat → Bool} {F Hh : Int → Option (Int × Int)} {v : Value} {o : Int} (c s d : Int) (w : World) (FA : FloodAt w fb gb cb W H V bl F n) (HA : HeapAt w b mb v nh Hh) (hin : inB W H c = true) (hFc : F c = some (s, d))
    (apart : ∀ k, hb3 b mb v k → k ≠ fb ∧ k ≠ gb ∧ k ≠ cb ∧ k ≠ 0) (DJ : Dij (Edge W H bl) o F Hh (fun x _ => x ≠ c) (N + 1)) (mx : ∀ {x t u}, F x = some (t, u) → val t u ≤ val s d) (hv : val s d ≤ N * 54608393) (hN : N ≤ 256) (hnh : nh ≤ 900000) :
    Calls Tryd.prog 83 #[.pointer (some ⟨fb, 0, none⟩), .pointer (some ⟨b, 0, none⟩), .int .i64 c] w fun e w' => e = .returned (.tuple #[]) ∧ Beside w w' b mb v nh (Edge W H bl) o F (fun _ _ => True) (N + 1) 8 := by
  obtain ⟨l, hl⟩ := dirsOf (W := W) (H := H) bl c FA.ga.w1
  obtain ⟨hfb, hgb, hcb, h00⟩ := FA.blocks
  have w1 := FA.ga.w1
  have w2 := FA.ga.w2
  have h1 := FA.ga.h1
  have h2 := FA.ga.h2
  have hc : 0 ≤ c ∧ c < W * H := of_decide_eq_true hin
  have hWH := wh_bd w1 w2 h1 h2
  have hs0 := (DJ.sF hFc).1.nonneg
  have hsm := val_small hs0.1 hs0.2 (by omega)
  have hwc := wf_cell w1 w2 h1 h2 hin
  have p0 := FA.p0
  have hlen := hl.len
  go_enter Tryd.func83, Tryd.ntmps83
  go_wp2_with (go_at_call 96; refine (moves_b hl _ FA.ga FA.st hin hgb).mono ?_)
  rintro e wa ⟨A, cap, rfl, ⟨hrow, hnew⟩, hba⟩
  have hza := hba.size
  have FAa := FA.below hba
  have HAa := HA.below hba
  go_wp2
  go_loopw [24] (fun i wr => ∃ k : Nat, k ≤ l.length ∧ i = .int .i64 k ∧ Beside wa wr b mb v nh (Edge W H bl) o F (fun x j => x ≠ c ∨ j ∈ l.take k) (N + 1) k) (fun i _ => l.length - (intOf i).toNat)
  case atStart => exact ⟨0, Nat.zero_le _, rfl, v, nh, Hh, HAa, by omega, DJ.widen (fun _ _ h => by rcases h with h | h; exact h; simp at h), fun g hg => Or.inl hg, Keep.refl _ _⟩
  case round =>
    obtain ⟨k, hk, rfl, v', nh', H', HA', hn', DJ', hown', K'⟩ := hrel
    have apart' : ∀ i, hb3 b mb v' i → i ≠ fb ∧ i ≠ gb ∧ i ≠ cb ∧ i ≠ 0 := by
      rintro i (rfl | rfl | hi)
      · exact apart _ (Or.inl rfl)
      · exact apart _ (Or.inr (Or.inl rfl))
      · rcases hown' i hi with h | h
        · exact apart _ (Or.inr (Or.inr h))
        · omega
    have FA' := FAa.keep K' (fun h => (apart _ h).1 rfl) (fun h => (apart _ h).2.1 rfl) (fun h => (apart _ h).2.2.1 rfl) (fun h => (apart _ h).2.2.2 rfl)
    by_cases hlt : k < l.length
    · have hlt' : (k : Int) < (l.length : Int) := by omega
      obtain ⟨bs, os, rfl, hbs, hcell⟩ := hrow k hlt
      have hbn := hnew bs os rfl
      have hbk : ¬ hb3 b mb v bs := fun h => by have := hb3_lt HA h; omega
      have hcw : wr.cell? ⟨bs, os + k, none⟩ = some (.int .i64 ((l.getD k 0 : Nat) : Int)) := (K'.cell (p := ⟨bs, os + k, none⟩) hbs hbk).trans hcell
      clear hcell
      have hdk := hl.lt k hlt
      have hmay : mayB W H bl (c % W) (c / W) (l.getD k 0) = true := by
        have h0 : k < (mvs W H bl (c % W) (c / W) 8).length := by rw [hl.eq]; exact hlt
        have := (mvs_at h0).2
        rw [hl.eq] at this
        exact this
      have hed : Edge W H bl c (l.getD k 0) (c + (stepY (l.getD k 0) * W + stepX (l.getD k 0))) := ⟨hdk, hin, hmay, rfl⟩
      have hti := hed.in' w1
      have htake : ∀ j, j ∈ l.take (k + 1) → j ∈ l.take k ∨ j = l.getD k 0 := fun j hj => by
        rw [List.take_succ_eq_append_getElem hlt, List.mem_append, List.mem_singleton] at hj
        rcases hj with hj | hj
        · exact Or.inl hj
        · right; rw [getD_at _ _ hlt]; exact hj
      have hwt := wf_cell w1 w2 h1 h2 hti
      generalize l.getD k 0 = dk at *
      obtain ⟨t, ht⟩ : ∃ t, c + (stepY dk * W + stepX dk) = t := ⟨_, rfl⟩
      have q0 := FA'.p0
      have q1 := FA'.p1
      have hgb' := Nat.lt_of_lt_of_le (Nat.lt_of_lt_of_le hgb hza) K'.size
      cases hFt : F t with
      | some ct =>
        obtain ⟨ts, td⟩ := ct
        have DJ2 : Dij (Edge W H bl) o F H' (fun x j => x ≠ c ∨ j ∈ l.take (k + 1)) (N + 1) := by
          refine (DJ'.pass (b := t) (k := dk) hFc mx (by rw [hFt]; simp) (fun e h => by rw [← ht]; exact hed.one e h)).widen (fun {x j y s' d'} _ _ h => ?_)
          by_cases hx : x = c
          · rcases h with h | h
            · exact absurd hx h
            · rcases htake j h with h | h
              · exact Or.inl (Or.inr h)
              · exact Or.inr ⟨hx, h⟩
          · exact Or.inl (Or.inl hx)
        have HFt : Hid _ := hFt
        clear hFt DJ' htake
        go_wp2_with fail
        refine (to_v ht _ FA'.ga FA'.st hdk (by omega) (by omega)).mono ?_
        rintro e w' ⟨rfl, m, rfl⟩
        have HBm := below_drewN (Below.refl wr.heap.size wr) m
        have FA1 := FA'.below HBm
        have HA1 := HA'.below HBm
        have K1 := K'.below HBm
        clear FA' HA' K' HBm q0 q1 hcw hgb'
        generalize wr.drewN m = W1 at *
        have q1 := FA1.p1
        have hlook : (Instr.lookup 85 (.map (some cb)) (.int .i64 t) true).run Tryd.prog W1 = .ok (.tuple #[.agg #[.int .i64 ts, .int .i64 td], .bool true]) W1 := FA1.mp.look_some law3 Tryd.under113 (zero43 _) (by rw [← ht]; exact hwt) (fv_some HFt.out) true
        have HB2 : Below W1.heap.size W1 (W1.alloc (.cells #[.int .i64 ts, .int .i64 td] 31)) := (Below.refl _ _).alloc (Nat.le_refl _) _
        go_wp2
        go_roundw
        case rel => exact ⟨k + 1, by omega, by go_num, v', nh', H', HA1.below HB2, by omega, DJ2, hown', K1.below HB2⟩
        case measure => simp [intOf]; omega
      | none =>
        have hst := st_bd dk
        have hok : okC (s + stS dk) (d + stD dk) := by unfold okC; omega
        have hok1 : okC s d := by unfold okC; omega
        have hok2 : okC (stS dk) (stD dk) := by unfold okC; omega
        have DJ2 : Dij (Edge W H bl) o F (pushH H' t (s + stS dk) (d + stD dk)) (fun x j => x ≠ c ∨ j ∈ l.take (k + 1)) (N + 1) := by
          rw [ht] at hed
          refine (DJ'.push (b := t) (k := dk) hFc mx hv hed hFt (pushed H' t _ _) (fun e h => hed.one e h)).widen (fun {x j y s' d'} _ _ h => ?_)
          by_cases hx : x = c
          · rcases h with h | h
            · exact absurd hx h
            · rcases htake j h with h | h
              · exact Or.inl (Or.inr h)
              · exact Or.inr ⟨hx, h⟩
          · exact Or.inl (Or.inl hx)
        have HFt : Hid _ := hFt
        have HFc : Hid _ := hFc
        clear hFt DJ' htake
        go_wp2_with fail
        refine (to_v ht _ FA'.ga FA'.st hdk (by omega) (by omega)).mono ?_
        rintro e w' ⟨rfl, m, rfl⟩
        have HBm := below_drewN (Below.refl wr.heap.size wr) m
        have FA1 := FA'.below HBm
        have HA1 := HA'.below HBm
        have K1 := K'.below HBm
        clear FA' HA' K' HBm q0 q1 hcw hgb'
        generalize wr.drewN m = W1 at *
        have q1 := FA1.p1
        have hlook : (Instr.lookup 85 (.map (some cb)) (.int .i64 t) true).run Tryd.prog W1 = .ok (.tuple #[.agg #[.int .i64 0, .int .i64 0], .bool false]) W1 := FA1.mp.look_none law3 Tryd.under113 (zero43 _) (by rw [← ht]; exact hwt) (fv_none HFt.out) true
        have HB2 : Below W1.heap.size W1 (W1.alloc (.cells #[.int .i64 0, .int .i64 0] 31)) := (Below.refl _ _).alloc (Nat.le_refl _) _
        have FA2 := FA1.below HB2
        have HA2 := HA1.below HB2
        have K2 := K1.below HB2
        go_wp2
        clear hlook FA1 HA1 K1 HB2 q1
        generalize W1.alloc (.cells #[.int .i64 0, .int .i64 0] 31) = W2 at *
        have FAd : FloodAt W2.drew fb gb cb W H V bl F n := FA2.below (Below.refl _ _).drew
        have HAd : HeapAt W2.drew b mb v' nh' H' := HA2.below (Below.refl _ _).drew
        have Kd : Keep (hb3 b mb v) wa W2.drew := K2.drew
        have c1 := FAd.p1
        have l1 := FAd.look1 hwc HFc.out
        clear FA2 HA2 K2
        have hwt' : (Lit.int .i64 t).wf = true := by rw [← ht]; exact hwt
        go_region_held3 (fun w' => w'.cell? ⟨fb, 1, none⟩ = some (.map (some cb)) ∧ (Instr.lookup 85 (.map (some cb)) (.int .i64 c) false).run Tryd.prog w' = .ok (.agg #[.int .i64 s, .int .i64 d]) w') (first | (exact ⟨c1, l1⟩)) (first | (go_at_call 47; refine (stepCost_any dk _ FAd.st hdk).mono ?_; rintro e w3 ⟨rfl, hb3'⟩; have FAd := FAd.below hb3'; have HAd := HAd.below hb3'; have Kd := Kd.below hb3'; have c1 := FAd.p1; have l1 := FAd.look1 hwc HFc.out) | (go_at_call 27; refine (add_any s d (stS dk) (stD dk) _ hok1 hok2).mono ?_; rintro e w3 ⟨rfl, hb3'⟩; have FAd := FAd.below hb3'; have HAd := HAd.below hb3'; have Kd := Kd.below hb3'; have c1 := FAd.p1; have l1 := FAd.look1 hwc HFc.out) | (go_at_call 80; refine (push_all t (s + stS dk) (d + stD dk) _ HAd hok hwt' (by omega)).mono ?_; rintro e w5 ⟨rfl, T5, K5⟩; have FA5 := FAd.keep K5 (fun h => (apart' _ h).1 rfl) (fun h => (apart' _ h).2.1 rfl) (fun h => (apart' _ h).2.2.1 rfl) (fun h => (apart' _ h).2.2.2 rfl); have c1 := FA5.p1; have l1 := FA5.look1 hwc HFc.out))
        all_goals
          obtain ⟨v5, nh5, HA5, hn5, ho5⟩ := T5
          have hzd := Kd.size
          have HB5 : Beside wa w5 b mb v nh (Edge W H bl) o F (fun x j => x ≠ c ∨ j ∈ l.take (k + 1)) (N + 1) (k + 1) := by
            refine ⟨v5, nh5, _, HA5, by omega, DJ2, fun g hg => ?_, Kd.trans K5 (fun i hi h => ?_)⟩
            · rcases ho5 g hg with h | h
              · exact hown' g h
              · exact Or.inr (by omega)
            · rcases h with h | h | h
              · exact Or.inl h
              · exact Or.inr (Or.inl h)
              · rcases hown' i h with h | h
                · exact Or.inr (Or.inr h)
                · omega
          clear FAd HAd Kd FA5 K5 HA5 DJ2 ho5 hn5 c1 l1
          go_wp2
          go_roundw
          case rel => exact ⟨k + 1, by omega, by go_num, HB5⟩
          case measure => simp [intOf]; omega
    · have hlt' : ¬ (k : Int) < (l.length : Int) := by omega
      have HK : Hid (k = l.length) := by show k = l.length; omega
      have HF : Beside w wr b mb v nh (Edge W H bl) o F (fun _ _ => True) (N + 1) 8 := by
        refine ⟨v', nh', H', HA', by omega, DJ'.widen (fun {a j b' s' d'} hF e _ => ?_), fun g hg => ?_, (Keep.of_below hba).trans K' (fun _ _ h => h)⟩
        · by_cases ha : a = c
          · right
            rw [HK.out, List.take_length, ← hl.eq]
            subst ha
            exact mem_mvs.mpr ⟨e.1, e.2.2.1⟩
          · exact Or.inl ha
        · rcases hown' g hg with h | h
          · exact Or.inl h
          · exact Or.inr (by omega)
      clear DJ' HA' FA' K' hown'
      go_wp2
      go_end0
      exact ⟨rfl, HF⟩
end Go.Proofs.YtfhicijgpdpfpaaDoor
