/-
  Texts laid together: LocT, GSet, GSaysW, Steps, Frame.
-/
import Derived.Test.YtcagpmglijockaaGreatDoorP13
import Derived.ProofKit
import Derived.LaidMore
import Derived.OpenShut
import Derived.Stop.Joined
import Derived.Lib.LaidTab
import Derived.Test.YtcagpmglijockaaGreatDoorTie
import Derived.Test.YtcagpmglijockaaGreatDoorCards
import Derived.ChangeMaps5
import Derived.SevenTiedAt
import Derived.Lib.SmallJoins
/-
  Whatever was not touched has the edges that it had.
-/
namespace Go.Proofs.YtcagpmglijockaaGreatDoor

section
variable {W H c0 : Int} {bl bl' : Nat → Bool}
theorem loc_corn (hbl : ∀ n : Nat, (n : Int) ≠ c0 → bl n = bl' n) (w1 : 1 ≤ W) {c : Int} (h : ¬ Tch W H bl (c0 % W) (c0 / W) (c0 / W + 1 + 1) (c0 % W - 1) c) (hc : cornB W H bl c = true) :
    (∀ p, inB W H p = true → bl p.toNat = false → Blk W c0 p → ¬ Dir W H bl p c) ∧ ¬ Blk W c0 c ∧ cornB W H bl' c = true := by
  rw [Tch.all] at h
  have hno : ∀ p, inB W H p = true → bl p.toNat = false → Blk W c0 p → ¬ Dir W H bl p c := fun p hp hf hB hd => h ⟨hc, p, ⟨hp, hf, hd⟩, by unfold Blk at hB; omega⟩
  have hin := cornC_in w1 (cornB_iff.1 hc)
  have hnb : ¬ Blk W c0 c := fun hB => hno c hin (corn_free hc) hB (Dir.self w1)
  exact ⟨hno, hnb, cornB_iff.2 (far_corn hbl hnb (cornB_iff.1 hc))⟩

theorem loc_edge (hbl : ∀ n : Nat, (n : Int) ≠ c0 → bl n = bl' n) (w1 : 1 ≤ W) (w2 : W ≤ 16) (h1 : 1 ≤ H) (h2 : H ≤ 16) {c : Int} (h : ¬ Tch W H bl (c0 % W) (c0 / W) (c0 / W + 1 + 1) (c0 % W - 1) c) (hc : cornB W H bl c = true) (d : Int) (hd : Dir W H bl c d ∧ (decide (d ≠ c) && cornB W H bl d) = true) :
    Dir W H bl' c d ∧ (decide (d ≠ c) && cornB W H bl' d) = true := by
  obtain ⟨hno, _, _⟩ := loc_corn hbl w1 h hc
  rw [Bool.and_eq_true] at hd
  have hin := cornC_in w1 (cornB_iff.1 hc)
  have hdin := cornC_in w1 (cornB_iff.1 hd.2.2)
  have := oct_small w1 w2 h1 h2 hin hdin
  obtain ⟨k1, k2⟩ := edge_kept hbl w1 (by omega) (by omega) hin (corn_free hc) (cornB_iff.1 hd.2.2) hd.1 hno
  rw [Bool.and_eq_true]
  exact ⟨k2, hd.2.1, cornB_iff.2 k1⟩

/-- whoever was not touched: what the map holds is what is to be there now -/
theorem EOk.loc {w : World} {pb : Nat} {f : Int → Option Value} (hbl : ∀ n : Nat, (n : Int) ≠ c0 → bl n = bl' n) (w1 : 1 ≤ W) (w2 : W ≤ 16) (h1 : 1 ≤ H) (h2 : H ≤ 16) {c : Int}
    (hn : ¬ Tch W H bl (c0 % W) (c0 / W) (c0 / W + 1 + 1) (c0 % W - 1) c) (hn' : ¬ Tch W H bl' (c0 % W) (c0 / W) (c0 / W + 1 + 1) (c0 % W - 1) c) (E : EOk w pb W H bl f c) : EOk w pb W H bl' f c := by
  have hbl' : ∀ n : Nat, (n : Int) ≠ c0 → bl' n = bl n := fun n h => (hbl n h).symm
  refine ⟨fun hc => ?_, fun hc => ?_⟩
  · have hc0 := (loc_corn hbl' w1 hn' hc).2.2
    obtain ⟨v, l, e1, e2, e3, e4⟩ := E.yes hc0
    refine ⟨v, l, e1, e2, ⟨e3.1, fun n => ?_⟩, e4⟩
    rw [e3.2 n]
    exact ⟨loc_edge hbl w1 w2 h1 h2 hn hc0 n, loc_edge hbl' w1 w2 h1 h2 hn' hc n⟩
  · refine E.no ?_
    cases hb : cornB W H bl c with
    | false => rfl
    | true =>
      have := (loc_corn hbl w1 hn hb).2.2
      rw [hc] at this; cases this
end
end Go.Proofs.YtcagpmglijockaaGreatDoor
/-
  A cell of a graph is set: package graph's 'Set'.
-/
namespace Go.Proofs.YtcagpmglijockaaGreatDoor
open Go.RowKit

theorem Touch.keep {b : Nat} {w w' : World} (h : Touch b w w') : Keep (fun k => k = b) w w' := ⟨h.os, h.tape, h.output, by rw [h.size]; exact Nat.le_refl _, fun i _ hn => h.other i hn⟩
theorem EOk.kept {F : Nat → Prop} {w w' : World} {pb : Nat} {W H c : Int} {bl : Nat → Bool} {f f' : Int → Option Value} (E : EOk w pb W H bl f c) (K : Keep F w w') (hF : ∀ v l g, f c = some v → w.ownsRow 0 53 4 v (List.length l) (edgesV W c l) → v.ownBlock = some g → pb < g → ¬ F g) (hf : f' c = f c) : EOk w' pb W H bl f' c := by
  refine ⟨fun h => ?_, fun h => hf.trans (E.no h)⟩
  obtain ⟨v, l, h1, h2, h3, h4⟩ := E.yes h
  exact ⟨v, l, hf.trans h1, own_keep h2 K (fun g hg => hF v l g h1 h2 hg (h4 g hg)), h3, h4⟩

theorem mkmapT (w : World) : (Instr.makeMap 73 none).run Tryz.prog w = .ok (.map (some w.heap.size)) (w.alloc (.map #[] 0)) := by kernel_rfl

set_option maxHeartbeats 1000000 in
theorem gset_out {rb pb mb : Nat} {W H V c : Int} {bl : Nat → Bool} (v : Bool) (w : World) (G : GraphAt w rb pb mb W H V bl) (hc : inB W H c = false) :
    Calls Tryz.prog 8 #[.pointer (some ⟨rb, 0, none⟩), .int .i64 c, .bool v] w fun e w' => e = .returned (.tuple #[.bool false, .iface 75 (.int .i64 1)]) ∧ Below w.heap.size w w' := by
  obtain ⟨f, G, E⟩ := G
  have p0 := G.p0
  obtain ⟨l1, l2, l3⟩ := G.lts
  have hcp := copy_any w G.ga
  go_enter Tryz.func8, Tryz.ntmps8
  go_wp2_with fail
  refine hcp.mono ?_
  rintro e w1 ⟨rfl, hb1, hs1, g1, fr1⟩
  have hse := set_out c v w1 (G.ga.below hb1 l2) hc
  have p0 := (hb1.cell (p := ⟨rb, 0, none⟩) l1).trans p0
  clear hcp G E g1 fr1
  go_wp2_with fail
  refine hse.mono ?_
  rintro e w2 ⟨rfl, m2, rfl⟩
  clear hse
  go_wp2
  go_ret2
  exact ⟨rfl, below_drewN hb1 _⟩

set_option maxHeartbeats 1000000 in
theorem gset_same {rb pb mb c : Nat} {W H V : Int} {bl : Nat → Bool} (v : Bool) (w : World) (G : GraphAt w rb pb mb W H V bl) (hc : inB W H c = true) (hv : bl c = v) :
    Calls Tryz.prog 8 #[.pointer (some ⟨rb, 0, none⟩), .int .i64 c, .bool v] w fun e w' => e = .returned (.tuple #[.bool false, .nilIface]) ∧ Below w.heap.size w w' := by
  obtain ⟨f, G, E⟩ := G
  have p0 := G.p0
  obtain ⟨l1, l2, l3⟩ := G.lts
  have hcp := copy_any w G.ga
  go_enter Tryz.func8, Tryz.ntmps8
  go_wp2_with fail
  refine hcp.mono ?_
  rintro e w1 ⟨rfl, hb1, hs1, g1, fr1⟩
  have hse := set_same c v w1 (G.ga.below hb1 l2) hc hv
  have p0 := (hb1.cell (p := ⟨rb, 0, none⟩) l1).trans p0
  clear hcp G E g1 fr1
  go_wp2_with fail
  refine hse.mono ?_
  rintro e w2 ⟨rfl, m2, rfl⟩
  clear hse
  go_wp2
  go_ret2
  exact ⟨rfl, below_drewN hb1 _⟩

set_option maxHeartbeats 4000000 in
set_option maxRecDepth 1000000 in
theorem gset_new {rb pb mb c : Nat} {W H V : Int} {bl : Nat → Bool} (v : Bool) (w : World) (G : GraphAt w rb pb mb W H V bl) (s : StepsAt w) (hc : inB W H c = true) (hv : bl c = !v) (v1 : 0 ≤ V) (v2 : V ≤ 1000000) (h0 : 0 ≠ pb) (h0m : 0 ≠ mb) :
    Calls Tryz.prog 8 #[.pointer (some ⟨rb, 0, none⟩), .int .i64 c, .bool v] w fun e w' => e = .returned (.tuple #[.bool true, .nilIface]) ∧ GraphAt w' rb pb mb W H (V + 1) (upd bl c v) ∧ Keep (fun k => k = pb ∨ k = mb) w w' := by
  obtain ⟨f, G, E⟩ := G
  have p0 := G.p0
  obtain ⟨l1, l2, l3⟩ := G.lts
  obtain ⟨n1, n2⟩ := G.ne
  have hrp := G.rp
  have gw1 := G.ga.w1
  have gw2 := G.ga.w2
  have gh1 := G.ga.h1
  have gh2 := G.ga.h2
  have hspos := s.pos
  have hwh := wh_bd G.ga.w1 G.ga.w2 G.ga.h1 G.ga.h2
  have hbl : Hid (∀ n : Nat, (n : Int) ≠ (c : Int) → bl n = upd bl c v n) := fun n hn => by unfold upd; rw [if_neg (by omega)]
  have hcp := copy_any w G.ga
  have HE : Hid (∀ c : Int, EOk w pb W H bl f c) := E
  clear E
  go_enter Tryz.func8, Tryz.ntmps8
  go_wp2_with fail
  refine hcp.mono ?_
  rintro e w1 ⟨rfl, hb1, hs1, g1, fr1⟩
  have G1 := G.below hb1
  have hse := set_new c v w1 G1.ga G1.fr hc hv v1 v2
  have p01 := G1.p0
  clear hcp fr1 p0 hv
  go_wp2_with fail
  refine hse.mono ?_
  rintro e w2 ⟨rfl, ht2, g2, fr2⟩
  clear hse
  generalize hblv : upd bl c v = bl' at *
  have HBV : Hid (upd bl c v = bl') := hblv
  clear hblv
  have K2 := ht2.keep
  have gb2 := g1.keep K2 (show w.heap.size ≠ pb by omega)
  have p02 := K2.cellOf p01 hrp
  have p12 := K2.cellOf G1.p1 hrp
  have m2 : MapF Tryz.prog 3 w2 mb f (cntS (keyB f) 256) := G1.mp.keep K2 (fun e => n2 e.symm)
  have s2 := (s.below hb1 hspos).keep K2 h0
  have hz2 : w1.heap.size = w2.heap.size := ht2.size.symm
  have G2 : GSt w2 rb pb mb W H (V + 1) bl' f := ⟨p02, p12, g2, m2, G.bd, fr2, hrp⟩
  have KK2 : Keep (fun k => k = pb ∨ k = mb) w w2 := (Keep.of_below hb1).trans K2 (fun _ _ h => Or.inl h)
  have HE2 : Hid (∀ c : Int, EOk w2 pb W H bl f c) := fun c => ((HE.out c).below hb1).kept K2 (fun v l g _ _ _ hg e => by omega) rfl
  clear G1 G g1 g2 fr2 m2 p12 p01 HE K2 ht2
  have hmk := mkmapT w2
  have hT0 := SetAt.made w2
  have B3 : Below w2.heap.size w2 (w2.alloc (.map #[] 0)) := (Below.refl _ _).alloc (Nat.le_refl _) _
  have hz1 := hb1.size
  have hta := touched_any (c := (c : Int)) (w2.alloc (.map #[] 0)) (gb2.below B3 (by omega)) (s2.below B3 (by omega)) (by simp; omega) hT0 (by omega) (by omega) hc rfl rfl
  go_wp2_with fail
  refine hta.mono ?_
  rintro e w3 ⟨rfl, ⟨T1, hT1, hT1i⟩, K3⟩
  have p03 := K3.cellOf ((B3.cell (p := ⟨rb, 0, none⟩) (show rb < w2.heap.size by omega)).trans p02) (show rb ≠ w2.heap.size by omega)
  have G3 := (G2.below B3).keep K3 (show rb ≠ w2.heap.size by omega) (show pb ≠ w2.heap.size by omega) (show mb ≠ w2.heap.size by omega)
  have s3 := (s2.below B3 (by omega)).keep K3 (show 0 ≠ w2.heap.size by omega)
  have KK3 : Keep (fun k => k = pb ∨ k = mb) w w3 := (KK2.below B3).trans K3 (fun i hi h => by omega)
  have HE3 : Hid (∀ c : Int, EOk w3 pb W H bl f c) := fun c => ((HE2.out c).below B3).kept K3 (fun v l g hfc ho hg _ e => own_map (own_below ho (Below.refl _ _)) hT0.mp g hg e) rfl
  have HT1 : Hid (∀ z, T1 z = true ↔ Tch W H bl ((c : Int) % W) ((c : Int) / W) ((c : Int) / W + 1 + 1) ((c : Int) % W - 1) z) := fun z => (hT1i z).trans ⟨fun h => h.resolve_left (by decide), Or.inr⟩
  have hz3' : w2.heap.size + 1 ≤ w3.heap.size := by have := K3.size; rw [show (w2.alloc (.map #[] 0)).heap.size = w2.heap.size + 1 by simp] at this; exact this
  have htb := touched_any (c := (c : Int)) w3 G3.ga s3 G3.lts.2.1 hT1 (show pb ≠ w2.heap.size by omega) (by omega) hc rfl rfl
  clear hta hmk hT0 B3 G2 gb2 s2 HE2 KK2 K3 hT1i p02
  go_wp2_with fail
  refine htb.mono ?_
  rintro e w4 ⟨rfl, ⟨T, hT, hTi⟩, K4⟩
  have G4 := G3.keep K4 (show rb ≠ w2.heap.size by omega) (show pb ≠ w2.heap.size by omega) (show mb ≠ w2.heap.size by omega)
  have s4 := s3.keep K4 (show 0 ≠ w2.heap.size by omega)
  have KK4 : Keep (fun k => k = pb ∨ k = mb) w w4 := KK3.trans K4 (fun i hi h => by omega)
  have HE4 : Hid (∀ c : Int, EOk w4 pb W H bl f c) := fun c => (HE3.out c).kept K4 (fun v l g hfc ho hg _ e => own_map ho hT1.mp g hg e) rfl
  have HT : Hid (∀ z, T z = true ↔ Tch W H bl ((c : Int) % W) ((c : Int) / W) ((c : Int) / W + 1 + 1) ((c : Int) % W - 1) z ∨ Tch W H bl' ((c : Int) % W) ((c : Int) / W) ((c : Int) / W + 1 + 1) ((c : Int) % W - 1) z) := fun z => (hTi z).trans (or_congr (HT1.out z) Iff.rfl)
  have hz4 := K4.size
  have htl := hT.lt
  generalize htbn : w2.heap.size = tb at *
  clear htb G3 s3 HE3 KK3 K4 hTi hT1 HT1 p03 htbn
  go_wp2_with (first | (at_range; refine wpList_rangeF rfl _ 73 rfl 3 109 law3 Tryz.underT tb _ _ rfl hT.mp ?_; intro w5 hrg5 hg5 hs5) | go_in)
  have b5 : Below w4.heap.size w4 w5 := (Below.refl _ _).grown hg5 (Nat.le_refl _) (by simp)
  have G5 := G4.below b5
  have s5 := s4.below b5 (by omega)
  have KK5 := KK4.below b5
  have HE5 : Hid (∀ c : Int, EOk w5 pb W H bl f c) := fun c => (HE4.out c).below b5
  generalize hrn : w4.heap.size = r at *
  clear G4 s4 KK4 HE4 b5 hg5
  go_frame
  go_loopg [] (cntS T 256) (fun gk wr => ∃ left cnt f', gk = cnt ∧ RngS wr tb r T left cnt ∧ GSt wr rb pb mb W H (V + 1) bl' f' ∧ StepsAt wr ∧ Hid (∀ i : Int, T i = true → left i = false → EOk wr pb W H bl' f' i) ∧ Hid (∀ i : Int, ¬ (T i = true ∧ left i = false) → EOk wr pb W H bl f' i) ∧ Keep (fun k => k = pb ∨ k = mb) w wr)
  case atStart =>
    refine ⟨_, _, f, rfl, hrg5, G5, s5, fun i h1 h2 => ?_, fun i _ => HE5.out i, KK5⟩
    rw [setF_isSome, h1] at h2
    cases h2
  case round =>
    obtain ⟨left, cnt, f', hgk, hrg, Gr, sr, hyes, hno, hK⟩ := hrel
    go_wp2_with (first | (at_next; refine wpList_nextF rfl _ rfl 3 law3 tb r _ _ _ _ rfl hrg ?_ ?_) | go_in)
    · intro hc0 hl0
      have HF : Hid (∀ i : Int, EOk wr pb W H bl' f' i) := fun i => by
        by_cases hti : T i = true
        · exact hyes.out i hti (hl0 i)
        · have hnt := fun h => hti ((HT.out i).2 h)
          exact (hno.out i (fun h => hti h.1)).loc hbl.out gw1 gw2 gh1 gh2 (fun h => hnt (Or.inl h)) (fun h => hnt (Or.inr h))
      clear hyes hno
      go_wp2
      go_ret2
      rw [HBV.out]
      exact ⟨rfl, ⟨f', Gr, HF.out⟩, hK⟩
    · intro x v' w6 cnt1 hwx hlx hfx hrg1 hlt hg1 hs1 hen
      obtain ⟨hTx, rfl⟩ := setF_val hfx
      have hxin : inB W H x = true := by
        rcases (HT.out x).1 hTx with h | h
        · exact cornC_in gw1 (cornB_iff.1 h.1)
        · exact cornC_in gw1 (cornB_iff.1 h.1)
      have kr : Keep (fun k => k = r) wr w6 := (Keep.refl _ _).grown hg1 (fun k e _ => by cases e; rfl)
      have hzr := hK.size
      have G6 := Gr.keep kr (show rb ≠ r by omega) (show pb ≠ r by omega) (show mb ≠ r by omega)
      have s6 := sr.keep kr (show 0 ≠ r by omega)
      have K6 : Keep (fun k => k = pb ∨ k = mb) w w6 := hK.trans kr (fun i hi h => by omega)
      have hlk := look_any w6 G6 s6 hxin
      go_wp2_with fail
      refine hlk.mono ?_
      rintro e w7 ⟨rfl, ⟨f2, G7, hf2, E7⟩, K7⟩
      have hrg2 := hrg1.keep K7 (show tb ≠ mb by omega) (show r ≠ mb by omega)
      have s7 := s6.keep K7 h0m
      have K7' : Keep (fun k => k = pb ∨ k = mb) w w7 := K6.trans K7 (fun i hi h => Or.inr h)
      have HY : Hid (∀ i : Int, T i = true → (left i && !decide (i = x)) = false → EOk w7 pb W H bl' f2 i) := fun i h1 h2 => by
        by_cases e : i = x
        · rw [e]; exact E7
        · refine ((hyes.out i h1 (by rw [decide_eq_false e] at h2; simpa using h2)).kept kr (fun v l g hfc ho hg _ e => own_rng ho hrg g hg (by rw [e])) rfl).kept K7 (fun v l g hfc ho hg _ e => own_map ho G6.mp g hg e) (hf2 i e)
      have HN : Hid (∀ i : Int, ¬ (T i = true ∧ (left i && !decide (i = x)) = false) → EOk w7 pb W H bl f2 i) := fun i h => by
        have e : i ≠ x := fun e => h ⟨by rw [e]; exact hTx, by rw [decide_eq_true e]; simp⟩
        refine ((hno.out i (fun h2 => h ⟨h2.1, by rw [h2.2]; rfl⟩)).kept kr (fun v l g hfc ho hg _ e => own_rng ho hrg g hg (by rw [e])) rfl).kept K7 (fun v l g hfc ho hg _ e => own_map ho G6.mp g hg e) (hf2 i e)
      clear hlk hyes hno Gr sr hrg hrg1 kr G6 s6 K6 K7 E7 hf2
      go_wp2
      go_roundg cnt1
      case measure => omega
      case rel => exact ⟨_, cnt1, f2, rfl, hrg2, G7, s7, HY, HN, K7'⟩
end Go.Proofs.YtcagpmglijockaaGreatDoor
/-
  What 'GraphSays' does at every plot and lists: it answers true.
-/
namespace Go.Proofs.YtcagpmglijockaaGreatDoor
open Go.RowKit

theorem laid_any (W H : Int) (A : Option Addr) (n cap : Nat) (xs : Nat → Int) (w : World) (hm : n ≤ maxLen) (hx : OldRow w A n xs) :
    Calls Tryz.prog 5 #[.agg #[.int .i64 W, .int .i64 H, .slice A n cap]] w fun e w' => Below w.heap.size w w' ∧ (e = .returned (.tuple #[.pointer none, .pointer none, .bool false]) ∨
      (e = .returned (.tuple #[.pointer (some ⟨w.heap.size + 1, 0, none⟩), .pointer (some ⟨w.heap.size + 1 + 1, 0, none⟩), .bool true]) ∧ w'.heap.size = w.heap.size + 3 ∧ ∃ V bl, V ≤ 300 ∧ Both w' (w.heap.size + 1) (w.heap.size + 1 + 1) W H V bl)) := by
  by_cases hn : 300 < (n : Int)
  · exact (laid_many W H A n cap w hn hm).mono fun e w' ⟨h1, h2⟩ => ⟨h2, Or.inl h1⟩
  · cases hW : sideB W with
    | false => exact (laid_bad W H A n cap w hn (.inl hW)).mono fun e w' ⟨h1, h2⟩ => ⟨h2, Or.inl h1⟩
    | true =>
      cases hH : sideB H with
      | false => exact (laid_bad W H A n cap w hn (.inr ⟨hW, hH⟩)).mono fun e w' ⟨h1, h2⟩ => ⟨h2, Or.inl h1⟩
      | true => exact (laid_ok W H A n cap xs w hn hW hH hx).mono fun e w' ⟨h1, h2, h3, h4⟩ => ⟨h2, Or.inr ⟨h1, h3, h4⟩⟩

theorem EdgeL.one {W H c : Int} {bl : Nat → Bool} {l l' : List Nat} (h : EdgeL W H bl c l) (h' : EdgeL W H bl c l') : l = l' := rise_eq h.1 h'.1 (fun n => (h.2 n).trans (h'.2 n).symm)

theorem Both.below' {w w' : World} {g m : Nat} {W H V : Int} {bl : Nat → Bool} (h : Both w g m W H V bl) (hb : Below w.heap.size w w') : Both w' g m W H V bl := by
  have hg : g < w.heap.size := World.block_lt_of_cell? w _ h.ga.c0
  have hm : m < w.heap.size := World.block_lt_of_cell? w _ h.ra.c0
  exact ⟨h.ga.below hb hg, fun o => (hb.frozen (p := ⟨g, o, none⟩) hg).trans (h.gf o), h.ra.below hb hm, fun o => (hb.frozen (p := ⟨m, o, none⟩) hm).trans (h.rf o), h.v1, h.ne⟩

theorem RefAt.keep {D : Nat → Prop} {w w' : World} {b : Nat} {W H V : Int} {bl : Nat → Bool} (g : RefAt w b W H V bl) (K : Keep D w w') (h : ¬ D b) : RefAt w' b W H V bl :=
  ⟨g.w1, g.w2, g.h1, g.h2, K.cellOf g.c0 h, K.cellOf g.c1 h, K.cellOf g.c2 h, fun i hi => K.cellOf (g.cs i hi) h⟩
theorem GraphAt.keep {F : Nat → Prop} {w w' : World} {rb pb mb : Nat} {W H V : Int} {bl : Nat → Bool} (G : GraphAt w rb pb mb W H V bl) (K : Keep F w w') (h1 : ¬ F rb) (h2 : ¬ F pb) (h3 : ¬ F mb) (h4 : ∀ g, pb < g → ¬ F g) : GraphAt w' rb pb mb W H V bl := by
  obtain ⟨f, G, E⟩ := G
  exact ⟨f, G.keep K h1 h2 h3, fun c => (E c).kept K (fun v l g _ _ _ hg => h4 g hg) rfl⟩
theorem GraphAt.lts {w : World} {rb pb mb : Nat} {W H V : Int} {bl : Nat → Bool} (G : GraphAt w rb pb mb W H V bl) : rb < w.heap.size ∧ pb < w.heap.size ∧ mb < w.heap.size := by
  obtain ⟨f, G, E⟩ := G
  exact G.lts


/-- bools in memory that was there -/
def OldBools (w : World) (A : Option Addr) (n : Nat) (xs : Nat → Bool) : Prop := ∀ i, i < n → ∃ b o, A = some ⟨b, o, none⟩ ∧ b < w.heap.size ∧ w.cell? ⟨b, o + i, none⟩ = some (.bool (xs i))

/-- the reference's grid alone -/
structure RF (w : World) (m : Nat) (W H V : Int) (bl : Nat → Bool) : Prop where
  ra : RefAt w m W H V bl
  rf : Free w m
  v1 : 0 ≤ V
theorem RF.below' {w w' : World} {m : Nat} {W H V : Int} {bl : Nat → Bool} (h : RF w m W H V bl) (hb : Below w.heap.size w w') : RF w' m W H V bl := by
  have hm : m < w.heap.size := World.block_lt_of_cell? w _ h.ra.c0
  exact ⟨h.ra.below hb hm, fun o => (hb.frozen (p := ⟨m, o, none⟩) hm).trans (h.rf o), h.v1⟩

set_option maxHeartbeats 4000000 in
set_option maxRecDepth 1000000 in
theorem graphSays_any (W H : Int) (A B C D : Option Addr) (n cap k cb l cc m cd : Nat) (xs ys us : Nat → Int) (zs : Nat → Bool) (w : World) (s : StepsAt w) (hm : n ≤ maxLen) (_hk : k ≤ maxLen) (_hl : l ≤ maxLen) (_hm : m ≤ maxLen) (hx : OldRow w A n xs) (hy : OldRow w B k ys) (hz : OldBools w C l zs) (hu : OldRow w D m us) :
    Calls Tryz.prog 3 #[.agg #[.int .i64 W, .int .i64 H, .slice A n cap], .slice B k cb, .slice C l cc, .slice D m cd] w fun e w' => e = .returned (.bool true) ∧ Below w.heap.size w w' := by
  have b0 : Below w.heap.size w (w.alloc (.cells #[.int .i64 W, .int .i64 H, .slice A n cap] 24)) := (Below.refl _ _).alloc (Nat.le_refl _) _
  have q : ∀ o, (w.alloc (.cells #[.int .i64 W, .int .i64 H, .slice A n cap] 24)).cell? ⟨w.heap.size, o, none⟩ = #[Value.int .i64 W, .int .i64 H, .slice A n cap][o]? := fun o => by
    rw [World.cell?_alloc_new]
  have hz0 : (w.alloc (.cells #[.int .i64 W, .int .i64 H, .slice A n cap] 24)).heap.size = w.heap.size + 1 := by simp
  have hspos := s.pos
  have hli := links_any _ (s.below b0 hspos) (by rw [hz0]; omega)
  go_enter Tryz.func3, Tryz.ntmps3
  go_wp2_with fail
  refine hli.mono ?_
  rintro e w3 ⟨rfl, hb3⟩
  have B3 := b0.trans (hb3.mono b0.size)
  have q3 : ∀ o, w3.cell? ⟨w.heap.size, o, none⟩ = #[Value.int .i64 W, .int .i64 H, .slice A n cap][o]? := fun o => (hb3.cell (p := ⟨w.heap.size, o, none⟩) (by rw [hz0]; show w.heap.size < _; omega)).trans (q o)
  have c0 : w3.cell? ⟨w.heap.size, 0, none⟩ = some (.int .i64 W) := q3 0
  have c1 : w3.cell? ⟨w.heap.size, 1, none⟩ = some (.int .i64 H) := q3 1
  have c2 : w3.cell? ⟨w.heap.size, 2, none⟩ = some (.slice A n cap) := q3 2
  have h30 : w3.heap.size ≥ w.heap.size + 1 := by have := hb3.size; omega
  clear hli q q3 hb3 b0 hz0
  by_cases hk30 : (30 : Int) < (k : Int)
  · clear c0 c1 c2
    go_wp2
    go_ret
    exact ⟨rfl, B3⟩
  · by_cases hl30 : (30 : Int) < (l : Int)
    · clear c0 c1 c2
      go_wp2
      go_ret
      exact ⟨rfl, B3⟩
    · by_cases hm10 : (10 : Int) < (m : Int)
      · clear c0 c1 c2
        go_wp2
        go_ret
        exact ⟨rfl, B3⟩
      · have hLd := laid_any W H A n cap xs w3 hm (hx.below B3)
        go_wp2_with fail
        refine hLd.mono ?_
        rintro e w4 ⟨hb4, hcs⟩
        have B4 := B3.trans (hb4.mono B3.size)
        clear hLd c0 c1 c2
        rcases hcs with rfl | ⟨rfl, hsz4, V, bl, hV, hB⟩
        · go_wp2
          go_quiet (fail)
          go_wp2
          go_ret
          exact ⟨rfl, below_drewN B4 _⟩
        · have hz3 := B3.size
          have hge : w.heap.size ≤ w3.heap.size + 1 := by omega
          have hme : w.heap.size ≤ w3.heap.size + 1 + 1 := by omega
          generalize w3.heap.size + 1 + 1 = mb2 at *
          generalize w3.heap.size + 1 = gb at *
          have hra := hB.ra
          have ra0 := hra.c0
          have ra1 := hra.c1
          have hwh := wh_bd hra.w1 hra.w2 hra.h1 hra.h2
          have gw1 := hra.w1
          have gl : gb < w4.heap.size := World.block_lt_of_cell? _ _ hB.ga.c0
          have ml : mb2 < w4.heap.size := World.block_lt_of_cell? _ _ hra.c0
          have hwr : IntKind.i64.wrap (W * H) = W * H := wrap_small (by omega) (by omega)
          by_cases h100 : 100 < W * H
          · clear hB
            go_wp2
            go_quiet (fail)
            go_wp2
            go_ret
            exact ⟨rfl, below_drewN B4 _⟩
          · go_wp2
            go_quiet (fail)
            go_wp2_with fail
            have hb5 : Below w4.heap.size w4 (w4.drewN nq) := below_drewN (Below.refl _ _) _
            have hB5 := hB.below' hb5
            have B5 := B4.trans (hb5.mono B4.size)
            have hz5 : w4.heap.size = (w4.drewN nq).heap.size := rfl
            clear hB hb5 hb4 hra ra0 ra1 h100 hwr
            generalize w4.drewN nq = w5 at *
            refine (new_graph w5 hB5.ga (s.below B5 hspos) (by omega)).mono ?_
            rintro e w6 ⟨rb2, pb2, mbm, rfl, G6, hr6, hp6, hm6, hb6⟩
            have hB6 := hB5.below' hb6
            have B6 := B5.trans (hb6.mono B5.size)
            have hz6 := B5.size
            have hml6 : mb2 < w6.heap.size := by have := hb6.size; omega
            have has := asgr_any (cf := cd) w6 G6 hB6.ra hml6 (s.below B6 hspos) (hu.below B6) (by omega)
            clear hB5 hb6 B5
            have hgl : gb < w5.heap.size ∧ mb2 < w5.heap.size := by omega
            go_wp2_with fail
            refine has.mono ?_
            rintro e w7 ⟨rfl, hb7⟩
            have hB7 := hB6.below' hb7
            have G7 := G6.below hb7
            have B7 := B6.trans (hb7.mono B6.size)
            clear has hB6 G6 B6 hb7 hml6
            go_wp2
            go_loopw [15] (fun iv wr => ∃ (j : Nat) (V' : Int) (bl' : Nat → Bool), j ≤ k ∧ iv = .int .i64 j ∧ RF wr mb2 W H V' bl' ∧ GraphAt wr rb2 pb2 mbm W H V' bl' ∧ V' ≤ 300 + j ∧ Below w.heap.size w wr)
              (fun i _ => k - (intOf i).toNat)
            case atStart => exact ⟨0, V, bl, Nat.zero_le _, rfl, ⟨hB7.ra, hB7.rf, hB7.v1⟩, G7, by omega, B7⟩
            case round =>
              obtain ⟨j, V', bl', hj, rfl, hB, G, hV', hBl⟩ := hrel
              clear hB7 G7 B7
              have hmlr : mb2 < wr.heap.size := World.block_lt_of_cell? _ _ hB.ra.c0
              have fin := asgr_any (cf := cd) wr G hB.ra hmlr (s.below hBl hspos) (hu.below hBl) (by omega)
              by_cases hlt : j < k
              · by_cases hlt2 : j < l
                · clear fin
                  obtain ⟨ba, oa, rfl, hba, hcw⟩ := hy j hlt
                  obtain ⟨bb, ob, rfl, hbb, hdw⟩ := hz j hlt2
                  have HCW : Hid (∀ w', Below w.heap.size w w' → w'.cell? ⟨ba, oa + j, none⟩ = some (.int .i64 (ys j)) ∧ w'.cell? ⟨bb, ob + j, none⟩ = some (.bool (zs j))) := fun w' hb' => ⟨(hb'.cell (p := ⟨ba, oa + j, none⟩) hba).trans hcw, (hb'.cell (p := ⟨bb, ob + j, none⟩) hbb).trans hdw⟩
                  clear hcw hdw
                  generalize ys j = c at *
                  generalize zs j = v at *
                  have i1 : (0 : Int) ≤ (j : Int) := by omega
                  have i2 : (j : Int) < (k : Int) := by omega
                  have i3 : (j : Int) < (l : Int) := by omega
                  have hv0 := hB.v1
                  have hzr := hBl.size
                  have bD : Below wr.heap.size wr wr.drew := ⟨rfl, rfl, rfl, Nat.le_refl _, fun _ _ => rfl⟩
                  have hB8 := hB.below' bD
                  have G8 := G.below bD
                  have B8 := hBl.trans (bD.mono hBl.size)
                  clear hB G hBl bD hmlr
                  cases hin : inB W H c with
                  | false =>
                    have hse := gset_out v wr.drew G8 hin
                    go_wp2_with fail
                    go_region_held3 (fun w' => w'.cell? ⟨ba, oa + j, none⟩ = some (.int .i64 c) ∧ w'.cell? ⟨bb, ob + j, none⟩ = some (.bool v)) (first | exact HCW.out _ B8 | exact HCW.out _ B9)
                      (first | (go_at_call 8; refine hse.mono ?_; rintro e w9 ⟨rfl, hb9⟩; have hB9 := hB8.below' hb9; have G9 := G8.below hb9; have B9 := B8.trans (hb9.mono B8.size)))
                    clear hse
                    have bD : Below w9.heap.size w9 w9.drew := ⟨rfl, rfl, rfl, Nat.le_refl _, fun _ _ => rfl⟩
                    have hB0 := hB9.below' bD
                    have G0 := G9.below bD
                    have B0 := B9.trans (bD.mono B9.size)
                    have hrs := rset_out c v w9.drew hB0.ra hin
                    clear hB8 G8 B8 hB9 G9 B9 bD
                    go_wp2_with fail
                    go_region_held3 (fun w' => w'.cell? ⟨ba, oa + j, none⟩ = some (.int .i64 c) ∧ w'.cell? ⟨bb, ob + j, none⟩ = some (.bool v)) (first | exact HCW.out _ B0 | exact HCW.out _ B10)
                      (first | (go_at_call 9; refine hrs.mono ?_; rintro e w10 ⟨rfl, m10, hw10⟩; have hb10 : Below w9.drew.heap.size w9.drew w10 := (by rw [hw10]; exact below_drewN (Below.refl _ _) _); clear hw10; have hB10 := hB0.below' hb10; have G10 := G0.below hb10; have B10 := B0.trans (hb10.mono B0.size)))
                    clear hrs hB0 G0 B0
                    have hsm := same_err 1 w10 (by omega)
                    go_wp2_with (go_at_call 10; refine hsm.mono ?_; rintro e w' ⟨rfl, rfl⟩)
                    go_roundw
                    case rel => exact ⟨j + 1, V', bl', by omega, by go_num, hB10, G10, by omega, B10⟩
                    case measure => simp [intOf]; omega
                  | true =>
                    have hci : 0 ≤ c ∧ c < W * H := of_decide_eq_true hin
                    obtain ⟨cn, rfl⟩ : ∃ cn : Nat, c = cn := ⟨c.toNat, by omega⟩
                    by_cases hv : bl' cn = v
                    · have hse := gset_same v wr.drew G8 hin hv
                      go_wp2_with fail
                      go_region_held3 (fun w' => w'.cell? ⟨ba, oa + j, none⟩ = some (.int .i64 (cn : Int)) ∧ w'.cell? ⟨bb, ob + j, none⟩ = some (.bool v)) (first | exact HCW.out _ B8 | exact HCW.out _ B9)
                        (first | (go_at_call 8; refine hse.mono ?_; rintro e w9 ⟨rfl, hb9⟩; have hB9 := hB8.below' hb9; have G9 := G8.below hb9; have B9 := B8.trans (hb9.mono B8.size)))
                      clear hse
                      have bD : Below w9.heap.size w9 w9.drew := ⟨rfl, rfl, rfl, Nat.le_refl _, fun _ _ => rfl⟩
                      have hB0 := hB9.below' bD
                      have G0 := G9.below bD
                      have B0 := B9.trans (bD.mono B9.size)
                      have hrs := rset_same cn v w9.drew hB0.ra hin hv
                      clear hB8 G8 B8 hB9 G9 B9 bD
                      go_wp2_with fail
                      go_region_held3 (fun w' => w'.cell? ⟨ba, oa + j, none⟩ = some (.int .i64 (cn : Int)) ∧ w'.cell? ⟨bb, ob + j, none⟩ = some (.bool v)) (first | exact HCW.out _ B0 | exact HCW.out _ B10)
                        (first | (go_at_call 9; refine hrs.mono ?_; rintro e w10 ⟨rfl, m10, hw10⟩; have hb10 : Below w9.drew.heap.size w9.drew w10 := (by rw [hw10]; exact below_drewN (Below.refl _ _) _); clear hw10; have hB10 := hB0.below' hb10; have G10 := G0.below hb10; have B10 := B0.trans (hb10.mono B0.size)))
                      clear hrs hB0 G0 B0
                      have hsm := same_nil w10
                      go_wp2_with (go_at_call 10; refine hsm.mono ?_; rintro e w' ⟨rfl, rfl⟩)
                      go_roundw
                      case rel => exact ⟨j + 1, V', bl', by omega, by go_num, hB10, G10, by omega, B10⟩
                      case measure => simp [intOf]; omega
                    · have hv : bl' cn = !v := by cases hb : bl' cn <;> cases v <;> simp_all
                      have hm8 : mb2 < wr.drew.heap.size := World.block_lt_of_cell? _ _ hB8.ra.c0
                      have hse := gset_new v wr.drew G8 (s.below B8 hspos) hin hv (by omega) (by omega) (by omega) (by omega)
                      go_wp2_with fail
                      go_region_held3 (fun w' => w'.cell? ⟨ba, oa + j, none⟩ = some (.int .i64 (cn : Int)) ∧ w'.cell? ⟨bb, ob + j, none⟩ = some (.bool v)) (first | exact HCW.out _ B8 | exact HCW.out _ B9)
                        (first | (go_at_call 8; refine hse.mono ?_; rintro e w9 ⟨rfl, G9, K9⟩; have hB9 : RF w9 mb2 W H V' bl' := ⟨hB8.ra.keep K9 (show ¬ (mb2 = pb2 ∨ mb2 = mbm) by omega), fun o => (K9.frozen (p := ⟨mb2, o, none⟩) hm8 (show ¬ (mb2 = pb2 ∨ mb2 = mbm) by omega)).trans (hB8.rf o), hv0⟩; have B9 : Below w.heap.size w w9 := B8.trans (K9.to_below B8.size (fun q e => (by rcases e with e | e <;> omega)))))
                      clear hse
                      have bD : Below w9.heap.size w9 w9.drew := ⟨rfl, rfl, rfl, Nat.le_refl _, fun _ _ => rfl⟩
                      have hB0 := hB9.below' bD
                      have G0 := G9.below bD
                      have B0 := B9.trans (bD.mono B9.size)
                      have hrs := rset_new cn v w9.drew hB0.ra hB0.rf hin hv (by omega) (by omega)
                      clear hB8 G8 B8 hB9 G9 B9 bD
                      go_wp2_with fail
                      go_region_held3 (fun w' => w'.cell? ⟨ba, oa + j, none⟩ = some (.int .i64 (cn : Int)) ∧ w'.cell? ⟨bb, ob + j, none⟩ = some (.bool v)) (first | exact HCW.out _ B0 | exact HCW.out _ B10)
                        (first | (go_at_call 9; refine hrs.mono ?_; rintro e w10 ⟨rfl, T10, ra10, rf10⟩; have B10 := T10.below B0 hme))
                      clear hrs B0 hB0
                      have hsm := same_nil w10
                      go_wp2_with (go_at_call 10; refine hsm.mono ?_; rintro e w' ⟨rfl, rfl⟩)
                      go_roundw
                      case rel =>
                        exact ⟨j + 1, V' + 1, upd bl' cn v, by omega, by go_num, ⟨ra10, rf10, by omega⟩, G0.keep T10.keep (show rb2 ≠ mb2 by omega) (show pb2 ≠ mb2 by omega) (show mbm ≠ mb2 by omega) (fun g hg => show g ≠ mb2 by omega), by omega, B10⟩
                      case measure => simp [intOf]; omega
                · clear hy hz
                  go_wp2_with fail
                  refine fin.mono ?_
                  rintro e w9 ⟨rfl, hb9⟩
                  go_wp2
                  go_ret
                  exact ⟨rfl, hBl.trans (hb9.mono hBl.size)⟩
              · clear hy hz
                go_wp2_with fail
                refine fin.mono ?_
                rintro e w9 ⟨rfl, hb9⟩
                go_wp2
                go_ret
                exact ⟨rfl, hBl.trans (hb9.mono hBl.size)⟩
end Go.Proofs.YtcagpmglijockaaGreatDoor
/-
  The table of steps, read off the row's listed variable.
-/
namespace Go.Proofs.YtcagpmglijockaaGreatDoor
open Go.ChangeShapes Go.WideShapes Go.ChangeAt Go.RowKit

theorem gSteps : Tryz.prog.globalNamed "fellrunner/grid.steps" = some 0 := by kernel_rfl
theorem tSteps : (Tryz.prog.globals[0]?).map (·.type) = some 130 := by kernel_rfl
theorem c60 : Tryz.prog.cellsOf 129 = 2 := by kernel_rfl
theorem c3' : Tryz.prog.cellsOf 3 = 1 := by kernel_rfl
abbrev stepsLaid : List (String × DataW Unit) := [("fellrunner/grid.steps", Rows.laid_fellrunner_grid_steps)]

theorem lt_of_cell {w : World} {b o : Nat} {v : Value} (h : w.cell? ⟨b, o, none⟩ = some v) : b < w.heap.size := by
  by_cases hb : b < w.heap.size
  · exact hb
  · unfold World.cell? at h
    rw [Array.getElem?_eq_none (by simpa using hb)] at h
    simp at h

theorem steps_of {W : World} (h : laidMetH Tryz.prog stepsLaid W) : StepsAt W ∧ 0 < W.heap.size := by
  rw [MakeChecks.laidMetH_plain _ _ _ (by kernel_rfl)] at h
  obtain ⟨ps, ⟨g0, t0, cs0, f0, p0, q0, hg0, ht0, hv0, hd0, _, _⟩, _, _⟩ := h
  obtain rfl := Option.some.inj (gSteps.symm.trans hg0)
  obtain rfl := Option.some.inj (tSteps.symm.trans ht0)
  obtain ⟨xs, m, _, hx1, hlen, hn, hel⟩ := DataW.trod_array Tryz.underlying130 hd0
  simp only [Prod.mk.injEq] at hx1
  have hxa := hx1.1
  have key : ∀ i, i < 8 → cs0.toList[2 * i]? = some (.int .i64 (stepX i)) ∧ cs0.toList[2 * i + 1]? = some (.int .i64 (stepY i)) := by
    intro i hi
    have h1 := hel i hi
    rw [c60] at h1
    have hxi : ∃ p, xs[i]? = some (Lib.tabData .i64 [stepX i, stepY i], p) := by
      have hlt : i < xs.length := by omega
      refine ⟨xs[i].2, ?_⟩
      rw [List.getElem?_eq_getElem hlt]
      have e2 : (xs.map (·.1))[i]? = some xs[i].1 := by rw [List.getElem?_map, List.getElem?_eq_getElem hlt]; rfl
      simp only [Rows.laid_fellrunner_grid_steps, DataW.agg.injEq] at hxa
      rw [← hxa] at e2
      have hks : i = 0 ∨ i = 1 ∨ i = 2 ∨ i = 3 ∨ i = 4 ∨ i = 5 ∨ i = 6 ∨ i = 7 := by omega
      rcases hks with rfl | rfl | rfl | rfl | rfl | rfl | rfl | rfl <;>
        (simp at e2; exact congrArg some (Prod.ext e2.symm rfl))
    obtain ⟨p, hp⟩ := hxi
    rw [hp] at h1
    have h2 := Lib.cells_of_tab Tryz.underlying129 Tryz.underlying3 c3' c60 h1
    have a0 : ((cs0.toList.drop (i * 2)).take 2)[0]? = cs0.toList[2 * i]? := by
      rw [List.getElem?_take_of_lt (by decide), List.getElem?_drop]; congr 1; omega
    have a1 : ((cs0.toList.drop (i * 2)).take 2)[1]? = cs0.toList[2 * i + 1]? := by
      rw [List.getElem?_take_of_lt (by decide), List.getElem?_drop]; congr 1; omega
    rw [h2] at a0 a1
    exact ⟨a0.symm, a1.symm⟩
  have cell : ∀ i, W.cell? ⟨0, i, none⟩ = cs0.toList[i]? := fun i => by
    have := World.var?_cell hg0 hv0 i
    rw [this]; simp
  refine ⟨fun i hi => ⟨by rw [cell]; exact (key i hi).1, by rw [cell]; exact (key i hi).2⟩, ?_⟩
  exact lt_of_cell ((cell 0).trans (key 0 (by decide)).1)
end Go.Proofs.YtcagpmglijockaaGreatDoor
/-
  What the frames of this seat's laws have in common: how lists that come in lie in memory.
-/
namespace Go.Proofs.YtcagpmglijockaaGreatDoor
open Go.ChangeShapes Go.WideShapes Go.ChangeAt Go.RowKit Go.Joins

theorem Tryz.own : ownKnob Tryz.prog.godebug = none := by kernel_rfl
theorem Tryz.laidOut : laidOutB Tryz.prog = true := by kernel_rfl
theorem Tryz.cells24 : Tryz.prog.cellsOf 24 = 3 := by kernel_rfl

theorem law_met (os : Os) (args : Array Value) : laidMetH Tryz.prog stepsLaid ((World.doorLaid Tryz.prog 27 os).forCall (fun _ _ => 0) ⟨#[], args, []⟩).memory :=
  laidMetH_of_parts3 (fuel := 8) (laidMet_of_run' 8 (by kernel_rfl) (by kernel_rfl)) (by kernel_rfl) (by kernel_rfl)

/-- a slice of integers that came in, as a row of old memory -/
theorem row_in {H : Type} {enc : TypeId × Value → H} {W : World} {sp : Nat → Bool} {held : Bool} {fuel : Nat} {c : Value} {x : DataW H × List MemPlace} (h : DataW.trod enc Tryz.prog W 0 sp held fuel 22 [c] = some x) :
    ∃ A n cap xs, c = .slice A n cap ∧ n ≤ maxLen ∧ OldRow W A n xs := by
  rcases open_ints Tryz.underlying22 Tryz.underlying3 (by kernel_rfl) h with ⟨hcs, _⟩ | ⟨a, l, cap, zs, hcs, _, hl, hm, hz, _, hcell, _⟩
  · simp at hcs
    exact ⟨none, 0, 0, fun _ => 0, hcs, by unfold maxLen; omega, fun i hi => absurd hi (Nat.not_lt_zero i)⟩
  · simp at hcs
    refine ⟨some a, l, cap, fun i => zs.getD i 0, hcs, Nat.le_trans hl hm, fun i hi => ?_⟩
    have hzl : i < zs.length := by rw [hz]; split <;> omega
    obtain ⟨b, off, rfl, hc⟩ := ints_at hcell (by omega)
    exact ⟨b, off, rfl, lt_of_cell (hc i hzl), hc i hzl⟩

end Go.Proofs.YtcagpmglijockaaGreatDoor
