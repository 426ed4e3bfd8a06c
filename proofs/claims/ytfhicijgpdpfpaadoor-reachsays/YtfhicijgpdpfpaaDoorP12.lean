/-
  Texts laid together: Rev, Trail, Way, RFloodA.
-/
import Derived.Test.YtfhicijgpdpfpaaDoorP11
import Derived.Deep.LoopGhost
import Derived.Deep.Light
import Derived.Deep.MidRow
import Derived.Maps.AppendAt
/-
  A list of numbers is turned round.
-/
namespace Go.Proofs.YtfhicijgpdpfpaaDoor
open Go.RowKit

/-- numbers in a block of one's own -/
structure IRow (w : World) (g L : Nat) (f : Nat → Int) : Prop where
  at' : ∀ i, i < L → w.cell? ⟨g, i, none⟩ = some (.int .i64 (f i))
  fr : ∀ i, i < L → w.frozen? ⟨g, i, none⟩ = false

theorem IRow.two {w : World} {g L : Nat} {f : Nat → Int} (h : IRow w g L f) {i j : Nat} (hi : i < L) (hj : j < L) (x y : Int) :
    IRow ((w.setCell ⟨g, i, none⟩ (.int .i64 x)).setCell ⟨g, j, none⟩ (.int .i64 y)) g L (fun k => if k = j then y else if k = i then x else f k) := by
  refine ⟨fun k hk => ?_, fun k hk => by simpa using h.fr k hk⟩
  by_cases e : k = j
  · subst e
    rw [if_pos rfl]
    by_cases e2 : k = i
    · subst e2
      exact World.cell?_setCell_same _ _ _ (World.cell?_setCell_same _ _ _ (h.at' k hk))
    · refine World.cell?_setCell_same _ _ _ (u := .int .i64 (f k)) ?_
      rw [World.cell?_setCell_other _ _ _ _ (by intro q; cases q; exact e2 rfl)]
      exact h.at' k hk
  · rw [if_neg e, World.cell?_setCell_other _ _ _ _ (by intro q; cases q; exact e rfl)]
    by_cases e2 : k = i
    · subst e2
      rw [if_pos rfl]
      exact World.cell?_setCell_same _ _ _ (h.at' k hk)
    · rw [if_neg e2, World.cell?_setCell_other _ _ _ _ (by intro q; cases q; exact e2 rfl)]
      exact h.at' k hk

/-- turned round from both ends, i of each -/
def turn (L : Nat) (f : Nat → Int) (i : Nat) : Nat → Int := fun k => if k < i ∨ L - 1 - i < k then f (L - 1 - k) else f k

set_option maxHeartbeats 2000000 in
set_option maxRecDepth 1000000 in
theorem rev_any {g L cap : Nat} {f : Nat → Int} (w : World) (h : IRow w g L f) (h0 : 0 < L) (hL : L ≤ 1000) :
    Calls Tryd.prog 55 #[.slice (some ⟨g, 0, none⟩) L cap] w fun e w' => e = .returned (.tuple #[]) ∧ (∀ i, i < L → w'.cell? ⟨g, i, none⟩ = some (.int .i64 (f (L - 1 - i)))) ∧ Keep (fun k => k = g) w w' := by
  have hst : IRow w g L (turn L f 0) := by
    refine ⟨fun i hi => ?_, h.fr⟩
    rw [h.at' i hi]
    unfold turn
    rw [if_neg (by omega)]
  go_enter Tryd.func55, Tryd.ntmps55
  go_wp2
  go_loopg [2, 3] L (fun gk iv jv wr => ∃ i : Nat, 2 * i ≤ L + 1 ∧ gk = L - i ∧ iv = .int .i64 i ∧ jv = .int .i64 ((L : Int) - 1 - i) ∧ IRow wr g L (turn L f i) ∧ Keep (fun k => k = g) w wr)
  case atStart => exact ⟨0, by omega, rfl, rfl, by go_num, hst, Keep.refl _ _⟩
  case round =>
    clear hst
    obtain ⟨i, hi, hgk, rfl, rfl, R, K⟩ := hrel
    have HG : Hid (gk = L - i) := hgk
    clear hgk
    by_cases hlt : (i : Int) < (L : Int) - 1 - i
    · obtain ⟨j, hj⟩ : ∃ j : Nat, (L : Int) - 1 - i = j := ⟨((L : Int) - 1 - i).toNat, by omega⟩
      rw [hj] at hlt ⊢
      have hiL : i < L := by omega
      have hjL : j < L := by omega
      have ci := R.at' i hiL
      have cj := R.at' j hjL
      have fi := R.fr i hiL
      have fj := R.fr j hjL
      have b1 : (i : Int) < (L : Int) := by omega
      have b2 : (j : Int) < (L : Int) := by omega
      have b3 : (0 : Int) ≤ (i : Int) := by omega
      have b4 : (0 : Int) ≤ (j : Int) := by omega
      have hne : ¬ i = j := by omega
      have hR := R.two hiL hjL (turn L f i j) (turn L f i i)
      have hR2 : IRow ((wr.setCell ⟨g, i, none⟩ (.int .i64 (turn L f i j))).setCell ⟨g, j, none⟩ (.int .i64 (turn L f i i))) g L (turn L f (i + 1)) := by
        refine ⟨fun k hk => ?_, hR.fr⟩
        rw [hR.at' k hk]
        congr 2
        unfold turn
        by_cases e1 : k = j
        · subst e1
          rw [if_pos rfl, if_neg (by omega), if_pos (by omega)]
          congr 1; omega
        · rw [if_neg e1]
          by_cases e2 : k = i
          · subst e2
            rw [if_pos rfl, if_neg (by omega), if_pos (by omega)]
            congr 1; omega
          · rw [if_neg e2]
            by_cases e3 : k < i ∨ L - 1 - i < k
            · rw [if_pos e3, if_pos (by omega)]
            · rw [if_neg e3, if_neg (by omega)]
      have hK2 : Keep (fun k => k = g) w ((wr.setCell ⟨g, i, none⟩ (.int .i64 (turn L f i j))).setCell ⟨g, j, none⟩ (.int .i64 (turn L f i i))) := (K.setCell (p := ⟨g, i, none⟩) (fun _ => rfl) _).setCell (p := ⟨g, j, none⟩) (fun _ => rfl) _
      clear hR R K
      generalize turn L f i i = vi at *
      generalize turn L f i j = vj at *
      go_wp2
      go_region
      have hR3 : IRow ((wr.setCell ⟨g, i, none⟩ (.int .i64 vj)).setCell ⟨g, j, none⟩ (.int .i64 vi)).drew g L (turn L f (i + 1)) := ⟨hR2.at', hR2.fr⟩
      have hK3 := hK2.drew
      clear hR2 hK2 ci cj fi fj
      go_wp2
      go_roundg (L - (i + 1))
      case measure => have := HG.out; omega
      case rel =>
        refine ⟨i + 1, by omega, rfl, by go_num, ?_, hR3, hK3⟩
        have e : (j : Int) - 1 = (L : Int) - 1 - ((i + 1 : Nat) : Int) := by omega
        rw [← e]
    · have hcells : ∀ k, k < L → wr.cell? ⟨g, k, none⟩ = some (.int .i64 (f (L - 1 - k))) := fun k hk => by
        rw [R.at' k hk]
        congr 2
        unfold turn
        by_cases e : k < i ∨ L - 1 - i < k
        · rw [if_pos e]
        · rw [if_neg e]; congr 1; omega
      go_wp2
      go_end0
      exact ⟨rfl, hcells, K⟩
end Go.Proofs.YtfhicijgpdpfpaaDoor
/-
  A way back to the first cell, and what it costs when it is walked.
-/
namespace Go.Proofs.YtfhicijgpdpfpaaDoor

theorem stepD_edge {W H a b : Int} {bl : Nat → Bool} {k : Nat} (w1 : 1 ≤ W) (e : Edge W H bl a k b) : stepD W H bl a b = some k := by
  obtain ⟨h1, h2, h3, h4⟩ := e
  cases h : stepD W H bl a b with
  | none =>
    unfold stepD at h
    rw [List.find?_range_eq_none] at h
    have := h k h1
    rw [h3, h4] at this
    simp at this
  | some j =>
    unfold stepD at h
    rw [List.find?_range_eq_some] at h
    obtain ⟨g1, g2, _⟩ := h
    simp only [Bool.and_eq_true, beq_iff_eq] at g1
    have := one_dir w1 (by simpa using g2) h1 g1.1 h3 (by rw [g1.2, h4])
    rw [this]

/-- each is one step from the one ahead of it, and costs so much more -/
def Trail (W H : Int) (bl : Nat → Bool) (F : Int → Option (Int × Int)) (xs : Nat → Int) (n : Nat) : Prop :=
  ∀ j, j + 1 < n → ∃ k s d, Edge W H bl (xs j) k (xs (j + 1)) ∧ F (xs j) = some (s, d) ∧ F (xs (j + 1)) = some (s + stS k, d + stD k)

theorem ff_zero {W H : Int} {bl : Nat → Bool} {c : Int} (hi : inB W H c = true) (hb : bl c.toNat = false) : ffv W H bl c = 0 := by
  unfold ffv; rw [hi, hb]; rfl

/-- a trail from the first cell costs, walked, what its last one costs -/
theorem trail_walk {W H o : Int} {bl : Nat → Bool} {F : Int → Option (Int × Int)} {xs : Nat → Int} {n : Nat} (w1 : 1 ≤ W) (B : Best (Edge W H bl) o F) (ho : inB W H o = true) (hbo : bl o.toNat = false) (h0 : xs 0 = o) (ht : Trail W H bl F xs n) :
    ∀ i, i < n → ∃ c, F (xs i) = some c ∧ wkS W H bl xs (i + 1) = .ok c := by
  intro i
  induction i with
  | zero =>
    intro _
    refine ⟨(0, 0), by rw [h0]; exact B.home, ?_⟩
    rw [wkS_next (c := (0, 0)) rfl]
    unfold wk1
    rw [h0, ff_zero ho hbo, if_pos rfl, if_pos rfl]
  | succ i ih =>
    intro hi
    obtain ⟨c, hc, hw⟩ := ih (by omega)
    obtain ⟨k, s, d, he, hF, hG⟩ := ht i hi
    rw [hc] at hF
    cases hF
    refine ⟨_, hG, ?_⟩
    have hwk := B.sound hG
    rw [wkS_next hw]
    unfold wk1
    rw [ff_zero (wk_in w1 ho hwk) (wk_free hbo hwk), if_pos rfl, if_neg (by omega), Nat.add_sub_cancel, stepD_edge w1 he]

/-- .. and has no fault -/
theorem trail_cost {W H o s d : Int} {bl : Nat → Bool} {F : Int → Option (Int × Int)} {xs : Nat → Int} {n : Nat} (w1 : 1 ≤ W) (B : Best (Edge W H bl) o F) (ho : inB W H o = true) (hbo : bl o.toNat = false) (h0 : xs 0 = o) (ht : Trail W H bl F xs n) (hn : 0 < n) (hl : F (xs (n - 1)) = some (s, d)) :
    wkV W H bl xs n = ((s, d), 0) := by
  obtain ⟨c, hc, hw⟩ := trail_walk w1 B ho hbo h0 ht (n - 1) (by omega)
  rw [hl] at hc
  cases hc
  rw [Nat.sub_add_cancel (by omega)] at hw
  exact wkV_ok hw hn
end Go.Proofs.YtfhicijgpdpfpaaDoor
/-
  The way to a cell.
-/
namespace Go.Proofs.YtfhicijgpdpfpaaDoor
open Go.RowKit

set_option maxHeartbeats 400000 in
theorem way_out {fb gb cb n : Nat} {W H V : Int} {bl : Nat → Bool} {F : Int → Option (Int × Int)} (c : Int) (w : World) (f : FloodAt w fb gb cb W H V bl F n) (hr : inB W H c = false) :
    Calls Tryd.prog 19 #[.pointer (some ⟨fb, 0, none⟩), .int .i64 c] w fun e w' => e = .returned (.tuple #[.slice none 0 0, .iface 78 (.int .i64 1)]) ∧ Below w.heap.size w w' := by
  go_enter Tryd.func19, Tryd.ntmps19
  go_wp2_with (go_at_call 18; refine (fcost_out c _ f hr).mono ?_; rintro e w1 ⟨rfl, hb1⟩)
  go_ret2
  exact ⟨rfl, hb1.alloc hb1.size _⟩

set_option maxHeartbeats 400000 in
theorem way_none {fb gb cb n : Nat} {W H V : Int} {bl : Nat → Bool} {F : Int → Option (Int × Int)} (c : Nat) (w : World) (f : FloodAt w fb gb cb W H V bl F n) (hr : inB W H c = true) (hF : F c = none) :
    Calls Tryd.prog 19 #[.pointer (some ⟨fb, 0, none⟩), .int .i64 c] w fun e w' => e = .returned (.tuple #[.slice none 0 0, .iface 78 (.int .i64 5)]) ∧ Below w.heap.size w w' := by
  go_enter Tryd.func19, Tryd.ntmps19
  go_wp2_with (go_at_call 18; refine (fcost_none c _ f hr hF).mono ?_; rintro e w1 ⟨rfl, hb1⟩)
  go_ret2
  exact ⟨rfl, hb1.alloc hb1.size _⟩

/-- the way back so far: from c to cur, each one step nearer -/
structure BT (W H : Int) (bl : Nat → Bool) (F : Int → Option (Int × Int)) (c : Nat) (l : List Nat) (cur : Nat) : Prop where
  pos : 0 < l.length
  fst : l.getD 0 0 = c
  lst : l.getD (l.length - 1) 0 = cur
  tr : ∀ j, j + 1 < l.length → ∃ k s d, Edge W H bl (l.getD (j + 1) 0 : Nat) k (l.getD j 0 : Nat) ∧ F (l.getD (j + 1) 0 : Nat) = some (s, d) ∧ F (l.getD j 0 : Nat) = some (s + stS k, d + stD k)

theorem BT.one {W H : Int} {bl : Nat → Bool} {F : Int → Option (Int × Int)} (c : Nat) : BT W H bl F c [c] c := ⟨Nat.one_pos, rfl, rfl, fun j hj => by simp at hj⟩
theorem getD_app (l : List Nat) (x i : Nat) : (l ++ [x]).getD i 0 = if i < l.length then l.getD i 0 else if i = l.length then x else 0 := by
  simp only [List.getD_eq_getElem?_getD]
  by_cases h : i < l.length
  · rw [if_pos h, List.getElem?_append_left h]
  · rw [if_neg h, List.getElem?_append_right (by omega)]
    by_cases e : i = l.length
    · subst e; simp
    · rw [if_neg e, List.getElem?_eq_none (by simp; omega)]; rfl
theorem BT.push {W H s d : Int} {bl : Nat → Bool} {F : Int → Option (Int × Int)} {c cur nxt k : Nat} {l : List Nat} (w1 : 1 ≤ W) (h : BT W H bl F c l cur) (e : Edge W H bl cur k nxt) (hn : F nxt = some (s, d)) (hc : F cur = some (s + stS k, d + stD k)) : BT W H bl F c (l ++ [nxt]) nxt := by
  have hp := h.pos
  refine ⟨by simp, ?_, ?_, fun j hj => ?_⟩
  · rw [getD_app, if_pos hp]; exact h.fst
  · rw [getD_app]; simp
  · simp at hj
    by_cases q : j + 1 < l.length
    · rw [getD_app, if_pos q, getD_app, if_pos (by omega)]; exact h.tr j q
    · have q2 : j + 1 = l.length := by omega
      rw [getD_app, if_neg q, if_pos q2, getD_app, if_pos (by omega)]
      have q3 : j = l.length - 1 := by omega
      rw [q3, h.lst]
      obtain ⟨k', e', g1, g2⟩ := Edge.back w1 _ _ _ e
      exact ⟨k', s, d, e', hn, by rw [g1, g2]; exact hc⟩

theorem own_below {w w' : World} {base k n : Nat} {e : TypeId} {v : Value} {xs : List Value} (h : w.ownsRow base e k v n xs) (hb : Below w.heap.size w w') : w'.ownsRow base e k v n xs := by
  refine ⟨h.1, ?_⟩
  rcases h.2 with h2 | ⟨g, cap, cur, hv, hbase, hg, h3⟩
  · exact Or.inl h2
  · exact Or.inr ⟨g, cap, cur, hv, hbase, (hb.block g (Array.getElem?_eq_some_iff.1 hg).1).trans hg, h3⟩

theorem own_int {w : World} {base g cap : Nat} {l : List Nat} (h : w.ownsRow base 3 1 (.slice (some ⟨g, 0, none⟩) l.length cap) l.length (vals l)) (i : Nat) (hi : i < l.length) : w.cell? ⟨g, i, none⟩ = some (.int .i64 ((l.getD i 0 : Nat) : Int)) := by
  rw [h.cellAt i (by omega), getD_at _ _ hi]
  unfold vals
  rw [List.getElem?_map, List.getElem?_eq_getElem hi]
  rfl

/-- the way that comes back -/
def WayAt (w w' : World) (e : Ending) (W H : Int) (bl : Nat → Bool) (F : Int → Option (Int × Int)) (o : Int) (c : Nat) : Prop :=
  ∃ g cap L xs, e = .returned (.tuple #[.slice (some ⟨g, 0, none⟩) L cap, .nilIface]) ∧ OldRow w' (some ⟨g, 0, none⟩) L xs ∧ 0 < L ∧ L ≤ 1000 ∧ xs 0 = o ∧ xs (L - 1) = c ∧ Trail W H bl F xs L ∧ Below w.heap.size w w'

set_option maxHeartbeats 4000000 in
set_option maxRecDepth 1000000 in
theorem way_some {fb gb cb n : Nat} {W H V s d o : Int} {bl : Nat → Bool} {F : Int → Option (Int × Int)} (c : Nat) (w : World) (f : FloodAt w fb gb cb W H V bl F n) (B : Best (Edge W H bl) o F) (hr : inB W H c = true) (hF : F c = some (s, d)) :
    Calls Tryd.prog 19 #[.pointer (some ⟨fb, 0, none⟩), .int .i64 c] w fun e w' => WayAt w w' e W H bl F o c := by
  obtain ⟨i0, hi0, hz0, hz1, hz2⟩ := info_parts Tryd.info3
  have w1' := f.ga.w1
  obtain ⟨kk1, kk2⟩ := wh_bd f.ga.w1 f.ga.w2 f.ga.h1 f.ga.h2
  obtain ⟨n1, n2, n3⟩ := B.small hF
  have nsm := val_small n1 n2 n3
  go_enter Tryd.func19, Tryd.ntmps19
  go_wp2_with (go_at_call 18; refine (fcost_some c _ f hr hF).mono ?_; rintro e w1 ⟨rfl, hb1⟩)
  have HB1 : Below w.heap.size w (w1.alloc (.cells #[.int .i64 s, .int .i64 d] 31)) := hb1.alloc hb1.size _
  have own1 := World.ownsRow_lit (base := w.heap.size) (e := 3) (size := 1) (w1.alloc (.cells #[.int .i64 s, .int .i64 d] 31)) #[.int .i64 (c : Int)] 1 HB1.size (by unfold maxLen; omega) rfl
  have eS : (w1.alloc (.cells #[.int .i64 s, .int .i64 d] 31)).heap.size = w1.heap.size + 1 := by simp
  rw [eS] at own1
  have HB2 := HB1.alloc HB1.size (.cells #[.int .i64 (c : Int)] 3)
  generalize (w1.alloc (.cells #[.int .i64 s, .int .i64 d] 31)).alloc (.cells #[.int .i64 (c : Int)] 3) = W2 at *
  refine (back_any c rfl rfl W2 (f.below HB2) B hr hF).mono ?_
  rintro e w3 ⟨r, ok, rfl, hFo, hb3⟩
  have HB3 := HB2.trans (hb3.mono HB2.size)
  have own3 : w3.ownsRow w.heap.size 3 1 (.slice (some ⟨w1.heap.size + 1, 0, none⟩) 1 1) [c].length (vals [c]) := own_below own1 hb3
  clear own1 HB1 eS HB2 hb3 hb1
  go_wp2
  go_loopg [1, 8, 9, 10] (s + d).toNat (fun gk cv vv rv mv wr => ∃ (l : List Nat) (cur : Nat) (s' d' r : Int) (ok : Bool), cv = .int .i64 cur ∧ rv = .int .i64 r ∧ mv = .bool ok ∧ gk = (s' + d').toNat ∧ wr.ownsRow w.heap.size 3 1 vv l.length (vals l) ∧ Below w.heap.size w wr ∧ inB W H cur = true ∧ F cur = some (s', d') ∧ Found (fun k => mayB W H bl ((cur : Int) % W) ((cur : Int) / W) k && byB F W cur s' d' k) r ok ∧ BT W H bl F c l cur ∧ l.length + (s' + d').toNat ≤ 700)
  case atStart => exact ⟨[c], c, s, d, r, ok, rfl, rfl, rfl, rfl, own3, HB3, hr, hF, hFo, BT.one c, by simp; omega⟩
  case round =>
    clear own3 HB3 hFo
    obtain ⟨l, cur, s', d', r, ok, rfl, rfl, rfl, hgk, own, HB, hin, hFc, hFo, T, hlen⟩ := hrel
    have HG : Hid (gk = (s' + d').toNat) := hgk
    clear hgk
    have fr := f.below HB
    obtain ⟨m1, m2, m3⟩ := B.small hFc
    rcases back_step rfl rfl w1' B hin hFc hFo with ⟨rfl, k, s2, d2, hk8, rfl, hed, hG, e1, e2⟩ | ⟨rfl, hco⟩
    · have hti := hed.in' w1'
      have hc2 : 0 ≤ (cur : Int) ∧ (cur : Int) < W * H := of_decide_eq_true hin
      have hti2 : 0 ≤ (cur : Int) + (stepY k * W + stepX k) ∧ (cur : Int) + (stepY k * W + stepX k) < W * H := of_decide_eq_true hti
      obtain ⟨nx, hnx⟩ : ∃ nx : Nat, (cur : Int) + (stepY k * W + stepX k) = nx := ⟨((cur : Int) + (stepY k * W + stepX k)).toNat, by omega⟩
      rw [hnx] at hti hed hG
      have hst := st_bd k
      obtain ⟨q1, q2, _⟩ := B.small hG
      have T2 : BT W H bl F c (l ++ [nx]) nx := T.push w1' hed hG (by rw [e1, e2]; exact hFc)
      have p0 := fr.p0
      clear hFo hti2
      go_wp2_with (first | (go_at_call 25; refine (to_b hnx _ fr.ga fr.st hk8 (by omega) (by omega)).mono ?_; rintro e w4 ⟨rfl, hb4⟩; have own4 := own_below own hb4; have HB4 := HB.trans (hb4.mono HB.size)) | (at_builtin; refine wpList_append_own _ rfl _ _ 22 rfl w.heap.size 3 i0 (.int .i64 0) 1 8 Tryd.underlying22 hi0 hz0 hz1 hz2 rfl (by decide) _ _ _ rfl (World.ownsRow.alloc own4 _) ⟨w4.heap.size, 0, none⟩ 1 1 [.int .i64 nx] rfl rfl ?c1 ?c2 ?c3 ?c4 ?c5 ?_))
      case c1 =>
        intro j u hj
        match j, hj with
        | 0, hj =>
          simp at hj; subst hj; simp only [Addr.add]
          exact World.cell?_alloc_at (w := w4) #[.int .i64 nx] 3 w4.heap.size 0 rfl
      case c2 => intro u hu; simp at hu; subst hu; rfl
      case c3 => unfold maxLen; omega
      case c4 => have := HB4.size; omega
      case c5 => simp; have := HB4.size; omega
      intro v' w5 hown' hgrow _
      have hbase := fun q hq => (own4.lt q hq).1
      have HB5 : Below w.heap.size w w5 := (HB4.alloc HB4.size _).grown hgrow (by simp; have := HB4.size; omega) hbase
      have O5 : w5.ownsRow w.heap.size 3 1 v' (l ++ [nx]).length (vals (l ++ [nx])) := by simpa [vals] using hown'
      clear hown' hgrow own own4 HB HB4 hb4 fr p0
      go_wp2_with fail
      refine (back_any nx rfl rfl w5 (f.below HB5) B hti hG).mono ?_
      rintro e w6 ⟨r6, ok6, rfl, hFo6, hb6⟩
      have O6 := own_below O5 hb6
      have HB6 := HB5.trans (hb6.mono HB5.size)
      clear O5 HB5 hb6
      go_wp2
      go_roundg (s2 + d2).toNat
      case measure => have := HG.out; omega
      case rel => exact ⟨l ++ [nx], nx, s2, d2, r6, ok6, rfl, rfl, rfl, rfl, O6, HB6, hti, hG, hFo6, T2, by simp; omega⟩
    · have hp := T.pos
      rcases own.2 with ⟨_, h0⟩ | ⟨g, cap, curv, rfl, hbase, hg, _⟩
      · omega
      · have IR : IRow wr g l.length (fun i => ((l.getD i 0 : Nat) : Int)) := ⟨fun i hi => own_int own i hi, fun i _ => own.frozenAt i⟩
        have hgl : g < wr.heap.size := (Array.getElem?_eq_some_iff.1 hg).1
        clear hFo own
        go_wp2_with fail
        refine (rev_any wr IR hp (by omega)).mono ?_
        rintro e w5 ⟨rfl, hcs, K5⟩
        have HB5 := HB.trans (K5.to_below HB.size (fun q hq => by rw [hq]; exact hbase))
        have hz5 := K5.size
        go_wp2
        go_ret2
        refine ⟨g, cap, l.length, fun i => ((l.getD (l.length - 1 - i) 0 : Nat) : Int), rfl, fun i hi => ⟨g, 0, rfl, by omega, by rw [Nat.zero_add]; exact hcs i hi⟩, hp, by omega, ?_, ?_, fun j hj => ?_, HB5⟩
        · show ((l.getD (l.length - 1 - 0) 0 : Nat) : Int) = o
          rw [Nat.sub_zero, T.lst]; exact hco
        · show ((l.getD (l.length - 1 - (l.length - 1)) 0 : Nat) : Int) = c
          rw [Nat.sub_self, T.fst]
        · obtain ⟨k, s3, d3, he, h1, h2⟩ := T.tr (l.length - 1 - (j + 1)) (by omega)
          have e1 : l.length - 1 - (j + 1) + 1 = l.length - 1 - j := by omega
          rw [e1] at he h1
          exact ⟨k, s3, d3, he, h1, h2⟩
end Go.Proofs.YtfhicijgpdpfpaaDoor
/-
  Labels of cells in two arrays; what the reference's flood keeps.
-/
namespace Go.Proofs.YtfhicijgpdpfpaaDoor
open Go.RowKit Go.Maps

/-- an empty array of costs -/
def zC : Array Value := (List.replicate 512 (Value.int .i64 0)).toArray
/-- .. and of bools -/
def zB : Array Value := (List.replicate 256 (Value.bool false)).toArray
theorem run_alloc54 (w : World) : (Instr.alloc 45 true (.tuple #[])).run Tryd.prog w = .ok (.pointer (some ⟨w.heap.size, 0, none⟩)) (w.alloc (.cells zC 45)) := by kernel_rfl
theorem run_alloc55 (w : World) : (Instr.alloc 46 true (.tuple #[])).run Tryd.prog w = .ok (.pointer (some ⟨w.heap.size, 0, none⟩)) (w.alloc (.cells zB 46)) := by kernel_rfl
theorem wpList_alloc54 {ops : Array Oper} {rest : List Oper} {o : Oper} {a : Act} {w : World} {Q : Exit → Act → World → Prop} (hgd : o.guard = none) (ho : o.op = .alloc 45)
    (h : wpList Tryd.prog ops Q rest (a.put o.dst (.pointer (some ⟨w.heap.size, 0, none⟩))) (w.alloc (.cells zC 45))) : wpList Tryd.prog ops Q (o :: rest) a w :=
  wpList_plain hgd fun _ hK => by
    unfold Oper.wp execOp
    simp only [ho, Sem.run_bind, run_alloc54 w, Result.andThen_ok]
    exact hK _ _ h
theorem wpList_alloc55 {ops : Array Oper} {rest : List Oper} {o : Oper} {a : Act} {w : World} {Q : Exit → Act → World → Prop} (hgd : o.guard = none) (ho : o.op = .alloc 46)
    (h : wpList Tryd.prog ops Q rest (a.put o.dst (.pointer (some ⟨w.heap.size, 0, none⟩))) (w.alloc (.cells zB 46))) : wpList Tryd.prog ops Q (o :: rest) a w :=
  wpList_plain hgd fun _ hK => by
    unfold Oper.wp execOp
    simp only [ho, Sem.run_bind, run_alloc55 w, Result.andThen_ok]
    exact hK _ _ h

/-- what a label says; nothing: zero -/
def labS (F : Int → Option (Int × Int)) (a : Int) : Int := match F a with | some c => c.1 | none => 0
def labD (F : Int → Option (Int × Int)) (a : Int) : Int := match F a with | some c => c.2 | none => 0
theorem lab_some {F : Int → Option (Int × Int)} {a s d : Int} (h : F a = some (s, d)) : labS F a = s ∧ labD F a = d := by unfold labS labD; rw [h]; exact ⟨rfl, rfl⟩
theorem lab_none {F : Int → Option (Int × Int)} {a : Int} (h : F a = none) : labS F a = 0 ∧ labD F a = 0 := by unfold labS labD; rw [h]; exact ⟨rfl, rfl⟩
theorem putH_same (F : Int → Option (Int × Int)) (a s d : Int) : putH F a s d a = some (s, d) := if_pos rfl
theorem putH_other (F : Int → Option (Int × Int)) {a i : Int} (s d : Int) (h : i ≠ a) : putH F a s d i = F i := if_neg h
theorem lab_put (F : Int → Option (Int × Int)) (a s d : Int) : labS (putH F a s d) a = s ∧ labD (putH F a s d) a = d := lab_some (putH_same F a s d)
theorem lab_other (F : Int → Option (Int × Int)) {a i : Int} (s d : Int) (h : i ≠ a) : labS (putH F a s d) i = labS F i ∧ labD (putH F a s d) i = labD F i := by
  unfold labS labD; rw [putH_other F s d h]; exact ⟨rfl, rfl⟩

/-- labels lie in blocks cb and ib -/
structure LabAt (w : World) (cb ib : Nat) (F : Int → Option (Int × Int)) : Prop where
  c0 : ∀ a : Nat, a < 256 → w.cell? ⟨cb, a * 2, none⟩ = some (.int .i64 (labS F a))
  c1 : ∀ a : Nat, a < 256 → w.cell? ⟨cb, a * 2 + 1, none⟩ = some (.int .i64 (labD F a))
  i0 : ∀ a : Nat, a < 256 → w.cell? ⟨ib, a, none⟩ = some (.bool (F a).isSome)
  zc : Free w cb
  zi : Free w ib
  ne : cb ≠ ib
theorem LabAt.lt {w : World} {cb ib : Nat} {F : Int → Option (Int × Int)} (h : LabAt w cb ib F) : cb < w.heap.size ∧ ib < w.heap.size := ⟨World.block_lt_of_cell? w _ (h.c0 0 (by decide)), World.block_lt_of_cell? w _ (h.i0 0 (by decide))⟩
theorem LabAt.keep {D : Nat → Prop} {w w' : World} {cb ib : Nat} {F : Int → Option (Int × Int)} (h : LabAt w cb ib F) (K : Keep D w w') (h1 : ¬ D cb) (h2 : ¬ D ib) : LabAt w' cb ib F :=
  ⟨fun a ha => K.cellOf (h.c0 a ha) h1, fun a ha => K.cellOf (h.c1 a ha) h1, fun a ha => K.cellOf (h.i0 a ha) h2, fun o => (K.frozen (p := ⟨cb, o, none⟩) h.lt.1 h1).trans (h.zc o), fun o => (K.frozen (p := ⟨ib, o, none⟩) h.lt.2 h2).trans (h.zi o), h.ne⟩
theorem LabAt.below {w w' : World} {cb ib : Nat} {F : Int → Option (Int × Int)} (h : LabAt w cb ib F) (hb : Below w.heap.size w w') : LabAt w' cb ib F := h.keep (Keep.of_below (F := fun _ => False) hb) id id
theorem zC_at (i : Nat) (hi : i < 512) : zC[i]? = some (Value.int .i64 0) := by unfold zC; rw [List.getElem?_toArray, List.getElem?_replicate, if_pos hi]
theorem zB_at (i : Nat) (hi : i < 256) : zB[i]? = some (Value.bool false) := by unfold zB; rw [List.getElem?_toArray, List.getElem?_replicate, if_pos hi]
/-- two new arrays: no labels -/
theorem LabAt.new (w : World) : LabAt ((w.alloc (.cells zC 45)).alloc (.cells zB 46)) w.heap.size (w.heap.size + 1) (fun _ => none) := by
  have hB : Below (w.alloc (.cells zC 45)).heap.size (w.alloc (.cells zC 45)) ((w.alloc (.cells zC 45)).alloc (.cells zB 46)) := (Below.refl _ _).alloc (Nat.le_refl _) _
  have e : (w.alloc (.cells zC 45)).heap.size = w.heap.size + 1 := by simp
  refine ⟨fun a ha => ?_, fun a ha => ?_, fun a ha => ?_, fun o => ?_, fun o => ?_, by omega⟩
  · rw [hB.cell (p := ⟨w.heap.size, a * 2, none⟩) (by rw [e]; exact Nat.lt_succ_self _), World.cell?_alloc_new]; exact zC_at _ (by omega)
  · rw [hB.cell (p := ⟨w.heap.size, a * 2 + 1, none⟩) (by rw [e]; exact Nat.lt_succ_self _), World.cell?_alloc_new]; exact zC_at _ (by omega)
  · rw [← e, World.cell?_alloc_new]; exact zB_at _ ha
  · rw [hB.frozen (p := ⟨w.heap.size, o, none⟩) (by rw [e]; exact Nat.lt_succ_self _)]; exact free_alloc w _ _ _ (Nat.le_refl _) o
  · rw [← e]; exact free_alloc _ _ _ _ (Nat.le_refl _) o
/-- the first label -/
theorem LabAt.first {w : World} {cb ib : Nat} (h : LabAt w cb ib (fun _ => none)) (a : Nat) (ha : a < 256) : LabAt (w.setCell ⟨ib, a, none⟩ (.bool true)) cb ib (putH (fun _ => none) a 0 0) := by
  have K : Keep (fun k => k = ib) w (w.setCell ⟨ib, a, none⟩ (.bool true)) := (Keep.refl (fun k => k = ib) w).setCell (p := ⟨ib, a, none⟩) (fun _ => rfl) _
  have hl : ∀ i : Int, labS (putH (fun _ => none) a 0 0) i = 0 ∧ labD (putH (fun _ => none) a 0 0) i = 0 := fun i => by
    by_cases q : i = a
    · rw [q]; exact lab_put _ _ _ _
    · rw [(lab_other _ _ _ q).1, (lab_other _ _ _ q).2]; exact lab_none rfl
  refine ⟨fun i hi => ?_, fun i hi => ?_, fun i hi => ?_, fun o => (K.frozen (p := ⟨cb, o, none⟩) h.lt.1 h.ne).trans (h.zc o), fun o => by simpa using h.zi o, h.ne⟩
  · rw [(hl i).1]; exact K.cellOf (h.c0 i hi) h.ne
  · rw [(hl i).2]; exact K.cellOf (h.c1 i hi) h.ne
  · by_cases q : i = a
    · subst q; rw [putH_same]; exact World.cell?_setCell_same _ _ _ (h.i0 i hi)
    · rw [putH_other _ _ _ (by omega), World.cell?_setCell_other _ _ _ _ (addr_ne (fun e => q e.symm))]; exact h.i0 i hi
/-- a label laid -/
theorem LabAt.put {w : World} {cb ib : Nat} {F : Int → Option (Int × Int)} (h : LabAt w cb ib F) (a : Nat) (ha : a < 256) (s d : Int) :
    LabAt (((w.setCell ⟨cb, a * 2, none⟩ (.int .i64 s)).setCell ⟨cb, a * 2 + 1, none⟩ (.int .i64 d)).setCell ⟨ib, a, none⟩ (.bool true)) cb ib (putH F a s d) := by
  have nb : ∀ o p, (⟨ib, o, none⟩ : Addr) ≠ ⟨cb, p, none⟩ := fun o p e => h.ne (by cases e; rfl)
  refine ⟨fun i hi => ?_, fun i hi => ?_, fun i hi => ?_, fun o => by simpa using h.zc o, fun o => by simpa using h.zi o, h.ne⟩
  · rw [World.cell?_setCell_other _ _ _ _ (nb _ _), World.cell?_setCell_other _ _ _ _ (addr_ne (by omega))]
    by_cases q : i = a
    · subst q; rw [(lab_put F i s d).1]; exact World.cell?_setCell_same _ _ _ (h.c0 i hi)
    · rw [(lab_other F s d (show (i : Int) ≠ a by omega)).1, World.cell?_setCell_other _ _ _ _ (addr_ne (by omega))]; exact h.c0 i hi
  · rw [World.cell?_setCell_other _ _ _ _ (nb _ _)]
    by_cases q : i = a
    · subst q; rw [(lab_put F i s d).2]
      refine World.cell?_setCell_same _ _ _ (u := .int .i64 (labD F i)) ?_
      rw [World.cell?_setCell_other _ _ _ _ (addr_ne (by omega))]; exact h.c1 i hi
    · rw [(lab_other F s d (show (i : Int) ≠ a by omega)).2, World.cell?_setCell_other _ _ _ _ (addr_ne (by omega)), World.cell?_setCell_other _ _ _ _ (addr_ne (by omega))]; exact h.c1 i hi
  · by_cases q : i = a
    · subst q; rw [putH_same]
      refine World.cell?_setCell_same _ _ _ (u := .bool (F i).isSome) ?_
      rw [World.cell?_setCell_other _ _ _ _ (nb _ _).symm, World.cell?_setCell_other _ _ _ _ (nb _ _).symm]; exact h.i0 i hi
    · rw [putH_other F s d (show (i : Int) ≠ a by omega), World.cell?_setCell_other _ _ _ _ (addr_ne (by omega)), World.cell?_setCell_other _ _ _ _ (nb _ _).symm, World.cell?_setCell_other _ _ _ _ (nb _ _).symm]; exact h.i0 i hi
theorem put_keep (w : World) (cb ib a : Nat) (s d : Int) : Keep (fun k => k = cb ∨ k = ib) w (((w.setCell ⟨cb, a * 2, none⟩ (.int .i64 s)).setCell ⟨cb, a * 2 + 1, none⟩ (.int .i64 d)).setCell ⟨ib, a, none⟩ (.bool true)) :=
  (((Keep.refl (fun k => k = cb ∨ k = ib) w).setCell (p := ⟨cb, a * 2, none⟩) (fun _ => Or.inl rfl) _).setCell (p := ⟨cb, a * 2 + 1, none⟩) (fun _ => Or.inl rfl) _).setCell (p := ⟨ib, a, none⟩) (fun _ => Or.inr rfl) _

/-- labels as the two arrays' cells -/
def costL (F : Int → Option (Int × Int)) : List Value := (List.range 512).map fun i => Value.int .i64 (if i % 2 = 0 then labS F (i / 2 : Nat) else labD F (i / 2 : Nat))
def isL (F : Int → Option (Int × Int)) : List Value := (List.range 256).map fun (i : Nat) => Value.bool (F (i : Int)).isSome
theorem costL_len (F : Int → Option (Int × Int)) : (costL F).length = 512 := by unfold costL; simp
theorem isL_len (F : Int → Option (Int × Int)) : (isL F).length = 256 := by unfold isL; simp
theorem LabAt.rangeC {w : World} {cb ib : Nat} {F : Int → Option (Int × Int)} (h : LabAt w cb ib F) : w.rangeAt cb 0 (costL F) := by
  intro j v hj
  rw [Nat.zero_add]
  have hlt : j < 512 := by have := (List.getElem?_eq_some_iff.1 hj).1; rw [costL_len] at this; exact this
  unfold costL at hj
  rw [List.getElem?_map, List.getElem?_range hlt] at hj
  simp only [Option.map_some, Option.some.injEq] at hj
  rw [← hj]
  by_cases q : j % 2 = 0
  · rw [if_pos q]
    have := h.c0 (j / 2) (by omega)
    rw [show j / 2 * 2 = j by omega] at this
    exact this
  · rw [if_neg q]
    have := h.c1 (j / 2) (by omega)
    rw [show j / 2 * 2 + 1 = j by omega] at this
    exact this
theorem LabAt.rangeI {w : World} {cb ib : Nat} {F : Int → Option (Int × Int)} (h : LabAt w cb ib F) : w.rangeAt ib 0 (isL F) := by
  intro j v hj
  rw [Nat.zero_add]
  have hlt : j < 256 := by have := (List.getElem?_eq_some_iff.1 hj).1; rw [isL_len] at this; exact this
  unfold isL at hj
  rw [List.getElem?_map, List.getElem?_range hlt] at hj
  simp only [Option.map_some, Option.some.injEq] at hj
  rw [← hj]
  exact h.i0 j hlt
theorem labAt_range {w : World} {cb ib : Nat} {F : Int → Option (Int × Int)} (hc : w.rangeAt cb 0 (costL F)) (hi : w.rangeAt ib 0 (isL F)) (zc : Free w cb) (zi : Free w ib) (ne : cb ≠ ib) : LabAt w cb ib F := by
  refine ⟨fun a ha => ?_, fun a ha => ?_, fun a ha => ?_, zc, zi, ne⟩
  · have := hc (a * 2) (.int .i64 (labS F a)) (by
      unfold costL
      rw [List.getElem?_map, List.getElem?_range (by omega)]
      simp only [Option.map_some, Option.some.injEq]
      rw [if_pos (by omega), show a * 2 / 2 = a by omega])
    rw [Nat.zero_add] at this; exact this
  · have := hc (a * 2 + 1) (.int .i64 (labD F a)) (by
      unfold costL
      rw [List.getElem?_map, List.getElem?_range (by omega)]
      simp only [Option.map_some, Option.some.injEq]
      rw [if_neg (by omega), show (a * 2 + 1) / 2 = a by omega])
    rw [Nat.zero_add] at this; exact this
  · have := hi a (.bool (F a).isSome) (by
      unfold isL
      rw [List.getElem?_map, List.getElem?_range ha]
      rfl)
    rw [Nat.zero_add] at this; exact this
theorem info54 : (Tryd.prog.info? 45).map (·.size) = some 512 := by kernel_rfl
theorem info55 : (Tryd.prog.info? 46).map (·.size) = some 256 := by kernel_rfl


/-- a is still to be looked at -/
def pend (td : List Nat) (i : Nat) (a : Int) : Prop := ∃ j, i ≤ j ∧ j < td.length ∧ ((td.getD j 0 : Nat) : Int) = a
/-- what the flood keeps -/
structure FSt (w wr : World) (tv : Value) (td : List Nat) (W H : Int) (F : Int → Option (Int × Int)) : Prop where
  own : wr.ownsRow (w.heap.size + 4) 3 1 tv td.length (vals td)
  lab : LabAt wr (w.heap.size + 2) (w.heap.size + 3) F
  r0 : wr.there w.heap.size 0 512
  r1 : wr.there (w.heap.size + 1) 0 256
  bel : Below w.heap.size w wr
  mem : ∀ j, j < td.length → inB W H ((td.getD j 0 : Nat) : Int) = true ∧ (F ((td.getD j 0 : Nat) : Int)).isSome = true
  len : (td.length : Int) + pot F (W * H).toNat ≤ 3578815643905
theorem there_keep {D : Nat → Prop} {w w' : World} {b o n : Nat} (h : w.there b o n) (hb : b < w.heap.size) (K : Keep D w w') (hn : ¬ D b) : w'.there b o n := fun j hj => by
  obtain ⟨h1, h2⟩ := h j hj
  rw [K.cell (p := ⟨b, o + j, none⟩) hb hn, K.frozen (p := ⟨b, o + j, none⟩) hb hn]
  exact ⟨h1, h2⟩
theorem own_keep {D : Nat → Prop} {w w' : World} {base k n : Nat} {e : TypeId} {v : Value} {xs : List Value} (h : w.ownsRow base e k v n xs) (K : Keep D w w') (hn : ∀ g, base ≤ g → ¬ D g) : w'.ownsRow base e k v n xs := by
  refine ⟨h.1, ?_⟩
  rcases h.2 with h2 | ⟨g, cap, cur, hv, hbase, hg, h3⟩
  · exact Or.inl h2
  · exact Or.inr ⟨g, cap, cur, hv, hbase, (K.block g (Array.getElem?_eq_some_iff.1 hg).1 (hn g hbase)).trans hg, h3⟩
theorem FSt.big {w wr : World} {tv : Value} {td : List Nat} {W H : Int} {F : Int → Option (Int × Int)} (h : FSt w wr tv td W H F) : w.heap.size + 4 ≤ wr.heap.size := by have := h.lab.lt.2; omega
theorem FSt.below {w wr w' : World} {tv : Value} {td : List Nat} {W H : Int} {F : Int → Option (Int × Int)} (h : FSt w wr tv td W H F) (hb : Below wr.heap.size wr w') : FSt w w' tv td W H F := by
  have hs := h.big
  have K : Keep (fun _ => False) wr w' := Keep.of_below hb
  exact ⟨own_below h.own hb, h.lab.below hb, there_keep h.r0 (by omega) K id, there_keep h.r1 (by omega) K id, h.bel.trans (hb.mono h.bel.size), h.mem, h.len⟩
/-- a label laid, a cell more to be looked at -/
theorem FSt.put {w wr : World} {tv : Value} {td : List Nat} {W H : Int} {F : Int → Option (Int × Int)} (h : FSt w wr tv td W H F) (a : Nat) (ha : a < 256) (s d : Int) (hp : pot (putH F a s d) (W * H).toNat + 1 ≤ pot F (W * H).toNat) :
    FSt w (((wr.setCell ⟨w.heap.size + 2, a * 2, none⟩ (.int .i64 s)).setCell ⟨w.heap.size + 2, a * 2 + 1, none⟩ (.int .i64 d)).setCell ⟨w.heap.size + 3, a, none⟩ (.bool true)) tv td W H (putH F a s d) := by
  have hs := h.big
  have K := put_keep wr (w.heap.size + 2) (w.heap.size + 3) a s d
  refine ⟨own_keep h.own K (fun g hg => by omega), h.lab.put a ha s d, there_keep h.r0 (by omega) K (by omega), there_keep h.r1 (by omega) K (by omega), h.bel.trans (K.to_below h.bel.size (fun k hk => by omega)), fun j hj => ?_, by have := h.len; omega⟩
  obtain ⟨m1, m2⟩ := h.mem j hj
  refine ⟨m1, ?_⟩
  by_cases q : ((td.getD j 0 : Nat) : Int) = a
  · rw [q, putH_same]; rfl
  · rw [putH_other F s d q]; exact m2
/-- .. appended -/
theorem FSt.app {w wr w' : World} {tv tv' : Value} {td : List Nat} {W H : Int} {F : Int → Option (Int × Int)} {a : Nat} (h : FSt w wr tv td W H F) (ho : w'.ownsRow (w.heap.size + 4) 3 1 tv' (td ++ [a]).length (vals (td ++ [a]))) (hg : wr.grownBy w' tv.ownBlock) (ha : inB W H a = true) (hF : (F a).isSome = true) (hl : (td.length : Int) + 1 + pot F (W * H).toNat ≤ 3578815643905) :
    FSt w w' tv' (td ++ [a]) W H F := by
  have hs := h.big
  have K : Keep (fun k => w.heap.size + 4 ≤ k) wr w' := (Keep.refl _ wr).grown hg (fun k hk _ => (h.own.lt k hk).1)
  refine ⟨ho, h.lab.keep K (by omega) (by omega), there_keep h.r0 (by omega) K (by omega), there_keep h.r1 (by omega) K (by omega), h.bel.trans (K.to_below h.bel.size (fun k hk => by omega)), fun j hj => ?_, by simp; omega⟩
  rw [getD_app]
  by_cases q : j < td.length
  · rw [if_pos q]; exact h.mem j q
  · rw [if_neg q, if_pos (by simp at hj; omega)]; exact ⟨ha, hF⟩
theorem pend_app {td : List Nat} {i a : Nat} {x : Int} (hi : i ≤ td.length) : pend (td ++ [a]) i x ↔ (pend td i x ∨ x = a) := by
  constructor
  · rintro ⟨j, h1, h2, h3⟩
    rw [getD_app] at h3
    by_cases q : j < td.length
    · rw [if_pos q] at h3; exact Or.inl ⟨j, h1, q, h3⟩
    · rw [if_neg q, if_pos (by simp at h2; omega)] at h3; exact Or.inr h3.symm
  · rintro (⟨j, h1, h2, h3⟩ | rfl)
    · exact ⟨j, h1, by simp; omega, by rw [getD_app, if_pos h2]; exact h3⟩
    · exact ⟨td.length, hi, by simp, by rw [getD_app, if_neg (Nat.lt_irrefl _), if_pos rfl]⟩


/-- what the reference's flood answers -/
def RFlooded (w w' : World) (e : Ending) (W H : Int) (bl : Nat → Bool) (o : Int) : Prop :=
  ∃ F, e = .returned (.tuple #[.agg (costL F).toArray, .agg (isL F).toArray]) ∧ Best (Edge W H bl) o F ∧ Below w.heap.size w w'

theorem new_there (w : World) (l : List Value) (t : TypeId) (n : Nat) (hl : l.length = n) : (w.alloc (.cells l.toArray t)).there w.heap.size 0 n := by
  intro j hj
  rw [Nat.zero_add, World.cell?_alloc_new, List.getElem?_toArray, List.getElem?_eq_getElem (by omega)]
  exact ⟨rfl, free_alloc w _ _ _ (Nat.le_refl _) j⟩

/-- the world ahead of the loop -/
theorem fst_start {W H : Int} (w : World) (c : Nat) (hr : inB W H c = true) (h256 : W * H ≤ 256) :
    FSt w ((((((w.alloc (.cells zC 45)).alloc (.cells zB 46)).alloc (.cells zC 45)).alloc (.cells zB 46)).setCell ⟨w.heap.size + 1 + 1 + 1, c, none⟩ (.bool true)).alloc (.cells #[.int .i64 (c : Int)] 3)) (.slice (some ⟨w.heap.size + 1 + 1 + 1 + 1, 0, none⟩) 1 1) [c] W H (putH (fun _ => none) c 0 0) := by
  have hc : 0 ≤ (c : Int) ∧ (c : Int) < W * H := of_decide_eq_true hr
  have t0 : (w.alloc (.cells zC 45)).there w.heap.size 0 512 := new_there w (List.replicate 512 (Value.int .i64 0)) 45 512 List.length_replicate
  have t1 : ((w.alloc (.cells zC 45)).alloc (.cells zB 46)).there (w.heap.size + 1) 0 256 := by
    have := new_there (w.alloc (.cells zC 45)) (List.replicate 256 (Value.bool false)) 46 256 List.length_replicate
    rw [show (w.alloc (.cells zC 45)).heap.size = w.heap.size + 1 by simp] at this
    exact this
  have s1 : (w.alloc (.cells zC 45)).heap.size = w.heap.size + 1 := by simp
  have s2 : ((w.alloc (.cells zC 45)).alloc (.cells zB 46)).heap.size = w.heap.size + 2 := by simp
  have B1 : Below w.heap.size w (w.alloc (.cells zC 45)) := (Below.refl _ _).alloc (Nat.le_refl _) _
  have B2 : Below (w.alloc (.cells zC 45)).heap.size (w.alloc (.cells zC 45)) ((w.alloc (.cells zC 45)).alloc (.cells zB 46)) := (Below.refl _ _).alloc (Nat.le_refl _) _
  have B12 := B1.trans (B2.mono (by rw [s1]; omega))
  have t0' := there_keep t0 (by rw [s1]; omega) (Keep.of_below (F := fun _ => False) B2) id
  generalize (w.alloc (.cells zC 45)).alloc (.cells zB 46) = w2 at *
  have L0 := LabAt.new w2
  rw [s2] at L0
  have s4 : ((w2.alloc (.cells zC 45)).alloc (.cells zB 46)).heap.size = w.heap.size + 4 := by simp [s2]
  have B3 : Below w2.heap.size w2 ((w2.alloc (.cells zC 45)).alloc (.cells zB 46)) := ((Below.refl _ _).alloc (Nat.le_refl _) _).alloc (by simp) _
  have B13 := B12.trans (B3.mono (by rw [s2]; omega))
  have t0'' := there_keep t0' (by rw [s2]; omega) (Keep.of_below (F := fun _ => False) B3) id
  have t1'' := there_keep t1 (by rw [s2]; omega) (Keep.of_below (F := fun _ => False) B3) id
  generalize (w2.alloc (.cells zC 45)).alloc (.cells zB 46) = w4 at *
  have L1 := L0.first c (by omega)
  have K : Keep (fun k => k = w.heap.size + 2 + 1) w4 (w4.setCell ⟨w.heap.size + 2 + 1, c, none⟩ (.bool true)) := (Keep.refl (fun k => k = w.heap.size + 2 + 1) w4).setCell (p := ⟨w.heap.size + 2 + 1, c, none⟩) (fun _ => rfl) _
  have s5 : (w4.setCell ⟨w.heap.size + 2 + 1, c, none⟩ (.bool true)).heap.size = w.heap.size + 4 := by rw [← s4]; simp
  have B14 := B13.trans (K.to_below (by rw [s4]; omega) (fun k hk => by omega))
  have u0 := there_keep t0'' (by rw [s4]; omega) K (by omega)
  have u1 := there_keep t1'' (by rw [s4]; omega) K (by omega)
  show FSt w ((w4.setCell ⟨w.heap.size + 2 + 1, c, none⟩ (.bool true)).alloc (.cells #[.int .i64 (c : Int)] 3)) (.slice (some ⟨w.heap.size + 4, 0, none⟩) 1 1) [c] W H (putH (fun _ => none) c 0 0)
  generalize w4.setCell ⟨w.heap.size + 2 + 1, c, none⟩ (.bool true) = w5 at *
  have own := World.ownsRow_lit (base := w.heap.size + 4) (e := 3) (size := 1) w5 #[.int .i64 (c : Int)] 1 (by rw [s5]; omega) (by unfold maxLen; omega) rfl
  rw [s5] at own
  have B5 : Below w5.heap.size w5 (w5.alloc (.cells #[.int .i64 (c : Int)] 3)) := (Below.refl _ _).alloc (Nat.le_refl _) _
  refine ⟨own, L1.below B5, there_keep u0 (by rw [s5]; omega) (Keep.of_below (F := fun _ => False) B5) id, there_keep u1 (by rw [s5]; omega) (Keep.of_below (F := fun _ => False) B5) id, B14.trans (B5.mono (by rw [s5]; omega)), fun j hj => ?_, ?_⟩
  · have : j = 0 := by simp at hj; omega
    subst this
    exact ⟨hr, by show (putH _ (c : Int) 0 0 (c : Int)).isSome = true; rw [putH_same]; rfl⟩
  · have := pot_start (c : Int) (W * H).toNat (by omega) (by omega) (by omega)
    show ((1 : Nat) : Int) + _ ≤ _
    omega
end Go.Proofs.YtfhicijgpdpfpaaDoor
