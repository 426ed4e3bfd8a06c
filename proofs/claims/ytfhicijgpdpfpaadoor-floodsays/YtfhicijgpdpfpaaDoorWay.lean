/-
  The way to a cell.
-/
import Derived.Test.YtfhicijgpdpfpaaDoorBackA
import Derived.Test.YtfhicijgpdpfpaaDoorRev
import Derived.Test.YtfhicijgpdpfpaaDoorTrail
namespace Go.Proofs.YtfhicijgpdpfpaaDoor
open Go.RowKit

set_option maxHeartbeats 400000 in
theorem way_out {fb gb cb n : Nat} {W H V : Int} {bl : Nat → Bool} {F : Int → Option (Int × Int)} (c : Int) (w : World) (f : FloodAt w fb gb cb W H V bl F n) (hr : inB W H c = false) :
    Calls Tryd.prog 19 #[.pointer (some ⟨fb, 0, none⟩), .int .i64 c] w fun e w' => e = .returned (.tuple #[.slice none 0 0, .iface 78 (.int .i64 1)]) ∧ Below w.heap.size w w' := by
  go_enter Tryd.func19, Tryd.ntmps19
  go_wp2_with (go_at_call 18; refine (fcost_out c _ f hr).mono ?_; rintro e w1 ⟨rfl, hb1⟩)
  go_ret2
  exact ⟨rfl, hb1.alloc hb1.size _⟩

set_option maxHeartbeats 400000 in
theorem way_none {fb gb cb n : Nat} {W H V : Int} {bl : Nat → Bool} {F : Int → Option (Int × Int)} (c : Nat) (w : World) (f : FloodAt w fb gb cb W H V bl F n) (hr : inB W H c = true) (hF : F c = none) :
    Calls Tryd.prog 19 #[.pointer (some ⟨fb, 0, none⟩), .int .i64 c] w fun e w' => e = .returned (.tuple #[.slice none 0 0, .iface 78 (.int .i64 5)]) ∧ Below w.heap.size w w' := by
  go_enter Tryd.func19, Tryd.ntmps19
  go_wp2_with (go_at_call 18; refine (fcost_none c _ f hr hF).mono ?_; rintro e w1 ⟨rfl, hb1⟩)
  go_ret2
  exact ⟨rfl, hb1.alloc hb1.size _⟩

/-- the way back so far: from c to cur, each one step nearer -/
structure BT (W H : Int) (bl : Nat → Bool) (F : Int → Option (Int × Int)) (c : Nat) (l : List Nat) (cur : Nat) : Prop where
  pos : 0 < l.length
  fst : l.getD 0 0 = c
  lst : l.getD (l.length - 1) 0 = cur
  tr : ∀ j, j + 1 < l.length → ∃ k s d, Edge W H bl (l.getD (j + 1) 0 : Nat) k (l.getD j 0 : Nat) ∧ F (l.getD (j + 1) 0 : Nat) = some (s, d) ∧ F (l.getD j 0 : Nat) = some (s + stS k, d + stD k)

theorem BT.one {W H : Int} {bl : Nat → Bool} {F : Int → Option (Int × Int)} (c : Nat) : BT W H bl F c [c] c := ⟨Nat.one_pos, rfl, rfl, fun j hj => by simp at hj⟩
theorem getD_app (l : List Nat) (x i : Nat) : (l ++ [x]).getD i 0 = if i < l.length then l.getD i 0 else if i = l.length then x else 0 := by
  simp only [List.getD_eq_getElem?_getD]
  by_cases h : i < l.length
  · rw [if_pos h, List.getElem?_append_left h]
  · rw [if_neg h, List.getElem?_append_right (by omega)]
    by_cases e : i = l.length
    · subst e; simp
    · rw [if_neg e, List.getElem?_eq_none (by simp; omega)]; rfl
theorem BT.push {W H s d : Int} {bl : Nat → Bool} {F : Int → Option (Int × Int)} {c cur nxt k : Nat} {l : List Nat} (w1 : 1 ≤ W) (h : BT W H bl F c l cur) (e : Edge W H bl cur k nxt) (hn : F nxt = some (s, d)) (hc : F cur = some (s + stS k, d + stD k)) : BT W H bl F c (l ++ [nxt]) nxt := by
  have hp := h.pos
  refine ⟨by simp, ?_, ?_, fun j hj => ?_⟩
  · rw [getD_app, if_pos hp]; exact h.fst
  · rw [getD_app]; simp
  · simp at hj
    by_cases q : j + 1 < l.length
    · rw [getD_app, if_pos q, getD_app, if_pos (by omega)]; exact h.tr j q
    · have q2 : j + 1 = l.length := by omega
      rw [getD_app, if_neg q, if_pos q2, getD_app, if_pos (by omega)]
      have q3 : j = l.length - 1 := by omega
      rw [q3, h.lst]
      obtain ⟨k', e', g1, g2⟩ := Edge.back w1 _ _ _ e
      exact ⟨k', s, d, e', hn, by rw [g1, g2]; exact hc⟩

theorem own_below {w w' : World} {base k n : Nat} {e : TypeId} {v : Value} {xs : List Value} (h : w.ownsRow base e k v n xs) (hb : Below w.heap.size w w') : w'.ownsRow base e k v n xs := by
  refine ⟨h.1, ?_⟩
  rcases h.2 with h2 | ⟨g, cap, cur, hv, hbase, hg, h3⟩
  · exact Or.inl h2
  · exact Or.inr ⟨g, cap, cur, hv, hbase, (hb.block g (Array.getElem?_eq_some_iff.1 hg).1).trans hg, h3⟩

theorem own_int {w : World} {base g cap : Nat} {l : List Nat} (h : w.ownsRow base 3 1 (.slice (some ⟨g, 0, none⟩) l.length cap) l.length (vals l)) (i : Nat) (hi : i < l.length) : w.cell? ⟨g, i, none⟩ = some (.int .i64 ((l.getD i 0 : Nat) : Int)) := by
  rw [h.cellAt i (by omega), getD_at _ _ hi]
  unfold vals
  rw [List.getElem?_map, List.getElem?_eq_getElem hi]
  rfl

/-- the way that comes back -/
def WayAt (w w' : World) (e : Ending) (W H : Int) (bl : Nat → Bool) (F : Int → Option (Int × Int)) (o : Int) (c : Nat) : Prop :=
  ∃ g cap L xs, e = .returned (.tuple #[.slice (some ⟨g, 0, none⟩) L cap, .nilIface]) ∧ OldRow w' (some ⟨g, 0, none⟩) L xs ∧ 0 < L ∧ L ≤ 1000 ∧ xs 0 = o ∧ xs (L - 1) = c ∧ Trail W H bl F xs L ∧ Below w.heap.size w w'

set_option maxHeartbeats 4000000 in
set_option maxRecDepth 1000000 in
theorem way_some {fb gb cb n : Nat} {W H V s d o : Int} {bl : Nat → Bool} {F : Int → Option (Int × Int)} (c : Nat) (w : World) (f : FloodAt w fb gb cb W H V bl F n) (B : Best (Edge W H bl) o F) (hr : inB W H c = true) (hF : F c = some (s, d)) :
    Calls Tryd.prog 19 #[.pointer (some ⟨fb, 0, none⟩), .int .i64 c] w fun e w' => WayAt w w' e W H bl F o c := by
  obtain ⟨i0, hi0, hz0, hz1, hz2⟩ := info_parts Tryd.info3
  have w1' := f.ga.w1
  obtain ⟨kk1, kk2⟩ := wh_bd f.ga.w1 f.ga.w2 f.ga.h1 f.ga.h2
  obtain ⟨n1, n2, n3⟩ := B.small hF
  have nsm := val_small n1 n2 n3
  go_enter Tryd.func19, Tryd.ntmps19
  go_wp2_with (go_at_call 18; refine (fcost_some c _ f hr hF).mono ?_; rintro e w1 ⟨rfl, hb1⟩)
  have HB1 : Below w.heap.size w (w1.alloc (.cells #[.int .i64 s, .int .i64 d] 31)) := hb1.alloc hb1.size _
  have own1 := World.ownsRow_lit (base := w.heap.size) (e := 3) (size := 1) (w1.alloc (.cells #[.int .i64 s, .int .i64 d] 31)) #[.int .i64 (c : Int)] 1 HB1.size (by unfold maxLen; omega) rfl
  have eS : (w1.alloc (.cells #[.int .i64 s, .int .i64 d] 31)).heap.size = w1.heap.size + 1 := by simp
  rw [eS] at own1
  have HB2 := HB1.alloc HB1.size (.cells #[.int .i64 (c : Int)] 3)
  generalize (w1.alloc (.cells #[.int .i64 s, .int .i64 d] 31)).alloc (.cells #[.int .i64 (c : Int)] 3) = W2 at *
  refine (back_any c rfl rfl W2 (f.below HB2) B hr hF).mono ?_
  rintro e w3 ⟨r, ok, rfl, hFo, hb3⟩
  have HB3 := HB2.trans (hb3.mono HB2.size)
  have own3 : w3.ownsRow w.heap.size 3 1 (.slice (some ⟨w1.heap.size + 1, 0, none⟩) 1 1) [c].length (vals [c]) := own_below own1 hb3
  clear own1 HB1 eS HB2 hb3 hb1
  go_wp2
  go_loopg [1, 8, 9, 10] (s + d).toNat (fun gk cv vv rv mv wr => ∃ (l : List Nat) (cur : Nat) (s' d' r : Int) (ok : Bool), cv = .int .i64 cur ∧ rv = .int .i64 r ∧ mv = .bool ok ∧ gk = (s' + d').toNat ∧ wr.ownsRow w.heap.size 3 1 vv l.length (vals l) ∧ Below w.heap.size w wr ∧ inB W H cur = true ∧ F cur = some (s', d') ∧ Found (fun k => mayB W H bl ((cur : Int) % W) ((cur : Int) / W) k && byB F W cur s' d' k) r ok ∧ BT W H bl F c l cur ∧ l.length + (s' + d').toNat ≤ 700)
  case atStart => exact ⟨[c], c, s, d, r, ok, rfl, rfl, rfl, rfl, own3, HB3, hr, hF, hFo, BT.one c, by simp; omega⟩
  case round =>
    clear own3 HB3 hFo
    obtain ⟨l, cur, s', d', r, ok, rfl, rfl, rfl, hgk, own, HB, hin, hFc, hFo, T, hlen⟩ := hrel
    have HG : Hid (gk = (s' + d').toNat) := hgk
    clear hgk
    have fr := f.below HB
    obtain ⟨m1, m2, m3⟩ := B.small hFc
    rcases back_step rfl rfl w1' B hin hFc hFo with ⟨rfl, k, s2, d2, hk8, rfl, hed, hG, e1, e2⟩ | ⟨rfl, hco⟩
    · have hti := hed.in' w1'
      have hc2 : 0 ≤ (cur : Int) ∧ (cur : Int) < W * H := of_decide_eq_true hin
      have hti2 : 0 ≤ (cur : Int) + (stepY k * W + stepX k) ∧ (cur : Int) + (stepY k * W + stepX k) < W * H := of_decide_eq_true hti
      obtain ⟨nx, hnx⟩ : ∃ nx : Nat, (cur : Int) + (stepY k * W + stepX k) = nx := ⟨((cur : Int) + (stepY k * W + stepX k)).toNat, by omega⟩
      rw [hnx] at hti hed hG
      have hst := st_bd k
      obtain ⟨q1, q2, _⟩ := B.small hG
      have T2 : BT W H bl F c (l ++ [nx]) nx := T.push w1' hed hG (by rw [e1, e2]; exact hFc)
      have p0 := fr.p0
      clear hFo hti2
      go_wp2_with (first | (go_at_call 25; refine (to_b hnx _ fr.ga fr.st hk8 (by omega) (by omega)).mono ?_; rintro e w4 ⟨rfl, hb4⟩; have own4 := own_below own hb4; have HB4 := HB.trans (hb4.mono HB.size)) | (at_builtin; refine wpList_append_own _ rfl _ _ 22 rfl w.heap.size 3 i0 (.int .i64 0) 1 8 Tryd.underlying22 hi0 hz0 hz1 hz2 rfl (by decide) _ _ _ rfl (World.ownsRow.alloc own4 _) ⟨w4.heap.size, 0, none⟩ 1 1 [.int .i64 nx] rfl rfl ?c1 ?c2 ?c3 ?c4 ?c5 ?_))
      case c1 =>
        intro j u hj
        match j, hj with
        | 0, hj =>
          simp at hj; subst hj; simp only [Addr.add]
          exact World.cell?_alloc_at (w := w4) #[.int .i64 nx] 3 w4.heap.size 0 rfl
      case c2 => intro u hu; simp at hu; subst hu; rfl
      case c3 => unfold maxLen; omega
      case c4 => have := HB4.size; omega
      case c5 => simp; have := HB4.size; omega
      intro v' w5 hown' hgrow _
      have hbase := fun q hq => (own4.lt q hq).1
      have HB5 : Below w.heap.size w w5 := (HB4.alloc HB4.size _).grown hgrow (by simp; have := HB4.size; omega) hbase
      have O5 : w5.ownsRow w.heap.size 3 1 v' (l ++ [nx]).length (vals (l ++ [nx])) := by simpa [vals] using hown'
      clear hown' hgrow own own4 HB HB4 hb4 fr p0
      go_wp2_with fail
      refine (back_any nx rfl rfl w5 (f.below HB5) B hti hG).mono ?_
      rintro e w6 ⟨r6, ok6, rfl, hFo6, hb6⟩
      have O6 := own_below O5 hb6
      have HB6 := HB5.trans (hb6.mono HB5.size)
      clear O5 HB5 hb6
      go_wp2
      go_roundg (s2 + d2).toNat
      case measure => have := HG.out; omega
      case rel => exact ⟨l ++ [nx], nx, s2, d2, r6, ok6, rfl, rfl, rfl, rfl, O6, HB6, hti, hG, hFo6, T2, by simp; omega⟩
    · have hp := T.pos
      rcases own.2 with ⟨_, h0⟩ | ⟨g, cap, curv, rfl, hbase, hg, _⟩
      · omega
      · have IR : IRow wr g l.length (fun i => ((l.getD i 0 : Nat) : Int)) := ⟨fun i hi => own_int own i hi, fun i _ => own.frozenAt i⟩
        have hgl : g < wr.heap.size := (Array.getElem?_eq_some_iff.1 hg).1
        clear hFo own
        go_wp2_with fail
        refine (rev_any wr IR hp (by omega)).mono ?_
        rintro e w5 ⟨rfl, hcs, K5⟩
        have HB5 := HB.trans (K5.to_below HB.size (fun q hq => by rw [hq]; exact hbase))
        have hz5 := K5.size
        go_wp2
        go_ret2
        refine ⟨g, cap, l.length, fun i => ((l.getD (l.length - 1 - i) 0 : Nat) : Int), rfl, fun i hi => ⟨g, 0, rfl, by omega, by rw [Nat.zero_add]; exact hcs i hi⟩, hp, by omega, ?_, ?_, fun j hj => ?_, HB5⟩
        · show ((l.getD (l.length - 1 - 0) 0 : Nat) : Int) = o
          rw [Nat.sub_zero, T.lst]; exact hco
        · show ((l.getD (l.length - 1 - (l.length - 1)) 0 : Nat) : Int) = c
          rw [Nat.sub_self, T.fst]
        · obtain ⟨k, s3, d3, he, h1, h2⟩ := T.tr (l.length - 1 - (j + 1)) (by omega)
          have e1 : l.length - 1 - (j + 1) + 1 = l.length - 1 - j := by omega
          rw [e1] at he h1
          exact ⟨k, s3, d3, he, h1, h2⟩
end Go.Proofs.YtfhicijgpdpfpaaDoor
