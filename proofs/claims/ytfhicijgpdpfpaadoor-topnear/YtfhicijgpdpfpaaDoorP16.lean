/-
  Texts laid together: RWay, NearM, TopNearW, TopNearOk.
-/
import Derived.Test.YtfhicijgpdpfpaaDoorP15
import Derived.Deep.RegionHeld3
/-
  Package reach: the way.
-/
namespace Go.Proofs.YtfhicijgpdpfpaaDoor
open Go.RowKit

variable {W H : Int} {bl : Nat → Bool}
theorem onw_mem4 {c t : Int} {z : Nat} (w1 : 1 ≤ W) (hc : inB W H c = true) : z ∈ onw W H bl c t 4 ↔ ∃ k, k % 2 = 1 ∧ Edge W H bl c k z ∧ Good (c % W) (c / W) (t % W) (t / W) k := by
  unfold onw
  rw [List.mem_map]
  constructor
  · rintro ⟨i, hi, rfl⟩
    rw [List.mem_filter] at hi
    have h := hi.2
    have hi4 := List.mem_range.1 hi.1
    unfold onB at h
    rw [Bool.and_eq_true] at h
    refine ⟨dF i, ?_, ⟨dF_lt i, hc, h.1, tgt_eq w1 h.1⟩, goodB_iff.1 h.2⟩
    have : i = 0 ∨ i = 1 ∨ i = 2 ∨ i = 3 := by omega
    rcases this with rfl | rfl | rfl | rfl <;> decide
  · rintro ⟨k, hk, ⟨h1, _, h3, h4⟩, hg⟩
    have hdf : ∃ i, i < 4 ∧ dF i = k := by
      have : k = 1 ∨ k = 3 ∨ k = 5 ∨ k = 7 := by omega
      rcases this with rfl | rfl | rfl | rfl
      · exact ⟨0, by decide, rfl⟩
      · exact ⟨1, by decide, rfl⟩
      · exact ⟨2, by decide, rfl⟩
      · exact ⟨3, by decide, rfl⟩
    obtain ⟨i, hi, rfl⟩ := hdf
    refine ⟨i, List.mem_filter.2 ⟨List.mem_range.2 hi, ?_⟩, ?_⟩
    · unfold onB
      rw [Bool.and_eq_true]
      exact ⟨h3, goodB_iff.2 hg⟩
    · have := tgt_eq (H := H) w1 h3
      omega
theorem onw_split (c t : Int) : ∃ r, onw W H bl c t 8 = onw W H bl c t 4 ++ r := by
  rw [onw_succ W H bl c t 7, onw_succ W H bl c t 6, onw_succ W H bl c t 5, onw_succ W H bl c t 4, List.append_assoc, List.append_assoc, List.append_assoc]
  exact ⟨_, rfl⟩

/-- the first one that is on leads on as the way does -/
theorem pick_chosen {a t p : Int} {S : Int → Bool} {l : List Nat} {i : Nat} (w1 : 1 ≤ W) (hp : inB W H p = true) (hl : onw W H bl p t 8 = l) (hS : ∀ z, S z = true ↔ On W H bl a t z) (hi : i < l.length) (h1 : S ((l.getD i 0 : Nat) : Int) = true) (h2 : ∀ j, j < i → S ((l.getD j 0 : Nat) : Int) = false) :
    ∃ k, Chosen W H bl a t p k ((l.getD i 0 : Nat) : Int) := by
  obtain ⟨r, hr⟩ := onw_split (W := W) (H := H) (bl := bl) p t
  rw [hl] at hr
  by_cases q : i < (onw W H bl p t 4).length
  · have e : l.getD i 0 = (onw W H bl p t 4).getD i 0 := by
      rw [hr, List.getD_eq_getElem?_getD, List.getD_eq_getElem?_getD, List.getElem?_append_left q]
    have hm : l.getD i 0 ∈ onw W H bl p t 4 := by rw [e, getD_at _ _ q]; exact List.getElem_mem q
    obtain ⟨k, k1, k2, k3⟩ := (onw_mem4 w1 hp).1 hm
    exact ⟨k, ⟨k2, k3, (hS _).1 h1⟩, fun h => by omega⟩
  · obtain ⟨k, e, g⟩ := (onw_row (z := ((l.getD i 0 : Nat) : Int)) w1 hp hl).1 ⟨i, hi, rfl⟩
    refine ⟨k, ⟨e, g, (hS _).1 h1⟩, fun _ j z hj hc => ?_⟩
    have hz : 0 ≤ z ∧ z < W * H := of_decide_eq_true (hc.1.in' w1)
    have hm : z.toNat ∈ onw W H bl p t 4 := (onw_mem4 w1 hp).2 ⟨j, hj, by rw [Int.toNat_of_nonneg hz.1]; exact hc.1, hc.2.1⟩
    obtain ⟨n, hn, h⟩ := List.getElem_of_mem hm
    have e : l.getD n 0 = z.toNat := by
      rw [hr, List.getD_eq_getElem?_getD, List.getElem?_append_left hn, List.getElem?_eq_getElem hn, h]; rfl
    have := h2 n (by omega)
    rw [e, Int.toNat_of_nonneg hz.1, (hS z).2 hc.2.2] at this
    cases this
/-- where none is on the way is at its end -/
theorem pick_none {a t p : Int} {S : Int → Bool} {l : List Nat} (w1 : 1 ≤ W) (hoS : octS W a t ≤ 1000) (hoD : octD W a t ≤ 1000) (hp : inB W H p = true) (hl : onw W H bl p t 8 = l) (hS : ∀ z, S z = true ↔ On W H bl a t z) (hon : On W H bl a t p) (h2 : ∀ j, j < l.length → S ((l.getD j 0 : Nat) : Int) = false) : p = t := by
  apply Classical.byContradiction
  intro hne
  obtain ⟨j, r, e, g, ho⟩ := hon.next w1 hoS hoD hne
  obtain ⟨i, hi, rfl⟩ := (onw_row (z := r) w1 hp hl).2 ⟨j, e, g⟩
  have := h2 i hi
  rw [(hS _).2 ho] at this
  cases this

/-- where a way stands: the next one, or at the end -/
def NextIs (W H : Int) (bl : Nat → Bool) (a t p : Int) (cv mv : Value) : Prop := (∃ k, ∃ r : Nat, cv = .int .i64 r ∧ mv = .bool true ∧ Chosen W H bl a t p k r) ∨ (cv = .int .i64 0 ∧ mv = .bool false ∧ p = t)

theorem rnext_v {b ob : Nat} {V a t p : Int} {S : Int → Bool} (w : World) (g : GridAt w b W H V bl) (s : StepsAt w) (d : DiagAt w) (hb : b < w.heap.size) (hS : SetAt w ob S) (hSi : ∀ z, S z = true ↔ On W H bl a t z) (hoS : octS W a t ≤ 1000) (hoD : octD W a t ≤ 1000) (ht : inB W H t = true) (hp : inB W H p = true) (hon : On W H bl a t p) :
    Calls Tryd.prog 70 #[.pointer (some ⟨b, 0, none⟩), .map (some ob), .int .i64 p, .int .i64 t] w fun e w' => Below w.heap.size w w' ∧ ∃ cv mv, e = .returned (.tuple #[cv, mv]) ∧ NextIs W H bl a t p cv mv := by
  refine (rnext_any rfl w g s d hb hS hp ht).mono ?_
  rintro e w' ⟨hb', ⟨i, hi, h1, h2, rfl⟩ | ⟨h2, rfl⟩⟩
  · obtain ⟨k, hk⟩ := pick_chosen g.w1 hp rfl hSi hi h1 h2
    exact ⟨hb', _, _, rfl, Or.inl ⟨k, _, rfl, rfl, hk⟩⟩
  · exact ⟨hb', _, _, rfl, Or.inr ⟨rfl, rfl, pick_none g.w1 hoS hoD hp rfl hSi hon h2⟩⟩

/-- numbers of a list -/
def ints (l : List Nat) : List Int := l.map fun n : Nat => (n : Int)
theorem ints_snoc (l : List Nat) (n : Nat) : ints (l ++ [n]) = ints l ++ [(n : Int)] := by unfold ints; rw [List.map_append]; rfl

theorem own_base {w : World} {base base' k n : Nat} {e : TypeId} {v : Value} {xs : List Value} (h : w.ownsRow base e k v n xs) (hb : base' ≤ base) : w.ownsRow base' e k v n xs := by
  obtain ⟨h1, h2⟩ := h
  refine ⟨h1, ?_⟩
  rcases h2 with h2 | ⟨g, cap, cur, q1, q2, q3⟩
  · exact .inl h2
  · exact .inr ⟨g, cap, cur, q1, Nat.le_trans hb q2, q3⟩

set_option maxHeartbeats 2000000 in
set_option maxRecDepth 1000000 in
theorem rway_ok {b : Nat} {V : Int} (a : Nat) (t : Int) (w : World) (g : GridAt w b W H V bl) (s : StepsAt w) (d : DiagAt w) (hb : b < w.heap.size) (hf : ff2 W H bl a t = 0) (hyes : ∃ z, On W H bl a t z) :
    Calls Tryd.prog 38 #[.pointer (some ⟨b, 0, none⟩), .int .i64 a, .int .i64 t] w fun e w' => ∃ v l, e = .returned (.tuple #[v, .nilIface]) ∧ w'.ownsRow w.heap.size 3 1 v (a :: l).length (vals (a :: l)) ∧ Chn (WSt W H bl a t) a (ints l) t ∧ l.length ≤ 64 ∧ Below w.heap.size w w' := by
  have h1 := check2_any a t w g hb
  rw [hf, errV_nil] at h1
  obtain ⟨⟨ha, _⟩, ⟨ht, _⟩⟩ := ff2_ok hf
  obtain ⟨i0, hi, hz0, hz1, hz2⟩ := info_parts Tryd.info3
  have gw1 := g.w1
  have hsm := oct_small g.w1 g.w2 g.h1 g.h2 ha ht
  have hoS : octS W a t ≤ 1000 := by omega
  have hoD : octD W a t ≤ 1000 := by omega
  obtain ⟨z, hz⟩ := hyes
  have hona := (hz.ends gw1 hoS hoD).1
  go_enter Tryd.func38, Tryd.ntmps38
  go_wp2_with fail
  refine h1.mono ?_
  rintro e w1 ⟨rfl, hb1⟩
  have h2 := rbtw_any w1 (g.below hb1 hb) (s.below hb1 (by omega)) (d.below hb1) (Nat.lt_of_lt_of_le hb hb1.size) ha ht
  clear h1
  go_wp2_with fail
  refine h2.mono ?_
  rintro e w2 ⟨nb, T, rfl, hT, hTi, hnb, hb2⟩
  have B2 := hb1.trans (hb2.mono hb1.size)
  have hlen := fun ty => hT.mp.len (t := 106) Tryd.under106 ty
  have hcp : 0 < cntS T 256 := hT.ne_nil.2 ⟨z, (hTi z).2 hz⟩
  have hcn : ((cntS T 256 : Nat) : Int) ≠ 0 := by omega
  have bA : Below w2.heap.size w2 (w2.alloc (.cells #[.int .i64 a] 3)) := (Below.refl _ _).alloc (Nat.le_refl _) _
  have B3 := B2.trans (bA.mono B2.size)
  have hT3 := hT.below bA
  have h3 := rnext_v (w2.alloc (.cells #[.int .i64 a] 3)) (g.below B3 hb) (s.below B3 (by omega)) (d.below B3) (Nat.lt_of_lt_of_le hb B3.size) hT3 hTi hoS hoD ht ha hona
  have HTi : Hid (∀ z, T z = true ↔ On W H bl a t z) := hTi
  have hcn' : (((cntS T 256 : Nat) : Int) == 0) = false := by simpa using hcn
  have hO2 : (w2.alloc (.cells #[.int .i64 a] 3)).ownsRow w2.heap.size 3 1 (.slice (some ⟨w2.heap.size, 0, none⟩) 1 1) [a].length (vals [a]) := World.ownsRow_lit w2 #[.int .i64 a] 1 (Nat.le_refl _) (by unfold maxLen; omega) rfl
  have hnl := hT.lt
  have z2 := B2.size
  clear h2 hb2 hTi hz hT hcn
  generalize cntS T 256 = cn at *
  go_wp2_with fail
  refine h3.mono ?_
  rintro e w3 ⟨hb3, cv, mv, rfl, hnx⟩
  have hT4 := hT3.below hb3
  have hO3 := own_below hO2 hb3
  have B4 := B3.trans (hb3.mono B3.size)
  have z3 : w2.heap.size ≤ w3.heap.size := by have h := hb3.size; simp at h; omega
  have hn0 := octN_nonneg W a t
  have hn1 : octN W a t ≤ 32 := by unfold octN; omega
  clear h3 hb3 hT3 hO2 B3 bA
  generalize w2.heap.size = N2 at *
  go_wp2
  go_loopg [10, 11, 12] (octN W a t).toNat (fun gk v cv mv wr => ∃ (p : Int) (l : List Nat), gk = (octN W p t).toNat ∧ (l.length : Int) + octN W p t = octN W a t ∧ wr.ownsRow N2 3 1 v (a :: l).length (vals (a :: l)) ∧ Hid (Chn (WSt W H bl a t) a (ints l) p) ∧ On W H bl a t p ∧ inB W H p = true ∧ NextIs W H bl a t p cv mv ∧ SetAt wr nb T ∧ N2 ≤ wr.heap.size ∧ Below w.heap.size w wr)
  case atStart => exact ⟨a, [], rfl, by simp, hO3, rfl, hona, ha, hnx, hT4, z3, B4⟩
  case round =>
    obtain ⟨p, l, hgk, hln, hown, hch, hon, hpin, hnx', hT', hz', hB⟩ := hrel
    have hsz := hB.size
    have hpn := octN_nonneg W p t
    rcases hnx' with ⟨k, r, rfl, rfl, hck⟩ | ⟨rfl, rfl, rfl⟩
    · have hrn := octN_step gw1 hck.1.1 hck.1.2.1
      have hrin := hck.1.1.in' gw1
      have hron := hck.1.2.2
      have HC : Hid (Chn (WSt W H bl a t) a (ints (l ++ [r])) r) := by
        have := Chn.snoc hch.out (show WSt W H bl a t p r from ⟨k, hck⟩)
        rw [← ints_snoc] at this
        exact this
      have hnbz : nb < wr.heap.size := hT'.lt
      clear hck hch
      go_wp2_with (at_builtin; refine wpList_append_own _ rfl _ _ 22 rfl N2 3 i0 (.int .i64 0) 1 8 Tryd.underlying22 hi hz0 hz1 hz2 rfl (by decide) _ _ _ rfl (World.ownsRow.alloc hown _) ⟨wr.heap.size, 0, none⟩ 1 1 [.int .i64 r] rfl rfl ?c1 ?c2 ?c3 ?c4 ?c5 ?_)
      case c1 =>
        intro j u hj
        match j, hj with
        | 0, hj =>
          simp at hj; subst hj; simp only [Addr.add]
          exact World.cell?_alloc_at (w := wr) #[.int .i64 r] 3 wr.heap.size 0 rfl
      case c2 => intro u hu; simp at hu; subst hu; rfl
      case c3 => simp; unfold maxLen; omega
      case c4 => simp; omega
      case c5 => simp; omega
      intro v' w4 hown' hgrow _
      have hg4 := hgrow.size
      have hbase := fun q hq => (hown.lt q hq).1
      have B5 : Below w.heap.size w w4 := (hB.alloc hsz _).grown hgrow (by simp; omega) (fun q hq => Nat.le_trans z2 (hbase q hq))
      have hT5 : SetAt w4 nb T := (hT'.grown (World.grownBy_alloc wr _ none) (by simp)).grown hgrow (fun e => by have := hbase nb e.symm; omega)
      have O5 : w4.ownsRow N2 3 1 v' (a :: (l ++ [r])).length (vals (a :: (l ++ [r]))) := by
        have e1 : (a :: (l ++ [r])).length = (a :: l).length + 1 := by simp
        have e2 : vals (a :: (l ++ [r])) = vals (a :: l) ++ [.int .i64 r] := by simp [vals]
        rw [e1, e2]
        exact hown'
      have h6 := rnext_v w4 (g.below B5 hb) (s.below B5 (by omega)) (d.below B5) (Nat.lt_of_lt_of_le hb B5.size) hT5 HTi.out hoS hoD ht hrin hron
      clear hown' hgrow hown hT' hB hon
      go_wp2_with fail
      refine h6.mono ?_
      rintro e w5 ⟨hb5, cv', mv', rfl, hnx5⟩
      have hT6 := hT5.below hb5
      have O6 := own_below O5 hb5
      have B6 := B5.trans (hb5.mono B5.size)
      have z6 : N2 ≤ w5.heap.size := by have h1 := hg4; have h2 := hb5.size; simp at h1; omega
      clear h6 hT5 O5 hb5 B5
      go_wp2
      go_roundg (octN W r t).toNat
      case measure => have := octN_nonneg W r t; omega
      case rel => exact ⟨r, l ++ [r], rfl, by simp; omega, O6, HC, hron, hrin, hnx5, hT6, z6, B6⟩
    · go_wp2
      go_ret2
      exact ⟨_, l, rfl, own_base hown z2, hch.out, by omega, hB⟩
end Go.Proofs.YtfhicijgpdpfpaaDoor
/-
  What is near, and the way: the mathematics of 'TopNear'.
-/
namespace Go.Proofs.YtfhicijgpdpfpaaDoor
open Go.RowKit

variable {W H : Int} {bl : Nat → Bool}
theorem On.sym {a b k : Int} (h : On W H bl a b k) : On W H bl b a k := ⟨h.2, h.1⟩
theorem near_iff {a b : Int} {F : Int → Option (Int × Int)} (w1 : 1 ≤ W) (hS : octS W a b ≤ 1000) (hD : octD W a b ≤ 1000) (BA : Best (Edge W H bl) a F) : (∃ z, On W H bl a b z) ↔ F b = some (octS W a b, octD W a b) := by
  constructor
  · rintro ⟨z, h⟩
    exact best_oct w1 BA (h.ends w1 hS hD).2.2
  · intro h
    exact ⟨b, On.of_near w1 hS hD (BA.sound h)⟩
theorem On.near_a {a b k : Int} (w1 : 1 ≤ W) (hS : octS W a b ≤ 1000) (hD : octD W a b ≤ 1000) (kS : octS W a k ≤ 1000) (kD : octD W a k ≤ 1000) (h : On W H bl a b k) : ∃ z, On W H bl a k z :=
  ⟨k, On.of_near w1 kS kD (h.walks w1 hS hD).1⟩
theorem On.near_b {a b k : Int} (w1 : 1 ≤ W) (hS : octS W a b ≤ 1000) (hD : octD W a b ≤ 1000) (kS : octS W k b ≤ 1000) (kD : octD W k b ≤ 1000) (h : On W H bl a b k) : ∃ z, On W H bl k b z := by
  have := (h.walks w1 hS hD).2.1.back (Edge.back w1)
  rw [octS_comm W b k, octD_comm W b k] at this
  exact ⟨b, On.of_near w1 kS kD this⟩
theorem On.free {a b k : Int} (w1 : 1 ≤ W) (hS : octS W a b ≤ 1000) (hD : octD W a b ≤ 1000) (ha : bl a.toNat = false) (h : On W H bl a b k) : bl k.toNat = false := wk_free ha (h.walks w1 hS hD).1

theorem chn_at {P : Int → Int → Prop} {t : Int} : ∀ {l : List Nat} {a : Nat}, Chn P a (ints l) t → (∀ i, i < l.length → P (((a :: l).getD i 0 : Nat) : Int) (((a :: l).getD (i + 1) 0 : Nat) : Int)) ∧ (((a :: l).getD l.length 0 : Nat) : Int) = t
  | [], a, h => ⟨fun i hi => absurd hi (Nat.not_lt_zero i), h⟩
  | n :: l, a, ⟨h1, h2⟩ => by
    obtain ⟨q1, q2⟩ := chn_at h2
    refine ⟨fun i hi => ?_, q2⟩
    cases i with
    | zero => exact h1
    | succ i => exact q1 i (by simpa using hi)

theorem ffv_zero {c : Int} (h1 : inB W H c = true) (h2 : bl c.toNat = false) : ffv W H bl c = 0 := by unfold ffv; rw [h1, h2]; rfl

/-- a way's cells are on, and what it costs so far is what is no longer left -/
theorem way_cost {a : Nat} {t : Int} {l : List Nat} (w1 : 1 ≤ W) (hS : octS W a t ≤ 1000) (hD : octD W a t ≤ 1000) (ha : inB W H a = true) (hfa : bl a = false) (hon : On W H bl a t a) (h : Chn (WSt W H bl a t) a (ints l) t) :
    (∀ i, i < (a :: l).length → On W H bl a t (((a :: l).getD i 0 : Nat) : Int) ∧ inB W H (((a :: l).getD i 0 : Nat) : Int) = true) ∧ wkV W H bl (fun i => (((a :: l).getD i 0 : Nat) : Int)) (a :: l).length = ((octS W a t, octD W a t), 0) := by
  obtain ⟨c1, c2⟩ := chn_at h
  have key : ∀ i, i < (a :: l).length → On W H bl a t (((a :: l).getD i 0 : Nat) : Int) ∧ inB W H (((a :: l).getD i 0 : Nat) : Int) = true ∧ wkS W H bl (fun i => (((a :: l).getD i 0 : Nat) : Int)) (i + 1) = .ok (octS W a t - octS W (((a :: l).getD i 0 : Nat) : Int) t, octD W a t - octD W (((a :: l).getD i 0 : Nat) : Int) t) := by
    intro i
    induction i with
    | zero =>
      intro _
      refine ⟨hon, ha, ?_⟩
      have e : wkS W H bl (fun i => (((a :: l).getD i 0 : Nat) : Int)) 0 = .ok (0, 0) := rfl
      rw [wkS_next e]
      unfold wk1
      have hz : ffv W H bl (((a :: l).getD 0 0 : Nat) : Int) = 0 := ffv_zero ha hfa
      rw [if_pos hz, if_pos rfl]
      show Except.ok (0, 0) = Except.ok (octS W a t - octS W a t, octD W a t - octD W a t)
      rw [Int.sub_self, Int.sub_self]
    | succ i ih =>
      intro hi
      obtain ⟨h1, h2, h3⟩ := ih (by omega)
      obtain ⟨k, hk⟩ := c1 i (by simpa using hi)
      generalize hp : (((a :: l).getD i 0 : Nat) : Int) = p at *
      generalize hr : (((a :: l).getD (i + 1) 0 : Nat) : Int) = r at *
      have hrin := hk.1.1.in' w1
      refine ⟨hk.1.2.2, hrin, ?_⟩
      rw [wkS_next h3]
      unfold wk1
      have hz : ffv W H bl (((a :: l).getD (i + 1) 0 : Nat) : Int) = 0 := by
        rw [hr]
        exact ffv_zero hrin (hk.1.2.2.free w1 hS hD hfa)
      rw [if_pos hz, if_neg (Nat.succ_ne_zero i)]
      have hst : stepD W H bl (((a :: l).getD (i + 1 - 1) 0 : Nat) : Int) (((a :: l).getD (i + 1) 0 : Nat) : Int) = some k := by
        rw [Nat.add_sub_cancel, hp, hr]
        exact stepD_edge w1 hk.1.1
      rw [hst]
      obtain ⟨g1, g2⟩ := (good_iff w1 hk.1.1).1 hk.1.2.1
      show Except.ok (octS W a t - octS W p t + stS k, octD W a t - octD W p t + stD k) = _
      congr 2 <;> omega
  refine ⟨fun i hi => ⟨(key i hi).1, (key i hi).2.1⟩, ?_⟩
  have hl := (key l.length (by simp)).2.2
  rw [c2, octS_self, octD_self, Int.sub_zero, Int.sub_zero] at hl
  exact wkV_ok hl (by simp)
end Go.Proofs.YtfhicijgpdpfpaaDoor
/-
  The walk of 'TopNear': it returns true for every plot and every two numbers.
-/
namespace Go.Proofs.YtfhicijgpdpfpaaDoor
open Go.RowKit

/-- both grids alike, and both tables -/
structure Pair2 (w : World) (g m : Nat) (W H V : Int) (bl : Nat → Bool) : Prop where
  pr : Pair w g m W H V bl
  dg : DiagAt w
theorem Pair2.below {w w' : World} {g m : Nat} {W H V : Int} {bl : Nat → Bool} (h : Pair2 w g m W H V bl) {B : Nat} (hb : Below B w w') (hB : B = w.heap.size := by rfl) : Pair2 w' g m W H V bl := by
  subst hB
  exact ⟨h.pr.below hb, h.dg.below hb⟩

theorem boxedN (w : World) (W H : Int) (A : Option Addr) (n cap : Nat) {wa : World}
    (hb : Below ((w.alloc (.cells #[.int .i64 W, .int .i64 H, .slice A n cap] 24)).alloc (.cells (gridC 2 1) 90)).heap.size ((w.alloc (.cells #[.int .i64 W, .int .i64 H, .slice A n cap] 24)).alloc (.cells (gridC 2 1) 90)) wa) :
    wa.cell? ⟨w.heap.size, 0, none⟩ = some (.int .i64 W) ∧ wa.cell? ⟨w.heap.size, 1, none⟩ = some (.int .i64 H) ∧ wa.cell? ⟨w.heap.size, 2, none⟩ = some (.slice A n cap) := by
  have h : ∀ o, wa.cell? ⟨w.heap.size, o, none⟩ = #[Value.int .i64 W, .int .i64 H, .slice A n cap][o]? := fun o => by
    rw [hb.cell (p := ⟨w.heap.size, o, none⟩) (by simp; omega), World.cell?_alloc_old _ _ _ (by simp), World.cell?_alloc_new]
  exact ⟨h 0, h 1, h 2⟩

theorem two_near : ∃ z, On 2 1 (fun _ => false) 0 1 z := by
  have e : Edge 2 1 (fun _ => false) 0 2 1 := ⟨by decide, by decide, by decide, by decide⟩
  have := wk_edge e
  exact ⟨1, On.of_near (by decide) (by decide) (by decide) this⟩

/-- two of this size are near -/
theorem near_two {b : Nat} (w : World) (g : GridAt w b 2 1 0 (fun _ => false)) (s : StepsAt w) (d : DiagAt w) (hb : b < w.heap.size) :
    Calls Tryd.prog 36 #[.pointer (some ⟨b, 0, none⟩), .int .i64 0, .int .i64 1] w fun e w' => e = .returned (.tuple #[.bool true, .nilIface]) ∧ Below w.heap.size w w' :=
  (near_ok 0 1 w g s d hb (by decide)).mono fun e w' ⟨r, he, hr, hb'⟩ => by
    rw [hr.2 two_near] at he
    exact ⟨he, hb'⟩

set_option maxHeartbeats 1000000 in
set_option maxRecDepth 1000000 in
theorem topNear_none (W H : Int) (A : Option Addr) (n cap : Nat) (a b : Int) (w : World) (s : StepsAt w) (d : DiagAt w)
    (hL : ∀ w' : World, Calls Tryd.prog 10 #[.agg #[.int .i64 W, .int .i64 H, .slice A n cap]] w' fun e w'' => e = .returned (.tuple #[.pointer none, .pointer none, .bool false]) ∧ Below w'.heap.size w' w'') :
    Calls Tryd.prog 8 #[.agg #[.int .i64 W, .int .i64 H, .slice A n cap], .int .i64 a, .int .i64 b] w fun e w' => e = .returned (.bool true) ∧ Below w.heap.size w w' := by
  have hs2 : sideB 2 = true := by decide
  have hs1 : sideB 1 = true := by decide
  have hG := gridAt_new 2 1 (w.alloc (.cells #[.int .i64 W, .int .i64 H, .slice A n cap] 24)) hs2 hs1
  have hb : Below w.heap.size w ((w.alloc (.cells #[.int .i64 W, .int .i64 H, .slice A n cap] 24)).alloc (.cells (gridC 2 1) 90)) := ((Below.refl _ _).alloc (Nat.le_refl _) _).alloc (by simp) _
  have e1 : (w.alloc (.cells #[.int .i64 W, .int .i64 H, .slice A n cap] 24)).heap.size = w.heap.size + 1 := by simp
  rw [e1] at hG
  have hN := near_two _ hG (s.below hb s.pos) (d.below hb) (by simp)
  clear e1 hG
  go_enter Tryd.func8, Tryd.ntmps8
  go_wp2_with (go_at_call 22; refine (new_ok _ _ _ hs2 hs1).mono ?_; rintro e w' ⟨rfl, rfl⟩)
  refine hN.mono ?_
  rintro e wa ⟨rfl, hba⟩
  obtain ⟨p0, p1, p2⟩ := boxedN w W H A n cap hba
  have HBA : Below w.heap.size w wa := hb.trans (hba.mono (by simp; omega))
  clear hN hb hba
  go_wp2_with (go_at_call 10; refine (hL _).mono ?_; rintro e w2 ⟨rfl, hb2⟩)
  go_ret
  exact ⟨rfl, HBA.trans (hb2.mono HBA.size)⟩

theorem gt_of {x : Int} (h : x ≠ 0) (k : 0 ≤ x) : 0 < x := by omega
theorem ffv_ge (W H : Int) (bl : Nat → Bool) (c : Int) : 0 ≤ ffv W H bl c := by
  unfold ffv; split
  · split <;> omega
  · omega
end Go.Proofs.YtfhicijgpdpfpaaDoor
/-
  The walk of 'TopNear' where the plot can be laid.
-/
namespace Go.Proofs.YtfhicijgpdpfpaaDoor
open Go.RowKit

theorem bool_eq {r1 r2 : Bool} {P Q : Prop} (h1 : r1 = true ↔ P) (h2 : r2 = true ↔ Q) (h : P ↔ Q) : r2 = r1 := by
  cases r1 <;> cases r2 <;> simp_all

/-- a cost and a number in memory -/
def Three (w : World) (x z : Nat) (s d p : Int) : Prop :=
  w.cell? ⟨x, 0, none⟩ = some (.int .i64 s) ∧ w.cell? ⟨x, 1, none⟩ = some (.int .i64 d) ∧ w.cell? ⟨z, 0, none⟩ = some (.int .i64 p)
theorem Three.below {w w' : World} {x z : Nat} {s d p : Int} (h : Three w x z s d p) (hb : Below w.heap.size w w') : Three w' x z s d p := by
  obtain ⟨h1, h2, h3⟩ := h
  have k : ∀ {a : Addr} {v : Value}, w.cell? a = some v → w'.cell? a = some v := fun {a v} h => (hb.cell (World.block_lt_of_cell? w a h)).trans h
  exact ⟨k h1, k h2, k h3⟩

theorem near_yes {G M : Nat} {W H V : Int} {bl : Nat → Bool} {a t : Int} (w : World) (P : Pair2 w G M W H V bl) (hf : ff2 W H bl a t = 0) (h : ∃ z, On W H bl a t z) :
    Calls Tryd.prog 36 #[.pointer (some ⟨G, 0, none⟩), .int .i64 a, .int .i64 t] w fun e w' => e = .returned (.tuple #[.bool true, .nilIface]) ∧ Below w.heap.size w w' :=
  (near_ok a t w P.pr.ga P.pr.st P.dg P.pr.gl hf).mono fun e w' ⟨r, he, hr, hb'⟩ => by
    rw [hr.2 h] at he
    exact ⟨he, hb'⟩

set_option maxHeartbeats 4000000 in
set_option maxRecDepth 1000000 in
theorem topNear_ok (W H : Int) (A : Option Addr) (n cap : Nat) (xs : Nat → Int) (a b : Int) (w : World) (s : StepsAt w) (d : DiagAt w) (hn : ¬ 300 < (n : Int)) (hW : sideB W = true) (hH : sideB H = true) (hx : OldRow w A n xs) :
    Calls Tryd.prog 8 #[.agg #[.int .i64 W, .int .i64 H, .slice A n cap], .int .i64 a, .int .i64 b] w fun e w' => e = .returned (.bool true) ∧ Below w.heap.size w w' := by
  have hs2 : sideB 2 = true := by decide
  have hs1 : sideB 1 = true := by decide
  have hG := gridAt_new 2 1 (w.alloc (.cells #[.int .i64 W, .int .i64 H, .slice A n cap] 24)) hs2 hs1
  have hb : Below w.heap.size w ((w.alloc (.cells #[.int .i64 W, .int .i64 H, .slice A n cap] 24)).alloc (.cells (gridC 2 1) 90)) := ((Below.refl _ _).alloc (Nat.le_refl _) _).alloc (by simp) _
  have e1 : (w.alloc (.cells #[.int .i64 W, .int .i64 H, .slice A n cap] 24)).heap.size = w.heap.size + 1 := by simp
  rw [e1] at hG
  have hN := near_two _ hG (s.below hb s.pos) (d.below hb) (by simp)
  clear e1 hG
  go_enter Tryd.func8, Tryd.ntmps8
  go_wp2_with (go_at_call 22; refine (new_ok _ _ _ hs2 hs1).mono ?_; rintro e w' ⟨rfl, rfl⟩)
  refine hN.mono ?_
  rintro e wa ⟨rfl, hba⟩
  obtain ⟨p0, p1, p2⟩ := boxedN w W H A n cap hba
  have HBA : Below w.heap.size w wa := hb.trans (hba.mono (by simp; omega))
  have hx1 : OldRow wa A n xs := hx.below HBA
  have s1 := s.below HBA s.pos
  have d1 := d.below HBA
  have hLd := laid_ok W H A n cap xs wa (by omega) hW hH hx1
  clear hN hb hba hx1 hs1 hs2
  go_wp2_with fail
  refine hLd.mono ?_
  rintro e w2 ⟨rfl, hb2, hsz2, V, bl, hV, hB⟩
  have B2 : Below w.heap.size w w2 := HBA.trans (hb2.mono HBA.size)
  have P2 : Pair2 w2 (wa.heap.size + 1) (wa.heap.size + 1 + 1) W H V bl := ⟨⟨hB.ga, hB.ra, by omega, by omega, s1.below hb2 s1.pos, Nat.lt_of_lt_of_le s1.pos hb2.size⟩, d1.below hb2⟩
  clear hLd hB hsz2 hb2 p0 p1 p2 HBA hx s1 d1
  generalize wa.heap.size + 1 + 1 = M at *
  generalize wa.heap.size + 1 = G at *
  have hfa := ffv_ge W H bl a
  have hfb := ffv_ge W H bl b
  have hff : ∀ c w', Pair2 w' G M W H V bl → Calls Tryd.prog 15 #[.pointer (some ⟨M, 0, none⟩), .int .i64 c] w' fun e w'' => e = .returned (.int .i64 (ffv W H bl c)) ∧ Below w'.heap.size w' w'' := fun c w' P => ff_any c w' P.pr.ra
  by_cases qa : ffv W H bl a = 0
  · by_cases qb : ffv W H bl b = 0
    · have hf2 : ff2 W H bl a b = 0 := by unfold ff2; rw [if_pos qa]; exact qb
      have hf2' : ff2 W H bl b a = 0 := by unfold ff2; rw [if_pos qb]; exact qa
      obtain ⟨⟨ha, hfa'⟩, ⟨hbi, hfb'⟩⟩ := ff2_ok hf2
      have g1 := hff a w2 P2
      rw [qa] at g1
      go_wp2_with fail
      refine g1.mono ?_
      rintro e w3 ⟨rfl, hb3⟩
      have P3 := P2.below hb3
      have B3 := B2.trans (hb3.mono B2.size)
      have g2 := hff b w3 P3
      rw [qb] at g2
      clear g1 P2 B2 hb3 hff hfa hfb
      go_wp2_with fail
      refine g2.mono ?_
      rintro e w4 ⟨rfl, hb4⟩
      have P4 := P3.below hb4
      have B4 := B3.trans (hb4.mono B3.size)
      clear g2 P3 B3 hb4
      have h5 := near_ok a b w4 P4.pr.ga P4.pr.st P4.dg P4.pr.gl hf2
      go_wp2_with fail
      refine h5.mono ?_
      rintro e w5 ⟨r1, rfl, hr1, hb5⟩
      have P5 := P4.below hb5
      have B5 := B4.trans (hb5.mono B4.size)
      have h6 := near_ok b a w5 P5.pr.ga P5.pr.st P5.dg P5.pr.gl hf2'
      clear h5 P4 B4 hb5
      go_wp2_with fail
      refine h6.mono ?_
      rintro e w6 ⟨r2, rfl, hr2, hb6⟩
      have P6 := P5.below hb6
      have B6 := B5.trans (hb6.mono B5.size)
      have h7 := direct_ok a b w6 P6.pr.ga P6.pr.st P6.dg P6.pr.gl hf2
      obtain rfl : r2 = r1 := bool_eq hr1 hr2 ⟨fun ⟨z, h⟩ => ⟨z, h.sym⟩, fun ⟨z, h⟩ => ⟨z, h.sym⟩⟩
      clear h6 P5 B5 hb6 hr2
      go_wp2_with fail
      refine h7.mono ?_
      rintro e w7 ⟨r3, rfl, hr3, hb7⟩
      have P7 := P6.below hb7
      have B7 := B6.trans (hb7.mono B6.size)
      have h8 := direct_ok b a w7 P7.pr.ga P7.pr.st P7.dg P7.pr.gl hf2'
      clear h7 P6 B6 hb7
      go_wp2_with fail
      refine h8.mono ?_
      rintro e w8 ⟨r4, rfl, hr4, hb8⟩
      have P8 := P7.below hb8
      have B8 := B7.trans (hb8.mono B7.size)
      obtain rfl : r4 = r3 := bool_eq hr3 hr4 ⟨fun ⟨⟨z, h⟩, k⟩ => ⟨⟨z, h.sym⟩, fun ⟨c, c1, c2, c3, c4⟩ => k ⟨c, c1.sym, c2, c4, c3⟩⟩, fun ⟨⟨z, h⟩, k⟩ => ⟨⟨z, h.sym⟩, fun ⟨c, c1, c2, c3, c4⟩ => k ⟨c, c1.sym, c2, c4, c3⟩⟩⟩
      have h31 : r4 = true → r2 = true := fun h => hr1.2 (hr3.1 h).1
      clear h8 P7 B7 hb8 hr4 hr3
      have hqa : 0 ≤ a ∧ a < W * H := of_decide_eq_true ha
      have hqb : 0 ≤ b ∧ b < W * H := of_decide_eq_true hbi
      have hwh := wh_bd P8.pr.ga.w1 P8.pr.ga.w2 P8.pr.ga.h1 P8.pr.ga.h2
      have gw1 := P8.pr.ga.w1
      have gw2 := P8.pr.ga.w2
      have hsm := oct_small P8.pr.ga.w1 P8.pr.ga.w2 P8.pr.ga.h1 P8.pr.ga.h2 ha hbi
      obtain ⟨an, rfl⟩ : ∃ an : Nat, a = an := ⟨a.toNat, by omega⟩
      obtain ⟨bn, rfl⟩ : ∃ bn : Nat, b = bn := ⟨b.toNat, by omega⟩
      have hfo := from_ok an w8 P8.pr.ga P8.pr.st ha hfa'
      have hoc : ∀ w, Calls Tryd.prog 28 #[.int .i64 W, .int .i64 an, .int .i64 bn] w fun e w' => e = .returned (.agg #[.int .i64 (octS W an bn), .int .i64 (octD W an bn)]) ∧ Below w.heap.size w w' := fun w => topOct W an bn w gw1 gw2 (by omega) (by omega)
      obtain ⟨q1, q2⟩ := hqa
      obtain ⟨q3, q4⟩ := hqb
      cases r2 with
      | false =>
        obtain rfl : r4 = false := by cases r4 with | false => rfl | true => cases h31 rfl
        have HN : Hid (¬ ∃ z, On W H bl an bn z) := fun h => by cases hr1.2 h
        clear h31 hr1
        go_wp2_with fail
        refine hfo.mono ?_
        rintro e w9 ⟨fb, gb, cb, F, rfl, FA, BF, _, _, _, hb9⟩
        have P9 := P8.below hb9
        have B9 := B8.trans (hb9.mono B8.size)
        have hni := near_iff (b := bn) gw1 (by omega) (by omega) BF
        clear hfo P8 B8 hb9
        cases hF : F bn with
        | none =>
          have hc := fcost_none bn w9 FA hbi hF
          clear hni
          go_wp2_with fail
          refine hc.mono ?_
          rintro e w10 ⟨rfl, hb10⟩
          have B10 := B9.trans (hb10.mono B9.size)
          clear hc P9 B9 hb10 FA BF
          go_wp2
          go_quiet (fail)
          go_wp2
          go_ret
          exact ⟨rfl, below_drewN (B10.alloc B10.size _) _⟩
        | some c =>
          obtain ⟨s', d'⟩ := c
          have hne : ¬ (s' = octS W an bn ∧ d' = octD W an bn) := fun h => HN.out (hni.2 (by rw [hF, h.1, h.2]))
          have hc := fcost_some bn w9 FA hbi hF
          clear hni
          go_wp2_with fail
          refine hc.mono ?_
          rintro e w10 ⟨rfl, hb10⟩
          have P10 := P9.below hb10
          have B10 := B9.trans (hb10.mono B9.size)
          clear hc P9 B9 hb10 FA BF hF
          go_wp2_with fail
          have r0 := P10.pr.ra.c0
          have CC : Three (w10.alloc (.cells #[.int .i64 s', .int .i64 d'] 31)) w10.heap.size M s' d' W := ⟨World.cell?_alloc_at (w := w10) #[.int .i64 s', .int .i64 d'] 31 w10.heap.size 0 rfl, World.cell?_alloc_at (w := w10) #[.int .i64 s', .int .i64 d'] 31 w10.heap.size 1 rfl, (((Below.refl w10.heap.size w10).alloc (Nat.le_refl _) _).cell (p := ⟨M, 0, none⟩) P10.pr.ml).trans r0⟩
          have B11 := B10.alloc B10.size (.cells #[.int .i64 s', .int .i64 d'] 31)
          clear P10 B10 r0
          generalize w10.heap.size = B22 at *
          generalize w10.alloc (.cells #[.int .i64 s', .int .i64 d'] 31) = W10 at *
          have CC : Three W10.drew B22 M s' d' W := CC
          have B11 : Below w.heap.size w W10.drew := ⟨B11.os, B11.tape, B11.output, B11.size, B11.block⟩
          clear hsm
          generalize octS W an bn = qs at *
          generalize octD W an bn = qd at *
          have hcase : s' ≠ qs ∨ (s' = qs ∧ d' ≠ qd) := by
            by_cases e : s' = qs
            · exact Or.inr ⟨e, fun e2 => hne ⟨e, e2⟩⟩
            · exact Or.inl e
          clear hne
          rcases hcase with hne | ⟨rfl, hne⟩
          all_goals
            go_region_held3 (fun w' => w'.cell? ⟨B22, 0, none⟩ = some (.int .i64 s') ∧ w'.cell? ⟨B22, 1, none⟩ = some (.int .i64 d') ∧ w'.cell? ⟨M, 0, none⟩ = some (.int .i64 W)) (first | (exact CC)) (first | (go_at_call 28; refine (hoc _).mono ?_; rintro e wx ⟨rfl, hbx⟩; have CC := CC.below hbx; have B11 := B11.trans (hbx.mono B11.size)))
            clear CC hoc
            go_wp2
            go_ret
            exact ⟨rfl, B11⟩
      | true =>
        have HY : Hid (∃ z, On W H bl an bn z) := hr1.1 rfl
        clear hr1 h31
        cases r4
        all_goals
          go_wp2_with fail
          refine hfo.mono ?_
          rintro e w9 ⟨fb, gb, cb, F, rfl, FA, BF, _, _, _, hb9⟩
          have P9 := P8.below hb9
          have B9 := B8.trans (hb9.mono B8.size)
          have hni := near_iff (b := bn) gw1 (by omega) (by omega) BF
          have hF : F bn = some (octS W an bn, octD W an bn) := hni.1 HY.out
          have hc := fcost_some bn w9 FA hbi hF
          clear hfo P8 B8 hb9 hni
          go_wp2_with fail
          refine hc.mono ?_
          rintro e w10 ⟨rfl, hb10⟩
          have P10 := P9.below hb10
          have B10 := B9.trans (hb10.mono B9.size)
          clear hc P9 B9 hb10 FA BF hF
          go_wp2_with fail
          have r0 := P10.pr.ra.c0
          generalize hqs : octS W an bn = qs at *
          generalize hqd : octD W an bn = qd at *
          have HSS : Hid (octS W an bn ≤ 1000) := by rw [hqs]; have := hsm.1; show qs ≤ 1000; omega
          have HSD : Hid (octD W an bn ≤ 1000) := by rw [hqd]; have := hsm.2; show qd ≤ 1000; omega
          have HQS : Hid (octS W an bn = qs) := hqs
          have HQD : Hid (octD W an bn = qd) := hqd
          clear hqs hqd
          have bA : Below w10.heap.size w10 (w10.alloc (.cells #[.int .i64 qs, .int .i64 qd] 31)) := (Below.refl _ _).alloc (Nat.le_refl _) _
          have CC : Three (w10.alloc (.cells #[.int .i64 qs, .int .i64 qd] 31)) w10.heap.size M qs qd W := ⟨World.cell?_alloc_at (w := w10) #[.int .i64 qs, .int .i64 qd] 31 w10.heap.size 0 rfl, World.cell?_alloc_at (w := w10) #[.int .i64 qs, .int .i64 qd] 31 w10.heap.size 1 rfl, (bA.cell (p := ⟨M, 0, none⟩) P10.pr.ml).trans r0⟩
          have B11 := B10.alloc B10.size (.cells #[.int .i64 qs, .int .i64 qd] 31)
          have P11 := P10.below bA
          clear P10 B10 r0 bA
          generalize w10.heap.size = B22 at *
          generalize w10.alloc (.cells #[.int .i64 qs, .int .i64 qd] 31) = W10 at *
          have CC : Three W10.drew B22 M qs qd W := CC
          have P11 : Pair2 W10.drew G M W H V bl := P11.below (B := W10.heap.size) ⟨rfl, rfl, rfl, Nat.le_refl _, fun _ _ => rfl⟩
          have B11 : Below w.heap.size w W10.drew := ⟨B11.os, B11.tape, B11.output, B11.size, B11.block⟩
          go_region_held3 (fun w' => w'.cell? ⟨B22, 0, none⟩ = some (.int .i64 qs) ∧ w'.cell? ⟨B22, 1, none⟩ = some (.int .i64 qd) ∧ w'.cell? ⟨M, 0, none⟩ = some (.int .i64 W)) (first | (exact CC)) (first | (go_at_call 28; refine (hoc _).mono ?_; rintro e wx ⟨rfl, hbx⟩; have CC := CC.below hbx; have P11 := P11.below hbx; have B11 := B11.trans (hbx.mono B11.size)))
          have hwy := rway_ok an bn wx P11.pr.ga P11.pr.st P11.dg P11.pr.gl hf2 HY.out
          clear hoc
          go_wp2_with fail
          refine hwy.mono ?_
          rintro e w12 ⟨v, l, rfl, hown, hch, hll, hb12⟩
          obtain ⟨A', cap', rfl, hrow⟩ := row_of hown
          have CC := CC.below hb12
          have P12 := P11.below hb12
          have B12 := B11.trans (hb12.mono B11.size)
          have HW := way_cost gw1 HSS.out HSD.out ha hfa' (HY.out.choose_spec.ends gw1 HSS.out HSD.out).1 hch
          have HP : Hid (∀ i, i < (an :: l).length → On W H bl an bn (((an :: l).getD i 0 : Nat) : Int) ∧ inB W H (((an :: l).getD i 0 : Nat) : Int) = true) := HW.1
          have hwk := rwalk_any (cap := cap') w12 P12.pr.ra P12.pr.ml hrow (by simp; omega)
          rw [HW.2, HQS.out, HQD.out] at hwk
          have hLn : (an :: l).length ≤ 65 := by simp; omega
          clear hwy hown hch hb12 P11 B11 HW
          generalize an :: l = L at *
          go_wp2_with fail
          refine hwk.mono ?_
          rintro e w13 ⟨rfl, hb13⟩
          have CC := CC.below hb13
          have P13 := P12.below hb13
          have B13 := B12.trans (hb13.mono B12.size)
          have hrow := hrow.below hb13
          have bA : Below w13.heap.size w13 (w13.alloc (.cells #[.int .i64 qs, .int .i64 qd] 31)) := (Below.refl _ _).alloc (Nat.le_refl _) _
          have CC := CC.below bA
          have P14 := P13.below bA
          have B14 := B13.trans (bA.mono B13.size)
          have hrow := hrow.below bA
          have k0 : (w13.alloc (.cells #[.int .i64 qs, .int .i64 qd] 31)).cell? ⟨w13.heap.size, 0, none⟩ = some (.int .i64 qs) := World.cell?_alloc_at (w := w13) #[.int .i64 qs, .int .i64 qd] 31 w13.heap.size 0 rfl
          have k1 : (w13.alloc (.cells #[.int .i64 qs, .int .i64 qd] 31)).cell? ⟨w13.heap.size, 1, none⟩ = some (.int .i64 qd) := World.cell?_alloc_at (w := w13) #[.int .i64 qs, .int .i64 qd] 31 w13.heap.size 1 rfl
          obtain ⟨c0, c1, _⟩ := CC
          clear hwk P12 B12 hb13 P13 B13 bA
          go_wp2_with fail
          go_loopg [26] L.length (fun gk iv wr => ∃ i : Nat, gk = L.length - i ∧ iv = .int .i64 i ∧ i ≤ L.length ∧ Pair2 wr G M W H V bl ∧ OldRow wr A' L.length (fun i => (L.getD i 0 : Nat)) ∧ Below w.heap.size w wr)
          case atStart => exact ⟨0, rfl, rfl, Nat.zero_le _, P14, hrow, B14⟩
          case round =>
            obtain ⟨i, hgk, rfl, hi, Pr, hrr, Br⟩ := hrel
            clear P14 B14 hrow c0 c1 k0 k1
            by_cases hlt : i < L.length
            · obtain ⟨ba, oa, rfl, hba, hcell⟩ := hrr i hlt
              have hcell' : wr.cell? ⟨ba, oa + i, none⟩ = some (.int .i64 ((L.getD i 0 : Nat) : Int)) := hcell
              obtain ⟨hon, hin⟩ := HP.out i hlt
              clear hcell
              generalize ((L.getD i 0 : Nat) : Int) = c at *
              have i1 : (0 : Int) ≤ (i : Int) := by omega
              have i2 : (i : Int) < (L.length : Int) := by omega
              have hfc : ffv W H bl c = 0 := ffv_zero hin (hon.free gw1 HSS.out HSD.out hfa')
              have f1 : ff2 W H bl an c = 0 := by unfold ff2; rw [if_pos qa]; exact hfc
              have f2 : ff2 W H bl c bn = 0 := by unfold ff2; rw [if_pos hfc]; exact qb
              have t1 := oct_small Pr.pr.ga.w1 Pr.pr.ga.w2 Pr.pr.ga.h1 Pr.pr.ga.h2 ha hin
              have t2 := oct_small Pr.pr.ga.w1 Pr.pr.ga.w2 Pr.pr.ga.h1 Pr.pr.ga.h2 hin hbi
              have n1 := hon.near_a gw1 HSS.out HSD.out (by omega) (by omega)
              have n2 := hon.near_b gw1 HSS.out HSD.out (by omega) (by omega)
              have h1 := near_yes wr Pr f1 n1
              clear t1 t2 n1 hon hin hfc f1
              go_wp2_with fail
              refine h1.mono ?_
              rintro e w15 ⟨rfl, hb15⟩
              have P15 := Pr.below hb15
              have B15 := Br.trans (hb15.mono Br.size)
              have hrr := hrr.below hb15
              have hcell' := (hb15.cell (p := ⟨ba, oa + i, none⟩) hba).trans hcell'
              have h2 := near_yes w15 P15 f2 n2
              clear h1 Pr Br hb15 n2 f2
              go_wp2_with fail
              refine h2.mono ?_
              rintro e w16 ⟨rfl, hb16⟩
              have P16 := P15.below hb16
              have B16 := B15.trans (hb16.mono B15.size)
              have hrr := hrr.below hb16
              clear h2 P15 B15 hb16 hcell'
              go_wp2
              go_roundg (L.length - (i + 1))
              case measure => omega
              case rel => exact ⟨i + 1, rfl, by go_num, by omega, P16, hrr, B16⟩
            · have e : i = L.length := by omega
              subst e
              go_wp2
              go_ret
              exact ⟨rfl, Br⟩
    · have g1 := hff a w2 P2
      rw [qa] at g1
      go_wp2_with fail
      refine g1.mono ?_
      rintro e w3 ⟨rfl, hb3⟩
      have P3 := P2.below hb3
      have B3 := B2.trans (hb3.mono B2.size)
      have g2 := hff b w3 P3
      have hpos : 0 < ffv W H bl b := by omega
      clear g1 P2 B2 hb3 hff hfa hfb qb
      generalize ffv W H bl b = fb at *
      go_wp2_with fail
      refine g2.mono ?_
      rintro e w4 ⟨rfl, hb4⟩
      clear g2
      go_wp2
      go_ret
      exact ⟨rfl, B3.trans (hb4.mono B3.size)⟩
  · have g1 := hff a w2 P2
    have hpos : 0 < ffv W H bl a := by omega
    clear hff hfa hfb qa
    generalize ffv W H bl a = fa at *
    go_wp2_with fail
    refine g1.mono ?_
    rintro e w3 ⟨rfl, hb3⟩
    clear g1
    go_wp2
    go_ret
    exact ⟨rfl, B2.trans (hb3.mono B2.size)⟩
end Go.Proofs.YtfhicijgpdpfpaaDoor
