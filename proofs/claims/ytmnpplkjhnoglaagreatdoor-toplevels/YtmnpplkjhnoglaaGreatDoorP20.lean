/-
  Texts laid together: Sorts, AllDir.
-/
import Derived.Test.YtmnpplkjhnoglaaGreatDoorP19
import Derived.Sort.OwnSortedInts
/-
  Sorting a list of one's own; lists that rise.
-/
namespace Go.Proofs.YtmnpplkjhnoglaaGreatDoor
open Go.RowKit Go.Sort

/-- two rising lists that hold the same are one -/
theorem rise_ext : ∀ {l l' : List Int}, l.Pairwise (· < ·) → l'.Pairwise (· < ·) → (∀ x, x ∈ l ↔ x ∈ l') → l = l'
  | [], [], _, _, _ => rfl
  | [], y :: l', _, _, h => absurd ((h y).2 (List.mem_cons_self ..)) (List.not_mem_nil)
  | x :: l, [], _, _, h => absurd ((h x).1 (List.mem_cons_self ..)) (List.not_mem_nil)
  | x :: l, y :: l', h1, h2, h => by
    rw [List.pairwise_cons] at h1 h2
    have e : x = y := by
      rcases List.mem_cons.1 ((h x).1 (List.mem_cons_self ..)) with e | e
      · exact e
      · rcases List.mem_cons.1 ((h y).2 (List.mem_cons_self ..)) with f | f
        · exact f.symm
        · have := h2.1 x e
          have := h1.1 y f
          omega
    subst e
    have ih := rise_ext h1.2 h2.2 (fun z => by
      constructor
      · intro hz
        rcases List.mem_cons.1 ((h z).1 (List.mem_cons_of_mem _ hz)) with e | e
        · have := h1.1 z hz; omega
        · exact e
      · intro hz
        rcases List.mem_cons.1 ((h z).2 (List.mem_cons_of_mem _ hz)) with e | e
        · have := h2.1 z hz; omega
        · exact e)
    rw [ih]
abbrev intsN (l : List Nat) : List Int := l.map fun n : Nat => (n : Int)
theorem mem_intsN {l : List Nat} {x : Int} : x ∈ intsN l ↔ ∃ n : Nat, n ∈ l ∧ x = n := by
  unfold intsN
  rw [List.mem_map]
  exact ⟨fun ⟨n, h, e⟩ => ⟨n, h, e.symm⟩, fun ⟨n, h, e⟩ => ⟨n, h, e.symm⟩⟩
theorem rise_intsN {l : List Nat} (h : l.Pairwise (· < ·)) : (intsN l).Pairwise (· < ·) := by
  unfold intsN
  rw [List.pairwise_map]
  exact h.imp (fun h => by omega)
/-- two rising lists of naturals that hold the same are one -/
theorem rise_eq {l l' : List Nat} (h1 : l.Pairwise (· < ·)) (h2 : l'.Pairwise (· < ·)) (h : ∀ n, n ∈ l ↔ n ∈ l') : l = l' := by
  have := rise_ext (rise_intsN h1) (rise_intsN h2) (fun x => by
    rw [mem_intsN, mem_intsN]
    exact ⟨fun ⟨n, a, b⟩ => ⟨n, (h n).1 a, b⟩, fun ⟨n, a, b⟩ => ⟨n, (h n).2 a, b⟩⟩)
  have q := congrArg (List.map Int.toNat) this
  simpa [intsN, List.map_map, Function.comp_def] using q
/-- a list sorted: it rises if nothing is there twice -/
theorem srt_ex (L : List Nat) (hn : L.Nodup) : ∃ l : List Nat, l.Pairwise (· < ·) ∧ (∀ n, n ∈ l ↔ n ∈ L) ∧ l.length = L.length ∧ (intsN L).mergeSort (fun x y => decide (x ≤ y)) = intsN l := by
  have hp := List.mergeSort_perm (intsN L) (fun x y => decide (x ≤ y))
  have hs : ((intsN L).mergeSort (fun x y => decide (x ≤ y))).Pairwise (fun x y => decide (x ≤ y) = true) := List.pairwise_mergeSort (fun a b c h1 h2 => by simp at *; omega) (fun a b => by simp; omega) (intsN L)
  have hnI : (intsN L).Nodup := by
    unfold intsN List.Nodup
    rw [List.pairwise_map]
    exact hn.imp (fun h e => h (by omega))
  have hnd := hp.nodup_iff.2 hnI
  generalize (intsN L).mergeSort (fun x y => decide (x ≤ y)) = Z at *
  have hlt : Z.Pairwise (· < ·) := by
    have := hs.and hnd
    refine this.imp ?_
    rintro a b ⟨h1, h2⟩
    have := of_decide_eq_true h1
    omega
  have hz : ∀ x ∈ Z, 0 ≤ x := fun x hx => by
    obtain ⟨n, _, e⟩ := mem_intsN.1 (hp.mem_iff.1 hx)
    omega
  have eZ : intsN (Z.map Int.toNat) = Z := by
    unfold intsN
    rw [List.map_map]
    conv => rhs; rw [← List.map_id Z]
    exact List.map_congr_left (fun x hx => by
      have := hz x hx
      simp
      omega)
  refine ⟨Z.map Int.toNat, ?_, fun n => ?_, ?_, eZ.symm⟩
  · rw [List.pairwise_map]
    refine List.Pairwise.imp_of_mem ?_ hlt
    intro a b ha hb h
    have := hz a ha
    omega
  · rw [List.mem_map]
    constructor
    · rintro ⟨x, hx, rfl⟩
      obtain ⟨m, hm, e⟩ := mem_intsN.1 (hp.mem_iff.1 hx)
      rw [e]; exact hm
    · intro hn
      exact ⟨n, hp.mem_iff.2 (mem_intsN.2 ⟨n, hn, rfl⟩), by simp⟩
  · rw [List.length_map, hp.length_eq]
    simp [intsN]

/-- a list without doubles below a number is not longer -/
theorem nodup_len : ∀ (N : Nat) {L : List Nat}, L.Nodup → (∀ n ∈ L, n < N) → L.length ≤ N
  | 0, [], _, _ => Nat.le_refl _
  | 0, x :: _, _, h => absurd (h x (List.mem_cons_self ..)) (Nat.not_lt_zero _)
  | N + 1, L, hn, h => by
    have h1 := nodup_len N (L := L.erase N) (hn.erase N) (fun n hm => by
      have := (hn.mem_erase_iff).1 hm
      have := h n this.2
      omega)
    have h2 : L.length ≤ (L.erase N).length + 1 := by
      rw [List.length_erase]
      split <;> omega
    omega

theorem own_grown {w w' : World} {base e n : Nat} {row : Option Nat} {k : Nat} {v : Value} {xs : List Value} (h : w.ownsRow base e k v n xs) (hg : w.grownBy w' row) (hne : ∀ g, v.ownBlock = some g → some g ≠ row) : w'.ownsRow base e k v n xs := by
  refine h.kept hg ?_
  cases hv : v.ownBlock with
  | none => exact Or.inl rfl
  | some g => exact Or.inr (hne g hv)
theorem own_keep {F : Nat → Prop} {w w' : World} {base e k n : Nat} {v : Value} {xs : List Value} (h : w.ownsRow base e k v n xs) (K : Keep F w w') (hne : ∀ g, v.ownBlock = some g → ¬ F g) : w'.ownsRow base e k v n xs := by
  refine ⟨h.1, ?_⟩
  rcases h.2 with h2 | ⟨g, cap, cur, hv, hbase, hg, h3⟩
  · exact Or.inl h2
  · refine Or.inr ⟨g, cap, cur, hv, hbase, (K.block g (Array.getElem?_eq_some_iff.1 hg).1 (hne g (by rw [hv]; rfl))).trans hg, h3⟩
theorem own_map {P : Program} {kt : TypeId} {w : World} {b m : Nat} {f : Int → Option Value} {base e k n : Nat} {v : Value} {xs : List Value} (h : w.ownsRow base e k v n xs) (M : MapF P kt w b f m) : ∀ g, v.ownBlock = some g → g ≠ b := by
  intro g hg e
  obtain ⟨D, ⟨es, clock, h1, _⟩, _⟩ := M
  rcases h.2 with ⟨rfl, _⟩ | ⟨g', cap, cur, rfl, _, hgg, _⟩
  · cases hg
  · simp only [Value.ownBlock, Option.some.injEq] at hg
    rw [hg, e, h1] at hgg
    cases hgg

/-- slices.Sort on a list of one's own -/
theorem sort_row {base : Nat} {v : Value} {L l : List Nat} (w : World) (h : w.ownsRow base 3 1 v L.length (vals L)) (hne : L ≠ []) (hl : l.length = L.length) (hs : (intsN L).mergeSort (fun x y => decide (x ≤ y)) = intsN l) (hlen : L.length ≤ 256) :
    Calls Tryz.prog 95 #[v] w fun e w' => e = .returned (.tuple #[]) ∧ w'.ownsRow base 3 1 v l.length (vals l) ∧ w.grownBy w' v.ownBlock := by
  rcases h.2 with ⟨_, h0⟩ | ⟨g, cap, cur, rfl, hbase, hg, h1, h2, h3, h4⟩
  · exact absurd (List.length_eq_zero_iff.1 h0) hne
  · have hv : vals L = (intsN L).map (Value.int .i64) := by simp [vals, intsN]
    have hv' : vals l = (intsN l).map (Value.int .i64) := by simp [vals, intsN]
    have hL : (intsN L).length = L.length := by simp [intsN]
    have hl' : (intsN l).length = (intsN L).length := by simp [intsN, hl]
    have hH : Go.Sort.Holds (Value.int .i64) w g 0 (intsN L).toArray := holds_of_blockI hg (by rw [hL, ← hv]; simpa using h4)
    have hc := AnyM.slices_Sort_int Tryz.sortA g 0 cap (intsN L) w hH (Array.getElem?_eq_some_iff.1 hg).1 (by rw [hL]; omega)
    rw [hs, hL] at hc
    refine hc.mono ?_
    rintro e w' ⟨rfl, n, os, rfl⟩
    refine ⟨rfl, ?_, grownBy_sortedI _⟩
    have := ownsRow_sortedI (base := base) (n := n) (os := os) (ss := intsN L) (ts := intsN l) hl' hbase hg (by rw [hL]; exact h1) h2 h3
    rw [hL] at this
    rw [hl, hv']
    exact this
end Go.Proofs.YtmnpplkjhnoglaaGreatDoor
/-
  All that is directly near a cell: package reach's 'AllDirect'.
-/
namespace Go.Proofs.YtmnpplkjhnoglaaGreatDoor
open Go.RowKit

theorem errV_nil : errV 0 = .nilIface := rfl
theorem errV_some {n : Int} (h : n ≠ 0) : errV n = .iface 96 (.int .i64 n) := by unfold errV; rw [if_neg h]

set_option maxHeartbeats 400000 in
theorem alldir_err {b : Nat} {W H V : Int} {bl : Nat → Bool} (a : Int) (w : World) (g : GridAt w b W H V bl) (hf : ffv W H bl a ≠ 0) :
    Calls Tryz.prog 111 #[.pointer (some ⟨b, 0, none⟩), .int .i64 a] w fun e w' => e = .returned (.tuple #[.slice none 0 0, errV (ffv W H bl a)]) ∧ Below w.heap.size w w' := by
  have h1 := check_any a w g
  rw [errV_some hf] at h1 ⊢
  go_enter Tryz.func111, Tryz.ntmps111
  go_wp2_with fail
  refine h1.mono ?_
  rintro e w1 ⟨rfl, hb1⟩
  clear h1
  go_wp2
  go_ret2
  exact ⟨rfl, hb1⟩

theorem own_rng {P : Program} {kt : TypeId} {w : World} {b r m cnt : Nat} {f : Int → Option Value} {left : Int → Bool} {base e k n : Nat} {v : Value} {xs : List Value} (h : w.ownsRow base e k v n xs) (M : RngF P kt w b r f m left cnt) : ∀ g, v.ownBlock = some g → some g ≠ some r := by
  intro g hg e
  obtain ⟨D, lf, ⟨es, clock, since, seen, c0, h1, h2, h3, h4, h5, h6⟩, h7⟩ := M
  rcases h.2 with ⟨rfl, _⟩ | ⟨g', cap, cur, rfl, _, hgg, _⟩
  · cases hg
  · simp only [Value.ownBlock, Option.some.injEq] at hg
    rw [hg, Option.some.inj e, h5] at hgg
    cases hgg

set_option maxHeartbeats 4000000 in
set_option maxRecDepth 1000000 in
theorem alldir_ok {b : Nat} {W H V a : Int} {bl : Nat → Bool} (w : World) (g : GridAt w b W H V bl) (s : StepsAt w) (hb : b < w.heap.size) (ha : inB W H a = true) (hfree : bl a.toNat = false) :
    Calls Tryz.prog 111 #[.pointer (some ⟨b, 0, none⟩), .int .i64 a] w fun e w' => ∃ v l, e = .returned (.tuple #[v, .nilIface]) ∧ w'.ownsRow w.heap.size 3 1 v l.length (vals l) ∧ (l.Pairwise (· < ·) ∧ ∀ n : Nat, n ∈ l ↔ Dir W H bl a n) ∧ Below w.heap.size w w' := by
  have gw1 := g.w1
  have gw2 := g.w2
  have gh1 := g.h1
  have gh2 := g.h2
  have hwh := wh_bd g.w1 g.w2 g.h1 g.h2
  have hia : 0 ≤ a ∧ a < W * H := of_decide_eq_true ha
  have hwa := wf_small hia.1 (show a < 256 by omega)
  have HBD : Hid (∀ r, Nr W H bl a r → octS W a r ≤ 1000 ∧ octD W a r ≤ 1000) := fun r hr => by
    have := oct_small gw1 gw2 gh1 gh2 ha (hr.in gw1 ha)
    omega
  have HDI : Hid (∀ n : Int, Dir W H bl a n ↔ Nr W H bl a n ∧ ¬ Bhd W H bl a n) := fun n => by
    constructor
    · intro hd
      have := oct_small gw1 gw2 gh1 gh2 ha (hd.in gw1 ha)
      exact (Dir.iff gw1 (by omega) (by omega)).1 hd
    · intro hd
      obtain ⟨q1, q2⟩ := HBD.out n hd.1
      exact (Dir.iff gw1 q1 q2).2 hd
  have HIN : Hid (∀ n : Int, Nr W H bl a n → 0 ≤ n ∧ n < 256 ∧ inB W H n = true ∧ octN W a n ≤ 32) := fun n hn => by
    have h1 := hn.in gw1 ha
    have h2 : 0 ≤ n ∧ n < W * H := of_decide_eq_true h1
    have := oct_small gw1 gw2 gh1 gh2 ha h1
    exact ⟨h2.1, by omega, h1, by unfold octN; omega⟩
  obtain ⟨i0, hi, hz0, hz1, hz2⟩ := info_parts Tryz.info3
  have h1 := check_any a w g
  rw [ffv_zero ha hfree, errV_nil] at h1
  have hmm := @run_makeMap Tryz.prog
  go_enter Tryz.func111, Tryz.ntmps111
  go_wp2_with fail
  refine h1.mono ?_
  rintro e w1 ⟨rfl, hb1⟩
  clear h1
  have hM0 := (SetAt.made w1).grown (World.grownBy_alloc (w1.alloc (.map #[] 0)) (.map #[] 0) none) (by simp)
  have hM1 := SetAt.made (w1.alloc (.map #[] 0))
  have hzz : (w1.alloc (.map #[] 0)).heap.size = w1.heap.size + 1 := by simp
  have B0 : Below w.heap.size w ((w1.alloc (.map #[] 0)).alloc (.map #[] 0)) := (hb1.alloc hb1.size _).alloc (by have := hb1.size; simp; omega) _
  rw [hzz] at hM1
  go_wp2_with (first | (refine wpList_ins rfl _ _ _ 146 rfl 3 176 law3 Tryz.underS (w1.heap.size + 1) _ _ (by first | rfl | (rw [hzz]; rfl)) hM1.mp hM1.room a (.agg #[]) rfl rfl hwa ?_; intro w2 hm2 ht2; go_frame) | go_in)
  have hF0 := hM1.put hia.1 (show a < 256 by omega) hm2
  have hg2 := ht2.grown
  have hA0 := hM0.grown hg2 (fun e => by have := Option.some.inj e; omega)
  have B1 : Below w.heap.size w w2 := B0.grown hg2 (by have := hb1.size; simp; omega) (fun k e => by cases e; have := hb1.size; omega)
  have hz1' := hb1.size
  clear hM0 hM1 hzz B0 hm2 ht2 hg2 hmm
  generalize hbb : w1.heap.size = bb at *
  clear hbb hb1
  go_loopg [7, 9] 60 (fun gk dv fv wr => ∃ (i fb : Nat) (SF SB : Int → Bool) (L : List Nat), gk = 60 - i ∧ fv = .map (some fb) ∧ bb < fb ∧ SetAt wr fb SF ∧ SetAt wr bb SB ∧ Hid (∀ z, SF z = true ↔ Nr W H bl a z ∧ octN W a z = i) ∧ Hid (∀ z, SB z = true ↔ (Nr W H bl a z ∧ octN W a z ≤ i) ∧ Bhd W H bl a z) ∧
      wr.ownsRow w.heap.size 3 1 dv L.length (vals L) ∧ L.Nodup ∧ Hid (∀ n : Nat, n ∈ L ↔ Dir W H bl a n ∧ octN W a n < i) ∧ Below w.heap.size w wr)
  case atStart =>
    refine ⟨0, _, _, _, [], rfl, rfl, Nat.lt_succ_self _, hF0, hA0, fun z => ?_, fun z => ⟨fun h => (by cases h), ?_⟩, World.ownsRow_nil _ _ _ _, List.nodup_nil, fun n => ?_, B1⟩
    · rw [insS_iff]
      constructor
      · rintro (rfl | h)
        · exact ⟨Nr.self, by rw [octN_self]; rfl⟩
        · cases h
      · rintro ⟨h1, h2⟩
        exact Or.inl (octN_zero h2)
    · rintro ⟨⟨h1, h2⟩, h3⟩
      have := octN_nonneg W a z
      have e := octN_zero (W := W) (a := a) (r := z) (by simp at h2; omega)
      rw [e] at h3
      exact absurd h3 (Bhd.not_self gw1)
    · have := octN_nonneg W a n
      simp
      omega
  case round =>
    obtain ⟨i, fb, SF, SB, L, hgk, rfl, hfb, hF, hB, hFi, hBi, hown, hnd, hLi, hBw⟩ := hrel
    have hlen := fun ty => hF.mp.len (t := 146) Tryz.underS ty
    have hne := hF.ne_nil
    have hLL : L.length ≤ 256 := nodup_len 256 hnd (fun n hn => by
      have := HIN.out n ((HDI.out n).1 ((hLi.out n).1 hn).1).1
      omega)
    have HND : Hid L.Nodup := hnd
    clear hnd
    by_cases hpos : 0 < cntS SF 256
    · obtain ⟨z, hz⟩ := hne.1 hpos
      have hz' := (hFi.out z).1 hz
      have hzn := HIN.out z hz'.1
      have hcp : (0 : Int) < ((cntS SF 256 : Nat) : Int) := by omega
      have hle : i ≤ 32 := by omega
      clear hne hz hz' hzn
      have hbz := hBw.size
      have hfl := hF.lt
      have hbl := hB.lt
      go_wp2_with (first | (at_range; refine wpList_rangeF rfl _ 146 rfl 3 176 law3 Tryz.underS fb _ _ rfl hF.mp ?_; intro w3 hrg3 hg3 hs3) | go_in)
      have hB3 := hB.grown hg3 (by simp)
      have hown3 := own_grown hown hg3 (by simp)
      have hB3' : Below w.heap.size w w3 := hBw.grown hg3 hbz (by simp)
      generalize hr : wr.heap.size = r at *
      clear hown hB hBw hg3 hlen
      go_frame
      go_loopg [7] (cntS SF 256) (fun gj dv' wq => ∃ (left : Int → Bool) (cnt : Nat) (L' : List Nat), gj = cnt ∧ RngS wq fb r SF left cnt ∧ SetAt wq bb SB ∧ wq.ownsRow w.heap.size 3 1 dv' L'.length (vals L') ∧ Hid L'.Nodup ∧ Hid (∀ n : Nat, n ∈ L' ↔ n ∈ L ∨ ((SF n = true ∧ left n = false) ∧ SB n = false)) ∧ Below w.heap.size w wq ∧ r < wq.heap.size)
      case atStart =>
        refine ⟨_, _, L, rfl, hrg3, hB3, hown3, HND.out, fun n => ⟨Or.inl, ?_⟩, hB3', by omega⟩
        rintro (h | ⟨⟨h1, h2⟩, _⟩)
        · exact h
        · rw [setF_isSome, h1] at h2
          cases h2
      case round =>
        obtain ⟨left, cnt, L', hgj, hrg, hBq, hown, hnd, hLq, hBw, hrq⟩ := hrel
        have hbq := hBw.size
        have hLL' : L'.length ≤ 256 := nodup_len 256 hnd.out (fun n hn => by
          rcases (hLq.out n).1 hn with h | h
          · have := HIN.out n ((HDI.out n).1 ((hLi.out n).1 h).1).1
            omega
          · have := HIN.out n ((hFi.out n).1 h.1.1).1
            omega)
        go_wp2_with (first | (at_next; refine wpList_nextF rfl _ rfl 3 law3 fb r _ _ _ _ rfl hrg ?_ ?_) | go_in)
        · intro hc0 hl0
          have hFq : SetAt wr fb SF := ⟨hrg.map, hF.bd⟩
          have hgo := goOut_any wr (g.below hBw hb) (s.below hBw (by omega)) (Nat.lt_of_lt_of_le hb hBw.size) hFq hBq (Nat.ne_of_gt hfb) (by omega) (by omega) (fun z hz => (HIN.out z ((hFi.out z).1 hz).1).2.2.1) ha (fun c k z hc ho => by
            cases hz : SF z with
            | false => rfl
            | true =>
              have h1 := (hFi.out c).1 hc
              have h2 := (hFi.out z).1 hz
              have := ho.next gw1
              omega)
          have hnm := own_map hown hBq.mp
          clear hrg hFq
          go_wp2_with fail
          refine hgo.mono ?_
          rintro e w5 ⟨nb, T, B', rfl, hT, hB', hTi, hB'i, hnb, hK⟩
          have hown5 := own_keep hown hK hnm
          have B5 : Below w.heap.size w w5 := hBw.trans (hK.to_below hBw.size (fun k e => by omega))
          clear hgo hown hK hBq hnm
          go_wp2
          go_roundg (60 - (i + 1))
          case measure => omega
          case rel =>
            refine ⟨i + 1, nb, T, B', L', rfl, rfl, by omega, hT, hB', fun z => ?_, fun z => ?_, hown5, hnd.out, fun n => ?_, B5⟩
            · rw [hTi z]
              constructor
              · rintro ⟨c, k, h1, h2⟩
                obtain ⟨q1, q2⟩ := (hFi.out c).1 h1
                have := h2.next gw1
                exact ⟨q1.out gw1 h2, by omega⟩
              · rintro ⟨h1, h2⟩
                obtain ⟨q1, q2⟩ := HBD.out z h1
                obtain ⟨c, k, h3, h4⟩ := h1.prev gw1 q1 q2 (fun e => by rw [e, octN_self] at h2; omega)
                have := h4.next gw1
                exact ⟨c, k, (hFi.out c).2 ⟨h3, by omega⟩, h4⟩
            · rw [hB'i z]
              constructor
              · rintro (h | ⟨c, k, h1, h2, h3⟩)
                · obtain ⟨⟨q1, q2⟩, q3⟩ := (hBi.out z).1 h
                  exact ⟨⟨q1, by omega⟩, q3⟩
                · obtain ⟨q1, q2⟩ := (hFi.out c).1 h1
                  have := h2.next gw1
                  have hz := q1.out gw1 h2
                  obtain ⟨b1, b2⟩ := HBD.out z hz
                  refine ⟨⟨hz, by omega⟩, (Bhd.iff gw1 b1 b2).2 ⟨c, k, q1, h2, ?_⟩⟩
                  rcases h3 with h3 | ⟨h3, h4⟩
                  · exact Or.inl ((hBi.out c).1 h3).2
                  · exact Or.inr ⟨cornB_iff.1 h3, h4⟩
              · rintro ⟨⟨q1, q2⟩, q3⟩
                by_cases hle2 : octN W a z ≤ i
                · exact Or.inl ((hBi.out z).2 ⟨⟨q1, hle2⟩, q3⟩)
                · obtain ⟨b1, b2⟩ := HBD.out z q1
                  obtain ⟨c, k, h1, h2, h3⟩ := (Bhd.iff gw1 b1 b2).1 q3
                  have := h2.next gw1
                  refine Or.inr ⟨c, k, (hFi.out c).2 ⟨h1, by omega⟩, h2, ?_⟩
                  rcases h3 with h3 | ⟨h3, h4⟩
                  · exact Or.inl ((hBi.out c).2 ⟨⟨h1, by omega⟩, h3⟩)
                  · exact Or.inr ⟨cornB_iff.2 h3, h4⟩
            · rw [hLq.out n, hLi.out n, hFi.out n, HDI.out n]
              constructor
              · rintro (⟨h1, h2⟩ | ⟨⟨⟨h1, h2⟩, _⟩, h3⟩)
                · exact ⟨h1, by omega⟩
                · refine ⟨⟨h1, fun hb => ?_⟩, by omega⟩
                  have := (hBi.out n).2 ⟨⟨h1, by omega⟩, hb⟩
                  rw [h3] at this; cases this
              · rintro ⟨h1, h2⟩
                by_cases hlt : octN W a n < i
                · exact Or.inl ⟨h1, hlt⟩
                · refine Or.inr ⟨⟨⟨h1.1, by omega⟩, hl0 n⟩, ?_⟩
                  cases hs : SB n with
                  | false => rfl
                  | true => exact absurd ((hBi.out n).1 hs).2 h1.2
        · intro x v w4 cnt1 hwx hlx hfx hrg1 hlt hg1 hs1 hen
          obtain ⟨hSx, rfl⟩ := setF_val hfx
          have hx := hF.bd x hSx
          have hBq1 := hBq.grown hg1 (fun e => by have := Option.some.inj e; omega)
          have hown4 := own_grown hown hg1 (own_rng hown hrg)
          have B4 : Below w.heap.size w w4 := hBw.grown hg1 hbq (fun k e => by cases e; omega)
          have hB5 := hBq1.grown (World.grownBy_alloc w4 (.cells #[] 176) none) (by simp)
          have hrg2 := hrg1.grown (World.grownBy_alloc w4 (.cells #[] 176) none) (by simp) (by simp)
          have hown5 := hown4.alloc (.cells #[] 176)
          have B5 := B4.alloc B4.size (.cells #[] 176)
          have hr5 : r < (w4.alloc (.cells #[] 176)).heap.size := by simp; omega
          cases hSB : SB x with
          | true =>
            have hlk : (Instr.lookup 146 (.map (some bb)) (.int .i64 x) true).run Tryz.prog w4 = .ok (.tuple #[.agg #[], .bool true]) w4 := hBq1.mp.look_some law3 Tryz.underS (zeroS _) hwx (setF_some hSB) true
            clear hrg hBw hBq hown hBq1 hown4 B4 hg1
            go_wp2
            go_roundg cnt1
            case measure => omega
            case rel =>
              refine ⟨_, cnt1, L', rfl, hrg2, hB5, hown5, hnd, fun n => ?_, B5, hr5⟩
              rw [hLq.out n]
              by_cases e : (n : Int) = x
              · rw [e]; simp [hSB]
              · simp [e]
          | false =>
            have hlk : (Instr.lookup 146 (.map (some bb)) (.int .i64 x) true).run Tryz.prog w4 = .ok (.tuple #[.agg #[], .bool false]) w4 := hBq1.mp.look_none law3 Tryz.underS (zeroS _) hwx (setF_none hSB) true
            clear hrg hBw hBq hown hBq1 hown4 B4 hg1
            have hz5 := B5.size
            obtain ⟨xn, hxn⟩ : ∃ xn : Nat, x = (xn : Int) := ⟨x.toNat, by omega⟩
            have HXN : Hid (x = (xn : Int)) := hxn
            clear hxn
            generalize hw5 : w4.alloc (.cells #[] 176) = w5 at *
            go_wp2_with (at_builtin; refine wpList_append_own _ rfl _ _ 22 rfl w.heap.size 3 i0 (.int .i64 0) 1 8 Tryz.underlying22 hi hz0 hz1 hz2 rfl (by decide) _ _ _ rfl (hown5.alloc _) ⟨w5.heap.size, 0, none⟩ 1 1 [.int .i64 x] rfl rfl ?c1 ?c2 ?c3 ?c4 ?c5 ?_)
            case c1 =>
              intro j u hj
              match j, hj with
              | 0, hj =>
                simp at hj; subst hj; simp only [Addr.add]
                exact World.cell?_alloc_at (w := w5) #[.int .i64 x] 3 w5.heap.size 0 rfl
            case c2 => intro u hu; simp at hu; subst hu; rfl
            case c3 => unfold maxLen; omega
            case c4 => omega
            case c5 => simp; omega
            intro v' w6 hown' hgrow _
            have hbase := fun q hq => (hown5.lt q hq).1
            have B6 : Below w.heap.size w w6 := (B5.alloc hz5 _).grown hgrow (by simp; omega) hbase
            have O6 : w6.ownsRow w.heap.size 3 1 v' (L' ++ [xn]).length (vals (L' ++ [xn])) := by
              rw [HXN.out] at hown'
              simpa [vals] using hown'
            have hrg6 := (hrg2.grown (World.grownBy_alloc w5 (.cells #[.int .i64 x] 3) none) (by simp) (by simp)).grown hgrow (fun e => own_map hown5 hrg2.map _ e.symm rfl) (fun e => own_rng hown5 hrg2 _ e.symm rfl)
            have hB6 := (hB5.grown (World.grownBy_alloc w5 (.cells #[.int .i64 x] 3) none) (by simp)).grown hgrow (fun e => own_map hown5 hB5.mp _ e.symm rfl)
            have hr6 : r < w6.heap.size := Nat.lt_of_lt_of_le hr5 (Nat.le_trans (by simp) hgrow.size)
            have HN : Hid (L' ++ [xn]).Nodup := by
              have hnm : xn ∉ L' := fun hm => by
                rcases (hLq.out xn).1 hm with h | h
                · have h1 := (hLi.out xn).1 h
                  rw [← HXN.out] at h1
                  have h2 := (hFi.out x).1 hSx
                  omega
                · rw [← HXN.out] at h
                  rw [hlx] at h
                  exact absurd h.1.2 (by decide)
              unfold Hid List.Nodup
              rw [List.pairwise_append]
              exact ⟨hnd.out, List.pairwise_singleton _ _, fun p hp q hq e => by
                rw [List.mem_singleton] at hq
                rw [e, hq] at hp
                exact hnm hp⟩
            clear hown' hgrow hown5 B5 hrg2 hB5
            go_wp2
            go_roundg cnt1
            case measure => omega
            case rel =>
              refine ⟨_, cnt1, L' ++ [xn], rfl, hrg6, hB6, O6, HN, fun n => ?_, B6, hr6⟩
              rw [List.mem_append, List.mem_singleton, hLq.out n]
              by_cases e : n = xn
              · subst e
                rw [← HXN.out]
                simp [hSB, hSx]
              · have e' : ¬ (n : Int) = x := fun q => e (by have := HXN.out; omega)
                simp [e, e']
    · have hno : ∀ z, SF z = false := fun z => by
        cases hz : SF z with
        | false => rfl
        | true => exact absurd (hne.2 ⟨z, hz⟩) hpos
      have hc0 : cntS SF 256 = 0 := by omega
      have hfin : ∀ n : Nat, n ∈ L ↔ Dir W H bl a n := fun n => by
        rw [hLi.out n]
        refine ⟨fun h => h.1, fun h => ⟨h, ?_⟩⟩
        by_cases q : octN W a n < i
        · exact q
        · exfalso
          have h1 := ((HDI.out n).1 h).1
          have h2 := octN_nonneg W a n
          obtain ⟨z', h3, h4⟩ := Nr.mid gw1 HBD.out (octN W a n).toNat n h1 (by omega) i (by omega)
          have := (hFi.out z').2 ⟨h3, h4⟩
          rw [hno z'] at this
          cases this
      have HF : Hid (∀ n : Nat, n ∈ L ↔ Dir W H bl a n) := hfin
      have hLne : L ≠ [] := fun e => by
        have h1 := (hfin a.toNat).2 (by rw [Int.toNat_of_nonneg hia.1]; exact Dir.self gw1)
        rw [e] at h1
        cases h1
      obtain ⟨l, l1, l2, l3, l4⟩ := srt_ex L HND.out
      have HL2 : Hid (∀ n, n ∈ l ↔ n ∈ L) := l2
      have HL1 : Hid (l.Pairwise (· < ·)) := l1
      have hso := sort_row wr hown hLne l3 l4 hLL
      have hbz := hBw.size
      have hbase := fun q hq => (hown.lt q hq).1
      rw [hc0] at hlen
      clear hfin hno hne hpos hFi hBi l1 l2 l3 l4 hLne hown hB hF hLi
      go_wp2_with fail
      refine hso.mono ?_
      rintro e w5 ⟨rfl, hown5, hg5⟩
      have B5 : Below w.heap.size w w5 := hBw.grown hg5 hbz hbase
      clear hso hg5 hbase
      go_wp2
      go_ret2
      exact ⟨_, l, rfl, hown5, ⟨HL1.out, fun n => (HL2.out n).trans (HF.out n)⟩, B5⟩
end Go.Proofs.YtmnpplkjhnoglaaGreatDoor
