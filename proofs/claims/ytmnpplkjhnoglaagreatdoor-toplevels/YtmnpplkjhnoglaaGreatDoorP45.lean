/-
  Texts laid together: RCost, LvPrc.
-/
import Derived.Test.YtmnpplkjhnoglaaGreatDoorP44
import Derived.Deep.RegionHeld3
import Derived.BigQuiet
/-
  What the reference's functions about costs do, and 'same', 'costs'.
-/
namespace Go.Proofs.YtmnpplkjhnoglaaGreatDoor
open Go.RowKit

/-- the fault's number -/
def flt (s d : Int) : Int := @ite Int (inC s d) (inC_dec s d) 0 1

set_option maxHeartbeats 400000 in
theorem plus_any (s d t u : Int) (w : World) (h : okC s d) (k : okC t u) :
    Calls Tryz.prog 64 #[.agg #[.int .i64 s, .int .i64 d], .agg #[.int .i64 t, .int .i64 u]] w fun e w' => e = .returned (.agg #[.int .i64 (s + t), .int .i64 (d + u)]) ∧ Below w.heap.size w w' := by
  obtain ⟨h1, h2, h3, h4⟩ := h
  obtain ⟨k1, k2, k3, k4⟩ := k
  go_enter Tryz.func64, Tryz.ntmps64
  go_wp2
  exact bodyPost_ret (v := .agg #[.int .i64 (s + t), .int .i64 (d + u)]) (by simp [results, Tryz.results64, go_sem]) rfl ⟨rfl, ((((Below.refl _ _).alloc (Nat.le_refl _) _).alloc (by simp) _).alloc (by simp; omega) _)⟩

theorem neg_sq (x : Int) : -x * -x = x * x := by rw [Int.neg_mul, Int.mul_neg, Int.neg_neg]
theorem irr_pos (x y : Int) (hx : 0 ≤ x) (hy : 0 ≤ y) (hq : y < 38613965) (h : x * x = 2 * (y * y)) : x = 0 := by
  have a := pos_lt x y hx hy hq
  have b := pos_gt x y hx hy hq
  have e : 38613965 * x = 54608393 * y := by
    rcases Int.lt_trichotomy (38613965 * x) (54608393 * y) with k | k | k
    · have := a.mpr k; omega
    · exact k
    · have := b.mpr k; omega
  exact (no_mid x y e (Int.lt_of_lt_of_le (by decide) hy) hq).1
theorem irr (x y : Int) (h1 : -38613965 < y) (h2 : y < 38613965) (h : x * x = 2 * (y * y)) : x = 0 := by
  by_cases hx : 0 ≤ x <;> by_cases hy : 0 ≤ y
  · exact irr_pos x y hx hy h2 h
  · exact irr_pos x (-y) hx (by omega) (by omega) (by rw [neg_sq]; exact h)
  · have := irr_pos (-x) y (by omega) hy h2 (by rw [neg_sq]; exact h)
    omega
  · have := irr_pos (-x) (-y) (by omega) (by omega) (by omega) (by rw [neg_sq, neg_sq]; exact h)
    omega
theorem sq_pos (x : Int) : x = 0 ∨ 0 < x * x := by
  by_cases h : x = 0
  · left; exact h
  · right
    have := mul_self_nonneg x
    by_cases g : x * x = 0
    · exact absurd (sq_zero x g) h
    · omega
/-- what decides: the differences' signs and squares -/
theorem cmpC_of (s d t u r : Int) (h1 : -38613965 < d - u) (h2 : d - u < 38613965)
    (H : ∀ X Y : Int, (s - t = 0 ∨ 0 < X) → (d - u = 0 ∨ 0 < Y) → (s - t = 0 → X = 0) → (d - u = 0 → Y = 0) → (X = 2 * Y → s - t = 0) → X = (s - t) * (s - t) → Y = (d - u) * (d - u) →
      ∀ A B : Int, (s - t < 0 → A = -X) → (¬ s - t < 0 → A = X) → (d - u > 0 → B = -Y) → (¬ d - u > 0 → B = Y) → (r = -1 ∧ A < 2 * B) ∨ (r = 0 ∧ A = 2 * B) ∨ (r = 1 ∧ 2 * B < A)) :
    cmpC s d t u = r := by
  have h := H _ _ (sq_pos (s - t)) (sq_pos (d - u)) (fun e => by rw [e]; rfl) (fun e => by rw [e]; rfl) (irr (s - t) (d - u) h1 h2) rfl rfl (if s - t < 0 then -((s - t) * (s - t)) else (s - t) * (s - t)) (if d - u > 0 then -((d - u) * (d - u)) else (d - u) * (d - u)) (fun e => by rw [if_pos e]) (fun e => by rw [if_neg e]) (fun e => by rw [if_pos e]) (fun e => by rw [if_neg e])
  have e1 : sqs (s - t) = if s - t < 0 then -((s - t) * (s - t)) else (s - t) * (s - t) := by unfold sqs; rw [Int.neg_mul]
  have e2 : sqs (u - d) = if d - u > 0 then -((d - u) * (d - u)) else (d - u) * (d - u) := by
    have n : u - d = -(d - u) := by omega
    rw [n, sqs_neg]
    unfold sqs
    rw [Int.neg_mul]
    by_cases c : d - u < 0
    · rw [if_pos c, if_neg (by omega), Int.neg_neg]
    · rw [if_neg c]
      by_cases c2 : d - u > 0
      · rw [if_pos c2]
      · rw [if_neg c2]
        have : d - u = 0 := by omega
        rw [this]; rfl
  unfold cmpC cmpI
  rw [e1, e2]
  rcases h with ⟨rfl, h⟩ | ⟨rfl, h⟩ | ⟨rfl, h⟩
  · rw [if_pos h]
  · rw [h, if_neg (by omega)]; simp
  · rw [if_neg (by omega), if_pos h]

theorem ret_int {k : IntKind} {a b : Int} (h : a = b) : Ending.returned (.int k a) = .returned (.int k b) := by rw [h]

set_option maxHeartbeats 1000000 in
theorem rcmp_any (s d t u : Int) (w : World) (h : okC s d) (k : okC t u) :
    Calls Tryz.prog 66 #[.agg #[.int .i64 s, .int .i64 d], .agg #[.int .i64 t, .int .i64 u]] w fun e w' => e = .returned (.int .i64 (cmpC s d t u)) ∧ Below w.heap.size w w' := by
  obtain ⟨h1, h2, h3, h4⟩ := h
  obtain ⟨k1, k2, k3, k4⟩ := k
  have hB : Below w.heap.size w ((w.alloc (.cells #[.int .i64 s, .int .i64 d] 65)).alloc (.cells #[.int .i64 t, .int .i64 u] 65)) := ((Below.refl _ _).alloc (Nat.le_refl _) _).alloc (by simp) _
  have bx := mul_self_bd (s - t) (by omega) (by omega)
  have by_ := mul_self_bd (d - u) (by omega) (by omega)
  have e2 : 2 * (d - u) * (d - u) = 2 * ((d - u) * (d - u)) := Int.mul_assoc _ _ _
  have by2 : 0 ≤ 2 * (d - u) * (d - u) ∧ 2 * (d - u) * (d - u) ≤ 140737488355328 := by rw [e2]; omega
  go_enter Tryz.func66, Tryz.ntmps66
  go_wp2
  all_goals
    go_ret
    refine ⟨ret_int (Eq.symm (cmpC_of s d t u _ (by omega) (by omega) ?_)), hB⟩
    clear hB bx by_ e2 by2
    intro X Y p1 p2 p3 p4 p5 eX eY A B q1 q2 q3 q4
    simp only [← eX, ← eY, beq_iff_eq, beq_eq_false_iff_ne, ne_eq, decide_eq_decide, true_and] at *
    clear eX eY
    omega
end Go.Proofs.YtmnpplkjhnoglaaGreatDoor
/-
  A way over edges of the graph, and what it costs: the statement's 'priced'.
-/
namespace Go.Proofs.YtmnpplkjhnoglaaGreatDoor
open Go.RowKit Go.Maps Go.Lib

theorem Prc.next {es : Nat → List LE} {way : List Nat} {k x y : Nat} {s d : Int} (h : Prc es (way.drop k) s d) (hx : way[k]? = some x) (hy : way[k + 1]? = some y) : ∃ e ∈ es x, e.to = y ∧ Prc es (way.drop (k + 1)) (s - e.s) (d - e.d) := by
  obtain ⟨h1, e1⟩ := List.getElem?_eq_some_iff.1 hx
  obtain ⟨h2, e2⟩ := List.getElem?_eq_some_iff.1 hy
  rw [List.drop_eq_getElem_cons h1, List.drop_eq_getElem_cons h2, e1, e2] at h
  obtain ⟨e, k1, k2, k3⟩ := h
  refine ⟨e, k1, k2, ?_⟩
  rw [List.drop_eq_getElem_cons h2, e2]
  exact k3
theorem Prc.last {es : Nat → List LE} {way : List Nat} {k : Nat} {s d : Int} (h : Prc es (way.drop k) s d) (hk : k + 1 = way.length) : s = 0 ∧ d = 0 := by
  rw [List.drop_eq_getElem_cons (show k < way.length by omega), List.drop_eq_nil_of_le (show way.length ≤ k + 1 by omega)] at h
  exact h
theorem Rsg.at {l : List LE} (h : Rsg l) {i j : Nat} {e f : LE} (he : l[i]? = some e) (hf : l[j]? = some f) (ht : e.to = f.to) : i = j := by
  obtain ⟨h1, e1⟩ := List.getElem?_eq_some_iff.1 he
  obtain ⟨h2, e2⟩ := List.getElem?_eq_some_iff.1 hf
  have hp := List.pairwise_iff_getElem.1 h
  by_cases hij : i = j
  · exact hij
  · rcases Nat.lt_or_gt_of_ne hij with h3 | h3
    · have := hp i j h1 h2 h3; rw [e1, e2] at this; omega
    · have := hp j i h2 h1 h3; rw [e1, e2] at this; omega
theorem RowN.cell {w : World} {a o : Nat} {l : List Nat} (h : RowN w a o l) {j x : Nat} (hj : l[j]? = some x) : w.cell? ⟨a, o + j, none⟩ = some (.int .i64 (x : Int)) := by
  have := h j (.int .i64 (x : Int)) (by unfold vals; rw [List.getElem?_map, hj]; rfl)
  rw [Addr.add_lit] at this
  exact this
theorem RowN.cell0 {w : World} {a : Nat} {l : List Nat} (h : RowN w a 0 l) {j x : Nat} (hj : l[j]? = some x) : w.cell? ⟨a, j, none⟩ = some (.int .i64 (x : Int)) := by
  have := h.cell hj
  rwa [Nat.zero_add] at this

set_option maxHeartbeats 8000000 in
set_option maxRecDepth 1000000 in
theorem priced_yes {rb pb mb g cap a b : Nat} {W H V s d : Int} {bl : Nat → Bool} {es : Nat → List LE} {way : List Nat} (w : World) (G : GraphAt w rb pb mb W H V bl) (hG : GEs W H bl es) (hw : RowN w g 0 way) (h2 : 2 ≤ way.length) (h3 : way.length ≤ 300) (ha : way[0]? = some a) (hb : way[way.length - 1]? = some b) (hp : Prc es way s d) :
    Calls Tryz.prog 25 #[.pointer (some ⟨rb, 0, none⟩), .slice (some ⟨g, 0, none⟩) way.length cap, .int .i64 (a : Int), .int .i64 (b : Int), .agg #[.int .i64 s, .int .i64 d]] w fun e w' => e = .returned (.bool true) ∧ Below w.heap.size w w' := by
  obtain ⟨w1, w2, h1, h2'⟩ : 1 ≤ W ∧ W ≤ 16 ∧ 1 ≤ H ∧ H ≤ 16 := by
    obtain ⟨f, G, _⟩ := G
    exact ⟨G.ga.w1, G.ga.w2, G.ga.h1, G.ga.h2⟩
  have hwh := wh_bd w1 w2 h1 h2'
  have HE : Hid (∀ {a : Nat} {e : LE}, e ∈ es a → cornB W H bl a = true ∧ a < 256 ∧ 0 ≤ e.s ∧ 0 ≤ e.d ∧ e.s ≤ 16 ∧ e.d ≤ 16) := fun {a e} he => by
    have hB := hG.btw w1 w2 h1 h2'
    have := crs_mem.1 (hB.cor.ends he).1
    exact ⟨this.2, by omega, hB.bd he⟩
  have HR : Hid (∀ n, Rsg (es n)) := fun n => hG.esy.ord n
  have HEE : Hid (∀ (n : Nat), cornB W H bl n = true → ∀ l, EdgeL W H bl (n : Int) l → edgesV W (n : Int) l = lesV (es n) ∧ l.length = (es n).length ∧ (es n).length ≤ 256) := fun n hn l hl => by
    obtain ⟨l', h1, h2⟩ := hG.1 n hn
    have e := hl.one h1
    subst e
    have := hl.len w1 hwh.2
    rw [h2, lesV_edges, List.length_map]
    exact ⟨rfl, rfl, this⟩
  have HGA : Hid (GraphAt w rb pb mb W H V bl) := G
  have HW : Hid (RowN w g 0 way) := hw
  have B0 : Below w.heap.size w ((w.alloc (.cells #[.int .i64 s, .int .i64 d] 65)).alloc (.cells #[.int .i64 0, .int .i64 0] 65)) := ((Below.refl _ _).alloc (Nat.le_refl _) _).alloc (by simp) _
  have b1 : Below w.heap.size w (w.alloc (.cells #[.int .i64 s, .int .i64 d] 65)) := (Below.refl _ _).alloc (Nat.le_refl _) _
  have z0 := (hw.below b1).cell0 ha
  have z1 := (hw.below b1).cell0 hb
  have i1 : (0 : Int) ≤ (way.length : Int) - 1 := by omega
  have i2 : (way.length : Int) - 1 < (way.length : Int) := by omega
  have i3 : (0 : Int) < (way.length : Int) := by omega
  have i4 : ¬ (way.length : Int) < 2 := by omega
  have i5 : ((way.length : Int) - 1).toNat = way.length - 1 := by omega
  have S0 : Slot ((w.alloc (.cells #[.int .i64 s, .int .i64 d] 65)).alloc (.cells #[.int .i64 0, .int .i64 0] 65)) w.heap.size s d := (Slot.new w s d).below ((Below.refl _ _).alloc (Nat.le_refl _) _)
  have S1 : Slot ((w.alloc (.cells #[.int .i64 s, .int .i64 d] 65)).alloc (.cells #[.int .i64 0, .int .i64 0] 65)) (w.heap.size + 1) 0 0 := by
    have := Slot.new (w.alloc (.cells #[.int .i64 s, .int .i64 d] 65)) 0 0
    simpa using this
  have HP : Hid (Prc es (way.drop 0) (s - 0) (d - 0)) := by
    unfold Hid
    rw [Int.sub_zero, Int.sub_zero]
    exact hp
  clear G hG hw ha hb hp
  go_enter Tryz.func25, Tryz.ntmps25
  go_wp2
  generalize (w.alloc (.cells #[.int .i64 s, .int .i64 d] 65)).alloc (.cells #[.int .i64 0, .int .i64 0] 65) = w0 at *
  have hs0 : w.heap.size + 2 ≤ w0.heap.size := by
    have := World.block_lt_of_cell? _ _ S1.c0
    simp at this
    omega
  clear z0 z1 b1 i1 i2 i3 i4 i5
  go_loopw [12] (fun iv wr => ∃ (k : Nat) (S D : Int), k + 1 ≤ way.length ∧ iv = .int .i64 ((k : Int) + 1) ∧ Slot wr w.heap.size s d ∧ Slot wr (w.heap.size + 1) S D ∧ Hid (Prc es (way.drop k) (s - S) (d - D)) ∧ Hid (0 ≤ S ∧ S ≤ 16 * k ∧ 0 ≤ D ∧ D ≤ 16 * k) ∧ w.heap.size + 2 ≤ wr.heap.size ∧ Below w.heap.size w wr)
    (fun i _ => way.length - (intOf i).toNat)
  case atStart => exact ⟨0, 0, 0, by omega, rfl, S0, S1, HP.out, by unfold Hid; decide, hs0, B0⟩
  case round =>
    clear S0 S1 HP hs0 B0
    obtain ⟨k, S, D, hk, rfl, S0, S1, HP, HB, hsz, hB⟩ := hrel
    by_cases hlt : k + 1 < way.length
    · obtain ⟨x, hx⟩ : ∃ x, way[k]? = some x := ⟨way[k], List.getElem?_eq_getElem (by omega)⟩
      obtain ⟨y, hy⟩ : ∃ y, way[k + 1]? = some y := ⟨way[k + 1], List.getElem?_eq_getElem hlt⟩
      obtain ⟨e, he, het, hp'⟩ := HP.out.next hx hy
      have HP' : Hid (Prc es (way.drop (k + 1)) (s - S - e.s) (d - D - e.d)) := hp'
      have G := HGA.out.below hB
      have hww := HW.out.below hB
      have z0 := hww.cell0 hx
      have z1 := hww.cell0 hy
      obtain ⟨hxc, hxb, f1, f2, f3, f4⟩ := HE.out he
      have hwx := wf_small (a := (x : Int)) (by omega) (by omega)
      obtain ⟨g1, g2, g3, g4⟩ := HB.out
      have okS : okC S D := by unfold okC; omega
      have okE : okC e.s e.d := by unfold okC; omega
      have HS : Hid (0 ≤ S + e.s ∧ S + e.s ≤ 16 * ((k + 1 : Nat) : Int) ∧ 0 ≤ D + e.d ∧ D + e.d ≤ 16 * ((k + 1 : Nat) : Int)) := by unfold Hid; omega
      have hed := edges_yes wr G hxc hwx
      have i1 : (0 : Int) ≤ (k : Int) := by omega
      have i2 : (k : Int) < (way.length : Int) := by omega
      have i3 : ((k : Int) + 1) < (way.length : Int) := by omega
      have i4 : (0 : Int) ≤ (k : Int) + 1 := by omega
      have HI : Hid (e ∈ es x) := he
      have HT : Hid (e.to = y) := het
      have HEX := HEE.out x hxc
      clear hx hy he het hp' g1 g2 g3 g4 HB G hww
      go_wp2_with fail
      refine hed.mono ?_
      rintro r w5 ⟨v5, l5, rfl, hown5, hEL, hb5⟩
      obtain ⟨q1, q2, q3⟩ := HEX l5 hEL
      rw [q1, q2] at hown5
      obtain ⟨A5, c5, rfl, row5, hA5⟩ := rowL_of hown5
      have B5 := hB.trans (hb5.mono hB.size)
      have T0 := S0.below hb5
      have T1 := S1.below hb5
      have hs5 := Nat.le_trans hsz hb5.size
      have HA5 : Hid (∀ b o, A5 = some ⟨b, o, none⟩ → w.heap.size + 2 ≤ b) := fun b o hA => by
        rcases hA5 with ⟨h1, _⟩ | ⟨g, h1, _, h3, _⟩
        · rw [h1] at hA; cases hA
        · rw [h1] at hA; cases hA; omega
      have z1' := (hb5.cell (World.block_lt_of_cell? _ _ z1)).trans z1
      obtain ⟨q, hq⟩ : ∃ q, (es x)[q]? = some e := List.getElem?_of_mem HI.out
      have hR := HR.out x
      generalize es x = le at *
      have hql : q < le.length := (List.getElem?_eq_some_iff.1 hq).1
      have HQ : Hid (∀ j e', le[j]? = some e' → (e'.to = y ↔ j = q) ∧ (j = q → e' = e)) := fun j e' hj => by
        constructor
        · constructor
          · intro h
            exact hR.at hj hq (h.trans HT.out.symm)
          · rintro rfl
            rw [hq] at hj; cases hj; exact HT.out
        · rintro rfl
          rw [hq] at hj; cases hj; rfl
      have HGW : Hid (g < w.heap.size) := World.block_lt_of_cell? _ _ (HW.out.cell0 (j := 0) (x := way[0]) (List.getElem?_eq_getElem (by omega)))
      clear hed HEX hown5 hEL hb5 q1 q2 S0 S1 hA5 z0 z1 hR hq HI HP hB hsz
      go_wp2
      go_loopw [15, 16] (fun fv jv wq => ∃ (j : Nat) (f : Bool) (S' D' : Int), j ≤ le.length ∧ fv = .bool f ∧ jv = .int .i64 j ∧ Slot wq w.heap.size s d ∧ Slot wq (w.heap.size + 1) S' D' ∧ RowL wq A5 le ∧ wq.cell? ⟨g, k + 1, none⟩ = some (.int .i64 (y : Int)) ∧ Hid ((j ≤ q ∧ f = false ∧ S' = S ∧ D' = D) ∨ (q < j ∧ f = true ∧ S' = S + e.s ∧ D' = D + e.d)) ∧ w.heap.size + 2 ≤ wq.heap.size ∧ Below w.heap.size w wq)
        (fun _ i _ => le.length - (intOf i).toNat)
      case atStart => exact ⟨0, false, S, D, Nat.zero_le _, rfl, rfl, T0, T1, row5, z1', Or.inl ⟨Nat.zero_le _, rfl, rfl, rfl⟩, hs5, B5⟩
      case round =>
        clear T0 T1 row5 z1' hs5 B5
        obtain ⟨j, f, S', D', hj, rfl, rfl, T0, T1, row, z1, HF, hsz, hB⟩ := hrel
        by_cases hlt2 : j < le.length
        · obtain ⟨e', he'⟩ : ∃ e', le[j]? = some e' := ⟨le[j], List.getElem?_eq_getElem hlt2⟩
          obtain ⟨hq1, hq2⟩ := HQ.out j e' he'
          obtain ⟨bb, o, rfl, p0, p1, p2, p3⟩ := row j e' he'
          have j1 : (0 : Int) ≤ (j : Int) := by omega
          have j2 : (j : Int) < (le.length : Int) := by omega
          by_cases hjq : j = q
          · have ee := hq2 hjq
            subst ee
            have hty : (e'.to : Int) = (y : Int) := by rw [hq1.2 hjq]
            obtain ⟨rfl, rfl, rfl⟩ : f = false ∧ S' = S ∧ D' = D := by
              rcases HF.out with ⟨_, h⟩ | ⟨h, _⟩
              · exact h
              · omega
            rw [hty] at p0
            have HJ : Hid (j = q) := hjq
            clear hq1 hq2 hty he' HF hjq
            go_wp2_with fail
            go_quiet (fail)
            have b8 : Below wr.heap.size wr (wr.drewN nq) := below_drewN (Below.refl _ _) _
            have T8 := T0.below b8
            have T9 := T1.below b8
            have row8 := row.below b8
            have B8 := hB.trans (b8.mono hB.size)
            have hs8 := Nat.le_trans hsz b8.size
            have n1 : (wr.drewN nq).cell? ⟨bb, o + j * 4 + 1, none⟩ = some (.int .i64 e'.s) := p1
            have n2 : (wr.drewN nq).cell? ⟨bb, o + j * 4 + 2, none⟩ = some (.int .i64 e'.d) := p2
            have n3 : (wr.drewN nq).cell? ⟨g, k + 1, none⟩ = some (.int .i64 (y : Int)) := z1
            have hbbs := HA5.out bb o rfl
            clear b8 T0 T1 row p0 p1 p2 p3 z1 hB hsz
            generalize wr.drewN nq = w8 at *
            go_wp2_with fail
            have b9 : Below w8.heap.size w8 w8.drew := (Below.refl _ _).drew
            have U0 := T8.below b9
            have U1 := T9.below b9
            have row9 := row8.below b9
            have B9 := B8.trans (b9.mono B8.size)
            have hs9 := Nat.le_trans hs8 b9.size
            have v0 : w8.drew.cell? ⟨w.heap.size + 1, 0, none⟩ = some (.int .i64 S') := U1.c0
            have v1 : w8.drew.cell? ⟨w.heap.size + 1, 1, none⟩ = some (.int .i64 D') := U1.c1
            have v2 : w8.drew.cell? ⟨bb, o + j * 4 + 1, none⟩ = some (.int .i64 e'.s) := n1
            have v3 : w8.drew.cell? ⟨bb, o + j * 4 + 2, none⟩ = some (.int .i64 e'.d) := n2
            have v4 : w8.drew.cell? ⟨g, k + 1, none⟩ = some (.int .i64 (y : Int)) := n3
            have hpl := plus_any S' D' e'.s e'.d w8.drew okS okE
            clear b9 T8 T9 row8 B8 n1 n2 n3 hs8
            go_region_with (first
                | (go_at_call 64; refine hpl.mono ?_; rintro r w10 ⟨rfl, hb10⟩; have u0 := (hb10.cell (World.block_lt_of_cell? _ _ v0)).trans v0; have u1 := (hb10.cell (World.block_lt_of_cell? _ _ v1)).trans v1; have u2 := (hb10.cell (World.block_lt_of_cell? _ _ v2)).trans v2; have u3 := (hb10.cell (World.block_lt_of_cell? _ _ v3)).trans v3; have X0 := U0.below hb10; have X1 := U1.below hb10; have zz0 := X1.z0; have zz1 := X1.z1; have row10 := row9.below hb10; have B10 := B9.trans (hb10.mono B9.size); have hs10 := Nat.le_trans hs9 hb10.size; have u4 := (hb10.cell (World.block_lt_of_cell? _ _ v4)).trans v4; have K11 := keepTwo w10 (w.heap.size + 1) (.int .i64 (S' + e'.s)) (.int .i64 (D' + e'.d)); have x2 := K11.cellOf u2 (show ¬ bb = w.heap.size + 1 by omega); have x3 := K11.cellOf u3 (show ¬ bb = w.heap.size + 1 by omega)))
            all_goals
              have X2 := X1.set (S' + e'.s) (D' + e'.d)
              have X3 := X0.keep K11 (show ¬ w.heap.size = w.heap.size + 1 by omega)
              have row11 := row10.keep K11 (fun b o' h => by cases h; show ¬ bb = w.heap.size + 1; omega)
              have x4 := K11.cellOf u4 (show ¬ g = w.heap.size + 1 by have := HGW.out; omega)
              have B11 : Below w.heap.size w _ := B10.trans (K11.to_below B10.size (fun q h => by omega))
              have hs11 := Nat.le_trans hs10 K11.size
              clear hpl hb10 U0 U1 v0 v1 v2 v3 v4 u0 u1 u2 u3 u4 X0 X1 zz0 zz1 row9 row10 B9 B10 hs9 hs10 K11 x2 x3
              generalize (w10.setCell ⟨w.heap.size + 1, 0, none⟩ (.int .i64 (S' + e'.s))).setCell ⟨w.heap.size + 1, 1, none⟩ (.int .i64 (D' + e'.d)) = w11 at *
              go_wp2
              go_roundw
              case rel => exact ⟨j + 1, true, S' + e'.s, D' + e'.d, by omega, rfl, by go_num, X3, X2, row11, x4, Or.inr ⟨by have := HJ.out; omega, rfl, rfl, rfl⟩, hs11, B11⟩
              case measure => simp [intOf]; omega
          · have hty : ¬ (e'.to : Int) = (y : Int) := fun h => hjq (hq1.1 (by omega))
            have HF' : Hid ((j + 1 ≤ q ∧ f = false ∧ S' = S ∧ D' = D) ∨ (q < j + 1 ∧ f = true ∧ S' = S + e.s ∧ D' = D + e.d)) := by
              rcases HF.out with ⟨h1, h⟩ | ⟨h1, h⟩
              · exact Or.inl ⟨by omega, h⟩
              · exact Or.inr ⟨by omega, h⟩
            clear hq1 hq2 he' HF
            go_wp2_with fail
            go_quiet (fail)
            go_wp2
            have b9 : Below wr.heap.size wr (wr.drewN nq) := below_drewN (Below.refl _ _) _
            go_roundw
            case rel => exact ⟨j + 1, f, S', D', by omega, rfl, by go_num, T0.below b9, T1.below b9, row.below b9, z1, HF'.out, hsz, hB.trans (b9.mono hB.size)⟩
            case measure => simp [intOf]; omega
        · have ej : j = le.length := by omega
          subst ej
          obtain ⟨rfl, rfl, rfl⟩ : f = true ∧ S' = S + e.s ∧ D' = D + e.d := by
            rcases HF.out with ⟨h, _⟩ | ⟨_, h⟩
            · omega
            · exact h
          have HPN : Hid (Prc es (way.drop (k + 1)) (s - (S + e.s)) (d - (D + e.d))) := by
            have := HP'.out
            unfold Hid
            rwa [show s - (S + e.s) = s - S - e.s by omega, show d - (D + e.d) = d - D - e.d by omega]
          clear HF HP'
          go_wp2
          go_roundw
          case rel => exact ⟨k + 1, S + e.s, D + e.d, by omega, by go_num, T0, T1, HPN.out, HS.out, hsz, hB⟩
          case measure => simp [intOf]; omega
    · obtain ⟨r1, r2⟩ := HP.out.last (by omega)
      have eS : S = s := by omega
      have eD : D = d := by omega
      subst eS eD
      have c0 := S0.c0
      have c1 := S0.c1
      have c2 := S1.c0
      have c3 := S1.c1
      have ek : ¬ ((k : Int) + 1) < (way.length : Int) := by omega
      clear HP HB r1 r2 S0 S1
      go_wp2
      go_ret
      exact ⟨rfl, hB⟩
end Go.Proofs.YtmnpplkjhnoglaaGreatDoor
