/-
  The walk of 'TopHeap': it returns true for every two lists.
-/
import Derived.Test.YtkaolmblcmbjaabHeapSaysWalk
import Derived.Test.YtkaolmblcmbjaabRPush
import Derived.Deep.RegionHeld3
import Derived.Deep.RegionWith
import Derived.Deep.LoopGhost
namespace Go.Proofs.Ytkaolmblcmbjaab
open Go.RowKit

theorem fault_ok {s d : Int} (h : flt s d = 0) : okC s d := by
  unfold flt at h
  by_cases k : inC s d
  · exact inC_ok k
  · rw [if_neg k] at h; omega
theorem flt_cases (s d : Int) : flt s d = 0 ∨ flt s d = 1 := by
  unfold flt
  by_cases k : inC s d
  · left; rw [if_pos k]
  · right; rw [if_neg k]

/-- costs as values -/
def fv (F : Int → Option (Int × Int)) : Int → Option Value := fun a => (F a).map fun c => .agg #[.int .i64 c.1, .int .i64 c.2]
theorem fv_some {F : Int → Option (Int × Int)} {a s d : Int} (h : F a = some (s, d)) : fv F a = some (.agg #[.int .i64 s, .int .i64 d]) := by unfold fv; rw [h]; rfl
theorem fv_none {F : Int → Option (Int × Int)} {a : Int} (h : F a = none) : fv F a = none := by unfold fv; rw [h]; rfl
theorem fv_put (F : Int → Option (Int × Int)) (a s d : Int) : putF (fv F) a (.agg #[.int .i64 s, .int .i64 d]) = fv (putH F a s d) := by
  funext i
  unfold putF fv putH
  by_cases h : i = a
  · rw [if_pos h, if_pos h]; rfl
  · rw [if_neg h, if_neg h]
theorem fv_del (F : Int → Option (Int × Int)) (a : Int) : delF (fv F) a = fv (delH F a) := by
  funext i
  unfold delF fv delH
  by_cases h : i = a
  · rw [if_pos h, if_pos h]; rfl
  · rw [if_neg h, if_neg h]
theorem Try.under48 : Try.prog.underlying 48 = some (.map 3 31) := by kernel_rfl
theorem zero31 (w : World) : (zeroValue 31).run Try.prog w = .ok (.agg #[.int .i64 0, .int .i64 0]) w := by kernel_rfl

/-- a heap and a map of the same costs -/
structure HM (N : Nat) (w : World) (b mb bb : Nat) (v : Value) (n : Nat) (H : Int → Option (Int × Int)) : Prop where
  hp : HeapAt w b mb v n H
  mp : MapF Try.prog 3 w bb (fv H) n
  f1 : N ≤ b
  f2 : N ≤ mb
  f3 : N ≤ bb
  f4 : ∀ g, v.ownBlock = some g → N ≤ g
  ap : ∀ k, hb3 b mb v k → k ≠ bb
theorem HM.below {N : Nat} {w w' : World} {b mb bb : Nat} {v : Value} {n : Nat} {H : Int → Option (Int × Int)} (h : HM N w b mb bb v n H) (hb : Below w.heap.size w w') : HM N w' b mb bb v n H :=
  ⟨h.hp.below hb, h.mp.keep (F := fun _ => False) (Keep.of_below hb) id, h.f1, h.f2, h.f3, h.f4, h.ap⟩
theorem HM.far {N : Nat} {w : World} {b mb bb : Nat} {v : Value} {n : Nat} {H : Int → Option (Int × Int)} (h : HM N w b mb bb v n H) {k : Nat} (hk : hb3 b mb v k) : N ≤ k := by
  rcases hk with rfl | rfl | hk
  · exact h.f1
  · exact h.f2
  · exact h.f4 k hk

/-- the list of costs that came in -/
def OldCosts (w : World) (A : Option Addr) (n : Nat) (cs : Nat → Int × Int) : Prop := ∀ i, i < n → ∃ b o, A = some ⟨b, o, none⟩ ∧ b < w.heap.size ∧ w.cell? ⟨b, o + i * 2, none⟩ = some (.int .i64 (cs i).1) ∧ w.cell? ⟨b, o + i * 2 + 1, none⟩ = some (.int .i64 (cs i).2)
/-- the list of numbers that came in -/
def OldIds (w : World) (A : Option Addr) (n : Nat) (xs : Nat → Int) : Prop := ∀ i, i < n → ∃ b o, A = some ⟨b, o, none⟩ ∧ b < w.heap.size ∧ w.cell? ⟨b, o + i, none⟩ = some (.int .i64 (xs i)) ∧ (Lit.int .i64 (xs i)).wf = true

theorem drewB {B : Nat} {w w' : World} (h : Below B w w') : Below B w w'.drew := ⟨h.os, h.tape, h.output, h.size, h.block⟩

/-- five numbers in memory -/
def Five (w : World) (p q r x y : Addr) (a s d t u : Int) : Prop :=
  w.cell? p = some (.int .i64 a) ∧ w.cell? q = some (.int .i64 s) ∧ w.cell? r = some (.int .i64 d) ∧ w.cell? x = some (.int .i64 t) ∧ w.cell? y = some (.int .i64 u)
theorem Five.below {w w' : World} {p q r x y : Addr} {a s d t u : Int} (h : Five w p q r x y a s d t u) (hb : Below w.heap.size w w') : Five w' p q r x y a s d t u := by
  obtain ⟨h1, h2, h3, h4, h5⟩ := h
  have k : ∀ {a : Addr} {v : Value}, w.cell? a = some v → w'.cell? a = some v := fun {a v} h => (hb.cell (World.block_lt_of_cell? w a h)).trans h
  exact ⟨k h1, k h2, k h3, k h4, k h5⟩
theorem Five.keep {F : Nat → Prop} {w w' : World} {p q r x y : Addr} {a s d t u : Int} (h : Five w p q r x y a s d t u) (K : Keep F w w') (n1 : ¬ F p.block) (n2 : ¬ F q.block) (n3 : ¬ F r.block) (n4 : ¬ F x.block) (n5 : ¬ F y.block) : Five w' p q r x y a s d t u := by
  obtain ⟨h1, h2, h3, h4, h5⟩ := h
  exact ⟨K.cellOf h1 n1, K.cellOf h2 n2, K.cellOf h3 n3, K.cellOf h4 n4, K.cellOf h5 n5⟩

/-- three numbers in memory -/
def Three (w : World) (p q r : Addr) (a s d : Int) : Prop :=
  w.cell? p = some (.int .i64 a) ∧ w.cell? q = some (.int .i64 s) ∧ w.cell? r = some (.int .i64 d)
theorem Five.three {w : World} {p q r x y : Addr} {a s d t u : Int} (h : Five w p q r x y a s d t u) : Three w p q r a s d := ⟨h.1, h.2.1, h.2.2.1⟩
theorem Three.keep {F : Nat → Prop} {w w' : World} {p q r : Addr} {a s d : Int} (h : Three w p q r a s d) (K : Keep F w w') (n1 : ¬ F p.block) (n2 : ¬ F q.block) (n3 : ¬ F r.block) : Three w' p q r a s d := by
  obtain ⟨h1, h2, h3⟩ := h
  exact ⟨K.cellOf h1 n1, K.cellOf h2 n2, K.cellOf h3 n3⟩

/-- the two behind so many pushes -/
def Filled (w wr : World) (b mb bb k : Nat) : Prop := ∃ v n H, HM w.heap.size wr b mb bb v n H ∧ n ≤ k ∧ Below w.heap.size w wr

theorem filled_new {w w7 w8 w9 : World} {b mb bb m k : Nat} {v v8 : Value} {H : Int → Option (Int × Int)} {a s d : Int} {nn : Nat} (HB : Below w.heap.size w w7) (S : HM w.heap.size w7 b mb bb v m H) (K8 : Keep (hb3 b mb v) w7 w8)
    (h8 : HeapAt w8 b mb v8 (m + 1) (putH H a s d)) (l8 : v8.ownBlock = v.ownBlock ∨ ∃ g, v8.ownBlock = some g ∧ w7.heap.size ≤ g) (M9 : MapF Try.prog 3 w9 bb (fv (putH H a s d)) nn) (K9 : Keep (fun k => k = bb) w8 w9) (hnn : nn = m + 1) (hmk : m ≤ k) :
    Filled w w9 b mb bb (k + 1) := by
  have hz7 := HB.size
  have hz8 := K8.size
  have hbb := S.mp.lt
  subst hnn
  have far8 : ∀ g, v8.ownBlock = some g → w.heap.size ≤ g ∧ g ≠ bb := fun g hg => by
    rcases l8 with l | ⟨g', l, hg'⟩
    · rw [l] at hg
      exact ⟨S.f4 g hg, S.ap g (Or.inr (Or.inr hg))⟩
    · rw [l] at hg; cases hg
      exact ⟨by omega, by omega⟩
  refine ⟨v8, m + 1, putH H a s d, ⟨h8.keep K9 (S.ap _ (Or.inl rfl)) (S.ap _ (Or.inr (Or.inl rfl))) (fun g hg => (far8 g hg).2), M9, S.f1, S.f2, S.f3, fun g hg => (far8 g hg).1, ?_⟩, by omega, ?_⟩
  · rintro i (rfl | rfl | h)
    · exact S.ap _ (Or.inl rfl)
    · exact S.ap _ (Or.inr (Or.inl rfl))
    · exact (far8 i h).2
  · exact (HB.trans (K8.to_below hz7 (fun i hi => S.far hi))).trans (K9.to_below (B := w.heap.size) (by omega) (fun i hi => by rw [hi]; exact S.f3))

theorem filled_less {w w7 w8 w9 : World} {b mb bb m k : Nat} {v : Value} {H : Int → Option (Int × Int)} {a s d : Int} {nn : Nat} (HB : Below w.heap.size w w7) (S : HM w.heap.size w7 b mb bb v m H) (K8 : Keep (hb3 b mb v) w7 w8)
    (h8 : HeapAt w8 b mb v m (putH H a s d)) (M9 : MapF Try.prog 3 w9 bb (fv (putH H a s d)) nn) (K9 : Keep (fun k => k = bb) w8 w9) (hnn : nn = m) (hmk : m ≤ k) :
    Filled w w9 b mb bb (k + 1) := by
  have hz7 := HB.size
  have hz8 := K8.size
  subst hnn
  refine ⟨v, nn, putH H a s d, ⟨h8.keep K9 (S.ap _ (Or.inl rfl)) (S.ap _ (Or.inr (Or.inl rfl))) (fun g hg => S.ap g (Or.inr (Or.inr hg))), M9, S.f1, S.f2, S.f3, S.f4, S.ap⟩, by omega, ?_⟩
  exact (HB.trans (K8.to_below hz7 (fun i hi => S.far hi))).trans (K9.to_below (B := w.heap.size) (by omega) (fun i hi => by rw [hi]; exact S.f3))

/-- a cost in a block of one's own -/
structure FourC (w : World) (B : Nat) (s d : Int) : Prop where
  c0 : w.cell? ⟨B, 0, none⟩ = some (.int .i64 s)
  c1 : w.cell? ⟨B, 1, none⟩ = some (.int .i64 d)
  z0 : w.frozen? ⟨B, 0, none⟩ = false
  z1 : w.frozen? ⟨B, 1, none⟩ = false
theorem FourC.keep {F : Nat → Prop} {w w' : World} {B : Nat} {s d : Int} (h : FourC w B s d) (K : Keep F w w') (hn : ¬ F B) : FourC w' B s d := by
  have hB := World.block_lt_of_cell? w _ h.c0
  exact ⟨K.cellOf h.c0 hn, K.cellOf h.c1 hn, (K.frozen (p := ⟨B, 0, none⟩) hB hn).trans h.z0, (K.frozen (p := ⟨B, 1, none⟩) hB hn).trans h.z1⟩
theorem FourC.below {w w' : World} {B : Nat} {s d : Int} (h : FourC w B s d) (hb : Below w.heap.size w w') : FourC w' B s d := h.keep (F := fun _ => False) (Keep.of_below hb) id
theorem FourC.new (w : World) (s d : Int) : FourC (w.alloc (.cells #[.int .i64 s, .int .i64 d] 31)) w.heap.size s d :=
  ⟨World.cell?_alloc_at #[.int .i64 s, .int .i64 d] 31 w.heap.size 0 rfl, World.cell?_alloc_at #[.int .i64 s, .int .i64 d] 31 w.heap.size 1 rfl, by rw [frozen?_alloc_cells]; simp [World.frozen?], by rw [frozen?_alloc_cells]; simp [World.frozen?]⟩

/-- under way: those that are left, and the one popped last -/
structure Dr (w wr : World) (b mb bb B mm kk : Nat) (id : Int) (v : Value) (H : Int → Option (Int × Int)) (ls ld : Int) : Prop where
  hm : HM w.heap.size wr b mb bb v mm H
  hb : Below w.heap.size w wr
  c0 : wr.cell? ⟨B, 0, none⟩ = some (.int .i64 ls)
  c1 : wr.cell? ⟨B, 1, none⟩ = some (.int .i64 ld)
  z0 : wr.frozen? ⟨B, 0, none⟩ = false
  z1 : wr.frozen? ⟨B, 1, none⟩ = false
  ok : okC ls ld
  far : w.heap.size ≤ B
  nb : ¬ hb3 b mb v B ∧ B ≠ bb
  aft : 0 < kk → ∀ a s d, H a = some (s, d) → bef ⟨id, ls, ld⟩ ⟨a, s, d⟩
  bd : kk + mm ≤ 1000
def Drained (w wr : World) (b mb bb B mm kk : Nat) (id : Int) : Prop := ∃ v H ls ld, Dr w wr b mb bb B mm kk id v H ls ld

theorem drained_start {w w5 : World} {b mb bb m : Nat} {v : Value} {H : Int → Option (Int × Int)} (HB : Below w.heap.size w w5) (S : HM w.heap.size w5 b mb bb v m H) (hm : m ≤ 1000) :
    Drained w (w5.alloc (.cells #[.int .i64 0, .int .i64 0] 31)) b mb bb w5.heap.size m 0 0 := by
  refine ⟨v, H, 0, 0, S.below ((Below.refl _ _).alloc (Nat.le_refl _) _), HB.alloc HB.size _, World.cell?_alloc_at #[.int .i64 0, .int .i64 0] 31 w5.heap.size 0 rfl, World.cell?_alloc_at #[.int .i64 0, .int .i64 0] 31 w5.heap.size 1 rfl, ?_, ?_, by unfold okC; omega, HB.size, ⟨fun h => ?_, fun h => ?_⟩, fun h => by omega, by omega⟩
  · rw [frozen?_alloc_cells]; simp [World.frozen?]
  · rw [frozen?_alloc_cells]; simp [World.frozen?]
  · have := hb3_lt S.hp h; omega
  · have := S.mp.lt; omega

theorem twoCells (w : World) (B : Nat) (s d : Int) {x y : Value} (h0 : w.cell? ⟨B, 0, none⟩ = some x) (h1 : w.cell? ⟨B, 1, none⟩ = some y) :
    ((w.setCell ⟨B, 0, none⟩ (.int .i64 s)).setCell ⟨B, 1, none⟩ (.int .i64 d)).cell? ⟨B, 0, none⟩ = some (.int .i64 s) ∧ ((w.setCell ⟨B, 0, none⟩ (.int .i64 s)).setCell ⟨B, 1, none⟩ (.int .i64 d)).cell? ⟨B, 1, none⟩ = some (.int .i64 d) := by
  constructor
  · rw [World.cell?_setCell_other _ _ _ _ (by intro e; cases e)]; exact World.cell?_setCell_same _ _ _ h0
  · refine World.cell?_setCell_same _ _ _ (u := y) ?_
    rw [World.cell?_setCell_other _ _ _ _ (by intro e; cases e)]; exact h1

theorem drained_next {w wr wx w9 : World} {b mb bb B m1 kk : Nat} {id a s d ls ld : Int} {v v6 : Value} {H : Int → Option (Int × Int)} (D : Dr w wr b mb bb B (m1 + 1) kk id v H ls ld) (hmin : ∀ a' s' d', H a' = some (s', d') → ¬ bef ⟨a', s', d'⟩ ⟨a, s, d⟩)
    (h7 : HeapAt wx b mb v6 m1 (delH H a)) (l6 : v6.ownBlock = v.ownBlock) (K7 : Keep (hb3 b mb v) wr wx) (M9 : MapF Try.prog 3 w9 bb (fv (delH H a)) m1) (K9 : Keep (fun k => k = bb) wx w9) (F9 : FourC w9 B ls ld) (hok : okC s d) :
    Drained w ((w9.setCell ⟨B, 0, none⟩ (.int .i64 s)).setCell ⟨B, 1, none⟩ (.int .i64 d)) b mb bb B m1 (kk + 1) a := by
  have hBne := D.nb.2
  have hB9 : B < w9.heap.size := World.block_lt_of_cell? w9 _ F9.c0
  have K : Keep (fun k => k = B) w9 ((w9.setCell ⟨B, 0, none⟩ (.int .i64 s)).setCell ⟨B, 1, none⟩ (.int .i64 d)) := ((Keep.refl (fun k => k = B) w9).setCell (p := ⟨B, 0, none⟩) (fun _ => rfl) _).setCell (p := ⟨B, 1, none⟩) (fun _ => rfl) _
  have hz := D.hb.size
  have hz7 := K7.size
  have hz9 := K9.size
  have eh : ∀ k, hb3 b mb v6 k → hb3 b mb v k := by
    rintro k (h | h | h)
    · exact Or.inl h
    · exact Or.inr (Or.inl h)
    · exact Or.inr (Or.inr (by rw [← l6]; exact h))
  have r0 := twoCells w9 B s d F9.c0 F9.c1
  have h9 : HeapAt w9 b mb v6 m1 (delH H a) := h7.keep K9 (D.hm.ap _ (Or.inl rfl)) (D.hm.ap _ (Or.inr (Or.inl rfl))) (fun g hg => D.hm.ap g (eh g (Or.inr (Or.inr hg))))
  have nbB : ¬ hb3 b mb v6 B := fun h => D.nb.1 (eh B h)
  refine ⟨v6, delH H a, s, d, ⟨⟨h9.keep K (fun e => nbB (Or.inl e.symm)) (fun e => nbB (Or.inr (Or.inl e.symm))) (fun g hg e => nbB (Or.inr (Or.inr (by rw [← e]; exact hg)))), M9.keep K (fun e => hBne e.symm), D.hm.f1, D.hm.f2, D.hm.f3, fun g hg => D.hm.f4 g (by rw [← l6]; exact hg), fun k hk => D.hm.ap k (eh k hk)⟩, ?_, r0.1, r0.2, ?_, ?_, hok, D.far, ⟨nbB, hBne⟩, fun _ a' s' d' h => ?_, by have := D.bd; omega⟩⟩
  · exact ((D.hb.trans (K7.to_below hz (fun i hi => D.hm.far hi))).trans (K9.to_below (B := w.heap.size) (by omega) (fun i hi => by rw [hi]; exact D.hm.f3))).trans (K.to_below (B := w.heap.size) (by omega) (fun i hi => by rw [hi]; exact D.far))
  · simpa using F9.z0
  · simpa using F9.z1
  · unfold delH at h
    split at h
    · cases h
    · rename_i e
      have := hmin a' s' d' h
      unfold bef Item.v at *
      simp only at *
      omega

set_option maxHeartbeats 8000000 in
set_option maxRecDepth 1000000 in
theorem topHeap_any (A : Option Addr) (n cap : Nat) (xs : Nat → Int) (A' : Option Addr) (n' cap' : Nat) (cs : Nat → Int × Int) (w : World) (hm : n ≤ maxLen) (hm' : n' ≤ maxLen) (hx : OldIds w A n xs) (hc : OldCosts w A' n' cs) :
    Calls Try.prog 4 #[.slice A n cap, .slice A' n' cap'] w fun e w' => e = .returned (.bool true) ∧ Below w.heap.size w w' := by
  unfold maxLen at hm hm'
  have k1 : okC 5 0 := by unfold okC; omega
  have wf1 : (Lit.int .i64 1).wf = true := by decide
  go_enter Try.func4, Try.ntmps4
  go_wp2_with fail
  refine (new_any _).mono ?_
  rintro e w1 ⟨rfl, h1, hb1, hs1⟩
  go_wp2_with fail
  refine (push_new 1 5 0 _ h1 rfl k1 wf1 (by omega)).mono ?_
  rintro e w2 ⟨rfl, ⟨v2, h2, l2⟩, K2⟩
  go_wp2_with fail
  refine (len_any _ h2).mono ?_
  rintro e w3 ⟨rfl, rfl⟩
  have HB2 : Below w.heap.size w w3 := hb1.trans (K2.to_below (B := w.heap.size) hb1.size (by
    rintro k (rfl | rfl | h)
    · omega
    · omega
    · cases h))
  clear h1 h2 K2 l2 hb1 hs1
  by_cases hbig : 120 < (n : Int)
  · go_wp2
    go_ret
    exact ⟨rfl, HB2⟩
  · by_cases hbig' : 120 < (n' : Int)
    · go_wp2
      go_ret
      exact ⟨rfl, HB2⟩
    · go_wp2_with fail
      refine (new_any _).mono ?_
      rintro e w4 ⟨rfl, h4, hb4, hs4⟩
      have hmm := @run_makeMap Try.prog
      have HB4 : Below w.heap.size w (w4.alloc (.map #[] 0)) := (HB2.trans (hb4.mono HB2.size)).alloc (HB2.trans (hb4.mono HB2.size)).size _
      have hst : Filled w (w4.alloc (.map #[] 0)) (w3.heap.size + 1) w3.heap.size (w3.heap.size + 2) 0 := by
        have hz := HB2.size
        refine ⟨_, 0, _, ⟨h4.below ((Below.refl _ _).alloc (Nat.le_refl _) _), ?_, by omega, hz, by omega, fun g hg => (by cases hg), ?_⟩, Nat.le_refl _, HB4⟩
        · have := MapF.made w4 Try.prog 3
          rw [hs4] at this
          exact this
        · rintro k (rfl | rfl | h)
          · omega
          · omega
          · cases h
      go_wp2
      clear hmm h4 hb4 HB4 HB2
      generalize w3.heap.size + 1 = b at *
      generalize w3.heap.size + 2 = bb at *
      generalize w3.heap.size = mb at *
      generalize w4.alloc (.map #[] 0) = W4 at *
      clear hs4
      go_loopg [8] n (fun g i wr => ∃ k : Nat, k ≤ n ∧ g = n - k ∧ i = .int .i64 k ∧ Filled w wr b mb bb k)
      case atStart => exact ⟨0, Nat.zero_le _, rfl, rfl, hst⟩
      case round =>
        clear hst
        obtain ⟨k, hk, hg, rfl, v, m, H, S, hmk, HB⟩ := hrel
        have HG : Hid (gk = n - k) := hg
        clear hg
        by_cases hlt : k < n ∧ k < n'
        · obtain ⟨hlt1, hlt2⟩ := hlt
          have l1 : (k : Int) < (n : Int) := by omega
          have l2 : (k : Int) < (n' : Int) := by omega
          have l0 : (0 : Int) ≤ (k : Int) := by omega
          obtain ⟨bi, oi, rfl, hbi, ci, hwf⟩ := hx k hlt1
          obtain ⟨bc, oc, rfl, hbc, c0, c1⟩ := hc k hlt2
          have ci := (HB.cell (p := ⟨bi, oi + k, none⟩) hbi).trans ci
          have c0 := (HB.cell (p := ⟨bc, oc + k * 2, none⟩) hbc).trans c0
          have c1 := (HB.cell (p := ⟨bc, oc + k * 2 + 1, none⟩) hbc).trans c1
          generalize xs k = a at *
          generalize cs k = sd at *
          obtain ⟨s, d⟩ := sd
          rcases flt_cases s d with hf | hf
          · have hok := fault_ok hf
            cases ha : H a with
            | none =>
              go_wp2_with (go_at_call 7; refine (fault_v hf _).mono ?_; rintro e w5 ⟨rfl, hb5⟩; have S5 := S.below hb5; have ci := (hb5.cell (p := ⟨bi, oi + k, none⟩) (Nat.lt_of_lt_of_le hbi HB.size)).trans ci; have c0 := (hb5.cell (p := ⟨bc, oc + k * 2, none⟩) (Nat.lt_of_lt_of_le hbc HB.size)).trans c0; have c1 := (hb5.cell (p := ⟨bc, oc + k * 2 + 1, none⟩) (Nat.lt_of_lt_of_le hbc HB.size)).trans c1; have hl5 := S5.mp.look_none law3 Try.under48 (zero31 _) hwf (fv_none ha) true)
              have hb6 : Below w5.heap.size w5 (w5.alloc (.cells #[.int .i64 0, .int .i64 0] 31)) := (Below.refl _ _).alloc (Nat.le_refl _) _
              have HB6 : Below w.heap.size w (w5.alloc (.cells #[.int .i64 0, .int .i64 0] 31)) := (HB.trans (hb5.mono HB.size)).alloc (HB.trans (hb5.mono HB.size)).size _
              have S6 := S5.below hb6
              have C6 : Five (w5.alloc (.cells #[.int .i64 0, .int .i64 0] 31)) ⟨bi, oi + k, none⟩ ⟨bc, oc + k * 2, none⟩ ⟨bc, oc + k * 2 + 1, none⟩ ⟨w5.heap.size, 0, none⟩ ⟨w5.heap.size, 1, none⟩ a s d 0 0 :=
                ⟨(hb6.cell (World.block_lt_of_cell? w5 _ ci)).trans ci, (hb6.cell (World.block_lt_of_cell? w5 _ c0)).trans c0, (hb6.cell (World.block_lt_of_cell? w5 _ c1)).trans c1, World.cell?_alloc_at (w := w5) #[.int .i64 0, .int .i64 0] 31 w5.heap.size 0 rfl, World.cell?_alloc_at (w := w5) #[.int .i64 0, .int .i64 0] 31 w5.heap.size 1 rfl⟩
              clear hb6 S S5 ci c0 c1 hb5 hl5 HB
              generalize w5.heap.size = B9 at *
              generalize w5.alloc (.cells #[.int .i64 0, .int .i64 0] 31) = W6 at *
              go_quiet (fail)
              have C6 : Three (W6.drewN nq) ⟨bi, oi + k, none⟩ ⟨bc, oc + k * 2, none⟩ ⟨bc, oc + k * 2 + 1, none⟩ a s d := C6.three
              have S6 : HM w.heap.size (W6.drewN nq) b mb bb v m H := S6.below (below_drewN (Below.refl _ _) _)
              have HB6 : Below w.heap.size w (W6.drewN nq) := below_drewN HB6 _
              generalize W6.drewN nq = W7 at *
              have C6 : Three W7.drew ⟨bi, oi + k, none⟩ ⟨bc, oc + k * 2, none⟩ ⟨bc, oc + k * 2 + 1, none⟩ a s d := C6
              have S6 : HM w.heap.size W7.drew b mb bb v m H := S6.below (drewB (Below.refl _ _))
              have HB6 : Below w.heap.size w W7.drew := drewB HB6
              have hnf : ∀ i, i < w.heap.size → ¬ hb3 b mb v i := fun i hi h => by have := S6.far h; omega
              have hnb : ¬ hb3 b mb v bb := fun h => S6.ap bb h rfl
              go_wp2
              go_region_held3 (fun w' => w'.cell? ⟨bi, oi + k, none⟩ = some (.int .i64 a) ∧ w'.cell? ⟨bc, oc + k * 2, none⟩ = some (.int .i64 s) ∧ w'.cell? ⟨bc, oc + k * 2 + 1, none⟩ = some (.int .i64 d)) (first | (exact C6)) (first | (go_at_call 10; refine (push_new a s d _ S6.hp ha hok hwf (by omega)).mono ?_; rintro e w8 ⟨rfl, ⟨v8, h8, l8⟩, K8⟩; have C6 := C6.keep K8 (hnf _ hbi) (hnf _ hbc) (hnf _ hbc); have mp8 := S6.mp.keep K8 hnb))
              obtain ⟨d0, d1, d2⟩ := C6
              have hz8 := K8.size
              obtain ⟨w9, hrun, M9, T9⟩ := (mp8.kept (w' := w8.drew) rfl).store law3 Try.under48 (by unfold maxLen; omega) hwf (.agg #[.int .i64 s, .int .i64 d])
              rw [fv_put] at M9
              have K9 : Keep (fun k => k = bb) w8 w9 := (Keep.refl (fun k => k = bb) w8).drew.trans (turned_keep T9) (fun _ _ h => h)
              have HF : Filled w w9 b mb bb (k + 1) := filled_new HB6 S6 K8 h8 l8 M9 K9 (by rw [fv_none ha]; rfl) hmk
              clear M9 T9 K9 mp8 HB6 S6
              go_wp2
              go_region
              clear hrun
              go_wp2
              go_roundg (n - (k + 1))
              case measure => have := HG.out; omega
              case rel => exact ⟨k + 1, by omega, rfl, by go_num, HF⟩
            | some tu =>
              obtain ⟨t, u⟩ := tu
              have hok2 := (S.hp.fits ha).1
              have hcv := cmpC_val' s d t u hok hok2
              go_wp2_with (go_at_call 7; refine (fault_v hf _).mono ?_; rintro e w5 ⟨rfl, hb5⟩; have S5 := S.below hb5; have ci := (hb5.cell (p := ⟨bi, oi + k, none⟩) (Nat.lt_of_lt_of_le hbi HB.size)).trans ci; have c0 := (hb5.cell (p := ⟨bc, oc + k * 2, none⟩) (Nat.lt_of_lt_of_le hbc HB.size)).trans c0; have c1 := (hb5.cell (p := ⟨bc, oc + k * 2 + 1, none⟩) (Nat.lt_of_lt_of_le hbc HB.size)).trans c1; have hl5 := S5.mp.look_some law3 Try.under48 (zero31 _) hwf (fv_some ha) true)
              have hb6 : Below w5.heap.size w5 (w5.alloc (.cells #[.int .i64 t, .int .i64 u] 31)) := (Below.refl _ _).alloc (Nat.le_refl _) _
              have HB6 : Below w.heap.size w (w5.alloc (.cells #[.int .i64 t, .int .i64 u] 31)) := (HB.trans (hb5.mono HB.size)).alloc (HB.trans (hb5.mono HB.size)).size _
              have S6 := S5.below hb6
              have C6 : Five (w5.alloc (.cells #[.int .i64 t, .int .i64 u] 31)) ⟨bi, oi + k, none⟩ ⟨bc, oc + k * 2, none⟩ ⟨bc, oc + k * 2 + 1, none⟩ ⟨w5.heap.size, 0, none⟩ ⟨w5.heap.size, 1, none⟩ a s d t u :=
                ⟨(hb6.cell (World.block_lt_of_cell? w5 _ ci)).trans ci, (hb6.cell (World.block_lt_of_cell? w5 _ c0)).trans c0, (hb6.cell (World.block_lt_of_cell? w5 _ c1)).trans c1, World.cell?_alloc_at (w := w5) #[.int .i64 t, .int .i64 u] 31 w5.heap.size 0 rfl, World.cell?_alloc_at (w := w5) #[.int .i64 t, .int .i64 u] 31 w5.heap.size 1 rfl⟩
              clear hb6 S S5 ci c0 c1 hb5 hl5 HB
              generalize w5.heap.size = B9 at *
              generalize w5.alloc (.cells #[.int .i64 t, .int .i64 u] 31) = W6 at *
              have C6 : Five W6.drew ⟨bi, oi + k, none⟩ ⟨bc, oc + k * 2, none⟩ ⟨bc, oc + k * 2 + 1, none⟩ ⟨B9, 0, none⟩ ⟨B9, 1, none⟩ a s d t u := C6
              have S6 : HM w.heap.size W6.drew b mb bb v m H := S6.below (drewB (Below.refl _ _))
              have HB6 : Below w.heap.size w W6.drew := drewB HB6
              by_cases hv : val s d < val t u
              · have hlt : cmpC s d t u < 0 := by rw [hcv, cmpI_neg]; exact hv
                have hcc := fun w => rcmp_v (s := s) (d := d) (t := t) (u := u) rfl w hok hok2
                clear hcv
                generalize cmpC s d t u = cr at *
                go_region_held3 (fun w' => w'.cell? ⟨bi, oi + k, none⟩ = some (.int .i64 a) ∧ w'.cell? ⟨bc, oc + k * 2, none⟩ = some (.int .i64 s) ∧ w'.cell? ⟨bc, oc + k * 2 + 1, none⟩ = some (.int .i64 d) ∧ w'.cell? ⟨B9, 0, none⟩ = some (.int .i64 t) ∧ w'.cell? ⟨B9, 1, none⟩ = some (.int .i64 u)) (first | (exact C6)) (first | (go_at_call 14; refine (hcc _).mono ?_; rintro e wx ⟨rfl, hbx⟩; have C6 := C6.below hbx; have S6 := S6.below hbx; have HB6 := HB6.trans (hbx.mono HB6.size)))
                clear hcc
                have C6 := C6.three
                generalize wx = W7 at *
                have C6 : Three W7.drew ⟨bi, oi + k, none⟩ ⟨bc, oc + k * 2, none⟩ ⟨bc, oc + k * 2 + 1, none⟩ a s d := C6
                have S6 : HM w.heap.size W7.drew b mb bb v m H := S6.below (drewB (Below.refl _ _))
                have HB6 : Below w.heap.size w W7.drew := drewB HB6
                have hnf : ∀ i, i < w.heap.size → ¬ hb3 b mb v i := fun i hi h => by have := S6.far h; omega
                have hnb : ¬ hb3 b mb v bb := fun h => S6.ap bb h rfl
                go_wp2
                go_region_held3 (fun w' => w'.cell? ⟨bi, oi + k, none⟩ = some (.int .i64 a) ∧ w'.cell? ⟨bc, oc + k * 2, none⟩ = some (.int .i64 s) ∧ w'.cell? ⟨bc, oc + k * 2 + 1, none⟩ = some (.int .i64 d)) (first | (exact C6)) (first | (go_at_call 10; refine (push_less a s d t u _ S6.hp ha hok hv).mono ?_; rintro e w8 ⟨rfl, h8, K8⟩; have C6 := C6.keep K8 (hnf _ hbi) (hnf _ hbc) (hnf _ hbc); have mp8 := S6.mp.keep K8 hnb))
                obtain ⟨d0, d1, d2⟩ := C6
                have hz8 := K8.size
                obtain ⟨w9, hrun, M9, T9⟩ := (mp8.kept (w' := w8.drew) rfl).store law3 Try.under48 (by unfold maxLen; omega) hwf (.agg #[.int .i64 s, .int .i64 d])
                rw [fv_put] at M9
                have K9 : Keep (fun k => k = bb) w8 w9 := (Keep.refl (fun k => k = bb) w8).drew.trans (turned_keep T9) (fun _ _ h => h)
                have HF : Filled w w9 b mb bb (k + 1) := filled_less HB6 S6 K8 h8 M9 K9 (by rw [fv_some ha]; rfl) hmk
                clear M9 T9 K9 mp8 HB6 S6
                go_wp2
                go_region
                clear hrun
                go_wp2
                go_roundg (n - (k + 1))
                case measure => have := HG.out; omega
                case rel => exact ⟨k + 1, by omega, rfl, by go_num, HF⟩
              · have hlt : ¬ cmpC s d t u < 0 := by rw [hcv, cmpI_neg]; exact hv
                have hcc := fun w => rcmp_v (s := s) (d := d) (t := t) (u := u) rfl w hok hok2
                clear hcv
                generalize cmpC s d t u = cr at *
                go_region_held3 (fun w' => w'.cell? ⟨bi, oi + k, none⟩ = some (.int .i64 a) ∧ w'.cell? ⟨bc, oc + k * 2, none⟩ = some (.int .i64 s) ∧ w'.cell? ⟨bc, oc + k * 2 + 1, none⟩ = some (.int .i64 d) ∧ w'.cell? ⟨B9, 0, none⟩ = some (.int .i64 t) ∧ w'.cell? ⟨B9, 1, none⟩ = some (.int .i64 u)) (first | (exact C6)) (first | (go_at_call 14; refine (hcc _).mono ?_; rintro e wx ⟨rfl, hbx⟩; have C6 := C6.below hbx; have S6 := S6.below hbx; have HB6 := HB6.trans (hbx.mono HB6.size)))
                clear hcc
                have C6 := C6.three
                generalize wx = W7 at *
                have C6 : Three W7.drew ⟨bi, oi + k, none⟩ ⟨bc, oc + k * 2, none⟩ ⟨bc, oc + k * 2 + 1, none⟩ a s d := C6
                have S6 : HM w.heap.size W7.drew b mb bb v m H := S6.below (drewB (Below.refl _ _))
                have HB6 : Below w.heap.size w W7.drew := drewB HB6
                have hnf : ∀ i, i < w.heap.size → ¬ hb3 b mb v i := fun i hi h => by have := S6.far h; omega
                have hnb : ¬ hb3 b mb v bb := fun h => S6.ap bb h rfl
                go_wp2
                go_region_held3 (fun w' => w'.cell? ⟨bi, oi + k, none⟩ = some (.int .i64 a) ∧ w'.cell? ⟨bc, oc + k * 2, none⟩ = some (.int .i64 s) ∧ w'.cell? ⟨bc, oc + k * 2 + 1, none⟩ = some (.int .i64 d)) (first | (exact C6)) (first | (go_at_call 10; refine (push_no a s d t u _ S6.hp ha hok (Int.not_lt.mpr hv)).mono ?_; rintro e w8 ⟨rfl, hb8⟩; have C6 := C6.keep (F := fun _ => False) (Keep.of_below hb8) id id id))
                have HF : Filled w w8 b mb bb (k + 1) := ⟨v, m, H, S6.below hb8, by omega, HB6.trans (hb8.mono HB6.size)⟩
                clear C6 S6 hb8 HB6
                go_wp2
                go_roundg (n - (k + 1))
                case measure => have := HG.out; omega
                case rel => exact ⟨k + 1, by omega, rfl, by go_num, HF⟩
          · go_wp2_with (go_at_call 7; refine (fault_v hf _).mono ?_; rintro e w5 ⟨rfl, hb5⟩)
            go_ret
            exact ⟨rfl, HB.trans (hb5.mono HB.size)⟩
        · have hnl : (decide ((k : Int) < (n : Int)) && decide ((k : Int) < (n' : Int))) = false := by
            rw [Bool.and_eq_false_iff]
            by_cases h : k < n
            · exact Or.inr (decide_eq_false (by omega))
            · exact Or.inl (decide_eq_false (by omega))
          have hlen := fun ty => S.mp.len Try.under48 ty
          by_cases hkn : (k : Int) < (n : Int)
          · have hkn' : ¬ (k : Int) < (n' : Int) := by omega
            go_wp2_with (go_at_call 13; refine (len_any _ S.hp).mono ?_; rintro e w5 ⟨rfl, rfl⟩)
            have hst := drained_start HB S (by omega)
            clear hlen S HB hx hc hnl
            generalize hB12 : w5.heap.size = B12 at *
            generalize w5.alloc (.cells #[.int .i64 0, .int .i64 0] 31) = W5 at *
            go_loopg [13, 14] m (fun g idv kv wr => ∃ (mm kk : Nat) (id : Int), g = mm ∧ idv = .int .i64 id ∧ kv = .int .i64 kk ∧ Drained w wr b mb bb B12 mm kk id)
            case atStart => exact ⟨m, 0, 0, rfl, rfl, rfl, hst⟩
            case round =>
              clear hst
              obtain ⟨mm, kk, idn, hgm, rfl, rfl, v2, H2, ls, ld, D⟩ := hrel
              have HG2 : Hid (gk = mm) := hgm
              clear hgm
              cases mm with
              | zero =>
                go_wp2_with (go_at_call 8; refine (pop_none _ D.hm.hp).mono ?_; rintro e w6 ⟨rfl, hb6⟩; have hl6 := fun ty => ((D.hm.below hb6).below ((Below.refl w6.heap.size w6).alloc (Nat.le_refl _) (.cells #[.int .i64 0, .int .i64 0] 31))).mp.len Try.under48 ty)
                go_ret
                exact ⟨rfl, (D.hb.trans (hb6.mono D.hb.size)).alloc (D.hb.trans (hb6.mono D.hb.size)).size _⟩
              | succ m1 =>
                go_wp2_with fail
                refine (pop_one _ D.hm.hp).mono ?_
                rintro e w6 ⟨a, s, d, rfl, hHa, hmin, ⟨v6, h6, l6⟩, K6⟩
                have z6 := K6.size
                have hok6 := (D.hm.hp.fits hHa).1
                have hwf6 := (D.hm.hp.fits hHa).2.1
                have F6 : FourC w6 B12 ls ld := FourC.keep ⟨D.c0, D.c1, D.z0, D.z1⟩ K6 D.nb.1
                have M6 : MapF Try.prog 3 w6 bb (fv H2) (m1 + 1) := D.hm.mp.keep K6 (fun h => D.hm.ap bb h rfl)
                have hbA : Below w6.heap.size w6 (w6.alloc (.cells #[.int .i64 s, .int .i64 d] 31)) := (Below.refl _ _).alloc (Nat.le_refl _) _
                have MA : MapF Try.prog 3 (w6.alloc (.cells #[.int .i64 s, .int .i64 d] 31)) bb (fv H2) (m1 + 1) := M6.keep (F := fun _ => False) (Keep.of_below hbA) id
                have hl6 := MA.look_some law3 Try.under48 (zero31 _) hwf6 (fv_some hHa) true
                have p0 := F6.c0
                have p1 := F6.c1
                have hBl : B12 < w6.heap.size := World.block_lt_of_cell? w6 _ F6.c0
                go_wp2_with fail
                have hbB : Below w6.heap.size w6 ((w6.alloc (.cells #[.int .i64 s, .int .i64 d] 31)).alloc (.cells #[.int .i64 s, .int .i64 d] 31)) := hbA.alloc hbA.size _
                have FA := F6.below hbB
                have FC := (FourC.new w6 s d).below ((Below.refl _ _).alloc (Nat.le_refl _) (.cells #[.int .i64 s, .int .i64 d] 31))
                have FW := FourC.new (w6.alloc (.cells #[.int .i64 s, .int .i64 d] 31)) s d
                have eS : (w6.alloc (.cells #[.int .i64 s, .int .i64 d] 31)).heap.size = w6.heap.size + 1 := by simp
                rw [eS] at FW
                have MB : MapF Try.prog 3 ((w6.alloc (.cells #[.int .i64 s, .int .i64 d] 31)).alloc (.cells #[.int .i64 s, .int .i64 d] 31)) bb (fv H2) (m1 + 1) := M6.keep (F := fun _ => False) (Keep.of_below hbB) id
                have n16 : w6.heap.size ≠ bb ∧ w6.heap.size ≠ B12 := ⟨by have := M6.lt; omega, by have := World.block_lt_of_cell? w6 _ F6.c0; simp only at this; omega⟩
                have hcc := fun w => rcmp_v (s := ls) (d := ld) (t := s) (u := d) rfl w D.ok hok6
                refine (hcc _).mono ?_
                clear hcc
                rintro e wx ⟨rfl, hbx⟩
                have FA := FA.below hbx
                have FC := FC.below hbx
                have FW := FW.below hbx
                have MX := MB.keep (F := fun _ => False) (Keep.of_below hbx) id
                have K7 : Keep (hb3 b mb v2) wr wx := (K6.below hbB).below hbx
                have h7 := (h6.below hbB).below hbx
                obtain ⟨w9, hrun, M9, T9⟩ := MX.drop law3 Try.under48 hwf6 0
                have em : (if (fv H2 a).isSome then m1 + 1 - 1 else m1 + 1) = m1 := by rw [fv_some hHa]; rfl
                rw [em, fv_del] at M9
                have K9 := turned_keep T9
                have F9 := FA.keep K9 D.nb.2
                have G9 := FC.keep K9 n16.1
                have HD : Drained w ((w9.setCell ⟨B12, 0, none⟩ (.int .i64 s)).setCell ⟨B12, 1, none⟩ (.int .i64 d)) b mb bb B12 m1 (kk + 1) a := drained_next D hmin h7 l6 K7 M9 K9 F9 hok6
                have hcv6 := cmpC_val' ls ld s d D.ok hok6
                have haft := D.aft
                have hbd := D.bd
                obtain ⟨a0, a1, a2, a3⟩ := FA
                obtain ⟨e0, e1, _, _⟩ := FC
                obtain ⟨g0, g1, _, _⟩ := FW
                obtain ⟨i0, i1, i2, i3⟩ := F9
                obtain ⟨j0, j1, _, _⟩ := G9
                clear p0 p1 hBl M9 K9 T9 MX MB MA M6 hl6 hbA hbB F6 h6 h7 K6 K7 hmin D eS hbx l6
                generalize hB16 : w6.heap.size = B16 at *
                have hne : ¬ B12 = B16 := fun e => n16.2 e.symm
                by_cases hk0 : 0 < kk
                · have hk1 : (0 : Int) < (kk : Int) := by omega
                  have hbef := haft hk0 a s d hHa
                  unfold bef Item.v at hbef
                  simp only at hbef
                  by_cases hc0 : cmpC ls ld s d = 0
                  · have hid : idn < a := by rw [hcv6, cmpI_zero] at hc0; omega
                    have hid' : ¬ a ≤ idn := by omega
                    rw [hc0]
                    clear hbef hc0
                    clear hcv6
                    go_wp2
                    go_roundg m1
                    case measure => have := HG2.out; omega
                    case rel => exact ⟨m1, kk + 1, a, rfl, rfl, by go_num, HD⟩
                  · have hcn : ¬ 0 < cmpC ls ld s d := by
                      intro h
                      have h2 := cmpI_swap (val ls ld) (val s d)
                      rw [← hcv6] at h2
                      have h3 := (cmpI_neg (val s d) (val ls ld)).mp (by omega)
                      omega
                    generalize cmpC ls ld s d = cr at *
                    clear hbef
                    clear hcv6
                    go_wp2
                    go_roundg m1
                    case measure => have := HG2.out; omega
                    case rel => exact ⟨m1, kk + 1, a, rfl, rfl, by go_num, HD⟩
                · have hk1 : ¬ (0 : Int) < (kk : Int) := by omega
                  · generalize cmpC ls ld s d = cr at *
                    clear hcv6
                    go_wp2
                    go_roundg m1
                    case measure => have := HG2.out; omega
                    case rel => exact ⟨m1, kk + 1, a, rfl, rfl, by go_num, HD⟩
          · go_wp2_with (go_at_call 13; refine (len_any _ S.hp).mono ?_; rintro e w5 ⟨rfl, rfl⟩)
            have hst := drained_start HB S (by omega)
            clear hlen S HB hx hc hnl
            generalize hB12 : w5.heap.size = B12 at *
            generalize w5.alloc (.cells #[.int .i64 0, .int .i64 0] 31) = W5 at *
            go_loopg [13, 14] m (fun g idv kv wr => ∃ (mm kk : Nat) (id : Int), g = mm ∧ idv = .int .i64 id ∧ kv = .int .i64 kk ∧ Drained w wr b mb bb B12 mm kk id)
            case atStart => exact ⟨m, 0, 0, rfl, rfl, rfl, hst⟩
            case round =>
              clear hst
              obtain ⟨mm, kk, idn, hgm, rfl, rfl, v2, H2, ls, ld, D⟩ := hrel
              have HG2 : Hid (gk = mm) := hgm
              clear hgm
              cases mm with
              | zero =>
                go_wp2_with (go_at_call 8; refine (pop_none _ D.hm.hp).mono ?_; rintro e w6 ⟨rfl, hb6⟩; have hl6 := fun ty => ((D.hm.below hb6).below ((Below.refl w6.heap.size w6).alloc (Nat.le_refl _) (.cells #[.int .i64 0, .int .i64 0] 31))).mp.len Try.under48 ty)
                go_ret
                exact ⟨rfl, (D.hb.trans (hb6.mono D.hb.size)).alloc (D.hb.trans (hb6.mono D.hb.size)).size _⟩
              | succ m1 =>
                go_wp2_with fail
                refine (pop_one _ D.hm.hp).mono ?_
                rintro e w6 ⟨a, s, d, rfl, hHa, hmin, ⟨v6, h6, l6⟩, K6⟩
                have z6 := K6.size
                have hok6 := (D.hm.hp.fits hHa).1
                have hwf6 := (D.hm.hp.fits hHa).2.1
                have F6 : FourC w6 B12 ls ld := FourC.keep ⟨D.c0, D.c1, D.z0, D.z1⟩ K6 D.nb.1
                have M6 : MapF Try.prog 3 w6 bb (fv H2) (m1 + 1) := D.hm.mp.keep K6 (fun h => D.hm.ap bb h rfl)
                have hbA : Below w6.heap.size w6 (w6.alloc (.cells #[.int .i64 s, .int .i64 d] 31)) := (Below.refl _ _).alloc (Nat.le_refl _) _
                have MA : MapF Try.prog 3 (w6.alloc (.cells #[.int .i64 s, .int .i64 d] 31)) bb (fv H2) (m1 + 1) := M6.keep (F := fun _ => False) (Keep.of_below hbA) id
                have hl6 := MA.look_some law3 Try.under48 (zero31 _) hwf6 (fv_some hHa) true
                have p0 := F6.c0
                have p1 := F6.c1
                have hBl : B12 < w6.heap.size := World.block_lt_of_cell? w6 _ F6.c0
                go_wp2_with fail
                have hbB : Below w6.heap.size w6 ((w6.alloc (.cells #[.int .i64 s, .int .i64 d] 31)).alloc (.cells #[.int .i64 s, .int .i64 d] 31)) := hbA.alloc hbA.size _
                have FA := F6.below hbB
                have FC := (FourC.new w6 s d).below ((Below.refl _ _).alloc (Nat.le_refl _) (.cells #[.int .i64 s, .int .i64 d] 31))
                have FW := FourC.new (w6.alloc (.cells #[.int .i64 s, .int .i64 d] 31)) s d
                have eS : (w6.alloc (.cells #[.int .i64 s, .int .i64 d] 31)).heap.size = w6.heap.size + 1 := by simp
                rw [eS] at FW
                have MB : MapF Try.prog 3 ((w6.alloc (.cells #[.int .i64 s, .int .i64 d] 31)).alloc (.cells #[.int .i64 s, .int .i64 d] 31)) bb (fv H2) (m1 + 1) := M6.keep (F := fun _ => False) (Keep.of_below hbB) id
                have n16 : w6.heap.size ≠ bb ∧ w6.heap.size ≠ B12 := ⟨by have := M6.lt; omega, by have := World.block_lt_of_cell? w6 _ F6.c0; simp only at this; omega⟩
                have hcc := fun w => rcmp_v (s := ls) (d := ld) (t := s) (u := d) rfl w D.ok hok6
                refine (hcc _).mono ?_
                clear hcc
                rintro e wx ⟨rfl, hbx⟩
                have FA := FA.below hbx
                have FC := FC.below hbx
                have FW := FW.below hbx
                have MX := MB.keep (F := fun _ => False) (Keep.of_below hbx) id
                have K7 : Keep (hb3 b mb v2) wr wx := (K6.below hbB).below hbx
                have h7 := (h6.below hbB).below hbx
                obtain ⟨w9, hrun, M9, T9⟩ := MX.drop law3 Try.under48 hwf6 0
                have em : (if (fv H2 a).isSome then m1 + 1 - 1 else m1 + 1) = m1 := by rw [fv_some hHa]; rfl
                rw [em, fv_del] at M9
                have K9 := turned_keep T9
                have F9 := FA.keep K9 D.nb.2
                have G9 := FC.keep K9 n16.1
                have HD : Drained w ((w9.setCell ⟨B12, 0, none⟩ (.int .i64 s)).setCell ⟨B12, 1, none⟩ (.int .i64 d)) b mb bb B12 m1 (kk + 1) a := drained_next D hmin h7 l6 K7 M9 K9 F9 hok6
                have hcv6 := cmpC_val' ls ld s d D.ok hok6
                have haft := D.aft
                have hbd := D.bd
                obtain ⟨a0, a1, a2, a3⟩ := FA
                obtain ⟨e0, e1, _, _⟩ := FC
                obtain ⟨g0, g1, _, _⟩ := FW
                obtain ⟨i0, i1, i2, i3⟩ := F9
                obtain ⟨j0, j1, _, _⟩ := G9
                clear p0 p1 hBl M9 K9 T9 MX MB MA M6 hl6 hbA hbB F6 h6 h7 K6 K7 hmin D eS hbx l6
                generalize hB16 : w6.heap.size = B16 at *
                have hne : ¬ B12 = B16 := fun e => n16.2 e.symm
                by_cases hk0 : 0 < kk
                · have hk1 : (0 : Int) < (kk : Int) := by omega
                  have hbef := haft hk0 a s d hHa
                  unfold bef Item.v at hbef
                  simp only at hbef
                  by_cases hc0 : cmpC ls ld s d = 0
                  · have hid : idn < a := by rw [hcv6, cmpI_zero] at hc0; omega
                    have hid' : ¬ a ≤ idn := by omega
                    rw [hc0]
                    clear hbef hc0
                    clear hcv6
                    go_wp2
                    go_roundg m1
                    case measure => have := HG2.out; omega
                    case rel => exact ⟨m1, kk + 1, a, rfl, rfl, by go_num, HD⟩
                  · have hcn : ¬ 0 < cmpC ls ld s d := by
                      intro h
                      have h2 := cmpI_swap (val ls ld) (val s d)
                      rw [← hcv6] at h2
                      have h3 := (cmpI_neg (val s d) (val ls ld)).mp (by omega)
                      omega
                    generalize cmpC ls ld s d = cr at *
                    clear hbef
                    clear hcv6
                    go_wp2
                    go_roundg m1
                    case measure => have := HG2.out; omega
                    case rel => exact ⟨m1, kk + 1, a, rfl, rfl, by go_num, HD⟩
                · have hk1 : ¬ (0 : Int) < (kk : Int) := by omega
                  · generalize cmpC ls ld s d = cr at *
                    clear hcv6
                    go_wp2
                    go_roundg m1
                    case measure => have := HG2.out; omega
                    case rel => exact ⟨m1, kk + 1, a, rfl, rfl, by go_num, HD⟩
end Go.Proofs.Ytkaolmblcmbjaab
