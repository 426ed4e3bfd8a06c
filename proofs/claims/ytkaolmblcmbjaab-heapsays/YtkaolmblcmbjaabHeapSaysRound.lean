/-
  The walk of 'HeapSays', round by round.
-/
import Derived.Test.YtkaolmblcmbjaabAll
import Derived.Deep.RegionHeld3
namespace Go.Proofs.Ytkaolmblcmbjaab
open Go.RowKit

theorem fault_ok {s d : Int} (h : flt s d = 0) : okC s d := by
  unfold flt at h
  by_cases k : inC s d
  · exact inC_ok k
  · rw [if_neg k] at h; omega
theorem flt_cases (s d : Int) : flt s d = 0 ∨ flt s d = 1 := by
  unfold flt
  by_cases k : inC s d
  · left; rw [if_pos k]
  · right; rw [if_neg k]

/-- the two heaps behind k acts -/
def Acts (w wr : World) (B k : Nat) : Prop := ∃ v n H A cap L, Pair w.heap.size wr (B + 1) B v n H (B + 2) A cap L ∧ n ≤ k ∧ Below w.heap.size w wr

theorem acts_start (w w1 w2 : World) (hb1 : Below w.heap.size w w1) (h2 : HeapAt w2 (w1.heap.size + 1) w1.heap.size (.slice none 0 0) 0 (fun _ => none)) (hb2 : Below w1.heap.size w1 w2) (hs : w2.heap.size = w1.heap.size + 2) :
    Acts w (w2.alloc (.cells #[.slice none 0 0] 29)) w1.heap.size 0 := by
  have HB : Below w2.heap.size w2 (w2.alloc (.cells #[.slice none 0 0] 29)) := (Below.refl _ _).alloc (Nat.le_refl _) _
  have z1 := hb1.size
  refine ⟨.slice none 0 0, 0, fun _ => none, none, 0, [], ⟨h2.below HB, ⟨?_, ?_, fun i x hx => by simp at hx, fun g o e => (by cases e), fun x hx => by simp at hx, Nat.le_refl _, by unfold maxLen; omega, by simp⟩, InOrder.nil, by omega, z1, by omega, fun g hg => (by cases hg), ?_, fun g o e => (by cases e)⟩, Nat.le_refl _, (hb1.trans (hb2.mono z1)).trans (HB.mono (by omega))⟩
  · exact World.cell?_alloc_at #[.slice none 0 0] 29 (w1.heap.size + 2) 0 hs.symm
  · rw [frozen?_alloc_cells]; unfold World.frozen?; rw [Array.getElem?_eq_none (show w2.heap.size ≤ w1.heap.size + 2 by omega)]
  · rintro k (rfl | rfl | h)
    · omega
    · omega
    · cases h

theorem HeapTo.below {w w1 w2 : World} {b mb n : Nat} {v : Value} {H : Int → Option (Int × Int)} (h : HeapTo w w1 b mb v n H) (hb : Below w1.heap.size w1 w2) : HeapTo w w2 b mb v n H := by
  obtain ⟨v', n', h1, h2, h3⟩ := h
  exact ⟨v', n', h1.below hb, h2, h3⟩

/-- the act's own copy -/
structure Elem (w : World) (N : Nat) (i s d : Int) (p : Bool) : Prop where
  e0 : w.cell? ⟨N, 0, none⟩ = some (.int .i64 i)
  e1 : w.cell? ⟨N, 1, none⟩ = some (.int .i64 s)
  e2 : w.cell? ⟨N, 2, none⟩ = some (.int .i64 d)
  e3 : w.cell? ⟨N, 3, none⟩ = some (.bool p)
theorem Elem.keep {F : Nat → Prop} {w w' : World} {N : Nat} {i s d : Int} {p : Bool} (h : Elem w N i s d p) (K : Keep F w w') (hn : ¬ F N) : Elem w' N i s d p := by
  have hN : N < w.heap.size := World.block_lt_of_cell? w _ h.e0
  exact ⟨(K.cell (p := ⟨N, 0, none⟩) hN hn).trans h.e0, (K.cell (p := ⟨N, 1, none⟩) hN hn).trans h.e1, (K.cell (p := ⟨N, 2, none⟩) hN hn).trans h.e2, (K.cell (p := ⟨N, 3, none⟩) hN hn).trans h.e3⟩
theorem Elem.below {w w' : World} {N : Nat} {i s d : Int} {p : Bool} (h : Elem w N i s d p) (hb : Below w.heap.size w w') : Elem w' N i s d p := h.keep (F := fun _ => False) (Keep.of_below hb) id
theorem elem_new (w : World) (i s d : Int) (p : Bool) : Elem (w.alloc (.cells #[.int .i64 i, .int .i64 s, .int .i64 d, .bool p] 33)) w.heap.size i s d p :=
  ⟨World.cell?_alloc_at _ _ _ 0 rfl, World.cell?_alloc_at _ _ _ 1 rfl, World.cell?_alloc_at _ _ _ 2 rfl, World.cell?_alloc_at _ _ _ 3 rfl⟩

theorem cost_v {b mb n : Nat} {v : Value} {H : Int → Option (Int × Int)} {a cs cd : Int} {cb : Bool} (hcv : costV H a = ((cs, cd), cb)) (w : World) (h : HeapAt w b mb v n H) (hwf : (Lit.int .i64 a).wf = true) :
    Calls Try.prog 12 #[.pointer (some ⟨b, 0, none⟩), .int .i64 a] w fun e w' => e = .returned (.tuple #[.agg #[.int .i64 cs, .int .i64 cd], .bool cb]) ∧ Below w.heap.size w w' := by
  have := cost_all a w h hwf
  rw [hcv] at this
  exact this

/-- a number's place among the first j, or that it is not there -/
def FoundTo (L : List Item) (a : Int) (j : Nat) (r : Int) : Prop := (∃ (i : Nat) (x : Item), r = i ∧ L[i]? = some x ∧ x.id = a) ∨ (r = -1 ∧ ∀ x, x ∈ L.take j → x.id ≠ a)

set_option maxHeartbeats 2000000 in
set_option maxRecDepth 1000000 in
theorem heapSays_any (A : Option Addr) (n cap : Nat) (xs : Nat → PushV) (w : World) (hm : n ≤ maxLen) (hx : OldPush w A n xs) :
    Calls Try.prog 3 #[.slice A n cap] w fun e w' => e = .returned (.bool true) ∧ Below w.heap.size w w' := by
  unfold maxLen at hm
  by_cases hn : 150 < (n : Int)
  · go_enter Try.func3, Try.ntmps3
    go_wp2_with (go_at_call 5; refine (heaps_any _).mono ?_; rintro e w1 ⟨rfl, hb1⟩)
    go_ret
    exact ⟨rfl, hb1⟩
  · go_enter Try.func3, Try.ntmps3
    go_wp2_with (first | (go_at_call 5; refine (heaps_any _).mono ?_; rintro e w1 ⟨rfl, hb1⟩) | (go_at_call 6; refine (new_any _).mono ?_; rintro e w2 ⟨rfl, h2, hb2, hs2⟩))
    have hst := acts_start w w1 w2 hb1 h2 hb2 hs2
    clear h2 hb2
    go_loopw [6] (fun i wr => ∃ k : Nat, k ≤ n ∧ i = .int .i64 k ∧ Acts w wr w1.heap.size k) (fun i _ => n - (intOf i).toNat)
    case atStart => exact ⟨0, Nat.zero_le _, rfl, hst⟩
    case round =>
      clear hst
      obtain ⟨k, hk, rfl, v, nH, H, A2, cap2, L, P, hnk, HB⟩ := hrel
      by_cases hlt : k < n
      · have hlt' : (k : Int) < (n : Int) := by omega
        obtain ⟨b, o, rfl, hbl, e0, e1, e2, e3, hwf⟩ := hx k hlt
        have g0 := (HB.cell (p := ⟨b, o + k * 4, none⟩) hbl).trans e0
        have g1 := (HB.cell (p := ⟨b, o + k * 4 + 1, none⟩) hbl).trans e1
        have g2 := (HB.cell (p := ⟨b, o + k * 4 + 2, none⟩) hbl).trans e2
        have g3 := (HB.cell (p := ⟨b, o + k * 4 + 3, none⟩) hbl).trans e3
        clear e0 e1 e2 e3 hx
        generalize xs k = x at *
        obtain ⟨xi, xs1, xd, xp⟩ := x
        simp only at g0 g1 g2 g3 hwf
        rcases flt_cases xs1 xd with hf | hf
        · have hok := fault_ok hf
          have E0 := elem_new wr xi xs1 xd xp
          have HBa : Below w.heap.size w (wr.alloc (.cells #[.int .i64 xi, .int .i64 xs1, .int .i64 xd, .bool xp] 33)) := HB.alloc HB.size _
          have hNl : wr.heap.size < (wr.alloc (.cells #[.int .i64 xi, .int .i64 xs1, .int .i64 xd, .bool xp] 33)).heap.size := by simp
          have P0 := P.below ((Below.refl wr.heap.size wr).alloc (Nat.le_refl _) (.cells #[.int .i64 xi, .int .i64 xs1, .int .i64 xd, .bool xp] 33))
          have hbs : ∀ k, hb3 (w1.heap.size + 1) w1.heap.size v k → k < wr.heap.size := fun k hk => hb3_lt P.hp hk
          have hqs := P.rh.lt
          have hzw := HB.size
          have hz1 := hb1.size
          clear P
          have hfN : ∀ k, hb3 (w1.heap.size + 1) w1.heap.size v k → w.heap.size ≤ k := by
            rintro k (rfl | rfl | hk)
            · exact P0.nb
            · exact P0.nm
            · exact P0.nv k hk
          have hNk : ¬ hb3 (w1.heap.size + 1) w1.heap.size v wr.heap.size := fun h => Nat.lt_irrefl _ (hbs _ h)
          have hNq : ¬ wr.heap.size = w1.heap.size + 2 := by omega
          have hxp : xp = true ∨ xp = false := by cases xp <;> simp
          rcases hxp with rfl | rfl
          case' inl =>
            go_wp2_with fail
            refine (fault_v hf _).mono ?_
            rintro e w4 ⟨rfl, hb4⟩
            have E4 := E0.below hb4
            have P4 := P0.below hb4
            have HB4 := HBa.trans (hb4.mono (by omega))
            have z4 : wr.heap.size < w4.heap.size := by have := hb4.size; simp at this; omega
            clear P0 E0 HBa HB hb4 hNl
            obtain ⟨f0, f1, f2, f3⟩ := E4
            go_wp2_with fail
            refine (pop_all _ P4.hp P4.ord).mono ?_
            rintro e w5 ⟨rfl, T5, K5⟩
            have z5 := K5.size
            have R5 := (P4.rh_keep K5).below ((Below.refl w5.heap.size w5).alloc (Nat.le_refl _) (.cells #[.int .i64 (popV L).1.s, .int .i64 (popV L).1.d] 31))
            go_wp2_with fail
            refine (rpop_all _ R5 P4.ord).mono ?_
            rintro e w6 ⟨rfl, T6, K6⟩
            have m0 := (K6.cell (p := ⟨w5.heap.size, 0, none⟩) (by simp) (by show ¬ w5.heap.size = _; omega)).trans (World.cell?_alloc_at #[.int .i64 (popV L).1.s, .int .i64 (popV L).1.d] 31 w5.heap.size 0 rfl)
            have m1 := (K6.cell (p := ⟨w5.heap.size, 1, none⟩) (by simp) (by show ¬ w5.heap.size = _; omega)).trans (World.cell?_alloc_at #[.int .i64 (popV L).1.s, .int .i64 (popV L).1.d] 31 w5.heap.size 1 rfl)
            obtain ⟨v7, n7, A7, cap7, L7, P6, hn7⟩ := P4.next (by omega) (T5.below ((Below.refl w5.heap.size w5).alloc (Nat.le_refl _) _)) (K5.alloc _) T6 K6
            have E6 := (((Elem.mk f0 f1 f2 f3).keep K5 hNk).below ((Below.refl w5.heap.size w5).alloc (Nat.le_refl _) _)).keep K6 hNq
            have HB5 := HB4.trans (K5.to_below (B := w.heap.size) (by omega) hfN)
            have HB6 := ((HB5.alloc (by omega) _).trans (K6.to_below (B := w.heap.size) (by simp; omega) (fun k hk => by omega)))
            have z6 := K6.size
            have hm6 : w5.heap.size < w6.heap.size := by simp at z6; omega
            have P7 := P6.below ((Below.refl w6.heap.size w6).alloc (Nat.le_refl _) (.cells #[.int .i64 (popV L).1.id, .int .i64 (popV L).1.s, .int .i64 (popV L).1.d] 38))
            have E7 := E6.below ((Below.refl w6.heap.size w6).alloc (Nat.le_refl _) (.cells #[.int .i64 (popV L).1.id, .int .i64 (popV L).1.s, .int .i64 (popV L).1.d] 38))
            have HB7 := HB6.alloc (by omega) (.cells #[.int .i64 (popV L).1.id, .int .i64 (popV L).1.s, .int .i64 (popV L).1.d] 38)
            clear P4 P6 E6 T5 T6 K5 K6 R5 HB4 HB5 HB6 f0 f1 f2 f3
            generalize (popV L).1.id = pi at *
            generalize (popV L).1.s = ps at *
            generalize (popV L).1.d = pd at *
            generalize (popV L).2 = pb at *
            have FE := E7
            obtain ⟨f0, f1, f2, f3⟩ := E7
            generalize popH L H = H7 at *
            obtain ⟨cs, cd, cb, hcv⟩ : ∃ cs cd cb, costV H7 xi = ((cs, cd), cb) := ⟨_, _, _, rfl⟩
            have HCV : Hid _ := hcv
            clear hcv
            go_wp2_with fail
            refine (cost_v HCV.out _ P7.hp hwf).mono ?_
            clear m0 m1
          case' inr =>
            go_wp2_with fail
            refine (fault_v hf _).mono ?_
            rintro e w4 ⟨rfl, hb4⟩
            have E4 := E0.below hb4
            have P4 : Pair w.heap.size w4.drew (w1.heap.size + 1) w1.heap.size v nH H (w1.heap.size + 2) A2 cap2 L := (P0.below hb4).below (Below.refl w4.heap.size w4).drew
            have HB4 : Below w.heap.size w w4.drew := (HBa.trans (hb4.mono (by omega))).drew
            have z4 : wr.heap.size < w4.heap.size := by have := hb4.size; simp at this; omega
            have hL4 := P4.hp.apart P4.ord
            clear P0 E0 HBa HB hb4 hNl
            obtain ⟨f0, f1, f2, f3⟩ := E4
            go_wp2
            go_region_held3 (fun w' => w'.cell? ⟨wr.heap.size, 0, none⟩ = some (.int .i64 xi) ∧ w'.cell? ⟨wr.heap.size, 1, none⟩ = some (.int .i64 xs1) ∧ w'.cell? ⟨wr.heap.size, 2, none⟩ = some (.int .i64 xd)) (first | (exact ⟨f0, f1, f2⟩)) (first | (go_at_call 10; refine (push_all _ _ _ _ P4.hp hok hwf (by omega)).mono ?_; rintro e w5 ⟨rfl, T5, K5⟩; have z5 := K5.size; have f0 := (K5.cell (p := ⟨wr.heap.size, 0, none⟩) z4 hNk).trans f0; have f1 := (K5.cell (p := ⟨wr.heap.size, 1, none⟩) z4 hNk).trans f1; have f2 := (K5.cell (p := ⟨wr.heap.size, 2, none⟩) z4 hNk).trans f2; have f3 := (K5.cell (p := ⟨wr.heap.size, 3, none⟩) z4 hNk).trans f3; have z4 := Nat.lt_of_lt_of_le z4 z5) | (go_at_call 11; refine (rpush_all _ _ _ _ (P4.rh_keep K5) P4.ord hok (by omega)).mono ?_; rintro e w6 ⟨rfl, T6, K6⟩; have f0 := (K6.cell (p := ⟨wr.heap.size, 0, none⟩) z4 hNq).trans f0; have f1 := (K6.cell (p := ⟨wr.heap.size, 1, none⟩) z4 hNq).trans f1; have f2 := (K6.cell (p := ⟨wr.heap.size, 2, none⟩) z4 hNq).trans f2; have f3 := (K6.cell (p := ⟨wr.heap.size, 3, none⟩) z4 hNq).trans f3))
            obtain ⟨v7, n7, A7, cap7, L7, P7, hn7⟩ := P4.next (by show _ ≤ w4.heap.size; omega) T5 K5 T6 K6
            have HB5 := HB4.trans (K5.to_below (B := w.heap.size) (by show _ ≤ w4.heap.size; omega) hfN)
            have HB7 := (HB5.trans (K6.to_below (B := w.heap.size) HB5.size (fun k hk => by omega)))
            have FE := Elem.mk f0 f1 f2 f3
            clear P4 T5 T6 K5 K6 HB4 HB5
            generalize pushH H xi xs1 xd = H7 at *
            obtain ⟨cs, cd, cb, hcv⟩ : ∃ cs cd cb, costV H7 xi = ((cs, cd), cb) := ⟨_, _, _, rfl⟩
            have HCV : Hid _ := hcv
            clear hcv
            go_wp2_with fail
            refine (cost_v HCV.out _ P7.hp hwf).mono ?_
          all_goals
            rintro e w8 ⟨rfl, hb8⟩
            have P8 := (P7.below hb8).below ((Below.refl w8.heap.size w8).alloc (Nat.le_refl _) (.cells #[.int .i64 cs, .int .i64 cd] 31))
            have E8 := (FE.below hb8).below ((Below.refl w8.heap.size w8).alloc (Nat.le_refl _) (.cells #[.int .i64 cs, .int .i64 cd] 31))
            have HB8 := (HB7.trans (hb8.mono HB7.size))
            have z8 := HB8.size
            have HB9 := HB8.alloc z8 (.cells #[.int .i64 cs, .int .i64 cd] 31)
            have hl8 := P8.hp.apart P8.ord
            have c0 := P8.rh.c0
            have r0 := World.cell?_alloc_at (w := w8) #[.int .i64 cs, .int .i64 cd] 31 w8.heap.size 0 rfl
            have r1 := World.cell?_alloc_at (w := w8) #[.int .i64 cs, .int .i64 cd] 31 w8.heap.size 1 rfl
            have row8 := P8.rh.row
            have hord := P8.ord
            have hbd := P8.rh.bd
            clear P7 FE HB7 hb8 f0 f1 f2 f3 HB8
            obtain ⟨f0, f1, f2, f3⟩ := E8
            subst hl8
            go_wp2
            generalize w8.alloc (.cells #[.int .i64 cs, .int .i64 cd] 31) = W9 at *
            go_loopw [15, 16] (fun x y wt => ∃ (j m : Nat) (r : Int), j ≤ L7.length ∧ y = .int .i64 j ∧ x = .int .i64 r ∧ FoundTo L7 xi j r ∧ wt = W9.drewN m) (fun _ y _ => L7.length - (intOf y).toNat)
            case atStart => exact ⟨0, 0, -1, Nat.zero_le _, rfl, rfl, Or.inr ⟨rfl, fun x hx => by simp at hx⟩, rfl⟩
            case round =>
              obtain ⟨j, m, r, hj, rfl, rfl, hfd, rfl⟩ := hrel
              by_cases hjl : j < L7.length
              · have hjl' : (j : Int) < (L7.length : Int) := by omega
                have hts := List.take_succ_eq_append_getElem hjl
                have hget : L7[j]? = some L7[j] := List.getElem?_eq_getElem hjl
                obtain ⟨g, o', rfl, hg, p1, p2, p3⟩ := row8 j _ hget
                generalize L7[j] = y at *
                by_cases he : y.id = xi
                · have he' : (y.id == xi) = true := by simpa using he
                  go_wp2
                  go_quiet (fail)
                  go_wp2
                  go_roundw
                  case rel => exact ⟨j + 1, _, j, by omega, by go_num, rfl, Or.inl ⟨j, y, rfl, hget, he⟩, rfl⟩
                  case measure => simp [intOf]; omega
                · have he' : (y.id == xi) = false := by simpa using he
                  have hfd2 : FoundTo L7 xi (j + 1) r := by
                    rcases hfd with h | ⟨h1, h2⟩
                    · exact Or.inl h
                    · refine Or.inr ⟨h1, fun x hx => ?_⟩
                      rw [hts, List.mem_append, List.mem_singleton] at hx
                      rcases hx with hx | hx
                      · exact h2 x hx
                      · rw [hx]; exact he
                  clear hfd hts
                  go_wp2
                  go_quiet (fail)
                  go_wp2
                  go_roundw
                  case rel => exact ⟨j + 1, _, r, by omega, by go_num, rfl, hfd2, rfl⟩
                  case measure => simp [intOf]; omega
              · have hjl' : ¬ (j : Int) < (L7.length : Int) := by omega
                have HJ : Hid (j = L7.length) := by show j = L7.length; omega
                have hD : ∀ n, HeapAt ((W9.drewN m).drewN n) (w1.heap.size + 1) w1.heap.size v7 L7.length H7 := fun n => P8.hp.keep (((Keep.refl (fun _ => False) W9).drewN m).drewN n) id id (fun _ _ => id)
                have hP : ∀ m, Pair w.heap.size (W9.drewN m) (w1.heap.size + 1) w1.heap.size v7 L7.length H7 (w1.heap.size + 2) A7 cap7 L7 := fun m => P8.below (below_drewN (Below.refl W9.heap.size W9) m)
                have hcs : (∃ (i : Nat) (y : Item), r = i ∧ L7[i]? = some y ∧ cs = y.s ∧ cd = y.d ∧ cb = true) ∨ (r = -1 ∧ cs = 0 ∧ cd = 0 ∧ cb = false) := by
                  have hcv := HCV.out
                  unfold costV at hcv
                  rcases hfd with ⟨i, y, h1, h2, h3⟩ | ⟨h1, h2⟩
                  · left
                    have hy : H7 xi = some (y.s, y.d) := (hord.mem xi y.s y.d).mpr (by rw [← h3]; exact List.mem_of_getElem? h2)
                    rw [hy] at hcv
                    simp only [Prod.mk.injEq] at hcv
                    exact ⟨i, y, h1, h2, hcv.1.1.symm, hcv.1.2.symm, hcv.2.symm⟩
                  · right
                    have hno : H7 xi = none := by
                      cases hh : H7 xi with
                      | none => rfl
                      | some c =>
                        obtain ⟨s', d'⟩ := c
                        have := (hord.mem xi s' d').mp hh
                        rw [HJ.out, List.take_length] at h2
                        exact absurd rfl (h2 _ this)
                    rw [hno] at hcv
                    simp only [Prod.mk.injEq] at hcv
                    exact ⟨h1, hcv.1.1.symm, hcv.1.2.symm, hcv.2.symm⟩
                have HA : ∀ n, Acts w ((W9.drewN m).drewN n) w1.heap.size (k + 1) := fun n => ⟨v7, _, H7, A7, cap7, L7, (hP m).below (below_drewN (Below.refl W9.heap.size (W9.drewN m)) n), by omega, below_drewN (below_drewN HB9 m) n⟩
                have c0' : (W9.drewN m).cell? ⟨w1.heap.size + 2, 0, none⟩ = some (.slice A7 L7.length cap7) := c0
                have r0' : (W9.drewN m).cell? ⟨w8.heap.size, 0, none⟩ = some (.int .i64 cs) := r0
                have r1' : (W9.drewN m).cell? ⟨w8.heap.size, 1, none⟩ = some (.int .i64 cd) := r1
                have row9 : LRow (W9.drewN m) A7 L7 := row8
                clear hfd P8 hP hord HCV c0 r0 r1 row8 f0 f1 f2 f3 HB9 g0 g1 g2 g3
                generalize W9.drewN m = W10 at *
                rcases hcs with ⟨i, y, rfl, hget, rfl, rfl, rfl⟩ | ⟨rfl, rfl, rfl, rfl⟩
                · obtain ⟨g, o', rfl, hg, p1, p2, p3⟩ := row9 i y hget
                  have hi : i < L7.length := (List.getElem?_eq_some_iff.1 hget).1
                  have hi' : (i : Int) < (L7.length : Int) := by omega
                  have hi0 : decide ((0 : Int) ≤ (i : Int)) = true := decide_eq_true (by omega)
                  clear row9
                  go_wp2
                  go_quiet ((go_at_call 13; exact Calls.quiet_of_same (len_any _ (hD _))))
                  go_wp2
                  go_roundw
                  case rel => exact ⟨k + 1, by omega, by go_num, HA _⟩
                  case measure => simp [intOf]; omega
                · clear row9
                  go_wp2
                  go_quiet ((go_at_call 13; exact Calls.quiet_of_same (len_any _ (hD _))))
                  go_wp2
                  go_roundw
                  case rel => exact ⟨k + 1, by omega, by go_num, HA _⟩
                  case measure => simp [intOf]; omega
        · go_wp2_with (go_at_call 7; refine (fault_v hf _).mono ?_; rintro e w4 ⟨rfl, hb4⟩)
          go_ret
          exact ⟨rfl, (HB.alloc HB.size _).trans (hb4.mono (by have := HB.size; simp; omega))⟩
      · have hlt' : ¬ (k : Int) < (n : Int) := by omega
        go_wp2
        go_ret
        exact ⟨rfl, HB⟩
end Go.Proofs.Ytkaolmblcmbjaab
