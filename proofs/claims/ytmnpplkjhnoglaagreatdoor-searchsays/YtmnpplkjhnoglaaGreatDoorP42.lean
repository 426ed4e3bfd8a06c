/-
  Texts laid together: SyA, LaidT, SyB.
-/
import Derived.Test.YtmnpplkjhnoglaaGreatDoorP41
/-
  What 'SearchSays' calls: which costs may be; the guesses; a closed search of nine cells.
-/
namespace Go.Proofs.YtmnpplkjhnoglaaGreatDoor
open Go.RowKit

set_option maxHeartbeats 1000000 in
theorem costFault_ok (s d : Int) (w : World) (h : 0 ≤ s ∧ s ≤ 1048576 ∧ 0 ≤ d ∧ d ≤ 1048576) : Calls Tryz.prog 27 #[.agg #[.int .i64 s, .int .i64 d]] w fun e w' => e = .returned (.int .i64 0) ∧ Below w.heap.size w w' := by
  obtain ⟨h1, h2, h3, h4⟩ := h
  have d1 : decide (s < 0) = false := decide_eq_false (by omega)
  have d2 : decide (1048576 < s) = false := decide_eq_false (by omega)
  have d3 : decide (d < 0) = false := decide_eq_false (by omega)
  have d4 : decide (1048576 < d) = false := decide_eq_false (by omega)
  go_enter Tryz.func27, Tryz.ntmps27
  go_wp2
  go_ret
  exact ⟨rfl, (Below.refl _ _).alloc (Nat.le_refl _) _⟩
set_option maxHeartbeats 1000000 in
theorem costFault_bad (s d : Int) (w : World) (h : ¬ (0 ≤ s ∧ s ≤ 1048576 ∧ 0 ≤ d ∧ d ≤ 1048576)) : Calls Tryz.prog 27 #[.agg #[.int .i64 s, .int .i64 d]] w fun e w' => e = .returned (.int .i64 1) ∧ Below w.heap.size w w' := by
  by_cases g1 : s < 0
  · clear h
    go_enter Tryz.func27, Tryz.ntmps27
    go_wp2
    go_ret
    exact ⟨rfl, (Below.refl _ _).alloc (Nat.le_refl _) _⟩
  · by_cases g2 : 1048576 < s
    · clear h
      go_enter Tryz.func27, Tryz.ntmps27
      go_wp2
      go_ret
      exact ⟨rfl, (Below.refl _ _).alloc (Nat.le_refl _) _⟩
    · by_cases g3 : d < 0
      · clear h
        go_enter Tryz.func27, Tryz.ntmps27
        go_wp2
        go_ret
        exact ⟨rfl, (Below.refl _ _).alloc (Nat.le_refl _) _⟩
      · have g4 : 1048576 < d := by omega
        clear h
        go_enter Tryz.func27, Tryz.ntmps27
        go_wp2
        go_ret
        exact ⟨rfl, (Below.refl _ _).alloc (Nat.le_refl _) _⟩
theorem none30 (w : World) (n : Int) : Calls Tryz.prog 30 #[.int .i64 n] w fun e w' => e = .returned (.agg #[.int .i64 0, .int .i64 0]) ∧ Below w.heap.size w w' := by
  go_enter Tryz.func30, Tryz.ntmps30
  go_wp2
  exact bodyPost_ret (v := .agg #[.int .i64 0, .int .i64 0]) (by simp [results, Tryz.results30, go_sem]) rfl ⟨rfl, (Below.refl _ _).alloc (Nat.le_refl _) _⟩
theorem none30_ok (w0 : World) : GsOk w0 w0.heap.size 30 [] (fun _ => (0, 0)) := ⟨fun args w => by kernel_rfl, fun w n _ _ => none30 w n⟩
theorem none65 (w : World) (n : Int) : Calls Tryz.prog 65 #[.int .i64 n] w fun e w' => e = .returned (.agg #[.int .i64 0, .int .i64 0]) ∧ Below w.heap.size w w' := by
  go_enter Tryz.func65, Tryz.ntmps65
  go_wp2
  exact bodyPost_ret (v := .agg #[.int .i64 0, .int .i64 0]) (by simp [results, Tryz.results65, go_sem]) rfl ⟨rfl, (Below.refl _ _).alloc (Nat.le_refl _) _⟩
theorem none65_ok (w0 : World) : GsOk w0 w0.heap.size 65 [] (fun _ => (0, 0)) := ⟨fun args w => by kernel_rfl, fun w n _ _ => none65 w n⟩

/-- how far it is at the least to a cell of nine -/
def far9 (c : Int) : Int := if c = 0 then 0 else if c = 1 ∨ c = 3 then val 1 0 else if c = 2 ∨ c = 6 then val 2 0 else if c = 5 ∨ c = 7 then val 3 0 else val 4 0
theorem far9_step : ∀ c ∈ ([0, 1, 2, 3, 5, 6, 7, 8] : List Int), ∀ k, k < 8 → mayB 3 3 mid9 (c % 3) (c / 3) k = true → c + (stepY k * 3 + stepX k) ∈ ([0, 1, 2, 3, 5, 6, 7, 8] : List Int) ∧ far9 (c + (stepY k * 3 + stepX k)) ≤ far9 c + val (stS k) (stD k) := by decide
theorem far9_low {c s d : Int} (h : Wk (Edge 3 3 mid9) 0 c s d) : far9 c ≤ val s d :=
  (h (fun c s d => c ∈ ([0, 1, 2, 3, 5, 6, 7, 8] : List Int) ∧ far9 c ≤ val s d) (by decide) (fun a s d k b ⟨h1, h2⟩ e => by
    obtain ⟨j1, j2⟩ := far9_step a h1 k e.1 e.2.2.1
    rw [e.2.2.2, val_add]
    exact ⟨j1, by omega⟩)).2
theorem tw08 {p : Int} (h : Tw 3 3 mid9 0 8 p) : p ∈ ([0] : List Int) := tw_in _ (by decide) (by unfold Good; decide) h
theorem tw80 {p : Int} (h : Tw 3 3 mid9 8 0 p) : p ∈ ([8] : List Int) := tw_in _ (by decide) (by unfold Good; decide) h
theorem tw26 {p : Int} (h : Tw 3 3 mid9 2 6 p) : p ∈ ([2] : List Int) := tw_in _ (by decide) (by unfold Good; decide) h
theorem tw62 {p : Int} (h : Tw 3 3 mid9 6 2 p) : p ∈ ([6] : List Int) := tw_in _ (by decide) (by unfold Good; decide) h
theorem not08 : ¬ Dir 3 3 mid9 0 8 := fun ⟨⟨z, h1, h2⟩, _⟩ => by
  have e1 := List.mem_singleton.1 (tw08 h1)
  have e2 := List.mem_singleton.1 (tw80 h2)
  omega
theorem not26 : ¬ Dir 3 3 mid9 2 6 := fun ⟨⟨z, h1, h2⟩, _⟩ => by
  have e1 := List.mem_singleton.1 (tw26 h1)
  have e2 := List.mem_singleton.1 (tw62 h2)
  omega
/-- every edge of nine cells' graph is two long -/
theorem edge9 {es : Nat → List LE} (G : GEs 3 3 mid9 es) {a : Nat} {e : LE} (h : e ∈ es a) : e.s = 2 ∧ e.d = 0 := by
  obtain ⟨m1, m2, m3, m4, m5, m6, _⟩ := G.mem h
  have inn : ∀ {n : Nat}, cornB 3 3 mid9 n = true → n ∈ [0, 2, 6, 8] := fun {n} hn => by
    have h4 : 0 ≤ (n : Int) ∧ (n : Int) < 3 * 3 := of_decide_eq_true (cornC_in (by decide) (cornB_iff.1 hn))
    have h5 : n ∈ crs 3 3 mid9 (3 * 3 : Int).toNat := crs_mem.2 ⟨by omega, hn⟩
    rwa [corn9] at h5
  have n08 : ¬ Dir 3 3 mid9 8 0 := fun q => not08 q.sym
  have n26 : ¬ Dir 3 3 mid9 6 2 := fun q => not26 q.sym
  have i1 := inn m1
  have i2 := inn m2
  rw [m5, m6]
  generalize e.to = b at *
  simp only [List.mem_cons, List.not_mem_nil, or_false] at i1 i2
  rcases i1 with rfl | rfl | rfl | rfl <;> rcases i2 with rfl | rfl | rfl | rfl <;> first
    | exact absurd rfl m4
    | exact absurd m3 not08
    | exact absurd m3 not26
    | exact absurd m3 n08
    | exact absurd m3 n26
    | decide
theorem prc9 {es : Nat → List LE} (G : GEs 3 3 mid9 es) : ∀ {l : List Nat} {x : Nat} {s d : Int}, Prc es (x :: l) s d → s = 2 * l.length ∧ d = 0
  | [], x, s, d, ⟨e1, e2⟩ => ⟨by rw [e1]; rfl, e2⟩
  | y :: l, x, s, d, ⟨e, he, _, h⟩ => by
    obtain ⟨k1, k2⟩ := edge9 G he
    obtain ⟨j1, j2⟩ := prc9 G h
    have hl : (((y :: l).length : Nat) : Int) = (l.length : Int) + 1 := rfl
    rw [hl]
    exact ⟨by omega, by omega⟩
end Go.Proofs.YtmnpplkjhnoglaaGreatDoor
/-
  What is laid from a plot, whatever it is.
-/
namespace Go.Proofs.YtmnpplkjhnoglaaGreatDoor
open Go.RowKit

theorem laid_any (W H : Int) (A : Option Addr) (n cap : Nat) (xs : Nat → Int) (w : World) (hm : n ≤ maxLen) (hx : OldRow w A n xs) :
    Calls Tryz.prog 8 #[.agg #[.int .i64 W, .int .i64 H, .slice A n cap]] w fun e w' => Below w.heap.size w w' ∧ (e = .returned (.tuple #[.pointer none, .pointer none, .bool false]) ∨
      (e = .returned (.tuple #[.pointer (some ⟨w.heap.size + 1, 0, none⟩), .pointer (some ⟨w.heap.size + 1 + 1, 0, none⟩), .bool true]) ∧ w'.heap.size = w.heap.size + 3 ∧ ∃ V bl, V ≤ 300 ∧ Both w' (w.heap.size + 1) (w.heap.size + 1 + 1) W H V bl)) := by
  by_cases hn : 300 < (n : Int)
  · exact (laid_many W H A n cap w hn hm).mono fun e w' ⟨h1, h2⟩ => ⟨h2, Or.inl h1⟩
  · cases hW : sideB W with
    | false => exact (laid_bad W H A n cap w hn (.inl hW)).mono fun e w' ⟨h1, h2⟩ => ⟨h2, Or.inl h1⟩
    | true =>
      cases hH : sideB H with
      | false => exact (laid_bad W H A n cap w hn (.inr ⟨hW, hH⟩)).mono fun e w' ⟨h1, h2⟩ => ⟨h2, Or.inl h1⟩
      | true => exact (laid_ok W H A n cap xs w hn hW hH hx).mono fun e w' ⟨h1, h2, h3, h4⟩ => ⟨h2, Or.inr ⟨h1, h3, h4⟩⟩
theorem Both.below' {w w' : World} {g m : Nat} {W H V : Int} {bl : Nat → Bool} (h : Both w g m W H V bl) (hb : Below w.heap.size w w') : Both w' g m W H V bl := by
  have hg : g < w.heap.size := World.block_lt_of_cell? w _ h.ga.c0
  have hm : m < w.heap.size := World.block_lt_of_cell? w _ h.ra.c0
  exact ⟨h.ga.below hb hg, fun o => (hb.frozen (p := ⟨g, o, none⟩) hg).trans (h.gf o), h.ra.below hb hm, fun o => (hb.frozen (p := ⟨m, o, none⟩) hm).trans (h.rf o), h.v1, h.ne⟩
end Go.Proofs.YtmnpplkjhnoglaaGreatDoor
/-
  A closed search of nine cells: the statement's 'hunts' answers true.
-/
namespace Go.Proofs.YtmnpplkjhnoglaaGreatDoor
open Go.RowKit

theorem rowIOne {w : World} {b : Nat} {k : Int} (h : ∀ o, w.cell? ⟨b, o, none⟩ = #[Value.int .i64 k, .int .i64 0, .int .i64 0, .int .i64 0][o]?) (hk : (Lit.int .i64 k).wf = true) : RowI w (some ⟨b, 0, none⟩) [⟨k, 0, 0, 0⟩] := fun i e hi => by
  cases i with
  | zero =>
    cases hi
    exact ⟨hk, b, 0, rfl, h 0, h 1, h 2, h 3⟩
  | succ i => cases hi
theorem src_of {L : List Nat} {n o s d : Int} (h : srcE L [⟨n, 0, 0, 0⟩] o s d) : o = n ∧ s = 0 ∧ d = 0 := by
  obtain ⟨e, h1, _, h2, h3, h4⟩ := h
  rw [List.mem_singleton.1 h1] at h2 h3 h4
  exact ⟨h2, h3, h4⟩
theorem hunt9 {es : Nat → List LE} (G : GEs 3 3 mid9 es) {most k : Nat} {st : LSt} (m6 : most ≤ 6) (m1 : 1 ≤ most) (h : Rds most (crs 3 3 mid9 (3 * 3 : Int).toNat) ⟨fun _ => 0, es⟩ k st) {way : List Nat} {s d : Int} {f : Bool}
    (hB : BestR (crs 3 3 mid9 (3 * 3 : Int).toNat) ⟨endL (k + 1) st, st.es⟩ (fun _ => (0, 0)) [⟨0, 0, 0, 0⟩] [⟨8, 0, 0, 0⟩] way s d f) : f = true ∧ s = 4 ∧ d = 0 ∧ way.length = 3 := by
  obtain ⟨O, _, hU⟩ := lvOk G (by decide) (by decide) (by decide) (by decide) m6 m1 h
  obtain ⟨b1, b2⟩ := BestR.best (G.btw (by decide) (by decide) (by decide) (by decide)) (fun _ => rfl) h O hU (adm_none O) hB
  have e1 : GrE es 0 2 (octS 3 (0 : Nat) (2 : Nat)) (octD 3 (0 : Nat) (2 : Nat)) := ⟨_, G.in (a := 0) (m := 2) (by decide) (by decide) dir02 (by decide), rfl, rfl, rfl⟩
  have e2 : GrE es 2 8 (octS 3 (2 : Nat) (8 : Nat)) (octD 3 (2 : Nat) (8 : Nat)) := ⟨_, G.in (a := 2) (m := 8) (by decide) (by decide) dir28 (by decide), rfl, rfl, rfl⟩
  obtain ⟨hf, hle⟩ := b1 (src9 0 (by decide)) (src9 8 (by decide)) ((Wg.one e1).trans (Wg.one e2))
  obtain ⟨o, i, t, s0, d0, s1, d1, p, q, c1, c2, c3, c4, c5, c6, c7⟩ := b2 hf
  obtain ⟨o1, o2, o3⟩ := src_of c1
  obtain ⟨i1, i2, i3⟩ := src_of c2
  have eo : o = 0 := by omega
  have ei : i = 8 := by omega
  subst eo ei c3
  obtain ⟨p1, p2⟩ := prc9 G c5
  have hw := GEs.walk (by decide) (by decide) (by decide) (by decide) G (by decide) (c5.way c4)
  have lo := far9_low hw
  have f8 : far9 ((8 : Nat) : Int) = val 4 0 := by decide
  rw [f8] at lo
  have hs : s = p := by omega
  have hd : d = 0 := by omega
  have up : val s d ≤ val 4 0 := hle
  rw [hs, hd] at up
  rw [p2] at lo
  have hp : p = 4 := by
    unfold val at lo up
    omega
  have hl : ((0 : Nat) :: t).length = t.length + 1 := rfl
  exact ⟨hf, by omega, hd, by omega⟩

set_option maxHeartbeats 4000000 in
set_option maxRecDepth 1000000 in
theorem hunts_any (w : World) (s : StepsAt w) : Calls Tryz.prog 26 #[] w fun e w' => e = .returned (.bool true) ∧ Below w.heap.size w w' := by
  have hs3 : sideB 3 = true := by decide
  have hG := gridAt_new 3 3 w hs3 hs3
  have hb : Below w.heap.size w (w.alloc (.cells (gridC 3 3) 117)) := (Below.refl _ _).alloc (Nat.le_refl _) _
  have hfr : Free (w.alloc (.cells (gridC 3 3) 117)) w.heap.size := free_alloc w (gridC 3 3) 117 w.heap.size (Nat.le_refl _)
  have hspos := s.pos
  obtain ⟨es9, hG9⟩ := gEs_ex 3 3 mid9 (by decide)
  go_enter Tryz.func26, Tryz.ntmps26
  go_wp2_with (go_at_call 21; refine (new_ok _ _ _ hs3 hs3).mono ?_; rintro e w' ⟨rfl, rfl⟩)
  generalize w.alloc (.cells (gridC 3 3) 117) = w0 at *
  have hse := set_new 4 true w0 hG hfr (by decide) rfl (by decide) (by decide)
  refine hse.mono ?_
  rintro e w1 ⟨rfl, T1, g1, fr1⟩
  have B1 := T1.below hb (Nat.le_refl _)
  have hl1 : w.heap.size < w1.heap.size := World.block_lt_of_cell? _ _ g1.c0
  clear hse hG T1 hfr fr1
  go_wp2_with fail
  refine (new_graph w1 g1 (s.below B1 hspos) hl1).mono ?_
  rintro e w2 ⟨rb, pb, mb, rfl, G2, _, _, _, hb2⟩
  have B2 := B1.trans (hb2.mono B1.size)
  clear g1
  have hlv := new_levels (most := 3) w2 G2 hG9 (by decide) (by decide)
  go_wp2_with fail
  refine hlv.mono ?_
  rintro e w3 ⟨lb, rfl, L3, hb3⟩
  have B3 := B2.trans (hb3.mono B2.size)
  have bR : Below w3.heap.size w3 ((w3.alloc (.cells #[.int .i64 0, .int .i64 0, .int .i64 0, .int .i64 0] 67)).alloc (.cells #[.int .i64 8, .int .i64 0, .int .i64 0, .int .i64 0] 67)) := ((Below.refl _ _).alloc (Nat.le_refl _) _).alloc (by simp) _
  have r0 : RowI ((w3.alloc (.cells #[.int .i64 0, .int .i64 0, .int .i64 0, .int .i64 0] 67)).alloc (.cells #[.int .i64 8, .int .i64 0, .int .i64 0, .int .i64 0] 67)) (some ⟨w3.heap.size, 0, none⟩) [⟨0, 0, 0, 0⟩] := rowIOne (fun o => by
    rw [World.cell?_alloc_old _ _ _ (by simp), World.cell?_alloc_new]) rfl
  have r8 : RowI ((w3.alloc (.cells #[.int .i64 0, .int .i64 0, .int .i64 0, .int .i64 0] 67)).alloc (.cells #[.int .i64 8, .int .i64 0, .int .i64 0, .int .i64 0] 67)) (some ⟨w3.heap.size + 1, 0, none⟩) [⟨8, 0, 0, 0⟩] := rowIOne (fun o => by
    have e : w3.heap.size + 1 = (w3.alloc (.cells #[.int .i64 0, .int .i64 0, .int .i64 0, .int .i64 0] 67)).heap.size := by simp
    rw [e, World.cell?_alloc_new]) rfl
  obtain ⟨vb, eb, k, st, f, hR, _, V⟩ := L3.below bR
  obtain ⟨O, hlv', hU⟩ := lvOk hG9 (by decide) (by decide) (by decide) (by decide) (by decide) (by decide) hR
  have hsr := best_any (cap := 1) (cap2 := 1) (cs := []) _ V O hlv' hU (none65_ok _) (fun _ => ⟨Int.le_refl _, by decide, Int.le_refl _, by decide⟩) r0 r8 (by decide) (by decide)
  have HH : Hid (∀ {way s d f}, BestR (crs 3 3 mid9 (3 * 3 : Int).toNat) ⟨endL (k + 1) st, st.es⟩ (fun _ => (0, 0)) [⟨0, 0, 0, 0⟩] [⟨8, 0, 0, 0⟩] way s d f → f = true ∧ s = 4 ∧ d = 0 ∧ way.length = 3) := fun hB => hunt9 hG9 (by decide) (by decide) hR hB
  have B4 := B3.trans (bR.mono B3.size)
  clear hlv G2 hb3 hb2 hb B1 B2 hl1 r0 r8 L3 B3 bR V O hlv' hU hR hG9
  go_wp2_with fail
  generalize (w3.alloc (.cells #[.int .i64 0, .int .i64 0, .int .i64 0, .int .i64 0] 67)).alloc (.cells #[.int .i64 8, .int .i64 0, .int .i64 0, .int .i64 0] 67) = w4 at *
  refine hsr.mono ?_
  rintro e w5 ⟨way, s9, d9, b9, v9, rfl, hB9, own9, _, hb5⟩
  obtain ⟨e1, e2, e3, e4⟩ := HH.out hB9
  obtain ⟨A9, cap9, rfl, _⟩ := row_of own9
  rw [e4] at *
  subst e1 e2 e3
  have B5 := B4.trans (hb5.mono B4.size)
  have B6 : Below w.heap.size w (w5.alloc (.cells #[.int .i64 4, .int .i64 0] 65)) := B5.alloc B5.size _
  clear hsr HH hB9 own9 hb5 B4 B5 e4
  go_wp2
  go_ret
  exact ⟨rfl, B6⟩
end Go.Proofs.YtmnpplkjhnoglaaGreatDoor
