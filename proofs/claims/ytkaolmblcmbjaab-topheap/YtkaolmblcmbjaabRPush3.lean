/-
  The walk of the reference's push.
-/
import Derived.Test.YtkaolmblcmbjaabRPush2
namespace Go.Proofs.Ytkaolmblcmbjaab
open Go.RowKit

/-- which of the two is first, by the number that comparing answers -/
theorem first_cases (a s d : Int) (y : Item) (hc : okC s d) (hk : okC y.s y.d) :
    (cmpC s d y.s y.d = -1 ∧ befB ⟨a, s, d⟩ y = true) ∨ (cmpC s d y.s y.d = 1 ∧ befB ⟨a, s, d⟩ y = false) ∨ (cmpC s d y.s y.d = 0 ∧ a < y.id ∧ befB ⟨a, s, d⟩ y = true) ∨ (cmpC s d y.s y.d = 0 ∧ ¬ a < y.id ∧ befB ⟨a, s, d⟩ y = false) := by
  have hc2 : cmpC s d y.s y.d = if (⟨a, s, d⟩ : Item).v < y.v then -1 else if y.v < (⟨a, s, d⟩ : Item).v then 1 else 0 := cmpC_val' s d y.s y.d hc hk
  rw [hc2]
  by_cases e1 : (⟨a, s, d⟩ : Item).v < y.v
  · left; exact ⟨if_pos e1, befB_true (Or.inl e1)⟩
  · by_cases e2 : y.v < (⟨a, s, d⟩ : Item).v
    · right; left; exact ⟨by rw [if_neg e1, if_pos e2], befB_false (by unfold bef; omega)⟩
    · right; right
      have e3 : (⟨a, s, d⟩ : Item).v = y.v := by omega
      by_cases e4 : a < y.id
      · left; exact ⟨by rw [if_neg e1, if_neg e2], e4, befB_true (Or.inr ⟨e3, e4⟩)⟩
      · right; refine ⟨by rw [if_neg e1, if_neg e2], e4, befB_false ?_⟩
        unfold bef; simp only; omega

/-- the new list under way -/
def Way (W0 wr : World) (N q cap : Nat) (A : Option Addr) (L : List Item) (a s d : Int) (v lb : Value) (k : Nat) : Prop :=
  wr.ownsRow (N + 1) 38 3 v (goI ⟨a, s, d⟩ L k).1.length (icells (goI ⟨a, s, d⟩ L k).1) ∧ lb = .bool (goI ⟨a, s, d⟩ L k).2 ∧ Still W0 wr N q cap A L s d ∧ ∀ g o, A = some ⟨g, o, none⟩ → 0 < L.length → g < N

theorem owns_below {w w' : World} {base : Nat} {e : TypeId} {size : Nat} {v : Value} {n : Nat} {xs : List Value} (h : w.ownsRow base e size v n xs) (hb : Below w.heap.size w w') : w'.ownsRow base e size v n xs :=
  h.kept (row := none) ⟨hb.os, hb.tape, hb.output, hb.size, fun k hk _ => hb.block k hk⟩ (by cases hq : v.ownBlock <;> simp)

theorem since_cell {w : World} {b o : Nat} {v : Value} (h : w.cell? ⟨b, o, none⟩ = some v) : ∀ z : Since w, z.u.cell? ⟨b, o, none⟩ = some v := fun z => (z.cell b o (World.block_lt_of_cell? w _ h)).trans h

/-- the heap with its new list -/
theorem rh_new {W0 w1 : World} {N q cap : Nat} {A : Option Addr} {L L' : List Item} {s d : Int} {v : Value} (S : Still W0 w1 N q cap A L s d) (hq : q < N) (ho : w1.ownsRow (N + 1) 38 3 v L'.length (icells L')) (hl : L'.length ≤ 1000000) (hok : ∀ x, x ∈ L' → okC x.s x.d) :
    ∃ A' cap', v = .slice A' L'.length cap' ∧ RH (w1.setCell ⟨q, 0, none⟩ v) q A' cap' L' ∧ ∀ g o, A' = some ⟨g, o, none⟩ → N < g := by
  have K0 : Keep (fun k => k = q) w1 (w1.setCell ⟨q, 0, none⟩ v) := (Keep.refl (fun k => k = q) w1).setCell (p := ⟨q, 0, none⟩) (fun _ => rfl) _
  have hc : (w1.setCell ⟨q, 0, none⟩ v).cell? ⟨q, 0, none⟩ = some v := World.cell?_setCell_same _ _ _ S.rh.c0
  have hf : (w1.setCell ⟨q, 0, none⟩ v).frozen? ⟨q, 0, none⟩ = false := by rw [World.frozen?_setCell]; exact S.rh.f0
  have ho1 := ho
  rcases ho.2 with ⟨rfl, h0⟩ | ⟨g, cap2, cur, rfl, hb, hg, hle, hm, _⟩
  · refine ⟨none, 0, by rw [h0], ⟨by rw [h0]; exact hc, hf, fun i x hx => ?_, fun g o e _ => (by cases e), hok, by omega, by unfold maxLen; omega, hl⟩, fun g o e => (by cases e)⟩
    have := (List.getElem?_eq_some_iff.1 hx).1
    omega
  · have hgl := (Array.getElem?_eq_some_iff.1 hg).1
    refine ⟨some ⟨g, 0, none⟩, cap2, rfl, ⟨hc, hf, fun i x hx => ?_, fun g' o e _ => (by cases e; omega), hok, hle, hm, hl⟩, fun g' o e => (by cases e; omega)⟩
    have hi := (List.getElem?_eq_some_iff.1 hx).1
    obtain ⟨a1, a2, a3⟩ := icells_at L' i x hx
    have hgq : g ≠ q := by omega
    refine ⟨g, 0, rfl, by simpa using hgl, ?_, ?_, ?_⟩
    · rw [Nat.zero_add]; exact (K0.cell (p := ⟨g, i * 3, none⟩) hgl hgq).trans ((ho1.cellAt _ (by omega)).trans a1)
    · rw [Nat.zero_add]; exact (K0.cell (p := ⟨g, i * 3 + 1, none⟩) hgl hgq).trans ((ho1.cellAt _ (by omega)).trans a2)
    · rw [Nat.zero_add]; exact (K0.cell (p := ⟨g, i * 3 + 2, none⟩) hgl hgq).trans ((ho1.cellAt _ (by omega)).trans a3)

set_option maxHeartbeats 2000000 in
set_option maxRecDepth 1000000 in
theorem rpush_loop {q cap : Nat} {A : Option Addr} {L : List Item} {H : Int → Option (Int × Int)} (a s d : Int) (w : World) (h : RH w q A cap L) (hL : InOrder L H) (hc : okC s d) (hbd : L.length ≤ 400000)
    (hn : ∀ t u, H a = some (t, u) → val s d < val t u) :
    Calls Try.prog 11 #[.pointer (some ⟨q, 0, none⟩), .int .i64 a, .agg #[.int .i64 s, .int .i64 d]] w fun e w' => e = .returned (.bool true) ∧ RHNew w' q w.heap.size (finI ⟨a, s, d⟩ (goI ⟨a, s, d⟩ L L.length)) ∧ Keep (fun k => k = q) w w' := by
  obtain ⟨i0, hi0, hz0, hz1, hz2⟩ := info_parts Try.info38
  have HB0 : Below w.heap.size w (w.alloc (.cells #[.int .i64 s, .int .i64 d] 31)) := (Below.refl _ w).alloc (Nat.le_refl _) _
  have hq := h.lt
  have hA : ∀ g o, A = some ⟨g, o, none⟩ → 0 < L.length → g < w.heap.size := by
    intro g o e hl
    obtain ⟨g', o', e', hg', _⟩ := h.row 0 L[0] (List.getElem?_eq_getElem hl)
    rw [e] at e'; cases e'; exact hg'
  have h1 := h.below HB0
  have hne := since_ne (w.alloc (.cells #[.int .i64 s, .int .i64 d] 31))
  obtain ⟨s0, s1⟩ := box_since w s d
  have S0 : Still (w.alloc (.cells #[.int .i64 s, .int .i64 d] 31)) (w.alloc (.cells #[.int .i64 s, .int .i64 d] 31)) w.heap.size q cap A L s d := ⟨Below.refl _ _, World.cell?_alloc_at _ _ _ 0 rfl, World.cell?_alloc_at _ _ _ 1 rfl, h1⟩
  have hstart : ∀ x : Since (w.alloc (.cells #[.int .i64 s, .int .i64 d] 31)), Way (w.alloc (.cells #[.int .i64 s, .int .i64 d] 31)) x.u w.heap.size q cap A L a s d (.slice none 0 0) (.bool false) 0 := fun x => ⟨World.ownsRow_nil _ _ _ _, rfl, S0.go hq hA (x.h.mono (by simp)), hA⟩
  go_enter Try.func11, Try.ntmps11
  go_wp2_with fail
  refine (place_any a _ h1).mono ?_
  rintro e w1 ⟨⟨r, rfl, hf⟩, rfl⟩
  have hcase : (∃ (i : Nat) (x : Item), r = i ∧ L[i]? = some x ∧ cmpC s d x.s x.d = -1 ∧ okC x.s x.d) ∨ r = -1 := by
    rcases hf with ⟨i, x, rfl, hx, hxa⟩ | ⟨rfl, hno⟩
    · left
      have hin : x ∈ L := List.mem_of_getElem? hx
      have hk := h.ok x hin
      have hxx : H a = some (x.s, x.d) := by rw [← hxa]; exact (hL.mem _ _ _).mpr hin
      have hv := hn _ _ hxx
      refine ⟨i, x, rfl, hx, ?_, hk⟩
      rw [cmpC_val' s d x.s x.d hc hk]
      exact if_pos hv
    · exact Or.inr rfl
  have hnew : ∀ x, x ∈ finI ⟨a, s, d⟩ (goI ⟨a, s, d⟩ L L.length) → okC x.s x.d := by
    intro x hx
    have := (hL.push ⟨a, s, d⟩).mem x.id x.s x.d
    have h2 := this.mpr hx
    unfold putH at h2
    split at h2
    · cases h2; exact hc
    · exact h.ok _ ((hL.mem _ _ _).mp h2)
  have hglen := goI_len ⟨a, s, d⟩ L
  clear hn hL
  rcases hcase with ⟨i, x, rfl, hx, hr, hk⟩ | rfl
  case' inl =>
    obtain ⟨g, o, rfl, hg, q1, q2, q3⟩ := h.row i x hx
    have hi : i < L.length := (List.getElem?_eq_some_iff.1 hx).1
    have hi' : (i : Int) < (L.length : Int) := by omega
    have s2 : ∀ y : Since (w.alloc (.cells #[.int .i64 s, .int .i64 d] 31)), y.u.cell? ⟨q, 0, none⟩ = some (.slice (some ⟨g, o, none⟩) L.length cap) := fun y => (y.cell _ _ (by simp; omega)).trans h1.c0
    have s3 : ∀ y : Since (w.alloc (.cells #[.int .i64 s, .int .i64 d] 31)), y.u.cell? ⟨g, o + i * 3 + 1, none⟩ = some (.int .i64 x.s) := fun y => (y.cell _ _ (by simp; omega)).trans ((HB0.cell (p := ⟨g, _, none⟩) hg).trans q2)
    have s4 : ∀ y : Since (w.alloc (.cells #[.int .i64 s, .int .i64 d] 31)), y.u.cell? ⟨g, o + i * 3 + 2, none⟩ = some (.int .i64 x.d) := fun y => (y.cell _ _ (by simp; omega)).trans ((HB0.cell (p := ⟨g, _, none⟩) hg).trans q3)
    have hd : decide ((0 : Int) ≤ (i : Int)) = true := decide_eq_true (by omega)
    go_wp2
    refine wp_region_since (by kernel_rfl) (by kernel_rfl) ?_
    repeat (go_big_quiet_step ((go_at_call 14; exact Calls.since_of (rcmp_v hr _ hc hk))))
    refine wpQuiet_nil ?_
    rintro _ ⟨y, rfl⟩
    have hst := hstart y
    clear s0 s1 s2 s3 s4 hstart hd hi' hi q1 q2 q3 hr hk hx hf hne
  case' inr =>
    go_wp2
    refine wp_region_since (by kernel_rfl) (by kernel_rfl) ?_
    repeat (go_big_quiet_step (fail))
    refine wpQuiet_nil ?_
    rintro _ ⟨y, rfl⟩
    have hst := hstart y
    clear s0 s1 hstart hf hne
  all_goals
    clear h1 S0 h hA
    go_wp2
    go_loopw [8, 9, 10] (fun v lb i wr => ∃ (k : Nat) (A' : Option Addr), k ≤ L.length ∧ i = .int .i64 k ∧ Way (w.alloc (.cells #[.int .i64 s, .int .i64 d] 31)) wr w.heap.size q cap A' L a s d v lb k) (fun _ _ i _ => L.length - (intOf i).toNat)
    case atStart => exact ⟨0, _, Nat.zero_le _, rfl, hst⟩
    case round =>
      clear hst
      obtain ⟨k, A', hk, rfl, hown, rfl, St, hA'⟩ := hrel
      have hN : w.heap.size < wr.heap.size := World.block_lt_of_cell? wr _ St.b0
      have c0 := St.rh.c0
      have f0 := St.rh.f0
      have b0 := St.b0
      have b1 := St.b1
      have hgl := hglen k hk
      by_cases hlt : k < L.length
      · have hgo := goI_succ ⟨a, s, d⟩ L k hlt
        obtain ⟨g', o', rfl, hg', p1, p2, p3⟩ := St.rh.row k L[k] (List.getElem?_eq_getElem hlt)
        have hky := St.rh.ok L[k] (List.getElem_mem hlt)
        have hk' : (k : Int) < (L.length : Int) := by omega
        generalize L[k] = y at *
        unfold stI at hgo
        by_cases he : y.id = a
        · have he' : (y.id == a) = true := by simpa using he
          rw [if_pos he] at hgo
          have HG : Hid (goI ⟨a, s, d⟩ L (k + 1) = goI ⟨a, s, d⟩ L k) := hgo
          clear hgo
          go_wp2
          go_roundw
          case rel => exact ⟨k + 1, _, by omega, by go_num, by unfold Way; rw [HG.out]; exact ⟨hown, rfl, St, hA'⟩⟩
          case measure => simp [intOf]; omega
        · have he' : (y.id == a) = false := by simpa using he
          rw [if_neg he] at hgo
          have t0 := since_cell b0
          have t1 := since_cell b1
          have t2 := since_cell c0
          have t3 := since_cell p2
          have t4 := since_cell p3
          have hne := since_ne wr
          have hfc := first_cases a s d y hc hky
          generalize hp : goI ⟨a, s, d⟩ L k = p at *
          obtain ⟨out, laid⟩ := p
          simp only at hown hgo hgl
          have hcs : (∃ r, cmpC s d y.s y.d = r ∧ ((laid = true ∧ goI ⟨a, s, d⟩ L (k + 1) = (out ++ [y], laid)) ∨ (laid = false ∧ r = 1 ∧ goI ⟨a, s, d⟩ L (k + 1) = (out ++ [y], laid)) ∨ (laid = false ∧ r = 0 ∧ ¬ a < y.id ∧ goI ⟨a, s, d⟩ L (k + 1) = (out ++ [y], laid))
              ∨ (laid = false ∧ r = -1 ∧ goI ⟨a, s, d⟩ L (k + 1) = (out ++ [⟨a, s, d⟩] ++ [y], true)) ∨ (laid = false ∧ r = 0 ∧ a < y.id ∧ goI ⟨a, s, d⟩ L (k + 1) = (out ++ [⟨a, s, d⟩] ++ [y], true)))) := by
            refine ⟨_, rfl, ?_⟩
            cases laid with
            | true => left; exact ⟨rfl, by rw [hgo]; simp⟩
            | false =>
              right
              rcases hfc with ⟨e1, e2⟩ | ⟨e1, e2⟩ | ⟨e1, e3, e2⟩ | ⟨e1, e3, e2⟩
              · right; right; left; exact ⟨rfl, e1, by rw [hgo, e2]; simp⟩
              · left; exact ⟨rfl, e1, by rw [hgo, e2]; simp⟩
              · right; right; right; exact ⟨rfl, e1, e3, by rw [hgo, e2]; simp⟩
              · right; left; exact ⟨rfl, e1, e3, by rw [hgo, e2]; simp⟩
          clear hfc hgo hp hglen
          obtain ⟨r, hr, hcs⟩ := hcs
          rcases hcs with ⟨rfl, hgo⟩ | ⟨rfl, rfl, hgo⟩ | ⟨rfl, rfl, hlt2, hgo⟩ | ⟨rfl, rfl, hgo⟩ | ⟨rfl, rfl, hlt2, hgo⟩
          all_goals first | have hd2 : decide (a < y.id) = false := decide_eq_false hlt2 | skip
          all_goals
            have HG : Hid _ := hgo
            clear hgo
            go_wp2
            refine wp_region_since (by kernel_rfl) (by kernel_rfl) ?_
            repeat (go_big_quiet_step ((go_at_call 14; exact Calls.since_of (rcmp_v hr _ hc hky))))
            refine wpQuiet_nil ?_
            rintro _ ⟨z, rfl⟩
            have St1 := St.go hq hA' (z.h.mono (by omega))
            have hown1 := owns_below hown z.h
            have hzs := z.h.size
            have u0 := t0 z
            have u1 := t1 z
            have u2 := t2 z
            have u3 := t3 z
            have u4 := t4 z
            have u5 := since_cell p1 z
            clear t0 t1 t2 t3 t4 hne St hown
          all_goals
            have hg2 : g' < w.heap.size := hA' g' o' rfl (by omega)
            go_wp2_with (first | (at_builtin; refine append_item Try.under27 hi0 hz0 hz1 hz2 _ rfl _ _ rfl (w.heap.size + 1) _ _ (out ++ [⟨a, s, d⟩]) y rfl rfl O0 38 rfl (by simp; omega) (by have := B0.size; omega) ?_; intro v1 w1 O1 B1'; have B1 := B0.trans B1') | (at_builtin; refine append_item Try.under27 hi0 hz0 hz1 hz2 _ rfl _ _ rfl (w.heap.size + 1) out.length _ out ⟨a, s, d⟩ rfl rfl hown1 38 rfl (by omega) (by omega) ?_; intro v0 w0 O0 B0; have m2 := (St1.go hq hA' B0).rh.c0; have m3 := (B0.cell (p := ⟨g', o' + k * 3 + 1, none⟩) (by show g' < _; omega)).trans u3; have m4 := (B0.cell (p := ⟨g', o' + k * 3 + 2, none⟩) (by show g' < _; omega)).trans u4; have m5 := (B0.cell (p := ⟨g', o' + k * 3, none⟩) (by show g' < _; omega)).trans u5) | (at_builtin; refine append_item Try.under27 hi0 hz0 hz1 hz2 _ rfl _ _ rfl (w.heap.size + 1) out.length _ out y rfl rfl hown1 38 rfl (by omega) (by omega) ?_; intro v1 w1 O1 B1))
          all_goals
            have St2 := St1.go hq hA' B1
            go_roundw
            case rel => exact ⟨k + 1, _, by omega, by go_num, by unfold Way; rw [HG.out]; exact ⟨O1, rfl, St2, hA'⟩⟩
            case measure => simp [intOf]; omega
      · have HK : Hid (k = L.length) := by show k = L.length; omega
        have hLk : ¬ ((k : Int) < (L.length : Int)) := by omega
        cases hl : (goI ⟨a, s, d⟩ L k).2 with
        | true =>
          have hfin : finI ⟨a, s, d⟩ (goI ⟨a, s, d⟩ L L.length) = (goI ⟨a, s, d⟩ L k).1 := by rw [← HK.out]; unfold finI; rw [hl]; rfl
          have HF : Hid _ := hfin
          rw [hfin] at hnew
          clear hfin
          obtain ⟨A2, cap2, ev, HR, HA⟩ := rh_new St hq hown (by omega) hnew
          have KK : Keep (fun k => k = q) w (wr.setCell ⟨q, 0, none⟩ u8) := (Keep.of_below (F := fun k => k = q) (HB0.trans (St.hb.mono (by omega)))).setCell (p := ⟨q, 0, none⟩) (fun _ => rfl) _
          subst ev
          go_wp2
          go_ret
          exact ⟨rfl, ⟨A2, cap2, by rw [HF.out]; exact HR, HA⟩, KK⟩
        | false =>
          have hfin : finI ⟨a, s, d⟩ (goI ⟨a, s, d⟩ L L.length) = (goI ⟨a, s, d⟩ L k).1 ++ [⟨a, s, d⟩] := by rw [← HK.out]; unfold finI; rw [hl]; rfl
          have HF : Hid _ := hfin
          rw [hfin] at hnew
          clear hfin
          go_wp2_with (at_builtin; refine append_item Try.under27 hi0 hz0 hz1 hz2 _ rfl _ _ rfl (w.heap.size + 1) _ _ (goI ⟨a, s, d⟩ L k).1 ⟨a, s, d⟩ rfl rfl hown 38 rfl (by omega) (by omega) ?_)
          intro v1 w1 O1 B1
          have St1 := St.go hq hA' B1
          have m2 := St1.rh.c0
          have m3 := St1.rh.f0
          obtain ⟨A2, cap2, ev, HR, HA⟩ := rh_new St1 hq (by rw [List.length_append]; exact O1) (by simp; omega) hnew
          have KK : Keep (fun k => k = q) w (w1.setCell ⟨q, 0, none⟩ v1) := (Keep.of_below (F := fun k => k = q) (HB0.trans (St1.hb.mono (by omega)))).setCell (p := ⟨q, 0, none⟩) (fun _ => rfl) _
          rw [List.length_append, List.length_singleton] at ev
          subst ev
          go_wp2
          go_ret
          exact ⟨rfl, ⟨A2, cap2, by rw [HF.out]; exact HR, HA⟩, KK⟩
end Go.Proofs.Ytkaolmblcmbjaab
