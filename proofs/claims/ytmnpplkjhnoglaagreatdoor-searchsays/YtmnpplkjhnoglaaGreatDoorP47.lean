/-
  Texts laid together: SyE, SyF, SyG.
-/
import Derived.Test.YtmnpplkjhnoglaaGreatDoorP46
import Derived.Deep.CutRange
/-
  The reference's graph as it lies in memory, with its edges as lists. (For SearchSays, and LevelsSays.)
-/
namespace Go.Proofs.YtmnpplkjhnoglaaGreatDoor
open Go.RowKit

/-- the reference's graph in memory: corners, and a map of their edges -/
structure RGm (w : World) (rb mb cap nk : Nat) (A : Option Addr) (L : List Nat) (es : Nat → List LE) (f : Int → Option Value) : Prop where
  p0 : w.cell? ⟨rb, 0, none⟩ = some (.slice A L.length cap)
  p1 : w.cell? ⟨rb, 1, none⟩ = some (.map (some mb))
  row : OldRow w A L.length (fun i => (L.getD i 0 : Nat))
  mp : MapF Tryz.prog 3 w mb f nk
  yes : ∀ n ∈ L, ∃ A cap, f (n : Int) = some (.slice A (es n).length cap) ∧ RowL w A (es n)
  no : ∀ c : Int, ¬ (0 ≤ c ∧ c.toNat ∈ L) → f c = none
theorem RGm.below {w w' : World} {rb mb cap nk : Nat} {A : Option Addr} {L : List Nat} {es : Nat → List LE} {f : Int → Option Value} (G : RGm w rb mb cap nk A L es f) (hb : Below w.heap.size w w') : RGm w' rb mb cap nk A L es f :=
  ⟨(hb.cell (World.block_lt_of_cell? _ _ G.p0)).trans G.p0, (hb.cell (World.block_lt_of_cell? _ _ G.p1)).trans G.p1, G.row.below hb, G.mp.keep (F := fun _ => False) (Keep.of_below hb) id, fun n hn => by
    obtain ⟨A, cap, h1, h2⟩ := G.yes n hn
    exact ⟨A, cap, h1, h2.below hb⟩, G.no⟩
theorem RGt.gm {w : World} {M rb mb cap : Nat} {W H V : Int} {bl : Nat → Bool} {A AR : Option Addr} {R : Nat → List Value} {f : Int → Option Value} {es : Nat → List LE} (G : RGt w M rb mb W H V bl A AR cap R (crs W H bl (W * H).toNat) f) (E : Eds w W H bl (crs W H bl (W * H).toNat) f (crs W H bl (W * H).toNat).length) (hG : GEs W H bl es) :
    RGm w rb mb cap (cntS (keyB f) 256) A (crs W H bl (W * H).toNat) es f := by
  have at' : ∀ {n : Nat}, n ∈ crs W H bl (W * H).toNat → ∃ j, j < (crs W H bl (W * H).toNat).length ∧ (n : Int) = (((crs W H bl (W * H).toNat).getD j 0 : Nat) : Int) := fun {n} hn => by
    obtain ⟨i, hi, h⟩ := List.getElem_of_mem hn
    exact ⟨i, hi, by rw [getD_at _ _ hi, h]⟩
  refine ⟨G.p0, G.p1, G.row, G.mp, fun n hn => ?_, fun c hc => E.2 c (fun ⟨j, hj, h⟩ => hc ?_)⟩
  · obtain ⟨v, l, h1, h2, h3⟩ := E.1 (n : Int) (at' hn)
    obtain ⟨l', k1, k2⟩ := hG.1 n (crs_mem.1 hn).2
    have e := h3.one k1
    subst e
    have hl : (es n).length = l.length := by rw [k2, List.length_map]
    have ho : w.ownsRow 1 67 4 v (es n).length (lesV (es n)) := by
      rw [hl, k2, lesV_edges]
      exact h2
    obtain ⟨A', cap', rfl, hr, _⟩ := rowL_of ho
    exact ⟨A', cap', h1, hr⟩
  · rw [h, Int.toNat_natCast]
    refine ⟨by omega, ?_⟩
    rw [getD_at _ _ hj]
    exact List.getElem_mem hj
/-- which are labelled, as a map's values -/
def bv (B : Int → Option (Int × Int)) : Int → Option Value := fun a => (B a).map fun _ => .bool true
theorem bv_put (B : Int → Option (Int × Int)) (a s d : Int) : putF (bv B) a (.bool true) = bv (putH B a s d) := by
  funext i
  unfold putF bv putH
  by_cases e : i = a
  · rw [if_pos e, if_pos e]; rfl
  · rw [if_neg e, if_neg e]
theorem Tryz.underBb : Tryz.prog.underlying 126 = some (.map 3 4) := by kernel_rfl
theorem zeroBb (w : World) : (zeroValue 4).run Tryz.prog w = .ok (.bool false) w := by kernel_rfl
/-- the labels in memory: two maps -/
structure Lbs (w : World) (N cb ib : Nat) (B : Int → Option (Int × Int)) : Prop where
  cm : MapF Tryz.prog 3 w cb (fv B) (cnt B 256)
  im : MapF Tryz.prog 3 w ib (bv B) (cnt B 256)
  nb : N ≤ cb ∧ N ≤ ib ∧ cb ≠ ib
theorem Lbs.keep {F : Nat → Prop} {w w' : World} {N cb ib : Nat} {B : Int → Option (Int × Int)} (h : Lbs w N cb ib B) (K : Keep F w w') (h1 : ¬ F cb) (h2 : ¬ F ib) : Lbs w' N cb ib B := ⟨h.cm.keep K h1, h.im.keep K h2, h.nb⟩
theorem Lbs.below {w w' : World} {N cb ib : Nat} {B : Int → Option (Int × Int)} (h : Lbs w N cb ib B) (hb : Below w.heap.size w w') : Lbs w' N cb ib B := h.keep (F := fun _ => False) (Keep.of_below hb) id id
section
variable {w : World} {N cb ib : Nat} {B : Int → Option (Int × Int)} {a : Int}
theorem Lbs.is (h : Lbs w N cb ib B) (ha : (Lit.int .i64 a).wf = true) : (Instr.lookup 126 (.map (some ib)) (.int .i64 a) false).run Tryz.prog w = .ok (.bool (B a).isSome) w := by
  cases hB : B a with
  | none => exact h.im.look_none law3 Tryz.underBb (zeroBb _) ha (by unfold bv; rw [hB]; rfl) false
  | some c => exact h.im.look_some law3 Tryz.underBb (zeroBb _) ha (v := .bool true) (by unfold bv; rw [hB]; rfl) false
theorem Lbs.co (h : Lbs w N cb ib B) (ha : (Lit.int .i64 a).wf = true) : (Instr.lookup 125 (.map (some cb)) (.int .i64 a) false).run Tryz.prog w = .ok (.agg #[.int .i64 ((B a).getD (0, 0)).1, .int .i64 ((B a).getD (0, 0)).2]) w := by
  cases hB : B a with
  | none => exact h.cm.look_none law3 Tryz.underK (zeroK _) ha (fv_none hB) false
  | some c =>
    obtain ⟨s, d⟩ := c
    exact h.cm.look_some law3 Tryz.underK (zeroK _) ha (fv_some hB) false
theorem cnt_after (B : Int → Option (Int × Int)) (h0 : 0 ≤ a) (h1 : a < 256) (s d : Int) : (if (B a).isSome then cnt B 256 else cnt B 256 + 1) = cnt (putH B a s d) 256 := by
  cases hB : B a with
  | none => exact (cnt_put B a s d 256 h0 (by omega) hB).symm
  | some c => exact (cntG_again B a s d 256 (by rw [hB]; rfl)).symm
/-- what it costs is written -/
theorem Lbs.put1 (h : Lbs w N cb ib B) (ha : (Lit.int .i64 a).wf = true) (h0 : 0 ≤ a) (h1 : a < 256) (s d : Int) :
    ∃ w1, (Instr.mapUpdate 125 (.map (some cb)) (.int .i64 a) (.agg #[.int .i64 s, .int .i64 d])).run Tryz.prog w = .ok () w1 ∧ Keep (fun k => k = cb) w w1 ∧ MapF Tryz.prog 3 w1 cb (fv (putH B a s d)) (cnt (putH B a s d) 256) ∧ MapF Tryz.prog 3 w1 ib (bv B) (cnt B 256) := by
  have hc := cnt_le B 256
  obtain ⟨w1, hrun, hm, ht⟩ := h.cm.store law3 Tryz.underK (by unfold maxLen; omega) ha (.agg #[.int .i64 s, .int .i64 d])
  have K := turned_keep ht
  refine ⟨w1, hrun, K, ?_, h.im.keep K (fun e => h.nb.2.2 e.symm)⟩
  rw [fv_put] at hm
  rw [← cnt_after B h0 h1 s d]
  have e : (fv B a).isSome = (B a).isSome := by unfold fv; rw [Option.isSome_map]
  rw [e] at hm
  exact hm
/-- that it is there is written -/
theorem Lbs.put2 {s d : Int} (nb : N ≤ cb ∧ N ≤ ib ∧ cb ≠ ib) (hc : MapF Tryz.prog 3 w cb (fv (putH B a s d)) (cnt (putH B a s d) 256)) (hi : MapF Tryz.prog 3 w ib (bv B) (cnt B 256)) (ha : (Lit.int .i64 a).wf = true) (h0 : 0 ≤ a) (h1 : a < 256) :
    ∃ w1, (Instr.mapUpdate 126 (.map (some ib)) (.int .i64 a) (.bool true)).run Tryz.prog w = .ok () w1 ∧ Keep (fun k => k = ib) w w1 ∧ Lbs w1 N cb ib (putH B a s d) := by
  have hcl := cnt_le B 256
  obtain ⟨w1, hrun, hm, ht⟩ := hi.store law3 Tryz.underBb (by unfold maxLen; omega) ha (.bool true)
  have K := turned_keep ht
  refine ⟨w1, hrun, K, hc.keep K nb.2.2, ?_, nb⟩
  rw [bv_put B a s d] at hm
  rw [← cnt_after B h0 h1 s d]
  have e : (bv B a).isSome = (B a).isSome := by unfold bv; rw [Option.isSome_map]
  rw [e] at hm
  exact hm
end
end Go.Proofs.YtmnpplkjhnoglaaGreatDoor
/-
  The reference's search: 'Best' of its graph.
-/
namespace Go.Proofs.YtmnpplkjhnoglaaGreatDoor
open Go.RowKit

theorem rlxd_none {es : Nat → List LE} {B : Int → Option (Int × Int)} {n : Nat} (h : B (n : Int) = none) : Rlxd es B n := fun {s d e} hs _ => by
  rw [h] at hs
  cases hs
theorem rlx_all {L : List Nat} {es : Nat → List LE} {B B' : Int → Option (Int × Int)} (h : B' = B ∧ ∀ j, j < L.length → Rlxd es B (L.getD j 0)) : ∀ n ∈ L, Rlxd es B' n := by
  obtain ⟨rfl, h⟩ := h
  intro n hn s d e hs he
  obtain ⟨j, hj, hjn⟩ := List.getElem_of_mem hn
  have h3 : Rlxd es B' (L.getD j 0) := h j hj
  rw [getD_at _ _ hj, hjn] at h3
  exact h3 hs he
theorem rlxd_of {es : Nat → List LE} {B : Int → Option (Int × Int)} {n : Nat} (h : ∀ m e s d, m < (es n).length → (es n)[m]? = some e → B (n : Int) = some (s, d) → ∃ s' d', B (e.to : Int) = some (s', d') ∧ val s' d' ≤ val s d + val e.s e.d) : Rlxd es B n := fun {s d e} hs he => by
  obtain ⟨m, hm, hme⟩ := List.getElem_of_mem he
  exact h m e s d hm (by rw [List.getElem?_eq_getElem hm, hme]) hs
set_option maxHeartbeats 8000000 in
set_option maxRecDepth 1000000 in
theorem rbest_any {rb mb cap nk cap1 cap2 : Nat} {A A1 A2 : Option Addr} {L : List Nat} {es : Nat → List LE} {f : Int → Option Value} {out inn : List IE} (w : World) (G : RGm w rb mb cap nk A L es f) (O : EsOk L es) (ho : RowI w A1 out) (hi : RowI w A2 inn)
    (hco : ∀ e ∈ out, 0 ≤ e.s ∧ e.s ≤ 1048576 ∧ 0 ≤ e.d ∧ e.d ≤ 1048576) (hci : ∀ e ∈ inn, 0 ≤ e.s ∧ e.s ≤ 1048576 ∧ 0 ≤ e.d ∧ e.d ≤ 1048576) (hLL : L.length ≤ 256) (hel : ∀ n, (es n).length ≤ 256) (hol : out.length ≤ 1000) (hil : inn.length ≤ 1000) :
    Calls Tryz.prog 28 #[.pointer (some ⟨rb, 0, none⟩), .slice A1 out.length cap1, .slice A2 inn.length cap2] w fun e w' => ∃ s d b B, e = .returned (.tuple #[.agg #[.int .i64 s, .int .i64 d], .bool b]) ∧ RB L es out B ∧ (∀ n ∈ L, Rlxd es B n) ∧ RE L B inn s d b ∧ Below w.heap.size w w' := by
  have hmk := @run_makeMap Tryz.prog
  have b0 : Below w.heap.size w (((w.alloc (.cells #[.int .i64 0, .int .i64 0] 65)).alloc (.map #[] 0)).alloc (.map #[] 0)) := (((Below.refl _ _).alloc (Nat.le_refl _) _).alloc (by simp) _).alloc (by simp; omega) _
  have s0 : Slot (((w.alloc (.cells #[.int .i64 0, .int .i64 0] 65)).alloc (.map #[] 0)).alloc (.map #[] 0)) w.heap.size 0 0 := (Slot.new w 0 0).below (((Below.refl _ _).alloc (Nat.le_refl _) _).alloc (by simp) _)
  have l0 : Lbs (((w.alloc (.cells #[.int .i64 0, .int .i64 0] 65)).alloc (.map #[] 0)).alloc (.map #[] 0)) w.heap.size (w.heap.size + 1) (w.heap.size + 1 + 1) (fun _ => none) := by
    have e1 : (w.alloc (.cells #[.int .i64 0, .int .i64 0] 65)).heap.size = w.heap.size + 1 := by simp
    have e2 : ((w.alloc (.cells #[.int .i64 0, .int .i64 0] 65)).alloc (.map #[] 0)).heap.size = w.heap.size + 1 + 1 := by simp
    have m1 := MapF.made (w.alloc (.cells #[.int .i64 0, .int .i64 0] 65)) Tryz.prog 3
    have m2 := MapF.made ((w.alloc (.cells #[.int .i64 0, .int .i64 0] 65)).alloc (.map #[] 0)) Tryz.prog 3
    rw [e1] at m1
    rw [e2] at m2
    refine ⟨?_, ?_, by omega, by omega, by omega⟩
    · rw [show fv (fun _ => none) = fun _ => none from rfl, cnt_none]
      exact m1.keep (F := fun _ => False) (Keep.of_below ((Below.refl _ _).alloc (Nat.le_refl _) _)) id
    · rw [cnt_none]
      exact m2
  have HLL : Hid (L.length ≤ 256) := hLL
  have HEL : Hid (∀ n, (es n).length ≤ 256) := hel
  have HRB0 : Hid (RB L es (out.take 0) (fun _ => none)) := RB.start L es
  go_enter Tryz.func28, Tryz.ntmps28
  go_wp2
  generalize ((w.alloc (.cells #[.int .i64 0, .int .i64 0] 65)).alloc (.map #[] 0)).alloc (.map #[] 0) = w0 at *
  generalize hib : w.heap.size + 1 + 1 = ib at *
  generalize hcb : w.heap.size + 1 = cb at *
  have HCI : Hid (w.heap.size ≠ cb ∧ w.heap.size ≠ ib) := ⟨by omega, by omega⟩
  clear hmk hib hcb
  go_loopw [10] (fun iv wr => ∃ (i : Nat) (B : Int → Option (Int × Int)), i ≤ out.length ∧ iv = .int .i64 i ∧ Lbs wr w.heap.size cb ib B ∧ Hid (RB L es (out.take i) B) ∧ Slot wr w.heap.size 0 0 ∧ Below w.heap.size w wr)
    (fun i _ => out.length - (intOf i).toNat)
  case atStart => exact ⟨0, _, Nat.zero_le _, rfl, l0, HRB0.out, s0, b0⟩
  case round =>
    clear l0 s0 b0 HRB0
    obtain ⟨i, B, hi', rfl, lb, hrb, sl, hB⟩ := hrel
    by_cases hlt : i < out.length
    · obtain ⟨e, he⟩ : ∃ e, out[i]? = some e := ⟨out[i], List.getElem?_eq_getElem hlt⟩
      obtain ⟨hwe, b1, o1, hA1, c0, c1, c2, _⟩ := (ho.below (Nat.le_refl _) hB) i e he
      subst hA1
      have hce := hco e (List.mem_of_getElem? he)
      have HNX : Hid (RB L es (out.take (i + 1)) (inR L B e)) := by
        have := hrb.out.in O hce
        rw [List.take_add_one, he]
        exact this
      have Gr := G.below hB
      have p1 := Gr.p1
      have i1 : (0 : Int) ≤ (i : Int) := by omega
      have i2 : (i : Int) < (out.length : Int) := by omega
      obtain ⟨v47, th, hth, h47⟩ : ∃ v47 th, th = decide (0 ≤ e.to ∧ e.to.toNat ∈ L) ∧ (Instr.lookup 47 (.map (some mb)) (.int .i64 e.to) true).run Tryz.prog wr = .ok (.tuple #[v47, .bool th]) wr := by
        by_cases hin : 0 ≤ e.to ∧ e.to.toNat ∈ L
        · obtain ⟨A', cap', h1, _⟩ := Gr.yes _ hin.2
          rw [Int.toNat_of_nonneg hin.1] at h1
          exact ⟨_, true, (decide_eq_true hin).symm, Gr.mp.look_some law3 Tryz.underM (zeroM _) hwe h1 true⟩
        · exact ⟨_, false, (decide_eq_false hin).symm, Gr.mp.look_none law3 Tryz.underM (zeroM _) hwe (Gr.no _ hin) true⟩
      have HTH : Hid (th = decide (0 ≤ e.to ∧ e.to.toNat ∈ L)) := hth
      clear hth Gr he
      go_upto_region 8 with fail
      go_cut [64] from 46 to 64 (fun b wd => b = .bool (th && pushB B e.to e.s e.d) ∧ Below wr.heap.size wr wd)
      case first =>
        have hne := since_ne wr
        have kx : ∀ (x : Since wr) {y : Addr} {z : Value}, wr.cell? y = some z → x.u.cell? y = some z := fun x {y z} h => (x.h.cell (World.block_lt_of_cell? wr y h)).trans h
        have t1 : ∀ x : Since wr, x.u.cell? ⟨b1, o1 + i * 4 + 1, none⟩ = some (.int .i64 e.s) := fun x => kx x c1
        have t2 : ∀ x : Since wr, x.u.cell? ⟨b1, o1 + i * 4 + 2, none⟩ = some (.int .i64 e.d) := fun x => kx x c2
        have t3 : ∀ x : Since wr, (Instr.lookup 126 (.map (some ib)) (.int .i64 e.to) false).run Tryz.prog x.u = .ok (.bool (B e.to).isSome) x.u := fun x => (lb.below x.h).is hwe
        have t4 : ∀ x : Since wr, (Instr.lookup 125 (.map (some cb)) (.int .i64 e.to) false).run Tryz.prog x.u = .ok (.agg #[.int .i64 ((B e.to).getD (0, 0)).1, .int .i64 ((B e.to).getD (0, 0)).2]) x.u := fun x => (lb.below x.h).co hwe
        clear kx h47 c0 c1 c2 HNX HTH p1
        cases th with
        | false =>
          clear t1 t2 t3 t4
          go_quiet (fail)
          go_wp2_with fail
          go_meet
          exact ⟨rfl, below_drewN (Below.refl _ _) _⟩
        | true =>
          cases hBe : B e.to with
          | none =>
            have hpb : pushB B e.to e.s e.d = true := by unfold pushB; rw [hBe]
            rw [hBe] at t3 t4
            have t3 : ∀ x : Since wr, (Instr.lookup 126 (.map (some ib)) (.int .i64 e.to) false).run Tryz.prog x.u = .ok (.bool false) x.u := t3
            clear t4 t1 t2
            refine wp_region_since (by kernel_rfl) (by kernel_rfl) ?_
            repeat (go_big_quiet_step (fail))
            refine wpQuiet_nil ?_
            rintro _ ⟨x, rfl⟩
            go_wp2_with fail
            go_meet
            exact ⟨by rw [hpb]; rfl, x.h⟩
          | some c =>
            obtain ⟨s', d'⟩ := c
            have hbig := hrb.out.big hBe
            have ok1 : okC e.s e.d := by unfold okC; omega
            have ok2 : okC s' d' := by unfold okC; omega
            have hdec : decide (cmpC e.s e.d s' d' < 0) = pushB B e.to e.s e.d := by
              unfold pushB
              rw [hBe, cmpC_val' _ _ _ _ ok1 ok2]
              exact decide_eq_decide.2 (cmpI_neg _ _)
            rw [hBe] at t3 t4
            have t3 : ∀ x : Since wr, (Instr.lookup 126 (.map (some ib)) (.int .i64 e.to) false).run Tryz.prog x.u = .ok (.bool true) x.u := t3
            have t4 : ∀ x : Since wr, (Instr.lookup 125 (.map (some cb)) (.int .i64 e.to) false).run Tryz.prog x.u = .ok (.agg #[.int .i64 s', .int .i64 d']) x.u := t4
            have hcmp : Hid (∀ x : Since wr, _) := fun x => rcmp_any e.s e.d s' d' x.u ok1 ok2
            refine wp_region_since (by kernel_rfl) (by kernel_rfl) ?_
            repeat (go_big_quiet_step (first | (go_at_call 66; exact Calls.since_of (hcmp.out _))))
            refine wpQuiet_nil ?_
            rintro _ ⟨x, rfl⟩
            go_wp2_with fail
            go_meet
            exact ⟨by rw [← hdec]; rfl, x.h⟩
      case rest =>
        obtain ⟨rfl, hb5⟩ := hcut
        have lb5 := lb.below hb5
        have sl5 := sl.below hb5
        have B5 := hB.trans (hb5.mono hB.size)
        have kc : ∀ {y : Addr} {z : Value}, wr.cell? y = some z → wc.cell? y = some z := fun {y z} h => (hb5.cell (World.block_lt_of_cell? wr y h)).trans h
        have c1 := kc c1
        have c2 := kc c2
        clear kc h47 c0 hb5 lb sl hB p1
        cases hq : (th && pushB B e.to e.s e.d) with
        | false =>
          have e1 : inR L B e = B := by
            unfold inR
            rw [if_neg]
            rintro ⟨q1, q2⟩
            rw [HTH.out, q1, q2] at hq
            cases hq
          have HN2 : Hid (RB L es (out.take (i + 1)) B) := by rw [← e1]; exact HNX.out
          clear HNX e1 hq HTH c1 c2
          go_wp2
          go_roundw
          case rel => exact ⟨i + 1, B, by omega, by go_num, lb5, HN2.out, sl5, B5⟩
          case measure => simp [intOf]; omega
        | true =>
          rw [Bool.and_eq_true] at hq
          have hin : 0 ≤ e.to ∧ e.to.toNat ∈ L := of_decide_eq_true (HTH.out.symm.trans hq.1)
          have hsm := O.small _ hin.2
          have e1 : inR L B e = putH B e.to e.s e.d := by
            unfold inR
            rw [if_pos ⟨decide_eq_true hin, hq.2⟩]
          have HN2 : Hid (RB L es (out.take (i + 1)) (putH B e.to e.s e.d)) := by rw [← e1]; exact HNX.out
          obtain ⟨w6, hrun6, K6, m6, m7⟩ := lb5.put1 hwe hin.1 (by omega) e.s e.d
          obtain ⟨w7, hrun7, K7, lb7⟩ := Lbs.put2 lb5.nb m6 m7 hwe hin.1 (by omega)
          have sl7 := (sl5.keep K6 HCI.out.1).keep K7 HCI.out.2
          have B6 := B5.trans (K6.to_below B5.size (fun g hg => by rw [hg]; exact lb5.nb.1))
          have B7 := B6.trans (K7.to_below B6.size (fun g hg => by rw [hg]; exact lb5.nb.2.1))
          clear HNX e1 HTH hq hin hsm sl5 B5 B6 K6 K7 m6 m7 lb5
          go_wp2
          go_roundw
          case rel => exact ⟨i + 1, _, by omega, by go_num, lb7, HN2.out, sl7, B7⟩
          case measure => simp [intOf]; omega
    · have ei : i = out.length := by omega
      subst ei
      have HR1 : Hid (RB L es out B) := by
        have := hrb.out
        rw [List.take_length] at this
        exact this
      have HG : Hid (RGm w rb mb cap nk A L es f) := G
      clear hrb ho hco hlt hi' G
      go_wp2
      go_loopg [14] (potG 109969568169985 B 256 + 1) (fun gk av wr => ∃ (ag : Bool) (B : Int → Option (Int × Int)), av = .bool ag ∧ gk = potG 109969568169985 B 256 + (if ag then 1 else 0) ∧ Lbs wr w.heap.size cb ib B ∧ Hid (RB L es out B) ∧ Hid (ag = false → ∀ n ∈ L, Rlxd es B n) ∧ Slot wr w.heap.size 0 0 ∧ Below w.heap.size w wr)
      case atStart => exact ⟨true, B, rfl, rfl, lb, HR1, fun q => (by cases q), sl, hB⟩
      case round =>
        clear lb HR1 sl hB B
        obtain ⟨ag, B, rfl, hgk, lb, HR1, hdone, sl, hB⟩ := hrel
        have HGK : Hid _ := hgk
        clear hgk
        cases ag with
        | true =>
          clear hdone
          go_wp2
          go_loopw [14, 15] (fun av iv wr => ∃ (ag : Bool) (i : Nat) (B' : Int → Option (Int × Int)), av = .bool ag ∧ iv = .int .i64 i ∧ i ≤ L.length ∧ Lbs wr w.heap.size cb ib B' ∧ Hid (RB L es out B') ∧ Hid (ag = true → potG 109969568169985 B' 256 < potG 109969568169985 B 256) ∧ Hid (ag = false → B' = B ∧ ∀ j, j < i → Rlxd es B (L.getD j 0)) ∧ Slot wr w.heap.size 0 0 ∧ Below w.heap.size w wr)
            (fun _ i _ => L.length - (intOf i).toNat)
          case atStart => exact ⟨false, 0, B, rfl, rfl, Nat.zero_le _, lb, HR1, fun q => (by cases q), fun _ => ⟨rfl, fun j hj => absurd hj (Nat.not_lt_zero j)⟩, sl, hB⟩
          case round =>
            clear lb HR1 sl hB
            obtain ⟨ag, i, B1, rfl, rfl, hi1, lb, HR1, hpot, hfal, sl, hB⟩ := hrel
            have Gr := HG.out.below hB
            have p0 := Gr.p0
            have hLL : L.length ≤ 256 := HLL.out
            by_cases hlt : i < L.length
            · obtain ⟨ba, oa, hA, hba, hcell0⟩ := Gr.row i hlt
              subst hA
              have i1 : (0 : Int) ≤ (i : Int) := by omega
              have i2 : (i : Int) < (L.length : Int) := by omega
              obtain ⟨n, hn⟩ : ∃ n, L.getD i 0 = n := ⟨_, rfl⟩
              have hcell : wr.cell? ⟨ba, oa + i, none⟩ = some (.int .i64 (n : Int)) := by rw [← hn]; exact hcell0
              have hnL : n ∈ L := by rw [← hn, getD_at _ _ hlt]; exact List.getElem_mem hlt
              have HNI : Hid (L.getD i 0 = n ∧ n ∈ L) := ⟨hn, hnL⟩
              have hsm := O.small n hnL
              have hwn := wf_small (a := (n : Int)) (by omega) (by omega)
              have HW1 : Hid (Below w.heap.size w wr) := hB
              clear hn hnL hcell0 Gr
              go_wp2
              clear hcell p0
              obtain ⟨WB, hWB⟩ : ∃ WB, WB = wr := ⟨_, rfl⟩
              go_loopw [14, 17] (fun av kv wr => ∃ (ag : Bool) (k : Nat) (B' : Int → Option (Int × Int)), av = .bool ag ∧ kv = .int .i64 k ∧ k ≤ (es n).length ∧ Lbs wr w.heap.size cb ib B' ∧ Hid (RB L es out B') ∧ Hid (ag = true → potG 109969568169985 B' 256 < potG 109969568169985 B 256) ∧ Hid (ag = false → B' = B ∧ (∀ j, j < i → Rlxd es B (L.getD j 0)) ∧ ∀ m e s d, m < k → (es n)[m]? = some e → B (n : Int) = some (s, d) → ∃ s' d', B (e.to : Int) = some (s', d') ∧ val s' d' ≤ val s d + val e.s e.d) ∧ Slot wr w.heap.size 0 0 ∧ Below w.heap.size w wr)
                (fun _ k _ => (es n).length - (intOf k).toNat)
              case atStart => exact ⟨ag, 0, B1, rfl, rfl, Nat.zero_le _, lb, HR1, hpot, fun q => ⟨(hfal.out q).1, (hfal.out q).2, fun m _ _ _ hm => absurd hm (Nat.not_lt_zero m)⟩, sl, hB⟩
              case round =>
                clear lb HR1 sl hB hpot hfal hWB WB HW1
                obtain ⟨ag, k, B2, rfl, rfl, hk, lb, HR1, hpot, hfal, sl, hB⟩ := hrel
                have Gr := HG.out.below hB
                have p1 := Gr.p1
                obtain ⟨A', cap', hf', hrow⟩ := Gr.yes n HNI.out.2
                have h47 : (Instr.lookup 47 (.map (some mb)) (.int .i64 (n : Int)) false).run Tryz.prog wr = .ok (.slice A' (es n).length cap') wr := Gr.mp.look_some law3 Tryz.underM (zeroM _) hwn hf' false
                have h126 := lb.is hwn
                have hel : (es n).length ≤ 256 := HEL.out n
                by_cases hkl : k < (es n).length
                · cases hBn : B2 (n : Int) with
                  | none =>
                    rw [hBn] at h126
                    have h126 : (Instr.lookup 126 (.map (some ib)) (.int .i64 (n : Int)) false).run Tryz.prog wr = .ok (.bool false) wr := h126
                    have k2 : (k : Int) < ((es n).length : Int) := by omega
                    have HRX : Hid (ag = false → B2 = B ∧ ∀ j, j < i + 1 → Rlxd es B (L.getD j 0)) := fun q => by
                      obtain ⟨e1, e2, _⟩ := hfal.out q
                      refine ⟨e1, fun j hj => ?_⟩
                      by_cases ej : j < i
                      · exact e2 j ej
                      · have : j = i := by omega
                        subst this
                        rw [HNI.out.1]
                        exact rlxd_none (by rw [← e1]; exact hBn)
                    clear hfal Gr hf' hrow
                    go_wp2
                    go_roundw
                    case rel => exact ⟨ag, i + 1, B2, rfl, by go_num, by omega, lb, HR1, hpot, HRX.out, sl, hB⟩
                    case measure => simp [intOf]; omega
                  | some c =>
                    obtain ⟨s, d⟩ := c
                    rw [hBn] at h126
                    have h126 : (Instr.lookup 126 (.map (some ib)) (.int .i64 (n : Int)) false).run Tryz.prog wr = .ok (.bool true) wr := h126
                    obtain ⟨e, he⟩ : ∃ e, (es n)[k]? = some e := ⟨(es n)[k], List.getElem?_eq_getElem hkl⟩
                    obtain ⟨bb, oo, hA', d0, d1, d2, d3⟩ := hrow k e he
                    subst hA'
                    have k1 : (0 : Int) ≤ (k : Int) := by omega
                    have k2 : (k : Int) < ((es n).length : Int) := by omega
                    have heM := List.mem_of_getElem? he
                    have hst := O.small _ (O.ends heM).2
                    have hwt := wf_small (a := (e.to : Int)) (by omega) (by omega)
                    have hbd := O.bd heM
                    have hbig := HR1.out.big hBn
                    have ok1 : okC s d := by unfold okC; omega
                    have ok2 : okC e.s e.d := by unfold okC; omega
                    have ok3 : okC (s + e.s) (d + e.d) := by unfold okC; omega
                    have HE : Hid ((es n)[k]? = some e) := he
                    have b5 : Below wr.heap.size wr (wr.alloc (.cells #[.int .i64 (e.to : Int), .int .i64 e.s, .int .i64 e.d, .int .i64 e.mid] 67)) := (Below.refl _ _).alloc (Nat.le_refl _) _
                    have y0 : (wr.alloc (.cells #[.int .i64 (e.to : Int), .int .i64 e.s, .int .i64 e.d, .int .i64 e.mid] 67)).cell? ⟨wr.heap.size, 0, none⟩ = some (.int .i64 (e.to : Int)) := World.cell?_alloc_at #[.int .i64 (e.to : Int), .int .i64 e.s, .int .i64 e.d, .int .i64 e.mid] 67 wr.heap.size 0 rfl
                    have y1 : (wr.alloc (.cells #[.int .i64 (e.to : Int), .int .i64 e.s, .int .i64 e.d, .int .i64 e.mid] 67)).cell? ⟨wr.heap.size, 1, none⟩ = some (.int .i64 e.s) := World.cell?_alloc_at #[.int .i64 (e.to : Int), .int .i64 e.s, .int .i64 e.d, .int .i64 e.mid] 67 wr.heap.size 1 rfl
                    have y2 : (wr.alloc (.cells #[.int .i64 (e.to : Int), .int .i64 e.s, .int .i64 e.d, .int .i64 e.mid] 67)).cell? ⟨wr.heap.size, 2, none⟩ = some (.int .i64 e.d) := World.cell?_alloc_at #[.int .i64 (e.to : Int), .int .i64 e.s, .int .i64 e.d, .int .i64 e.mid] 67 wr.heap.size 2 rfl
                    have lb5 := lb.below b5
                    have h125 := lb5.co hwn
                    rw [hBn] at h125
                    have h125 : (Instr.lookup 125 (.map (some cb)) (.int .i64 (n : Int)) false).run Tryz.prog (wr.alloc (.cells #[.int .i64 (e.to : Int), .int .i64 e.s, .int .i64 e.d, .int .i64 e.mid] 67)) = .ok (.agg #[.int .i64 s, .int .i64 d]) (wr.alloc (.cells #[.int .i64 (e.to : Int), .int .i64 e.s, .int .i64 e.d, .int .i64 e.mid] 67)) := h125
                    have hpl := plus_any s d e.s e.d (wr.alloc (.cells #[.int .i64 (e.to : Int), .int .i64 e.s, .int .i64 e.d, .int .i64 e.mid] 67)) ok1 ok2
                    have sl5 := sl.below b5
                    have B5 := hB.trans (b5.mono hB.size)
                    have HLE : Hid _ := lb5
                    clear Gr hf' hrow lb sl hB lb5 he heM hbig hbd
                    go_wp2_with fail
                    clear h47 h126 h125 d0 d1 d2 d3 p1
                    generalize wr.alloc (.cells #[.int .i64 (e.to : Int), .int .i64 e.s, .int .i64 e.d, .int .i64 e.mid] 67) = w5 at *
                    generalize wr.heap.size = Y at *
                    refine hpl.mono ?_
                    rintro r w6 ⟨rfl, hb6⟩
                    have b7 := hb6.alloc hb6.size (.cells #[.int .i64 (s + e.s), .int .i64 (d + e.d)] 65)
                    have z7 := Slot.new w6 (s + e.s) (d + e.d)
                    have lb7 := HLE.out.below b7
                    have y0 := (b7.cell (World.block_lt_of_cell? _ _ y0)).trans y0
                    have sl7 := sl5.below b7
                    have B7 := B5.trans (b7.mono B5.size)
                    have t126 := lb7.is hwt
                    have t125 := lb7.co hwt
                    have x0 := z7.c0
                    have x1 := z7.c1
                    have HZ7 : Hid _ := z7
                    have HL7 : Hid _ := lb7
                    clear hpl hb6 b7 y1 y2 HLE sl5 B5 z7 lb7 b5
                    go_upto_region 23 with fail
                    generalize w6.alloc (.cells #[.int .i64 (s + e.s), .int .i64 (d + e.d)] 65) = w7 at *
                    generalize w6.heap.size = Z at *
                    go_cut [135] from 122 to 135 (fun b wd => b = .bool (pushB B2 (e.to : Int) (s + e.s) (d + e.d)) ∧ Below w7.heap.size w7 wd)
                    case first =>
                      cases hBe : B2 (e.to : Int) with
                      | none =>
                        have hpb : pushB B2 (e.to : Int) (s + e.s) (d + e.d) = true := by unfold pushB; rw [hBe]
                        rw [hBe] at t126
                        have t126 : (Instr.lookup 126 (.map (some ib)) (.int .i64 (e.to : Int)) false).run Tryz.prog w7 = .ok (.bool false) w7 := t126
                        clear t125
                        go_wp2_with fail
                        go_meet
                        exact ⟨by rw [hpb], Below.refl _ _⟩
                      | some c =>
                        obtain ⟨s', d'⟩ := c
                        have hbig := HR1.out.big hBe
                        have ok4 : okC s' d' := by unfold okC; omega
                        have hdec : decide (cmpC (s + e.s) (d + e.d) s' d' < 0) = pushB B2 (e.to : Int) (s + e.s) (d + e.d) := by
                          unfold pushB
                          rw [hBe, cmpC_val' _ _ _ _ ok3 ok4]
                          exact decide_eq_decide.2 (cmpI_neg _ _)
                        rw [hBe] at t126 t125
                        have t126 : (Instr.lookup 126 (.map (some ib)) (.int .i64 (e.to : Int)) false).run Tryz.prog w7 = .ok (.bool true) w7 := t126
                        have t125 : (Instr.lookup 125 (.map (some cb)) (.int .i64 (e.to : Int)) false).run Tryz.prog w7 = .ok (.agg #[.int .i64 s', .int .i64 d']) w7 := t125
                        have hcmp := rcmp_any (s + e.s) (d + e.d) s' d' w7 ok3 ok4
                        clear hbig
                        go_wp2_with (first | (go_at_call 66; refine hcmp.mono ?_; rintro r w8 ⟨rfl, hb8⟩))
                        go_meet
                        exact ⟨by rw [← hdec], hb8⟩
                    case rest =>
                      obtain ⟨rfl, hb8⟩ := hcut
                      have lb8 := HL7.out.below hb8
                      have z8 := HZ7.out.below hb8
                      have sl8 := sl7.below hb8
                      have B8 := B7.trans (hb8.mono B7.size)
                      have y0 := (hb8.cell (World.block_lt_of_cell? _ _ y0)).trans y0
                      have x0 := z8.c0
                      have x1 := z8.c1
                      clear t126 t125 hb8 HL7 HZ7 sl7 B7
                      cases hq : pushB B2 (e.to : Int) (s + e.s) (d + e.d) with
                      | false =>
                        have HF2 : Hid (ag = false → B2 = B ∧ (∀ j, j < i → Rlxd es B (L.getD j 0)) ∧ ∀ m e s d, m < k + 1 → (es n)[m]? = some e → B (n : Int) = some (s, d) → ∃ s' d', B (e.to : Int) = some (s', d') ∧ val s' d' ≤ val s d + val e.s e.d) := fun q => by
                          obtain ⟨e1, e2, e3⟩ := hfal.out q
                          refine ⟨e1, e2, fun m e' s2 d2 hm he' hs2 => ?_⟩
                          by_cases em : m < k
                          · exact e3 m e' s2 d2 em he' hs2
                          · have : m = k := by omega
                            subst this
                            rw [HE.out] at he'
                            cases he'
                            rw [← e1, hBn] at hs2
                            cases hs2
                            obtain ⟨s', d', j1, j2⟩ := pushB_no hq
                            rw [val_both] at j2
                            exact ⟨s', d', by rw [← e1]; exact j1, j2⟩
                        clear hfal x0 x1 y0 z8 hq
                        go_wp2
                        go_roundw
                        case rel => exact ⟨ag, k + 1, B2, rfl, by go_num, by omega, lb8, HR1, hpot, HF2.out, sl8, B8⟩
                        case measure => simp [intOf]; omega
                      | true =>
                        obtain ⟨r1, r2⟩ := HR1.out.low O hBn (List.mem_of_getElem? HE.out) hq
                        have HR2 : Hid (RB L es out (putH B2 (e.to : Int) (s + e.s) (d + e.d))) := r1
                        have HP2 : Hid (true = true → potG 109969568169985 (putH B2 (e.to : Int) (s + e.s) (d + e.d)) 256 < potG 109969568169985 B 256) := fun _ => by
                          cases ag with
                          | true => have := hpot.out rfl; omega
                          | false => have := (hfal.out rfl).1; subst this; exact r2
                        obtain ⟨w9, hrun9, K9, m9, m9'⟩ := lb8.put1 hwt (by omega) (by omega) (s + e.s) (d + e.d)
                        obtain ⟨w10, hrun10, K10, lb10⟩ := Lbs.put2 lb8.nb m9 m9' hwt (by omega) (by omega)
                        have sl10 := (sl8.keep K9 HCI.out.1).keep K10 HCI.out.2
                        have B9 := B8.trans (K9.to_below B8.size (fun g hg => by rw [hg]; exact lb8.nb.1))
                        have B10 := B9.trans (K10.to_below B9.size (fun g hg => by rw [hg]; exact lb8.nb.2.1))
                        have y9 : w9.cell? ⟨Y, 0, none⟩ = some (.int .i64 (e.to : Int)) := K9.cellOf y0 (fun q => by
                          have h' := lb8.cm.cell 0
                          rw [← q, y0] at h'; cases h')
                        clear r1 r2 hpot hfal hq lb8 z8 sl8 B8 B9 K9 K10 m9 m9'
                        go_wp2
                        go_roundw
                        case rel => exact ⟨true, k + 1, _, rfl, by go_num, by omega, lb10, HR2.out, HP2.out, fun q => (by cases q), sl10, B10⟩
                        case measure => simp [intOf]; omega
                · have ek : k = (es n).length := by omega
                  subst ek
                  have HRX : Hid (ag = false → B2 = B ∧ ∀ j, j < i + 1 → Rlxd es B (L.getD j 0)) := fun q => by
                    obtain ⟨e1, e2, e3⟩ := hfal.out q
                    refine ⟨e1, fun j hj => ?_⟩
                    by_cases ej : j < i
                    · exact e2 j ej
                    · have : j = i := by omega
                      subst this
                      rw [HNI.out.1]
                      exact rlxd_of e3
                  clear hfal Gr hf' hrow h126
                  go_wp2
                  go_roundw
                  case rel => exact ⟨ag, i + 1, B2, rfl, by go_num, by omega, lb, HR1, hpot, HRX.out, sl, hB⟩
                  case measure => simp [intOf]; omega
            · have ei : i = L.length := by omega
              subst ei
              go_wp2
              go_roundg (potG 109969568169985 B1 256 + (if ag then 1 else 0))
              case measure =>
                have h1 := HGK.out
                cases ag with
                | true => have h2 := hpot.out rfl; simp at h1 ⊢; omega
                | false => have h2 := (hfal.out rfl).1; subst h2; simp at h1 ⊢; omega
              case rel =>
                exact ⟨ag, B1, rfl, rfl, lb, HR1, fun q => rlx_all (hfal.out q), sl, hB⟩
        | false =>
          have HDN : Hid (∀ n ∈ L, Rlxd es B n) := hdone.out rfl
          have b5 : Below wr.heap.size wr (wr.alloc (.cells #[.int .i64 0, .int .i64 0] 65)) := (Below.refl _ _).alloc (Nat.le_refl _) _
          have st5 := Slot.new wr 0 0
          have lb5 := lb.below b5
          have sl5 := sl.below b5
          have B5 := hB.trans (b5.mono hB.size)
          have HT : Hid (wr.heap.size ≠ w.heap.size ∧ w.heap.size ≤ wr.heap.size ∧ wr.heap.size ≠ cb ∧ wr.heap.size ≠ ib) := by
            have h1 := sl.c0
            have h2 : w.heap.size < wr.heap.size := World.block_lt_of_cell? _ _ sl.c0
            have h3 := lb.cm.lt
            have h4 := lb.im.lt
            exact ⟨by omega, by omega, by omega, by omega⟩
          clear hdone lb sl hB b5
          go_wp2
          generalize wr.alloc (.cells #[.int .i64 0, .int .i64 0] 65) = w5 at *
          generalize wr.heap.size = T at *
          go_loopw [21, 22] (fun gv iv wr => ∃ (fo : Bool) (i : Nat) (s d : Int), gv = .bool fo ∧ iv = .int .i64 i ∧ i ≤ inn.length ∧ Slot wr T s d ∧ Hid (RE L B (inn.take i) s d fo) ∧ okC s d ∧ Lbs wr w.heap.size cb ib B ∧ Slot wr w.heap.size 0 0 ∧ Below w.heap.size w wr)
            (fun _ i _ => inn.length - (intOf i).toNat)
          case atStart => exact ⟨false, 0, 0, 0, rfl, rfl, Nat.zero_le _, st5, RE.start L B, by unfold okC; omega, lb5, sl5, B5⟩
          case round =>
            clear st5 lb5 sl5 B5
            obtain ⟨fo, i, s, d, rfl, rfl, hii, st, hre, oks, lb, sl, hB⟩ := hrel
            by_cases hlt : i < inn.length
            · obtain ⟨e, he⟩ : ∃ e, inn[i]? = some e := ⟨inn[i], List.getElem?_eq_getElem hlt⟩
              obtain ⟨hwe, b1, o1, hA2, c0, c1, c2, _⟩ := (hi.below (Nat.le_refl _) hB) i e he
              subst hA2
              have hce := hci e (List.mem_of_getElem? he)
              have HTK : Hid (inn.take (i + 1) = inn.take i ++ [e]) := by rw [List.take_add_one, he]; rfl
              have i1 : (0 : Int) ≤ (i : Int) := by omega
              have i2 : (i : Int) < (inn.length : Int) := by omega
              have h126 := lb.is hwe
              have h125 := lb.co hwe
              clear he
              cases hBe : B e.to with
              | none =>
                rw [hBe] at h126
                have h126 : (Instr.lookup 126 (.map (some ib)) (.int .i64 e.to) false).run Tryz.prog wr = .ok (.bool false) wr := h126
                have HR3 : Hid (RE L B (inn.take (i + 1)) s d fo) := by rw [HTK.out]; exact hre.out.skip hBe
                clear h125 hre HTK
                go_wp2
                go_roundw
                case rel => exact ⟨fo, i + 1, s, d, rfl, by go_num, by omega, st, HR3.out, oks, lb, sl, hB⟩
                case measure => simp [intOf]; omega
              | some c =>
                obtain ⟨x, y⟩ := c
                rw [hBe] at h126 h125
                have h126 : (Instr.lookup 126 (.map (some ib)) (.int .i64 e.to) false).run Tryz.prog wr = .ok (.bool true) wr := h126
                have h125 : (Instr.lookup 125 (.map (some cb)) (.int .i64 e.to) false).run Tryz.prog wr = .ok (.agg #[.int .i64 x, .int .i64 y]) wr := h125
                have hbig := HR1.out.big hBe
                have ok1 : okC x y := by unfold okC; omega
                have ok2 : okC e.s e.d := by unfold okC; omega
                have ok3 : okC (x + e.s) (y + e.d) := by unfold okC; omega
                clear hbig hce
                go_upto_region 33 with fail
                go_cut [23] from 158 to 170 (fun p wd => ∃ T2, p = .pointer (some ⟨T2, 0, none⟩) ∧ Slot wd T2 (x + e.s) (y + e.d) ∧ Below wr.heap.size wr wd)
                case first =>
                  have b0 : Below wr.heap.size wr wr.drew := (Below.refl _ _).drew
                  have bA : Below wr.heap.size wr (wr.drew.alloc (.cells #[.int .i64 0, .int .i64 0] 65)) := b0.alloc b0.size _
                  have sA : Slot (wr.drew.alloc (.cells #[.int .i64 0, .int .i64 0] 65)) wr.heap.size 0 0 := Slot.new wr.drew 0 0
                  have CC : Hid (∀ w', Below wr.heap.size wr w' → w'.cell? ⟨b1, o1 + i * 4, none⟩ = some (.int .i64 e.to) ∧ w'.cell? ⟨b1, o1 + i * 4 + 1, none⟩ = some (.int .i64 e.s) ∧ w'.cell? ⟨b1, o1 + i * 4 + 2, none⟩ = some (.int .i64 e.d) ∧ (Instr.lookup 125 (.map (some cb)) (.int .i64 e.to) false).run Tryz.prog w' = .ok (.agg #[.int .i64 x, .int .i64 y]) w') := fun w' h => by
                    have k : ∀ {a : Addr} {v : Value}, wr.cell? a = some v → w'.cell? a = some v := fun {a v} q => (h.cell (World.block_lt_of_cell? wr a q)).trans q
                    have hco' := (lb.below h).co hwe
                    rw [hBe] at hco'
                    exact ⟨k c0, k c1, k c2, hco'⟩
                  have hpl : Hid (∀ w', _) := fun w' => plus_any x y e.s e.d w' ok1 ok2
                  clear h126 h125 c0 c1 c2 hre HTK
                  go_region_held3 (fun w' => w'.cell? ⟨b1, o1 + i * 4, none⟩ = some (.int .i64 e.to) ∧ w'.cell? ⟨b1, o1 + i * 4 + 1, none⟩ = some (.int .i64 e.s) ∧ w'.cell? ⟨b1, o1 + i * 4 + 2, none⟩ = some (.int .i64 e.d) ∧ (Instr.lookup 125 (.map (some cb)) (.int .i64 e.to) false).run Tryz.prog w' = .ok (.agg #[.int .i64 x, .int .i64 y]) w') (first | exact CC.out _ b0 | exact CC.out _ bA | exact CC.out _ b6 | exact CC.out _ (b6.alloc b6.size _) | exact CC.out _ ((b6.setCell (p := ⟨wr.heap.size, 0, none⟩) (Nat.le_refl _) _).setCell (p := ⟨wr.heap.size, 1, none⟩) (Nat.le_refl _) _))
                    (first | (go_at_call 64; refine (hpl.out _).mono ?_; rintro r w6 ⟨rfl, hb6⟩; first | (have b6 := b0.trans (hb6.mono b0.size)) | (have b6 := bA.trans (hb6.mono bA.size); have s6 := sA.below hb6; have g0 := s6.c0; have g1 := s6.c1; have g2 := s6.z0; have g3 := s6.z1)))
                  all_goals
                    go_wp2_with fail
                    go_meet
                    first
                      | exact ⟨_, rfl, Slot.new w6 _ _, b6.alloc b6.size _⟩
                      | exact ⟨_, rfl, s6.set _ _, (b6.setCell (p := ⟨wr.heap.size, 0, none⟩) (Nat.le_refl _) _).setCell (p := ⟨wr.heap.size, 1, none⟩) (Nat.le_refl _) _⟩
                case rest =>
                  obtain ⟨T2, rfl, st2, hb5⟩ := hcut
                  have lb5 := lb.below hb5
                  have sl5 := sl.below hb5
                  have stT := st.below hb5
                  have B5 := hB.trans (hb5.mono hB.size)
                  have u0 := st2.c0
                  have u1 := st2.c1
                  have v0 := stT.c0
                  have v1 := stT.c1
                  have HS2 : Hid _ := st2
                  clear h126 h125 c0 c1 c2 hb5 lb sl st hB st2
                  go_upto_region 34 with fail
                  go_cut [178] from 171 to 178 (fun b wd => b = .bool (!fo || decide (val (x + e.s) (y + e.d) < val s d)) ∧ Below wc.heap.size wc wd)
                  case first =>
                    cases fo with
                    | false =>
                      go_wp2_with fail
                      go_meet
                      exact ⟨rfl, Below.refl _ _⟩
                    | true =>
                      have hcmp := rcmp_any (x + e.s) (y + e.d) s d wc ok3 oks
                      have hdec : decide (cmpC (x + e.s) (y + e.d) s d < 0) = decide (val (x + e.s) (y + e.d) < val s d) := by
                        rw [cmpC_val' _ _ _ _ ok3 oks]
                        exact decide_eq_decide.2 (cmpI_neg _ _)
                      go_wp2_with (first | (go_at_call 66; refine hcmp.mono ?_; rintro r w8 ⟨rfl, hb8⟩))
                      go_meet
                      exact ⟨rfl, hb8⟩
                  case rest =>
                    obtain ⟨rfl, hb8⟩ := hcut
                    have lb8 := lb5.below hb8
                    have sl8 := sl5.below hb8
                    have st8 := stT.below hb8
                    have s28 := HS2.out.below hb8
                    have B8 := B5.trans (hb8.mono B5.size)
                    clear u0 u1 v0 v1 lb5 sl5 stT HS2 B5 hb8
                    cases hq : (!fo || decide (val (x + e.s) (y + e.d) < val s d)) with
                    | false =>
                      obtain ⟨q1, q2⟩ : fo = true ∧ ¬ val (x + e.s) (y + e.d) < val s d := by
                        cases fo with
                        | false => cases hq
                        | true => exact ⟨rfl, of_decide_eq_false hq⟩
                      have HR3 : Hid (RE L B (inn.take (i + 1)) s d fo) := by rw [HTK.out]; exact hre.out.leave hBe q1 (by omega)
                      clear hre HTK hq q1 q2 s28
                      go_wp2
                      go_roundw
                      case rel => exact ⟨fo, i + 1, s, d, rfl, by go_num, by omega, st8, HR3.out, oks, lb8, sl8, B8⟩
                      case measure => simp [intOf]; omega
                    | true =>
                      have HR3 : Hid (RE L B (inn.take (i + 1)) (x + e.s) (y + e.d) true) := by
                        rw [HTK.out]
                        refine hre.out.take hBe (fun q => ?_)
                        rw [q] at hq
                        exact of_decide_eq_true hq
                      have x0 := s28.c0
                      have x1 := s28.c1
                      have z0 := st8.c0
                      have z1 := st8.c1
                      have f0 := st8.z0
                      have f1 := st8.z1
                      have st9 := st8.set (x + e.s) (y + e.d)
                      have K9 := set_keep wc T (x + e.s) (y + e.d)
                      have lb9 := lb8.keep K9 (fun q => HT.out.2.2.1 q.symm) (fun q => HT.out.2.2.2 q.symm)
                      have sl9 := sl8.keep K9 (fun q => HT.out.1 q.symm)
                      have B9 := (B8.setCell (p := ⟨T, 0, none⟩) HT.out.2.1 (.int .i64 (x + e.s))).setCell (p := ⟨T, 1, none⟩) HT.out.2.1 (.int .i64 (y + e.d))
                      clear hre HTK hq s28 st8 lb8 sl8 B8 K9
                      go_wp2
                      go_roundw
                      case rel => exact ⟨true, i + 1, _, _, rfl, by go_num, by omega, st9, HR3.out, ok3, lb9, sl9, B9⟩
                      case measure => simp [intOf]; omega
            · have ei : i = inn.length := by omega
              subst ei
              have HRE : Hid (RE L B inn s d fo) := by
                have := hre.out
                rw [List.take_length] at this
                exact this
              have q0 := st.c0
              have q1 := st.c1
              have f0 := sl.z0
              have f1 := sl.z1
              have r0 := popCells wr w.heap.size s d sl.c0 sl.c1
              have z0 := sl.c0
              have z1 := sl.c1
              have HBR : Hid (Below w.heap.size w ((wr.setCell ⟨w.heap.size, 0, none⟩ (.int .i64 s)).setCell ⟨w.heap.size, 1, none⟩ (.int .i64 d))) := (hB.setCell (p := ⟨w.heap.size, 0, none⟩) (Nat.le_refl _) _).setCell (p := ⟨w.heap.size, 1, none⟩) (Nat.le_refl _) _
              clear hre lb sl st
              go_wp2
              exact bodyPost_ret (v := .tuple #[.agg #[.int .i64 s, .int .i64 d], .bool fo]) (by simp [results, Tryz.results28, go_sem, r0.1, r0.2]) rfl ⟨s, d, fo, B, rfl, HR1.out, HDN.out, HRE.out, HBR.out⟩
end Go.Proofs.YtmnpplkjhnoglaaGreatDoor
/-
  A way over edges of the reference's graph, from one of the beginning to one of the end, at its cost: the statement's 'tracked'.
-/
namespace Go.Proofs.YtmnpplkjhnoglaaGreatDoor
open Go.RowKit Go.Maps Go.Lib

set_option maxHeartbeats 8000000 in
set_option maxRecDepth 1000000 in
theorem tracked_yes {rb mb cap nk cap0 cap1 cap2 g : Nat} {A A1 A2 : Option Addr} {W H : Int} {bl : Nat → Bool} {es : Nat → List LE} {f : Int → Option Value} {out inn : List IE} {way : List Nat} {a b : Nat} {s d p q s0 d0 s1 d1 : Int} (w : World)
    (w1 : 1 ≤ W) (w2 : W ≤ 16) (h1 : 1 ≤ H) (h2 : H ≤ 16) (hG : GEs W H bl es) (G : RGm w rb mb cap nk A (crs W H bl (W * H).toNat) es f) (ho : RowI w A1 out) (hi : RowI w A2 inn) (hol : out.length ≤ 1000) (hil : inn.length ≤ 1000)
    (hco : ∀ e ∈ out, 0 ≤ e.s ∧ e.s ≤ 1048576 ∧ 0 ≤ e.d ∧ e.d ≤ 1048576) (hci : ∀ e ∈ inn, 0 ≤ e.s ∧ e.s ≤ 1048576 ∧ 0 ≤ e.d ∧ e.d ≤ 1048576)
    (hw : RowN w g 0 way) (h3 : way.length ≤ 40000) (ha : way[0]? = some a) (hb : way[way.length - 1]? = some b) (hp : Prc es way p q) (hel : ∀ n, (es n).length ≤ 256)
    (hso : srcE (crs W H bl (W * H).toNat) out (a : Int) s0 d0) (hsi : srcE (crs W H bl (W * H).toNat) inn (b : Int) s1 d1) (hs : s = s0 + p + s1) (hd : d = d0 + q + d1) :
    Calls Tryz.prog 34 #[.pointer (some ⟨rb, 0, none⟩), .slice (some ⟨g, 0, none⟩) way.length cap0, .slice A1 out.length cap1, .slice A2 inn.length cap2, .agg #[.int .i64 s, .int .i64 d]] w fun e w' => e = .returned (.bool true) ∧ Below w.heap.size w w' := by
  have hwh := wh_bd w1 w2 h1 h2
  have h0 : 0 < way.length := (List.getElem?_eq_some_iff.1 ha).1
  have HE : Hid (∀ {a : Nat} {e : LE}, e ∈ es a → a ∈ crs W H bl (W * H).toNat ∧ a < 256 ∧ 0 ≤ e.s ∧ 0 ≤ e.d ∧ e.s ≤ 16 ∧ e.d ≤ 16) := fun {a e} he => by
    have hB := hG.btw w1 w2 h1 h2
    have := crs_mem.1 (hB.cor.ends he).1
    exact ⟨(hB.cor.ends he).1, by omega, hB.bd he⟩
  have HR : Hid (∀ n, Rsg (es n)) := fun n => hG.esy.ord n
  have HEL : Hid (∀ n, (es n).length ≤ 256) := hel
  have HRA : Hid (∀ x, x ∈ crs W H bl (W * H).toNat → ∀ A5 c5, f (x : Int) = some (.slice A5 (es x).length c5) → ∀ b o, A5 = some ⟨b, o, none⟩ → 0 < (es x).length → b ≠ w.heap.size + 1) := fun x hx A5 c5 h5 b o hA hl hb => by
    obtain ⟨A', c', h', hr⟩ := G.yes x hx
    rw [h5] at h'
    cases h'
    obtain ⟨b', o', e1, e2, _⟩ := hr 0 _ (List.getElem?_eq_getElem hl)
    rw [hA] at e1
    cases e1
    have : b < w.heap.size := World.block_lt_of_cell? _ _ e2
    omega
  have HGA : Hid (RGm w rb mb cap nk A (crs W H bl (W * H).toNat) es f) := G
  have HW : Hid (RowN w g 0 way) := hw
  have HO : Hid (RowI w A1 out) := ho
  have HI : Hid (RowI w A2 inn) := hi
  obtain ⟨eo, ho1, _, ho2, ho3, ho4⟩ := hso
  obtain ⟨ei, hi1, _, hi2, hi3, hi4⟩ := hsi
  obtain ⟨io, hio⟩ := List.getElem?_of_mem ho1
  obtain ⟨ii, hii⟩ := List.getElem?_of_mem hi1
  have HIO : Hid (out[io]? = some eo ∧ eo.to = (a : Int) ∧ eo.s = s0 ∧ eo.d = d0) := ⟨hio, ho2.symm, ho3.symm, ho4.symm⟩
  have HII : Hid (inn[ii]? = some ei ∧ ei.to = (b : Int) ∧ ei.s = s1 ∧ ei.d = d1) := ⟨hii, hi2.symm, hi3.symm, hi4.symm⟩
  have HSD : Hid (s = s0 + p + s1 ∧ d = d0 + q + d1) := ⟨hs, hd⟩
  have HCO : Hid _ := hco
  have HCI : Hid _ := hci
  have HAB : Hid (way[0]? = some a ∧ way[way.length - 1]? = some b) := ⟨ha, hb⟩
  have B0 : Below w.heap.size w ((w.alloc (.cells #[.int .i64 s, .int .i64 d] 65)).alloc (.cells #[.int .i64 0, .int .i64 0] 65)) := ((Below.refl _ _).alloc (Nat.le_refl _) _).alloc (by simp) _
  have S0 : Slot ((w.alloc (.cells #[.int .i64 s, .int .i64 d] 65)).alloc (.cells #[.int .i64 0, .int .i64 0] 65)) w.heap.size s d := (Slot.new w s d).below ((Below.refl _ _).alloc (Nat.le_refl _) _)
  have S1 : Slot ((w.alloc (.cells #[.int .i64 s, .int .i64 d] 65)).alloc (.cells #[.int .i64 0, .int .i64 0] 65)) (w.heap.size + 1) 0 0 := by
    have := Slot.new (w.alloc (.cells #[.int .i64 s, .int .i64 d] 65)) 0 0
    simpa using this
  have HP : Hid (Prc es (way.drop 0) (p - 0) (q - 0)) := by
    unfold Hid
    rw [Int.sub_zero, Int.sub_zero]
    exact hp
  have i3 : ((way.length : Int) == 0) = false := beq_eq_false_iff_ne.2 (by omega)
  clear G hG hw ha hb hp ho hi hco hci hel ho1 ho2 ho3 ho4 hi1 hi2 hi3 hi4 hio hii hs hd
  go_enter Tryz.func34, Tryz.ntmps34
  go_wp2
  generalize (w.alloc (.cells #[.int .i64 s, .int .i64 d] 65)).alloc (.cells #[.int .i64 0, .int .i64 0] 65) = w0 at *
  have hs0 : w.heap.size + 2 ≤ w0.heap.size := by
    have := World.block_lt_of_cell? _ _ S1.c0
    simp at this
    omega
  clear i3
  go_loopw [12] (fun iv wr => ∃ (k : Nat) (S D : Int), k + 1 ≤ way.length ∧ iv = .int .i64 ((k : Int) + 1) ∧ Slot wr w.heap.size s d ∧ Slot wr (w.heap.size + 1) S D ∧ Hid (Prc es (way.drop k) (p - S) (q - D)) ∧ Hid (0 ≤ S ∧ S ≤ 16 * k ∧ 0 ≤ D ∧ D ≤ 16 * k) ∧ w.heap.size + 2 ≤ wr.heap.size ∧ Below w.heap.size w wr)
    (fun i _ => way.length - (intOf i).toNat)
  case atStart => exact ⟨0, 0, 0, by omega, rfl, S0, S1, HP.out, by unfold Hid; decide, hs0, B0⟩
  case round =>
    clear S0 S1 HP hs0 B0
    obtain ⟨k, S, D, hk, rfl, S0, S1, HP, HB, hsz, hB⟩ := hrel
    by_cases hlt : k + 1 < way.length
    · obtain ⟨x, hx⟩ : ∃ x, way[k]? = some x := ⟨way[k], List.getElem?_eq_getElem (by omega)⟩
      obtain ⟨y, hy⟩ : ∃ y, way[k + 1]? = some y := ⟨way[k + 1], List.getElem?_eq_getElem hlt⟩
      obtain ⟨e, he, het, hp'⟩ := HP.out.next hx hy
      have HP' : Hid (Prc es (way.drop (k + 1)) (p - S - e.s) (q - D - e.d)) := hp'
      have G := HGA.out.below hB
      have hww := HW.out.below hB
      have z0 := hww.cell0 hx
      have z1 := hww.cell0 hy
      obtain ⟨hxc, hxb, f1, f2, f3, f4⟩ := HE.out he
      have hwx := wf_small (a := (x : Int)) (by omega) (by omega)
      obtain ⟨g1, g2, g3, g4⟩ := HB.out
      have okS : okC S D := by unfold okC; omega
      have okE : okC e.s e.d := by unfold okC; omega
      have HS : Hid (0 ≤ S + e.s ∧ S + e.s ≤ 16 * ((k + 1 : Nat) : Int) ∧ 0 ≤ D + e.d ∧ D + e.d ≤ 16 * ((k + 1 : Nat) : Int)) := by unfold Hid; omega
      have p1 := G.p1
      obtain ⟨A5, c5, hf5, row5⟩ := G.yes x hxc
      have h47 : (Instr.lookup 47 (.map (some mb)) (.int .i64 (x : Int)) false).run Tryz.prog wr = .ok (.slice A5 (es x).length c5) wr := G.mp.look_some law3 Tryz.underM (zeroM _) hwx hf5 false
      have i1 : (0 : Int) ≤ (k : Int) := by omega
      have i2 : (k : Int) < (way.length : Int) := by omega
      have i3 : ((k : Int) + 1) < (way.length : Int) := by omega
      have i4 : (0 : Int) ≤ (k : Int) + 1 := by omega
      have i5 : (k : Int) + 1 - 1 = (k : Int) := by omega
      have HI' : Hid (e ∈ es x) := he
      have HT : Hid (e.to = y) := het
      have h47d : ∀ m, (Instr.lookup 47 (.map (some mb)) (.int .i64 (x : Int)) false).run Tryz.prog (wr.drewN m) = .ok (.slice A5 (es x).length c5) (wr.drewN m) := fun m => (G.below (below_drewN (Below.refl _ _) m)).mp.look_some law3 Tryz.underM (zeroM _) hwx hf5 false
      have HF5 : Hid (f (x : Int) = some (.slice A5 (es x).length c5)) := hf5
      clear hx hy he het hp' g1 g2 g3 g4 HB G hww hf5
      go_wp2_with fail
      go_quiet (fail)
      have b5 : Below wr.heap.size wr (wr.drewN nq) := below_drewN (Below.refl _ _) _
      have B5 := hB.trans (b5.mono hB.size)
      have T0 := S0.below b5
      have T1 := S1.below b5
      have hs5 := Nat.le_trans hsz b5.size
      have row5 := row5.below b5
      have HX5 : Hid (∃ w5, w5 = wr.drewN nq ∧ Below w.heap.size w w5) := ⟨_, rfl, B5⟩
      have z1' : (wr.drewN nq).cell? ⟨g, k + 1, none⟩ = some (.int .i64 (y : Int)) := z1
      have HA5 : Hid (∀ b o, A5 = some ⟨b, o, none⟩ → 0 < (es x).length → b ≠ w.heap.size + 1) := HRA.out x hxc A5 c5 HF5.out
      obtain ⟨m, hm⟩ : ∃ m, (es x)[m]? = some e := List.getElem?_of_mem HI'.out
      have hR := HR.out x
      have hel5 := HEL.out x
      generalize es x = le at *
      have hml : m < le.length := (List.getElem?_eq_some_iff.1 hm).1
      have HQ : Hid (∀ j e', le[j]? = some e' → (e'.to = y ↔ j = m) ∧ (j = m → e' = e)) := fun j e' hj => by
        constructor
        · constructor
          · intro h
            exact hR.at hj hm (h.trans HT.out.symm)
          · rintro rfl
            rw [hm] at hj; cases hj; exact HT.out
        · rintro rfl
          rw [hm] at hj; cases hj; rfl
      have HGW : Hid (g < w.heap.size) := World.block_lt_of_cell? _ _ (HW.out.cell0 (j := 0) (x := way[0]) (List.getElem?_eq_getElem (by omega)))
      clear S0 S1 z0 z1 hR hm HI' HP hB hsz h47 h47d p1 b5 HX5 i5
      generalize wr.drewN nq = w5 at *
      go_wp2
      go_loopw [13, 15] (fun fv jv wq => ∃ (j : Nat) (f : Bool) (S' D' : Int), j ≤ le.length ∧ fv = .bool f ∧ jv = .int .i64 j ∧ Slot wq w.heap.size s d ∧ Slot wq (w.heap.size + 1) S' D' ∧ RowL wq A5 le ∧ wq.cell? ⟨g, k + 1, none⟩ = some (.int .i64 (y : Int)) ∧ Hid ((j ≤ m ∧ f = false ∧ S' = S ∧ D' = D) ∨ (m < j ∧ f = true ∧ S' = S + e.s ∧ D' = D + e.d)) ∧ w.heap.size + 2 ≤ wq.heap.size ∧ Below w.heap.size w wq)
        (fun _ i _ => le.length - (intOf i).toNat)
      case atStart => exact ⟨0, false, S, D, Nat.zero_le _, rfl, rfl, T0, T1, row5, z1', Or.inl ⟨Nat.zero_le _, rfl, rfl, rfl⟩, hs5, B5⟩
      case round =>
        clear T0 T1 row5 z1' hs5 B5
        obtain ⟨j, f, S', D', hj, rfl, rfl, T0, T1, row, z1, HF, hsz, hB⟩ := hrel
        by_cases hlt2 : j < le.length
        · obtain ⟨e', he'⟩ : ∃ e', le[j]? = some e' := ⟨le[j], List.getElem?_eq_getElem hlt2⟩
          obtain ⟨hq1, hq2⟩ := HQ.out j e' he'
          obtain ⟨bb, o, rfl, p0, p1, p2, p3⟩ := row j e' he'
          have j1 : (0 : Int) ≤ (j : Int) := by omega
          have j2 : (j : Int) < (le.length : Int) := by omega
          by_cases hjq : j = m
          · have ee := hq2 hjq
            subst ee
            have hty : (e'.to : Int) = (y : Int) := by rw [hq1.2 hjq]
            obtain ⟨rfl, rfl, rfl⟩ : f = false ∧ S' = S ∧ D' = D := by
              rcases HF.out with ⟨_, h⟩ | ⟨h, _⟩
              · exact h
              · omega
            rw [hty] at p0
            have HJ : Hid (j = m) := hjq
            clear hq1 hq2 hty he' HF hjq
            go_wp2_with fail
            go_quiet (fail)
            have b8 : Below wr.heap.size wr (wr.drewN nq) := below_drewN (Below.refl _ _) _
            have T8 := T0.below b8
            have T9 := T1.below b8
            have row8 := row.below b8
            have B8 := hB.trans (b8.mono hB.size)
            have hs8 := Nat.le_trans hsz b8.size
            have n1 : (wr.drewN nq).cell? ⟨bb, o + j * 4 + 1, none⟩ = some (.int .i64 e'.s) := p1
            have n2 : (wr.drewN nq).cell? ⟨bb, o + j * 4 + 2, none⟩ = some (.int .i64 e'.d) := p2
            have n3 : (wr.drewN nq).cell? ⟨g, k + 1, none⟩ = some (.int .i64 (y : Int)) := z1
            have hbbs := HA5.out bb o rfl (by omega)
            clear b8 T0 T1 row p0 p1 p2 p3 z1 hB hsz
            generalize wr.drewN nq = w8 at *
            go_wp2_with fail
            have b9 : Below w8.heap.size w8 w8.drew := (Below.refl _ _).drew
            have U0 := T8.below b9
            have U1 := T9.below b9
            have row9 := row8.below b9
            have B9 := B8.trans (b9.mono B8.size)
            have hs9 := Nat.le_trans hs8 b9.size
            have v0 : w8.drew.cell? ⟨w.heap.size + 1, 0, none⟩ = some (.int .i64 S') := U1.c0
            have v1 : w8.drew.cell? ⟨w.heap.size + 1, 1, none⟩ = some (.int .i64 D') := U1.c1
            have v2 : w8.drew.cell? ⟨bb, o + j * 4 + 1, none⟩ = some (.int .i64 e'.s) := n1
            have v3 : w8.drew.cell? ⟨bb, o + j * 4 + 2, none⟩ = some (.int .i64 e'.d) := n2
            have v4 : w8.drew.cell? ⟨g, k + 1, none⟩ = some (.int .i64 (y : Int)) := n3
            have hpl := plus_any S' D' e'.s e'.d w8.drew okS okE
            clear b9 T8 T9 row8 B8 n1 n2 n3 hs8
            go_region_with (first
                | (go_at_call 64; refine hpl.mono ?_; rintro r w10 ⟨rfl, hb10⟩; have u0 := (hb10.cell (World.block_lt_of_cell? _ _ v0)).trans v0; have u1 := (hb10.cell (World.block_lt_of_cell? _ _ v1)).trans v1; have u2 := (hb10.cell (World.block_lt_of_cell? _ _ v2)).trans v2; have u3 := (hb10.cell (World.block_lt_of_cell? _ _ v3)).trans v3; have X0 := U0.below hb10; have X1 := U1.below hb10; have zz0 := X1.z0; have zz1 := X1.z1; have row10 := row9.below hb10; have B10 := B9.trans (hb10.mono B9.size); have hs10 := Nat.le_trans hs9 hb10.size; have u4 := (hb10.cell (World.block_lt_of_cell? _ _ v4)).trans v4; have K11 := keepTwo w10 (w.heap.size + 1) (.int .i64 (S' + e'.s)) (.int .i64 (D' + e'.d)); have x2 := K11.cellOf u2 hbbs; have x3 := K11.cellOf u3 hbbs))
            all_goals
              have X2 := X1.set (S' + e'.s) (D' + e'.d)
              have X3 := X0.keep K11 (show ¬ w.heap.size = w.heap.size + 1 by omega)
              have row11 := row10.keep K11 (fun b o' h => by cases h; exact hbbs)
              have x4 := K11.cellOf u4 (show ¬ g = w.heap.size + 1 by have := HGW.out; omega)
              have B11 : Below w.heap.size w _ := B10.trans (K11.to_below B10.size (fun q h => by omega))
              have hs11 := Nat.le_trans hs10 K11.size
              clear hpl hb10 U0 U1 v0 v1 v2 v3 v4 u0 u1 u2 u3 u4 X0 X1 zz0 zz1 row9 row10 B9 B10 hs9 hs10 K11 x2 x3
              generalize (w10.setCell ⟨w.heap.size + 1, 0, none⟩ (.int .i64 (S' + e'.s))).setCell ⟨w.heap.size + 1, 1, none⟩ (.int .i64 (D' + e'.d)) = w11 at *
              go_wp2
              go_roundw
              case rel => exact ⟨j + 1, true, S' + e'.s, D' + e'.d, by omega, rfl, by go_num, X3, X2, row11, x4, Or.inr ⟨by have := HJ.out; omega, rfl, rfl, rfl⟩, hs11, B11⟩
              case measure => simp [intOf]; omega
          · have hty : ¬ (e'.to : Int) = (y : Int) := fun h => hjq (hq1.1 (by omega))
            have HF' : Hid ((j + 1 ≤ m ∧ f = false ∧ S' = S ∧ D' = D) ∨ (m < j + 1 ∧ f = true ∧ S' = S + e.s ∧ D' = D + e.d)) := by
              rcases HF.out with ⟨h1, h⟩ | ⟨h1, h⟩
              · exact Or.inl ⟨by omega, h⟩
              · exact Or.inr ⟨by omega, h⟩
            clear hq1 hq2 he' HF
            go_wp2_with fail
            go_quiet (fail)
            go_wp2
            have b9 : Below wr.heap.size wr (wr.drewN nq) := below_drewN (Below.refl _ _) _
            go_roundw
            case rel => exact ⟨j + 1, f, S', D', by omega, rfl, by go_num, T0.below b9, T1.below b9, row.below b9, z1, HF'.out, hsz, hB.trans (b9.mono hB.size)⟩
            case measure => simp [intOf]; omega
        · have ej : j = le.length := by omega
          subst ej
          obtain ⟨rfl, rfl, rfl⟩ : f = true ∧ S' = S + e.s ∧ D' = D + e.d := by
            rcases HF.out with ⟨h, _⟩ | ⟨_, h⟩
            · omega
            · exact h
          have HPN : Hid (Prc es (way.drop (k + 1)) (p - (S + e.s)) (q - (D + e.d))) := by
            have := HP'.out
            unfold Hid
            rwa [show p - (S + e.s) = p - S - e.s by omega, show q - (D + e.d) = q - D - e.d by omega]
          clear HF HP'
          go_wp2
          go_roundw
          case rel => exact ⟨k + 1, S + e.s, D + e.d, by omega, by go_num, T0, T1, HPN.out, HS.out, hsz, hB⟩
          case measure => simp [intOf]; omega
    · obtain ⟨r1, r2⟩ := HP.out.last (by omega)
      have eS : S = p := by omega
      have eD : D = q := by omega
      obtain ⟨g1, g2, g3, g4⟩ := HB.out
      subst eS eD
      have ek : ¬ ((k : Int) + 1) < (way.length : Int) := by omega
      have HLS : Hid (0 ≤ S ∧ S ≤ 640000 ∧ 0 ≤ D ∧ D ≤ 640000) := by unfold Hid; omega
      have HLW : Hid (0 < way.length ∧ way.length ≤ 40000) := ⟨h0, h3⟩
      clear HP HB r1 r2 g1 g2 g3 g4 HE HR HEL HGA hwh w1 w2 h1 h2 hk hlt
      go_wp2
      clear ek
      go_loopw [16] (fun iv wr => ∃ (i : Nat), i ≤ out.length ∧ i ≤ io ∧ iv = .int .i64 i ∧ Slot wr w.heap.size s d ∧ Slot wr (w.heap.size + 1) S D ∧ Below w.heap.size w wr)
        (fun i _ => out.length - (intOf i).toNat)
      case atStart => exact ⟨0, Nat.zero_le _, Nat.zero_le _, rfl, S0, S1, hB⟩
      case round =>
        clear S0 S1 hB hsz
        obtain ⟨i, hil1, hi2, rfl, S0, S1, hB⟩ := hrel
        have hlo : io < out.length := (List.getElem?_eq_some_iff.1 HIO.out.1).1
        have hlt : i < out.length := by omega
        obtain ⟨e, he⟩ : ∃ e, out[i]? = some e := ⟨out[i], List.getElem?_eq_getElem hlt⟩
        have i1 : (0 : Int) ≤ (i : Int) := by omega
        have i2 : (i : Int) < (out.length : Int) := by omega
        have HEI : Hid (out[i]? = some e ∧ i < out.length ∧ i ≤ io) := ⟨he, hlt, hi2⟩
        clear he hlo hil1 hi2
        go_wp2
        go_loopw [17] (fun jv wr => ∃ (j : Nat), j ≤ inn.length ∧ Hid (i = io → j ≤ ii) ∧ jv = .int .i64 j ∧ Slot wr w.heap.size s d ∧ Slot wr (w.heap.size + 1) S D ∧ Below w.heap.size w wr)
          (fun j _ => inn.length - (intOf j).toNat)
        case atStart => exact ⟨0, Nat.zero_le _, fun _ => Nat.zero_le _, rfl, S0, S1, hB⟩
        case round =>
          clear S0 S1 hB
          obtain ⟨j, hj1, HJ, rfl, S0, S1, hB⟩ := hrel
          by_cases hlt2 : j < inn.length
          · obtain ⟨e', he'⟩ : ∃ e', inn[j]? = some e' := ⟨inn[j], List.getElem?_eq_getElem hlt2⟩
            have j1 : (0 : Int) ≤ (j : Int) := by omega
            have j2 : (j : Int) < (inn.length : Int) := by omega
            obtain ⟨_, b1, o1, hA1, c0, c1, c2, _⟩ := (HO.out.below (Nat.le_refl _) hB) i e HEI.out.1
            subst hA1
            obtain ⟨_, b2, o2, hA2, d0', d1', d2', _⟩ := (HI.out.below (Nat.le_refl _) hB) j e' he'
            subst hA2
            have hww := HW.out.below hB
            have z0 := hww.cell0 HAB.out.1
            have z1 := hww.cell0 HAB.out.2
            have hce := HCO.out e (List.mem_of_getElem? HEI.out.1)
            have hci := HCI.out e' (List.mem_of_getElem? he')
            obtain ⟨l1, l2, l3, l4⟩ := HLS.out
            have ok1 : okC e.s e.d := by unfold okC; omega
            have ok2 : okC S D := by unfold okC; omega
            have ok3 : okC (e.s + S) (e.d + D) := by unfold okC; omega
            have ok4 : okC e'.s e'.d := by unfold okC; omega
            have hne := since_ne wr
            have kx : ∀ (x : Since wr) {y : Addr} {z : Value}, wr.cell? y = some z → x.u.cell? y = some z := fun x {y z} h => (x.h.cell (World.block_lt_of_cell? wr y h)).trans h
            have t0 : ∀ x : Since wr, x.u.cell? ⟨b1, o1 + i * 4, none⟩ = some (.int .i64 e.to) := fun x => kx x c0
            have t1 : ∀ x : Since wr, x.u.cell? ⟨b1, o1 + i * 4 + 1, none⟩ = some (.int .i64 e.s) := fun x => kx x c1
            have t2 : ∀ x : Since wr, x.u.cell? ⟨b1, o1 + i * 4 + 2, none⟩ = some (.int .i64 e.d) := fun x => kx x c2
            have t3 : ∀ x : Since wr, x.u.cell? ⟨b2, o2 + j * 4, none⟩ = some (.int .i64 e'.to) := fun x => kx x d0'
            have t4 : ∀ x : Since wr, x.u.cell? ⟨b2, o2 + j * 4 + 1, none⟩ = some (.int .i64 e'.s) := fun x => kx x d1'
            have t5 : ∀ x : Since wr, x.u.cell? ⟨b2, o2 + j * 4 + 2, none⟩ = some (.int .i64 e'.d) := fun x => kx x d2'
            have t6 : ∀ x : Since wr, x.u.cell? ⟨g, 0, none⟩ = some (.int .i64 (a : Int)) := fun x => kx x z0
            have t7 : ∀ x : Since wr, x.u.cell? ⟨g, way.length - 1, none⟩ = some (.int .i64 (b : Int)) := fun x => kx x z1
            have t8 : ∀ x : Since wr, x.u.cell? ⟨w.heap.size + 1, 0, none⟩ = some (.int .i64 S) := fun x => kx x S1.c0
            have t9 : ∀ x : Since wr, x.u.cell? ⟨w.heap.size + 1, 1, none⟩ = some (.int .i64 D) := fun x => kx x S1.c1
            have ta : ∀ x : Since wr, x.u.cell? ⟨w.heap.size, 0, none⟩ = some (.int .i64 s) := fun x => kx x S0.c0
            have tb : ∀ x : Since wr, x.u.cell? ⟨w.heap.size, 1, none⟩ = some (.int .i64 d) := fun x => kx x S0.c1
            have hpl : Hid (∀ (x : Since wr) (s d t u : Int), okC s d → okC t u → _) := fun x s d t u h k => plus_any s d t u x.u h k
            have y1 : (0 : Int) ≤ (way.length : Int) - 1 := by have := HLW.out; omega
            have y2 : (way.length : Int) - 1 < (way.length : Int) := by omega
            have y3 : (0 : Int) < (way.length : Int) := by have := HLW.out; omega
            have y5 : ((way.length : Int) - 1).toNat = way.length - 1 := by omega
            have y6 : IntKind.i64.wrap ((way.length : Int) - 1) = (way.length : Int) - 1 := wrap_small' (by have := HLW.out.1; omega) (by have := HLW.out.2; omega)
            have HE' : Hid (inn[j]? = some e') := he'
            clear kx c0 c1 c2 d0' d1' d2' z0 z1 hww he' hce hci l1 l2 l3 l4
            go_wp2_with fail
            go_cut [114] from 75 to 114 (fun bv wd => ∃ r : Bool, bv = .bool r ∧ Hid (r = false → i = io → j = ii → False) ∧ Below wr.heap.size wr wd)
            case first =>
              by_cases q1 : e.to = (a : Int)
              · rw [q1] at t0
                by_cases q2 : e'.to = (b : Int)
                · rw [q2] at t3
                  have key : Hid (i = io → j = ii → (e.s + S + e'.s == s) = true ∧ (e.d + D + e'.d == d) = true) := fun hi hj => by
                    subst hi hj
                    have h1 := HEI.out.1
                    rw [HIO.out.1] at h1
                    cases h1
                    have h2 := HE'.out
                    rw [HII.out.1] at h2
                    cases h2
                    rw [beq_iff_eq, beq_iff_eq, HIO.out.2.2.1, HIO.out.2.2.2, HII.out.2.2.1, HII.out.2.2.2]
                    exact ⟨HSD.out.1.symm, HSD.out.2.symm⟩
                  cases x1 : (e.s + S + e'.s == s) with
                  | false =>
                    have fin : Hid (i = io → j = ii → False) := fun hi hj => by
                      have h := (key.out hi hj).1
                      rw [x1] at h
                      cases h
                    clear key
                    refine wp_region_since (by kernel_rfl) (by kernel_rfl) ?_
                    repeat (go_big_quiet_step (first | (go_at_call 64; exact Calls.since_of (hpl.out _ _ _ _ _ (by assumption) (by assumption)))))
                    clear t0 t1 t2 t3 t4 t5 t6 t7 t8 t9 ta tb hpl x1
                    refine wpQuiet_nil ?_
                    rintro _ ⟨x, rfl⟩
                    go_wp2_with fail
                    go_meet
                    exact ⟨false, rfl, fun _ => fin.out, x.h⟩
                  | true =>
                    cases x2 : (e.d + D + e'.d == d) with
                    | false =>
                      have fin : Hid (i = io → j = ii → False) := fun hi hj => by
                        have h := (key.out hi hj).2
                        rw [x2] at h
                        cases h
                      clear key
                      refine wp_region_since (by kernel_rfl) (by kernel_rfl) ?_
                      repeat (go_big_quiet_step (first | (go_at_call 64; exact Calls.since_of (hpl.out _ _ _ _ _ (by assumption) (by assumption)))))
                      clear t0 t1 t2 t3 t4 t5 t6 t7 t8 t9 ta tb hpl x1 x2
                      refine wpQuiet_nil ?_
                      rintro _ ⟨x, rfl⟩
                      go_wp2_with fail
                      go_meet
                      exact ⟨false, rfl, fun _ => fin.out, x.h⟩
                    | true =>
                      clear key
                      refine wp_region_since (by kernel_rfl) (by kernel_rfl) ?_
                      repeat (go_big_quiet_step (first | (go_at_call 64; exact Calls.since_of (hpl.out _ _ _ _ _ (by assumption) (by assumption)))))
                      clear t0 t1 t2 t3 t4 t5 t6 t7 t8 t9 ta tb hpl x1 x2
                      refine wpQuiet_nil ?_
                      rintro _ ⟨x, rfl⟩
                      go_wp2_with fail
                      go_meet
                      exact ⟨true, rfl, fun h => (by cases h), x.h⟩
                · have q2' : (e'.to == (b : Int)) = false := beq_eq_false_iff_ne.2 q2
                  clear t1 t2 t4 t5 t8 t9 ta tb
                  refine wp_region_since (by kernel_rfl) (by kernel_rfl) ?_
                  repeat (go_big_quiet_step (fail))
                  refine wpQuiet_nil ?_
                  rintro _ ⟨x, rfl⟩
                  go_wp2_with fail
                  go_meet
                  refine ⟨false, rfl, fun _ _ hj => ?_, x.h⟩
                  subst hj
                  have h1 := HE'.out
                  rw [HII.out.1] at h1
                  cases h1
                  exact q2 HII.out.2.1
              · have q1' : (e.to == (a : Int)) = false := beq_eq_false_iff_ne.2 q1
                clear t1 t2 t3 t4 t5 t7 t8 t9 ta tb
                refine wp_region_since (by kernel_rfl) (by kernel_rfl) ?_
                repeat (go_big_quiet_step (fail))
                refine wpQuiet_nil ?_
                rintro _ ⟨x, rfl⟩
                go_wp2_with fail
                go_meet
                refine ⟨false, rfl, fun _ hi _ => ?_, x.h⟩
                subst hi
                have h1 := HEI.out.1
                rw [HIO.out.1] at h1
                cases h1
                exact q1 HIO.out.2.1
            case rest =>
              obtain ⟨r, rfl, HRr, hb9⟩ := hcut
              have B9 := hB.trans (hb9.mono hB.size)
              have S0 := S0.below hb9
              have S1 := S1.below hb9
              clear t0 t1 t2 t3 t4 t5 t6 t7 t8 t9 ta tb hpl hne y1 y2 y3 y5 y6 hB hb9
              cases r with
              | true =>
                go_wp2
                go_ret
                exact ⟨rfl, B9⟩
              | false =>
                have HJ' : Hid (i = io → j + 1 ≤ ii) := fun h => by
                  have h1 := HJ.out h
                  have h2 : j ≠ ii := fun e => HRr.out rfl h e
                  omega
                clear HRr HJ
                go_wp2
                go_roundw
                case rel => exact ⟨j + 1, by omega, HJ'.out, by go_num, S0, S1, B9⟩
                case measure => simp [intOf]; omega
          · have ej : j = inn.length := by omega
            have hlo : ii < inn.length := (List.getElem?_eq_some_iff.1 HII.out.1).1
            have hne : i + 1 ≤ io := by
              have h1 := HEI.out.2.2
              have h2 : i ≠ io := fun e => by have := HJ.out e; omega
              omega
            have hl1 := HEI.out.2.1
            subst ej
            clear HJ
            go_wp2
            go_roundw
            case rel => exact ⟨i + 1, by omega, hne, by go_num, S0, S1, hB⟩
            case measure => simp [intOf]; omega
end Go.Proofs.YtmnpplkjhnoglaaGreatDoor
