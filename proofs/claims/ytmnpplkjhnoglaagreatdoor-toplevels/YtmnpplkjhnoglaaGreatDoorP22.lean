/-
  Texts laid together: Copy, GNew.
-/
import Derived.Test.YtmnpplkjhnoglaaGreatDoorP21
import Derived.Deep.MidRow
/-
  A grid's copy; the closed fact 'grounds'.
-/
namespace Go.Proofs.YtmnpplkjhnoglaaGreatDoor
open Go.RowKit

theorem run_alloc65 (w : World) : (Instr.alloc 117 true (.tuple #[])).run Tryz.prog w = .ok (.pointer (some ⟨w.heap.size, 0, none⟩)) (w.alloc (.cells (gridC 0 0) 117)) := by kernel_rfl

theorem wpList_alloc65 {ops : Array Oper} {rest : List Oper} {o : Oper} {a : Act} {w : World} {Q : Exit → Act → World → Prop} (hgd : o.guard = none) (ho : o.op = .alloc 117)
    (h : wpList Tryz.prog ops Q rest (a.put o.dst (.pointer (some ⟨w.heap.size, 0, none⟩))) (w.alloc (.cells (gridC 0 0) 117))) : wpList Tryz.prog ops Q (o :: rest) a w :=
  wpList_plain hgd fun _ hK => by
    unfold Oper.wp execOp
    simp only [ho, Sem.run_bind, run_alloc65 w, Result.andThen_ok]
    exact hK _ _ h

/-- a grid's cells as a list -/
def gridL (W H V : Int) (bl : Nat → Bool) : List Value := [.int .i64 W, .int .i64 H, .int .i64 V] ++ (List.range 256).map fun i => Value.bool (bl i)
theorem gridL_len (W H V : Int) (bl : Nat → Bool) : (gridL W H V bl).length = 259 := by unfold gridL; simp
theorem gridL_at (W H V : Int) (bl : Nat → Bool) (i : Nat) (hi : i < 256) : (gridL W H V bl)[3 + i]? = some (.bool (bl i)) := by
  unfold gridL
  rw [List.getElem?_append_right (by simp)]
  simp [hi]
theorem gridL_one (W H V : Int) (bl : Nat → Bool) : ∀ v ∈ gridL W H V bl, v.oneCell' = true := by
  intro v hv
  unfold gridL at hv
  simp only [List.mem_append, List.mem_cons, List.mem_map, List.not_mem_nil, or_false] at hv
  rcases hv with (rfl | rfl | rfl) | ⟨i, _, rfl⟩ <;> rfl
theorem GridAt.range {w : World} {b : Nat} {W H V : Int} {bl : Nat → Bool} (g : GridAt w b W H V bl) : w.rangeAt b 0 (gridL W H V bl) := by
  intro j v hj
  rw [Nat.zero_add]
  have hlt : j < 259 := by
    have := (List.getElem?_eq_some_iff.1 hj).1
    rw [gridL_len] at this
    exact this
  by_cases h : j < 3
  · have hc : j = 0 ∨ j = 1 ∨ j = 2 := by omega
    unfold gridL at hj
    rw [List.getElem?_append_left (by simpa using h)] at hj
    rcases hc with rfl | rfl | rfl
    · simp at hj; rw [← hj]; exact g.c0
    · simp at hj; rw [← hj]; exact g.c1
    · simp at hj; rw [← hj]; exact g.c2
  · obtain ⟨i, rfl⟩ : ∃ i, j = 3 + i := ⟨j - 3, by omega⟩
    rw [gridL_at _ _ _ _ i (by omega)] at hj
    have : v = .bool (bl i) := (Option.some.inj hj).symm
    rw [this]
    exact g.cs i (by omega)
theorem gridAt_range {w : World} {b : Nat} {W H V : Int} {bl : Nat → Bool} (h : w.rangeAt b 0 (gridL W H V bl)) (w1 : 1 ≤ W) (w2 : W ≤ 16) (h1 : 1 ≤ H) (h2 : H ≤ 16) : GridAt w b W H V bl := by
  have at_ : ∀ j v, (gridL W H V bl)[j]? = some v → w.cell? ⟨b, j, none⟩ = some v := fun j v hj => by have := h j v hj; rw [Nat.zero_add] at this; exact this
  refine ⟨w1, w2, h1, h2, at_ 0 _ ?_, at_ 1 _ ?_, at_ 2 _ ?_, fun i hi => at_ (3 + i) _ (gridL_at W H V bl i hi)⟩
  · unfold gridL; rw [List.getElem?_append_left (by simp)]; rfl
  · unfold gridL; rw [List.getElem?_append_left (by simp)]; rfl
  · unfold gridL; rw [List.getElem?_append_left (by simp)]; rfl
theorem gridC_size (W H : Int) : (gridC W H).size = 259 := by unfold gridC; simp
theorem there_new (w : World) : (w.alloc (.cells (gridC 0 0) 117)).there w.heap.size 0 259 := by
  intro j hj
  rw [Nat.zero_add, World.cell?_alloc_new, Array.getElem?_eq_getElem (by rw [gridC_size]; exact hj)]
  exact ⟨rfl, free_alloc w _ _ _ (Nat.le_refl _) j⟩
theorem below_setCells {B : Nat} {a : World} (b : Nat) (hb : B ≤ b) : ∀ (vs : List Value) (o : Nat) {w : World}, Below B a w → Below B a (w.setCells b o vs)
  | [], _, _, h => h
  | v :: r, o, _, h => below_setCells b hb r (o + 1) (h.setCell (p := ⟨b, o, none⟩) hb v)
theorem lt_of_cellG {w : World} {b o : Nat} {v : Value} (h : w.cell? ⟨b, o, none⟩ = some v) : b < w.heap.size := by
  by_cases hb : b < w.heap.size
  · exact hb
  · unfold World.cell? at h
    rw [Array.getElem?_eq_none (by simpa using hb)] at h
    simp at h
theorem info65 : (Tryz.prog.info? 117).map (·.size) = some 259 := by kernel_rfl

set_option maxHeartbeats 400000 in
theorem copy_any {b : Nat} {W H V : Int} {bl : Nat → Bool} (w : World) (g : GridAt w b W H V bl) :
    Calls Tryz.prog 44 #[.pointer (some ⟨b, 0, none⟩)] w fun e w' => e = .returned (.pointer (some ⟨w.heap.size, 0, none⟩)) ∧ Below w.heap.size w w' ∧ w.heap.size < w'.heap.size ∧ GridAt w' w.heap.size W H V bl ∧ Free w' w.heap.size := by
  have hr := g.range
  have hl := gridL_len W H V bl
  have h1 := gridL_one W H V bl
  have w1 := g.w1
  have w2 := g.w2
  have h3 := g.h1
  have h4 := g.h2
  have ht := there_new w
  have hB : Below w.heap.size w ((w.alloc (.cells (gridC 0 0) 117)).setCells w.heap.size 0 (gridL W H V bl)) := below_setCells _ (Nat.le_refl _) _ _ ((Below.refl _ _).alloc (Nat.le_refl _) _)
  have hG : GridAt ((w.alloc (.cells (gridC 0 0) 117)).setCells w.heap.size 0 (gridL W H V bl)) w.heap.size W H V bl := gridAt_range (World.rangeAt_setCells_same _ _ _ _ (by rw [hl]; exact ht)) w1 w2 h3 h4
  have hF : Free ((w.alloc (.cells (gridC 0 0) 117)).setCells w.heap.size 0 (gridL W H V bl)) w.heap.size := fun o => by rw [World.frozen?_setCells]; exact free_alloc w _ _ _ (Nat.le_refl _) o
  have hZ : w.heap.size < ((w.alloc (.cells (gridC 0 0) 117)).setCells w.heap.size 0 (gridL W H V bl)).heap.size := lt_of_cellG hG.c0
  clear w1 w2 h3 h4 g
  generalize gridL W H V bl = cs at *
  go_enter Tryz.func44, Tryz.ntmps44
  go_wp2_with (first | (refine wpList_load_mid rfl 117 _ rfl b 0 rfl cs _ hr Tryz.underlying117 rfl (by rw [hl]; exact info65) ?_) | (refine wpList_alloc65 rfl rfl ?_) | (refine wpList_store_mid rfl 117 _ _ rfl w.heap.size 0 cs.toArray rfl rfl (by simpa [hl] using ht) (by simpa [hl] using info65) (all_oneCell_toArray h1) ?_))
  go_ret
  exact ⟨rfl, hB, hZ, hG, hF⟩

/-- two numbers in the block that was made last -/
theorem row_two (w : World) (a b : Nat) : OldRow (w.alloc (.cells #[.int .i64 (a : Int), .int .i64 (b : Int)] 3)) (some ⟨w.heap.size, 0, none⟩) 2 (fun i => (([a, b].getD i 0 : Nat) : Int)) := fun i hi => by
  refine ⟨_, _, rfl, by simp, ?_⟩
  rw [Nat.zero_add, World.cell?_alloc_new]
  have hc : i = 0 ∨ i = 1 := by omega
  rcases hc with rfl | rfl <;> rfl

end Go.Proofs.YtmnpplkjhnoglaaGreatDoor
/-
  A graph is made: package graph's 'New'; its corners: 'Nodes'.
-/
namespace Go.Proofs.YtmnpplkjhnoglaaGreatDoor
open Go.RowKit Go.Maps Go.Sort Go.Shelf

section
variable {w w' : World} {rb pb mb : Nat} {W H V c : Int} {bl : Nat → Bool} {f : Int → Option Value}
theorem EOk.keep (E : EOk w pb W H bl f c) (G : GSt w rb pb mb W H V bl f) (K : Keep (fun k => k = mb) w w') {f' : Int → Option Value} (hf : f' c = f c) : EOk w' pb W H bl f' c := by
  refine ⟨fun h => ?_, fun h => hf.trans (E.no h)⟩
  obtain ⟨v, l, h1, h2, h3, h4⟩ := E.yes h
  exact ⟨v, l, hf.trans h1, own_keep h2 K (own_map h2 G.mp), h3, h4⟩
theorem EOk.below (E : EOk w pb W H bl f c) (hb : Below w.heap.size w w') : EOk w' pb W H bl f c := by
  refine ⟨fun h => ?_, E.no⟩
  obtain ⟨v, l, h1, h2, h3, h4⟩ := E.yes h
  exact ⟨v, l, h1, own_below h2 hb, h3, h4⟩
end

/-- a graph: at each cell what is to be there -/
def GraphAt (w : World) (rb pb mb : Nat) (W H V : Int) (bl : Nat → Bool) : Prop := ∃ f, GSt w rb pb mb W H V bl f ∧ ∀ c : Int, EOk w pb W H bl f c
theorem GraphAt.below {w w' : World} {rb pb mb : Nat} {W H V : Int} {bl : Nat → Bool} (G : GraphAt w rb pb mb W H V bl) (hb : Below w.heap.size w w') : GraphAt w' rb pb mb W H V bl := by
  obtain ⟨f, h1, h2⟩ := G
  exact ⟨f, h1.below hb, fun c => (h2 c).below hb⟩

theorem mkmapM (w : World) : (Instr.makeMap 47 none).run Tryz.prog w = .ok (.map (some w.heap.size)) (w.alloc (.map #[] 0)) := by kernel_rfl
theorem cntS_empty : cntS (keyB fun _ => none) 256 = 0 := cntS_none 256

set_option maxHeartbeats 2000000 in
set_option maxRecDepth 1000000 in
theorem new_graph {b : Nat} {W H V : Int} {bl : Nat → Bool} (w : World) (g : GridAt w b W H V bl) (s : StepsAt w) (hb : b < w.heap.size) :
    Calls Tryz.prog 9 #[.pointer (some ⟨b, 0, none⟩)] w fun e w' => ∃ rb pb mb, e = .returned (.pointer (some ⟨rb, 0, none⟩)) ∧ GraphAt w' rb pb mb W H V bl ∧ w.heap.size ≤ rb ∧ w.heap.size ≤ pb ∧ w.heap.size ≤ mb ∧ Below w.heap.size w w' := by
  have hwh := wh_bd g.w1 g.w2 g.h1 g.h2
  have gw1 := g.w1
  have hcp := copy_any w g
  go_enter Tryz.func9, Tryz.ntmps9
  go_wp2_with fail
  refine hcp.mono ?_
  rintro e w1 ⟨rfl, hb1, hs1, g1, fr1⟩
  clear hcp
  have hmk := mkmapM w1
  have hM : MapF Tryz.prog 3 (w1.alloc (.map #[] 0)) w1.heap.size (fun _ => none) 0 := MapF.made w1 Tryz.prog 3
  have B2 : Below w.heap.size w ((w1.alloc (.map #[] 0)).alloc (.cells #[.pointer (some ⟨w.heap.size, 0, none⟩), .map (some w1.heap.size)] 93)) := (hb1.alloc hb1.size _).alloc (by have := hb1.size; simp; omega) _
  have b2 : Below w1.heap.size w1 ((w1.alloc (.map #[] 0)).alloc (.cells #[.pointer (some ⟨w.heap.size, 0, none⟩), .map (some w1.heap.size)] 93)) := ((Below.refl _ _).alloc (Nat.le_refl _) _).alloc (by simp) _
  have G2 : GSt ((w1.alloc (.map #[] 0)).alloc (.cells #[.pointer (some ⟨w.heap.size, 0, none⟩), .map (some w1.heap.size)] 93)) (w1.heap.size + 1) w.heap.size w1.heap.size W H V bl (fun _ => none) := by
    refine ⟨World.cell?_alloc_at #[.pointer (some ⟨w.heap.size, 0, none⟩), .map (some w1.heap.size)] 93 (w1.heap.size + 1) 0 (by simp), World.cell?_alloc_at #[.pointer (some ⟨w.heap.size, 0, none⟩), .map (some w1.heap.size)] 93 (w1.heap.size + 1) 1 (by simp), g1.below b2 hs1, ?_, fun i h => (by cases h), fun o => (b2.frozen (p := ⟨w.heap.size, o, none⟩) hs1).trans (fr1 o), by omega⟩
    rw [cntS_empty]
    exact hM.keep (F := fun _ => False) ((Keep.refl _ _).alloc _) id
  go_wp2_with fail
  generalize (w1.alloc (.map #[] 0)).alloc (.cells #[.pointer (some ⟨w.heap.size, 0, none⟩), .map (some w1.heap.size)] 93) = W2 at *
  have hz1 := hb1.size
  generalize hmb : w1.heap.size = mb at *
  clear hM hmk b2 g1 fr1 hs1 hb1
  have s2 := s.below B2 (by omega)
  have hz2 := B2.size
  obtain ⟨l1, l2, l3⟩ := G2.lts
  refine (all_any W2 G2.ga s2 l2).mono ?_
  rintro e w3 ⟨v, rfl, hown, hb3⟩
  have hmem := fun c => crs_mem (W := W) (H := H) (bl := bl) (k := (W * H).toNat) (c := c)
  have hin : ∀ n ∈ crs W H bl (W * H).toNat, inB W H (n : Int) = true ∧ n < 256 := fun n hn => by
    have h1 := (hmem n).1 hn
    exact ⟨cornC_in gw1 (cornB_iff.1 h1.2), by omega⟩
  have hLL := crs_len W H bl (W * H).toNat
  have HIN : Hid (∀ n ∈ crs W H bl (W * H).toNat, inB W H (n : Int) = true ∧ n < 256) := hin
  have HME : Hid (∀ c : Int, cornB W H bl c = true → ∃ n : Nat, n ∈ crs W H bl (W * H).toNat ∧ c = n) := fun c hc => by
    have h1 := cornC_in gw1 (cornB_iff.1 hc)
    have h2 : 0 ≤ c ∧ c < W * H := of_decide_eq_true h1
    refine ⟨c.toNat, (hmem c.toNat).2 ⟨by omega, ?_⟩, by omega⟩
    rw [Int.toNat_of_nonneg h2.1]; exact hc
  obtain ⟨A, cap, rfl, _⟩ := row_of hown
  have G3 := G2.below hb3
  have B3 := B2.trans (hb3.mono B2.size)
  clear hmem hin G2 hb3
  generalize crs W H bl (W * H).toNat = L at *
  have hown := own_base hown (Nat.zero_le _)
  go_wp2
  go_loopw [17] (fun iv wr => ∃ (k : Nat) (f : Int → Option Value), k ≤ L.length ∧ iv = .int .i64 k ∧ GSt wr (mb + 1) w.heap.size mb W H V bl f ∧ Hid (∀ c : Int, (∃ i, i < k ∧ c = ((L.getD i 0 : Nat) : Int)) → EOk wr w.heap.size W H bl f c) ∧ Hid (∀ c : Int, ¬ (∃ i, i < k ∧ c = ((L.getD i 0 : Nat) : Int)) → f c = none) ∧ wr.ownsRow 0 3 1 (.slice A L.length cap) L.length (vals L) ∧ Below w.heap.size w wr)
    (fun i _ => L.length - (intOf i).toNat)
  case atStart => exact ⟨0, _, Nat.zero_le _, rfl, G3, fun c ⟨i, hi, _⟩ => absurd hi (Nat.not_lt_zero i), fun c _ => rfl, hown, B3⟩
  case round =>
    obtain ⟨k, f, hk, rfl, Gr, hyes, hno, hrow, hB⟩ := hrel
    by_cases hlt : k < L.length
    · obtain ⟨ba, hA⟩ : ∃ ba, A = some ⟨ba, 0, none⟩ := by
        rcases hrow.2 with ⟨_, h0⟩ | ⟨ba, _, _, hv, _⟩
        · omega
        · exact ⟨ba, by cases hv; rfl⟩
      subst hA
      have hcell' : wr.cell? ⟨ba, k, none⟩ = some (.int .i64 ((L.getD k 0 : Nat) : Int)) := own_int hrow k hlt
      have hnm : L.getD k 0 ∈ L := by rw [getD_at _ _ hlt]; exact List.getElem_mem hlt
      obtain ⟨hni, hn2⟩ := HIN.out _ hnm
      have HK : Hid (∀ c : Int, (∃ i, i < k + 1 ∧ c = ((L.getD i 0 : Nat) : Int)) ↔ (∃ i, i < k ∧ c = ((L.getD i 0 : Nat) : Int)) ∨ c = ((L.getD k 0 : Nat) : Int)) := fun c => by
        constructor
        · rintro ⟨i, hi, h⟩
          by_cases e : i = k
          · subst e; exact Or.inr h
          · exact Or.inl ⟨i, by omega, h⟩
        · rintro (⟨i, hi, h⟩ | h)
          · exact ⟨i, by omega, h⟩
          · exact ⟨k, by omega, h⟩
      generalize hnn : L.getD k 0 = n at *
      clear hnn hnm
      have i1 : (0 : Int) ≤ (k : Int) := by omega
      have i2 : (k : Int) < (L.length : Int) := by omega
      have hz := hB.size
      have hlk := look_any wr Gr (s.below hB (by omega)) hni
      go_wp2_with fail
      refine hlk.mono ?_
      rintro e w4 ⟨rfl, ⟨f', G4, hf', E4⟩, K4⟩
      have B4 : Below w.heap.size w w4 := hB.trans (K4.to_below hB.size (fun k e => by omega))
      have R4 := own_keep hrow K4 (own_map hrow Gr.mp)
      have HY : Hid (∀ c : Int, (∃ i, i < k + 1 ∧ c = ((L.getD i 0 : Nat) : Int)) → EOk w4 w.heap.size W H bl f' c) := fun c hc => by
        by_cases e : c = (n : Int)
        · rw [e]; exact E4
        · exact (hyes.out c (((HK.out c).1 hc).resolve_right e)).keep Gr K4 (hf' c e)
      have HN : Hid (∀ c : Int, ¬ (∃ i, i < k + 1 ∧ c = ((L.getD i 0 : Nat) : Int)) → f' c = none) := fun c hc => by
        have e : c ≠ (n : Int) := fun e => hc ((HK.out c).2 (Or.inr e))
        rw [hf' c e]
        exact hno.out c (fun h => hc ((HK.out c).2 (Or.inl h)))
      clear hlk hyes hno Gr hrow hB E4 K4 hf'
      go_wp2
      go_roundw
      case rel => exact ⟨k + 1, f', by omega, by go_num, G4, HY, HN, R4, B4⟩
      case measure => simp [intOf]; omega
    · have e : k = L.length := by omega
      subst e
      have HE : Hid (∀ c : Int, EOk wr w.heap.size W H bl f c) := fun c => by
        by_cases hc : ∃ i, i < L.length ∧ c = ((L.getD i 0 : Nat) : Int)
        · exact hyes.out c hc
        · refine ⟨fun h => ?_, fun _ => hno.out c hc⟩
          obtain ⟨n, hn, rfl⟩ := HME.out c h
          obtain ⟨i, hi, h⟩ := List.getElem_of_mem hn
          exact absurd ⟨i, hi, by rw [getD_at _ _ hi, h]⟩ hc
      clear hyes hno
      go_wp2
      go_ret
      exact ⟨_, _, _, rfl, ⟨f, Gr, HE.out⟩, by omega, Nat.le_refl _, by omega, hB⟩
end Go.Proofs.YtmnpplkjhnoglaaGreatDoor
