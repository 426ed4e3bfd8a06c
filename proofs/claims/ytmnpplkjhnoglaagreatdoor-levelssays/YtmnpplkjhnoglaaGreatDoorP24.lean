/-
  Texts laid together: Copy, GNew, GRead.
-/
import Derived.Test.YtmnpplkjhnoglaaGreatDoorP23
import Derived.Deep.MidRow
/-
  A grid's copy; the closed fact 'grounds'.
-/
namespace Go.Proofs.YtmnpplkjhnoglaaGreatDoor
open Go.RowKit

theorem run_alloc65 (w : World) : (Instr.alloc 117 true (.tuple #[])).run Tryz.prog w = .ok (.pointer (some ⟨w.heap.size, 0, none⟩)) (w.alloc (.cells (gridC 0 0) 117)) := by kernel_rfl

theorem wpList_alloc65 {ops : Array Oper} {rest : List Oper} {o : Oper} {a : Act} {w : World} {Q : Exit → Act → World → Prop} (hgd : o.guard = none) (ho : o.op = .alloc 117)
    (h : wpList Tryz.prog ops Q rest (a.put o.dst (.pointer (some ⟨w.heap.size, 0, none⟩))) (w.alloc (.cells (gridC 0 0) 117))) : wpList Tryz.prog ops Q (o :: rest) a w :=
  wpList_plain hgd fun _ hK => by
    unfold Oper.wp execOp
    simp only [ho, Sem.run_bind, run_alloc65 w, Result.andThen_ok]
    exact hK _ _ h

/-- a grid's cells as a list -/
def gridL (W H V : Int) (bl : Nat → Bool) : List Value := [.int .i64 W, .int .i64 H, .int .i64 V] ++ (List.range 256).map fun i => Value.bool (bl i)
theorem gridL_len (W H V : Int) (bl : Nat → Bool) : (gridL W H V bl).length = 259 := by unfold gridL; simp
theorem gridL_at (W H V : Int) (bl : Nat → Bool) (i : Nat) (hi : i < 256) : (gridL W H V bl)[3 + i]? = some (.bool (bl i)) := by
  unfold gridL
  rw [List.getElem?_append_right (by simp)]
  simp [hi]
theorem gridL_one (W H V : Int) (bl : Nat → Bool) : ∀ v ∈ gridL W H V bl, v.oneCell' = true := by
  intro v hv
  unfold gridL at hv
  simp only [List.mem_append, List.mem_cons, List.mem_map, List.not_mem_nil, or_false] at hv
  rcases hv with (rfl | rfl | rfl) | ⟨i, _, rfl⟩ <;> rfl
theorem GridAt.range {w : World} {b : Nat} {W H V : Int} {bl : Nat → Bool} (g : GridAt w b W H V bl) : w.rangeAt b 0 (gridL W H V bl) := by
  intro j v hj
  rw [Nat.zero_add]
  have hlt : j < 259 := by
    have := (List.getElem?_eq_some_iff.1 hj).1
    rw [gridL_len] at this
    exact this
  by_cases h : j < 3
  · have hc : j = 0 ∨ j = 1 ∨ j = 2 := by omega
    unfold gridL at hj
    rw [List.getElem?_append_left (by simpa using h)] at hj
    rcases hc with rfl | rfl | rfl
    · simp at hj; rw [← hj]; exact g.c0
    · simp at hj; rw [← hj]; exact g.c1
    · simp at hj; rw [← hj]; exact g.c2
  · obtain ⟨i, rfl⟩ : ∃ i, j = 3 + i := ⟨j - 3, by omega⟩
    rw [gridL_at _ _ _ _ i (by omega)] at hj
    have : v = .bool (bl i) := (Option.some.inj hj).symm
    rw [this]
    exact g.cs i (by omega)
theorem gridAt_range {w : World} {b : Nat} {W H V : Int} {bl : Nat → Bool} (h : w.rangeAt b 0 (gridL W H V bl)) (w1 : 1 ≤ W) (w2 : W ≤ 16) (h1 : 1 ≤ H) (h2 : H ≤ 16) : GridAt w b W H V bl := by
  have at_ : ∀ j v, (gridL W H V bl)[j]? = some v → w.cell? ⟨b, j, none⟩ = some v := fun j v hj => by have := h j v hj; rw [Nat.zero_add] at this; exact this
  refine ⟨w1, w2, h1, h2, at_ 0 _ ?_, at_ 1 _ ?_, at_ 2 _ ?_, fun i hi => at_ (3 + i) _ (gridL_at W H V bl i hi)⟩
  · unfold gridL; rw [List.getElem?_append_left (by simp)]; rfl
  · unfold gridL; rw [List.getElem?_append_left (by simp)]; rfl
  · unfold gridL; rw [List.getElem?_append_left (by simp)]; rfl
theorem gridC_size (W H : Int) : (gridC W H).size = 259 := by unfold gridC; simp
theorem there_new (w : World) : (w.alloc (.cells (gridC 0 0) 117)).there w.heap.size 0 259 := by
  intro j hj
  rw [Nat.zero_add, World.cell?_alloc_new, Array.getElem?_eq_getElem (by rw [gridC_size]; exact hj)]
  exact ⟨rfl, free_alloc w _ _ _ (Nat.le_refl _) j⟩
theorem below_setCells {B : Nat} {a : World} (b : Nat) (hb : B ≤ b) : ∀ (vs : List Value) (o : Nat) {w : World}, Below B a w → Below B a (w.setCells b o vs)
  | [], _, _, h => h
  | v :: r, o, _, h => below_setCells b hb r (o + 1) (h.setCell (p := ⟨b, o, none⟩) hb v)
theorem lt_of_cellG {w : World} {b o : Nat} {v : Value} (h : w.cell? ⟨b, o, none⟩ = some v) : b < w.heap.size := by
  by_cases hb : b < w.heap.size
  · exact hb
  · unfold World.cell? at h
    rw [Array.getElem?_eq_none (by simpa using hb)] at h
    simp at h
theorem info65 : (Tryz.prog.info? 117).map (·.size) = some 259 := by kernel_rfl

set_option maxHeartbeats 400000 in
theorem copy_any {b : Nat} {W H V : Int} {bl : Nat → Bool} (w : World) (g : GridAt w b W H V bl) :
    Calls Tryz.prog 44 #[.pointer (some ⟨b, 0, none⟩)] w fun e w' => e = .returned (.pointer (some ⟨w.heap.size, 0, none⟩)) ∧ Below w.heap.size w w' ∧ w.heap.size < w'.heap.size ∧ GridAt w' w.heap.size W H V bl ∧ Free w' w.heap.size := by
  have hr := g.range
  have hl := gridL_len W H V bl
  have h1 := gridL_one W H V bl
  have w1 := g.w1
  have w2 := g.w2
  have h3 := g.h1
  have h4 := g.h2
  have ht := there_new w
  have hB : Below w.heap.size w ((w.alloc (.cells (gridC 0 0) 117)).setCells w.heap.size 0 (gridL W H V bl)) := below_setCells _ (Nat.le_refl _) _ _ ((Below.refl _ _).alloc (Nat.le_refl _) _)
  have hG : GridAt ((w.alloc (.cells (gridC 0 0) 117)).setCells w.heap.size 0 (gridL W H V bl)) w.heap.size W H V bl := gridAt_range (World.rangeAt_setCells_same _ _ _ _ (by rw [hl]; exact ht)) w1 w2 h3 h4
  have hF : Free ((w.alloc (.cells (gridC 0 0) 117)).setCells w.heap.size 0 (gridL W H V bl)) w.heap.size := fun o => by rw [World.frozen?_setCells]; exact free_alloc w _ _ _ (Nat.le_refl _) o
  have hZ : w.heap.size < ((w.alloc (.cells (gridC 0 0) 117)).setCells w.heap.size 0 (gridL W H V bl)).heap.size := lt_of_cellG hG.c0
  clear w1 w2 h3 h4 g
  generalize gridL W H V bl = cs at *
  go_enter Tryz.func44, Tryz.ntmps44
  go_wp2_with (first | (refine wpList_load_mid rfl 117 _ rfl b 0 rfl cs _ hr Tryz.underlying117 rfl (by rw [hl]; exact info65) ?_) | (refine wpList_alloc65 rfl rfl ?_) | (refine wpList_store_mid rfl 117 _ _ rfl w.heap.size 0 cs.toArray rfl rfl (by simpa [hl] using ht) (by simpa [hl] using info65) (all_oneCell_toArray h1) ?_))
  go_ret
  exact ⟨rfl, hB, hZ, hG, hF⟩

end Go.Proofs.YtmnpplkjhnoglaaGreatDoor
/-
  A graph is made: package graph's 'New'; its corners: 'Nodes'.
-/
namespace Go.Proofs.YtmnpplkjhnoglaaGreatDoor
open Go.RowKit Go.Maps Go.Sort Go.Shelf

section
variable {w w' : World} {rb pb mb : Nat} {W H V c : Int} {bl : Nat → Bool} {f : Int → Option Value}
theorem EOk.keep (E : EOk w pb W H bl f c) (G : GSt w rb pb mb W H V bl f) (K : Keep (fun k => k = mb) w w') {f' : Int → Option Value} (hf : f' c = f c) : EOk w' pb W H bl f' c := by
  refine ⟨fun h => ?_, fun h => hf.trans (E.no h)⟩
  obtain ⟨v, l, h1, h2, h3, h4⟩ := E.yes h
  exact ⟨v, l, hf.trans h1, own_keep h2 K (own_map h2 G.mp), h3, h4⟩
theorem EOk.below (E : EOk w pb W H bl f c) (hb : Below w.heap.size w w') : EOk w' pb W H bl f c := by
  refine ⟨fun h => ?_, E.no⟩
  obtain ⟨v, l, h1, h2, h3, h4⟩ := E.yes h
  exact ⟨v, l, h1, own_below h2 hb, h3, h4⟩
end

/-- a graph: at each cell what is to be there -/
def GraphAt (w : World) (rb pb mb : Nat) (W H V : Int) (bl : Nat → Bool) : Prop := ∃ f, GSt w rb pb mb W H V bl f ∧ ∀ c : Int, EOk w pb W H bl f c
theorem GraphAt.below {w w' : World} {rb pb mb : Nat} {W H V : Int} {bl : Nat → Bool} (G : GraphAt w rb pb mb W H V bl) (hb : Below w.heap.size w w') : GraphAt w' rb pb mb W H V bl := by
  obtain ⟨f, h1, h2⟩ := G
  exact ⟨f, h1.below hb, fun c => (h2 c).below hb⟩

theorem mkmapM (w : World) : (Instr.makeMap 47 none).run Tryz.prog w = .ok (.map (some w.heap.size)) (w.alloc (.map #[] 0)) := by kernel_rfl
theorem cntS_empty : cntS (keyB fun _ => none) 256 = 0 := cntS_none 256

set_option maxHeartbeats 2000000 in
set_option maxRecDepth 1000000 in
theorem new_graph {b : Nat} {W H V : Int} {bl : Nat → Bool} (w : World) (g : GridAt w b W H V bl) (s : StepsAt w) (hb : b < w.heap.size) :
    Calls Tryz.prog 9 #[.pointer (some ⟨b, 0, none⟩)] w fun e w' => ∃ rb pb mb, e = .returned (.pointer (some ⟨rb, 0, none⟩)) ∧ GraphAt w' rb pb mb W H V bl ∧ w.heap.size ≤ rb ∧ w.heap.size ≤ pb ∧ w.heap.size ≤ mb ∧ Below w.heap.size w w' := by
  have hwh := wh_bd g.w1 g.w2 g.h1 g.h2
  have gw1 := g.w1
  have hcp := copy_any w g
  go_enter Tryz.func9, Tryz.ntmps9
  go_wp2_with fail
  refine hcp.mono ?_
  rintro e w1 ⟨rfl, hb1, hs1, g1, fr1⟩
  clear hcp
  have hmk := mkmapM w1
  have hM : MapF Tryz.prog 3 (w1.alloc (.map #[] 0)) w1.heap.size (fun _ => none) 0 := MapF.made w1 Tryz.prog 3
  have B2 : Below w.heap.size w ((w1.alloc (.map #[] 0)).alloc (.cells #[.pointer (some ⟨w.heap.size, 0, none⟩), .map (some w1.heap.size)] 93)) := (hb1.alloc hb1.size _).alloc (by have := hb1.size; simp; omega) _
  have b2 : Below w1.heap.size w1 ((w1.alloc (.map #[] 0)).alloc (.cells #[.pointer (some ⟨w.heap.size, 0, none⟩), .map (some w1.heap.size)] 93)) := ((Below.refl _ _).alloc (Nat.le_refl _) _).alloc (by simp) _
  have G2 : GSt ((w1.alloc (.map #[] 0)).alloc (.cells #[.pointer (some ⟨w.heap.size, 0, none⟩), .map (some w1.heap.size)] 93)) (w1.heap.size + 1) w.heap.size w1.heap.size W H V bl (fun _ => none) := by
    refine ⟨World.cell?_alloc_at #[.pointer (some ⟨w.heap.size, 0, none⟩), .map (some w1.heap.size)] 93 (w1.heap.size + 1) 0 (by simp), World.cell?_alloc_at #[.pointer (some ⟨w.heap.size, 0, none⟩), .map (some w1.heap.size)] 93 (w1.heap.size + 1) 1 (by simp), g1.below b2 hs1, ?_, fun i h => (by cases h), fun o => (b2.frozen (p := ⟨w.heap.size, o, none⟩) hs1).trans (fr1 o), by omega⟩
    rw [cntS_empty]
    exact hM.keep (F := fun _ => False) ((Keep.refl _ _).alloc _) id
  go_wp2_with fail
  generalize (w1.alloc (.map #[] 0)).alloc (.cells #[.pointer (some ⟨w.heap.size, 0, none⟩), .map (some w1.heap.size)] 93) = W2 at *
  have hz1 := hb1.size
  generalize hmb : w1.heap.size = mb at *
  clear hM hmk b2 g1 fr1 hs1 hb1
  have s2 := s.below B2 (by omega)
  have hz2 := B2.size
  obtain ⟨l1, l2, l3⟩ := G2.lts
  refine (all_any W2 G2.ga s2 l2).mono ?_
  rintro e w3 ⟨v, rfl, hown, hb3⟩
  have hmem := fun c => crs_mem (W := W) (H := H) (bl := bl) (k := (W * H).toNat) (c := c)
  have hin : ∀ n ∈ crs W H bl (W * H).toNat, inB W H (n : Int) = true ∧ n < 256 := fun n hn => by
    have h1 := (hmem n).1 hn
    exact ⟨cornC_in gw1 (cornB_iff.1 h1.2), by omega⟩
  have hLL := crs_len W H bl (W * H).toNat
  have HIN : Hid (∀ n ∈ crs W H bl (W * H).toNat, inB W H (n : Int) = true ∧ n < 256) := hin
  have HME : Hid (∀ c : Int, cornB W H bl c = true → ∃ n : Nat, n ∈ crs W H bl (W * H).toNat ∧ c = n) := fun c hc => by
    have h1 := cornC_in gw1 (cornB_iff.1 hc)
    have h2 : 0 ≤ c ∧ c < W * H := of_decide_eq_true h1
    refine ⟨c.toNat, (hmem c.toNat).2 ⟨by omega, ?_⟩, by omega⟩
    rw [Int.toNat_of_nonneg h2.1]; exact hc
  obtain ⟨A, cap, rfl, _⟩ := row_of hown
  have G3 := G2.below hb3
  have B3 := B2.trans (hb3.mono B2.size)
  clear hmem hin G2 hb3
  generalize crs W H bl (W * H).toNat = L at *
  have hown := own_base hown (Nat.zero_le _)
  go_wp2
  go_loopw [17] (fun iv wr => ∃ (k : Nat) (f : Int → Option Value), k ≤ L.length ∧ iv = .int .i64 k ∧ GSt wr (mb + 1) w.heap.size mb W H V bl f ∧ Hid (∀ c : Int, (∃ i, i < k ∧ c = ((L.getD i 0 : Nat) : Int)) → EOk wr w.heap.size W H bl f c) ∧ Hid (∀ c : Int, ¬ (∃ i, i < k ∧ c = ((L.getD i 0 : Nat) : Int)) → f c = none) ∧ wr.ownsRow 0 3 1 (.slice A L.length cap) L.length (vals L) ∧ Below w.heap.size w wr)
    (fun i _ => L.length - (intOf i).toNat)
  case atStart => exact ⟨0, _, Nat.zero_le _, rfl, G3, fun c ⟨i, hi, _⟩ => absurd hi (Nat.not_lt_zero i), fun c _ => rfl, hown, B3⟩
  case round =>
    obtain ⟨k, f, hk, rfl, Gr, hyes, hno, hrow, hB⟩ := hrel
    by_cases hlt : k < L.length
    · obtain ⟨ba, hA⟩ : ∃ ba, A = some ⟨ba, 0, none⟩ := by
        rcases hrow.2 with ⟨_, h0⟩ | ⟨ba, _, _, hv, _⟩
        · omega
        · exact ⟨ba, by cases hv; rfl⟩
      subst hA
      have hcell' : wr.cell? ⟨ba, k, none⟩ = some (.int .i64 ((L.getD k 0 : Nat) : Int)) := own_int hrow k hlt
      have hnm : L.getD k 0 ∈ L := by rw [getD_at _ _ hlt]; exact List.getElem_mem hlt
      obtain ⟨hni, hn2⟩ := HIN.out _ hnm
      have HK : Hid (∀ c : Int, (∃ i, i < k + 1 ∧ c = ((L.getD i 0 : Nat) : Int)) ↔ (∃ i, i < k ∧ c = ((L.getD i 0 : Nat) : Int)) ∨ c = ((L.getD k 0 : Nat) : Int)) := fun c => by
        constructor
        · rintro ⟨i, hi, h⟩
          by_cases e : i = k
          · subst e; exact Or.inr h
          · exact Or.inl ⟨i, by omega, h⟩
        · rintro (⟨i, hi, h⟩ | h)
          · exact ⟨i, by omega, h⟩
          · exact ⟨k, by omega, h⟩
      generalize hnn : L.getD k 0 = n at *
      clear hnn hnm
      have i1 : (0 : Int) ≤ (k : Int) := by omega
      have i2 : (k : Int) < (L.length : Int) := by omega
      have hz := hB.size
      have hlk := look_any wr Gr (s.below hB (by omega)) hni
      go_wp2_with fail
      refine hlk.mono ?_
      rintro e w4 ⟨rfl, ⟨f', G4, hf', E4⟩, K4⟩
      have B4 : Below w.heap.size w w4 := hB.trans (K4.to_below hB.size (fun k e => by omega))
      have R4 := own_keep hrow K4 (own_map hrow Gr.mp)
      have HY : Hid (∀ c : Int, (∃ i, i < k + 1 ∧ c = ((L.getD i 0 : Nat) : Int)) → EOk w4 w.heap.size W H bl f' c) := fun c hc => by
        by_cases e : c = (n : Int)
        · rw [e]; exact E4
        · exact (hyes.out c (((HK.out c).1 hc).resolve_right e)).keep Gr K4 (hf' c e)
      have HN : Hid (∀ c : Int, ¬ (∃ i, i < k + 1 ∧ c = ((L.getD i 0 : Nat) : Int)) → f' c = none) := fun c hc => by
        have e : c ≠ (n : Int) := fun e => hc ((HK.out c).2 (Or.inr e))
        rw [hf' c e]
        exact hno.out c (fun h => hc ((HK.out c).2 (Or.inl h)))
      clear hlk hyes hno Gr hrow hB E4 K4 hf'
      go_wp2
      go_roundw
      case rel => exact ⟨k + 1, f', by omega, by go_num, G4, HY, HN, R4, B4⟩
      case measure => simp [intOf]; omega
    · have e : k = L.length := by omega
      subst e
      have HE : Hid (∀ c : Int, EOk wr w.heap.size W H bl f c) := fun c => by
        by_cases hc : ∃ i, i < L.length ∧ c = ((L.getD i 0 : Nat) : Int)
        · exact hyes.out c hc
        · refine ⟨fun h => ?_, fun _ => hno.out c hc⟩
          obtain ⟨n, hn, rfl⟩ := HME.out c h
          obtain ⟨i, hi, h⟩ := List.getElem_of_mem hn
          exact absurd ⟨i, hi, by rw [getD_at _ _ hi, h]⟩ hc
      clear hyes hno
      go_wp2
      go_ret
      exact ⟨_, _, _, rfl, ⟨f, Gr, HE.out⟩, by omega, Nat.le_refl _, by omega, hB⟩
end Go.Proofs.YtmnpplkjhnoglaaGreatDoor
/-
  What a graph tells: its corners, the edges of one, its grid, what connects a cell.
-/
namespace Go.Proofs.YtmnpplkjhnoglaaGreatDoor
open Go.RowKit Go.Maps Go.Sort Go.Shelf

theorem Tryz.sortsA (m : Nat) : AnyZI.SortsIn Tryz.prog Tryz.sortedA_ren Fence.wide m :=
  ⟨fun blk off cap ss W hH hblk hsz => callsIn_wide.2 (AnyM.slices_Sort_int Tryz.sortA blk off cap ss W hH hblk hsz),
   fun p cap W => callsIn_wide.2 (AnyM.slices_Sort_int_none Tryz.sortA p cap W)⟩

set_option maxHeartbeats 1000000 in
theorem nodes' (rb b nn : Nat) (D0 : DataW Value) (R : Value → Option (DataW Value × List MemPlace)) (w : World) (p1 : w.cell? ⟨rb, 1, none⟩ = some (.map (some b))) (hown : w.ownsMap Tryz.prog 3 R b nn D0) (hmax : Maps.size D0 ≤ maxLen) (hbytes : Maps.size D0 * 8 ≤ 140737488355328) :
    Calls Tryz.prog 23 #[.pointer (some ⟨rb, 0, none⟩)] w fun e w' => ∃ (v : Value) (ss : List Int), e = .returned v ∧ ss.Perm (intKeys D0) ∧
      w'.ownsRow w.heap.size 3 1 v ss.length ((ss.mergeSort (fun x y => decide (x ≤ y))).map encZ) ∧ Below w.heap.size w w' := by
  refine (callsIn_wide (n := 6)).1 ?_
  have hbl := hown.lt
  have hseq : SeqGives Fence.wide 2 Tryz.prog 96 #[.pointer (some ⟨w.heap.size, 0, none⟩)] encZ (fun ss => ss.Perm (intKeys D0)) (Maps.size D0) (w.alloc (.cells #[.map (some b)] 47)) :=
    AnyZI.keys_gives (ρ := Tryz.keysA_ren) { Tryz.keysA with } Fence.wide _ trivial rfl (by omega) w.heap.size b nn D0 _ (by simp) (by simp) (by
      obtain ⟨es, clock, hb, Ft, hs, hD⟩ := hown
      exact ⟨es, clock, (Below.heap_alloc _ _ b hbl).trans hb, Ft, hs, hD⟩)
  have cK : ∀ mb W, CallsIn Fence.wide 5 Tryz.prog 61 #[.map mb] W fun e w' => e = .returned (.func (.func 96) #[] #[.pointer (some ⟨W.heap.size, 0, none⟩)]) ∧ w' = W.alloc (.cells #[.map mb] 47) := fun mb W => AnyZI.keys_in Tryz.keysA Fence.wide 5 trivial rfl mb W
  have cS := AnyZI.sorted_in Tryz.sortedA Fence.wide 5 trivial trivial trivial trivial rfl (by omega) (Tryz.sortsA _) (enters_of Tryz.func95 (by kernel_rfl) rfl) 96 #[.pointer (some ⟨w.heap.size, 0, none⟩)] trivial (enters_of Tryz.func96 (by kernel_rfl) rfl) _ _ hmax hbytes _ hseq
  change CallsIn _ _ Tryz.prog 60 _ _ _ at cS
  have hfK : Fence.wide.fn 61 := trivial
  have hfS : Fence.wide.fn 60 := trivial
  refine callsIn_of_wp Tryz.func23 rfl trivial ?_ rfl
  simp only [Tryz.ntmps23, List.size_toArray, List.length_cons, List.length_nil, Nat.reduceAdd, Nat.reduceSub, Array.replicate_succ, Array.replicate_zero, List.push_toArray, List.append_toArray, List.nil_append, List.cons_append]
  gi_wp2_with (first
    | (gi_at_call 61; refine (cK _ _).mono ?_; rintro e w' ⟨rfl, rfl⟩)
    | (gi_at_call 60; refine cS.mono ?_; rintro e w' ⟨v, ss, rfl, hS, hrow, hnil, hb⟩))
  go_ret
  exact ⟨v, ss, rfl, hS, ownsRow_base_a hrow (by simp), ((Below.refl _ w).alloc (Nat.le_refl _) _).trans (hb.mono (by simp))⟩

theorem crs_rise (W H : Int) (bl : Nat → Bool) (k : Nat) : (crs W H bl k).Pairwise (· < ·) := by
  unfold crs
  exact List.pairwise_lt_range.filter _

theorem nodes_any {rb pb mb : Nat} {W H V : Int} {bl : Nat → Bool} (w : World) (G : GraphAt w rb pb mb W H V bl) :
    Calls Tryz.prog 23 #[.pointer (some ⟨rb, 0, none⟩)] w fun e w' => ∃ v, e = .returned v ∧ w'.ownsRow w.heap.size 3 1 v (crs W H bl (W * H).toNat).length (vals (crs W H bl (W * H).toNat)) ∧ Below w.heap.size w w' := by
  obtain ⟨f, G, E⟩ := G
  have gw1 := G.ga.w1
  have hroom := cntS_le (keyB f) 256
  obtain ⟨D, hown, hsz, hD⟩ := G.mp
  have hc : CollectedI D (fun _ => false) (intsN (crs W H bl (W * H).toNat)) := by
    refine ⟨(rise_intsN (crs_rise _ _ _ _)).imp (fun h e => by omega), fun x => ?_⟩
    rw [mem_intsN, (hD x).1]
    constructor
    · rintro ⟨n, hn, rfl⟩
      obtain ⟨v, l, hf, _⟩ := (E n).yes (crs_mem.1 hn).2
      exact ⟨by rw [hf]; rfl, rfl⟩
    · rintro ⟨hs, _⟩
      cases hcx : cornB W H bl x with
      | false => rw [(E x).no hcx] at hs; cases hs
      | true =>
        have h2 : 0 ≤ x ∧ x < W * H := of_decide_eq_true (cornC_in gw1 (cornB_iff.1 hcx))
        refine ⟨x.toNat, crs_mem.2 ⟨by omega, ?_⟩, by omega⟩
        rw [Int.toNat_of_nonneg h2.1]; exact hcx
  have hp := hc.perm hown (int_keyed law3) law3 (fun _ => rfl)
  refine (nodes' rb mb _ D asIs w G.p1 hown (by rw [hsz]; unfold maxLen; omega) (by rw [hsz]; omega)).mono ?_
  rintro e w' ⟨v, ss, rfl, hS, hrow, hb⟩
  have hps := hS.trans hp.symm
  have e1 := mergeSort_of_perm_i hps
  obtain ⟨l, l1, l2, l3, l4⟩ := srt_ex (crs W H bl (W * H).toNat) ((crs_rise _ _ _ _).imp (fun h e => by omega))
  have e2 : l = crs W H bl (W * H).toNat := rise_eq l1 (crs_rise _ _ _ _) l2
  have e3 : ss.mergeSort (fun x y => decide (x ≤ y)) = intsN (crs W H bl (W * H).toNat) := by
    rw [e2] at l4
    exact e1.trans l4
  rw [e3, hps.length_eq] at hrow
  refine ⟨v, rfl, ?_, hb⟩
  rw [List.length_map, List.map_map] at hrow
  exact hrow

theorem eqlE (w : World) (a : Option Addr) (n c n' c' : Nat) : (binOp .eql 52 (.slice a n c) (.slice none n' c')).run Tryz.prog w = .ok (.bool a.isNone) w := Lib.run_eql_slice_nil w _ _ a n c n' c' Tryz.underE
theorem undE (w : World) : Sem.run Tryz.prog (underlying 52) w = .ok (TypeDesc.slice 67) w := run_underlying Tryz.underE w
set_option maxHeartbeats 1000000 in
set_option maxRecDepth 1000000 in
theorem clone_nil (w : World) : Calls Tryz.prog 55 #[.slice none 0 0] w fun e w' => e = .returned (.slice none 0 0) ∧ w' = w := by
  have q := eqlE
  go_enter Tryz.func55, Tryz.ntmps55
  go_wp2
  go_ret
  exact ⟨rfl, rfl⟩
set_option maxHeartbeats 1000000 in
set_option maxRecDepth 1000000 in
theorem clone_row {g n cap : Nat} {xs : List Value} (w : World) (h : w.ownsRow 0 67 4 (.slice (some ⟨g, 0, none⟩) n cap) n xs) (h1 : ∀ u ∈ xs, u.oneCell' = true) (hn : n ≤ 256) :
    Calls Tryz.prog 55 #[.slice (some ⟨g, 0, none⟩) n cap] w fun e w' => ∃ v, e = .returned v ∧ w'.ownsRow w.heap.size 67 4 v n xs ∧ Below w.heap.size w w' := by
  obtain ⟨i0, hi, hz0, hz1, hz2⟩ := info_parts Tryz.infoE
  have hx : xs.length = n * 4 := h.1
  have hc : Hid (∀ j u, xs[j]? = some u → w.cell? ⟨g, j, none⟩ = some u) := fun j u hj => by
    have hj' : j < xs.length := (List.getElem?_eq_some_iff.1 hj).1
    rw [h.cellAt j (by omega)]; exact hj
  have q := eqlE
  have u := undE
  clear h
  go_enter Tryz.func55, Tryz.ntmps55
  go_wp2_with (at_builtin; refine wpList_append_own _ rfl _ _ 52 rfl w.heap.size 67 i0 (.agg #[.int .i64 0, .int .i64 0, .int .i64 0, .int .i64 0]) 4 32 Tryz.underE hi hz0 hz1 hz2 rfl (by decide) _ _ _ rfl (World.ownsRow_made w #[] 0 (Nat.le_refl _) (Nat.zero_le _) (by simp)) ⟨g, 0, none⟩ n cap xs rfl ?qc1 ?qc2 ?qc3 ?qc4 ?qc5 ?qc6 ?_)
  case qc1 => exact hx
  case qc2 =>
    intro j u hj
    rw [Addr.add_lit, Nat.zero_add]
    exact Lib.cell?_alloc_some _ (hc.out j u hj)
  case qc3 => exact h1
  case qc4 => unfold maxLen; omega
  case qc5 => omega
  case qc6 => simp
  intro v' w1 hown hgrow _
  go_wp2
  go_ret
  refine ⟨v', rfl, by simpa using hown, ?_⟩
  exact ((Below.refl _ w).alloc (Nat.le_refl _) _).grown hgrow (by simp) (by intro k hk; simp [Value.ownBlock] at hk; omega)

theorem edgesV_one (W a : Int) (l : List Nat) : ∀ u ∈ edgesV W a l, u.oneCell' = true := by
  intro u hu
  unfold edgesV at hu
  obtain ⟨n, _, hn⟩ := List.mem_flatMap.1 hu
  unfold edgeV at hn
  simp at hn
  rcases hn with rfl | rfl | rfl | rfl <;> rfl
/-- the edges of a corner are few -/
theorem EdgeL.len {W H c : Int} {bl : Nat → Bool} {l : List Nat} (w1 : 1 ≤ W) (hwh : W * H ≤ 256) (h : EdgeL W H bl c l) : l.length ≤ 256 :=
  nodup_len 256 (h.1.imp (fun h e => by omega)) (fun n hn => by
    have h1 := ((h.2 n).1 hn).2
    rw [Bool.and_eq_true] at h1
    have h2 : 0 ≤ (n : Int) ∧ (n : Int) < W * H := of_decide_eq_true (cornC_in w1 (cornB_iff.1 h1.2))
    omega)

set_option maxHeartbeats 1000000 in
theorem edges_yes {rb pb mb : Nat} {W H V c : Int} {bl : Nat → Bool} (w : World) (G : GraphAt w rb pb mb W H V bl) (hc : cornB W H bl c = true) (hw : (Lit.int .i64 c).wf = true) :
    Calls Tryz.prog 47 #[.pointer (some ⟨rb, 0, none⟩), .int .i64 c] w fun e w' => ∃ v l, e = .returned (.tuple #[v, .nilIface]) ∧ w'.ownsRow w.heap.size 67 4 v l.length (edgesV W c l) ∧ EdgeL W H bl c l ∧ Below w.heap.size w w' := by
  obtain ⟨f, G, E⟩ := G
  have p1 := G.p1
  have hwh := wh_bd G.ga.w1 G.ga.w2 G.ga.h1 G.ga.h2
  obtain ⟨v, l, hf, hown, hL, _⟩ := (E c).yes hc
  have hl : (Instr.lookup 47 (.map (some mb)) (.int .i64 c) true).run Tryz.prog w = .ok (.tuple #[v, .bool true]) w := G.mp.look_some law3 Tryz.underM (zeroM w) hw hf true
  have hlen := hL.len G.ga.w1 hwh.2
  have HL : Hid (EdgeL W H bl c l) := hL
  clear G E hL hf
  rcases hown.2 with ⟨rfl, h0⟩ | ⟨g, cap, cur, rfl, _⟩
  · have hcl := clone_nil w
    go_enter Tryz.func47, Tryz.ntmps47
    go_wp2_with fail
    refine hcl.mono ?_
    rintro e w1 ⟨rfl, rfl⟩
    clear hcl
    go_wp2
    go_ret2
    refine ⟨_, l, rfl, ?_, HL.out, Below.refl _ _⟩
    have e0 : l = [] := List.length_eq_zero_iff.1 h0
    rw [e0]; exact World.ownsRow_nil _ _ _ _
  · have hcl := clone_row w hown (edgesV_one _ _ _) hlen
    clear hown
    go_enter Tryz.func47, Tryz.ntmps47
    go_wp2_with fail
    refine hcl.mono ?_
    rintro e w1 ⟨v', rfl, hown', hb1⟩
    clear hcl
    go_wp2
    go_ret2
    exact ⟨_, l, rfl, hown', HL.out, hb1⟩

end Go.Proofs.YtmnpplkjhnoglaaGreatDoor
