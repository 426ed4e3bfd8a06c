/-
  Texts laid together: GRead, LevM.
-/
import Derived.Test.YtmnpplkjhnoglaaGreatDoorP22
/-
  What a graph tells: its corners, the edges of one, its grid, what connects a cell.
-/
namespace Go.Proofs.YtmnpplkjhnoglaaGreatDoor
open Go.RowKit Go.Maps Go.Sort Go.Shelf

theorem Tryz.sortsA (m : Nat) : AnyZI.SortsIn Tryz.prog Tryz.sortedA_ren Fence.wide m :=
  ⟨fun blk off cap ss W hH hblk hsz => callsIn_wide.2 (AnyM.slices_Sort_int Tryz.sortA blk off cap ss W hH hblk hsz),
   fun p cap W => callsIn_wide.2 (AnyM.slices_Sort_int_none Tryz.sortA p cap W)⟩

set_option maxHeartbeats 1000000 in
theorem nodes' (rb b nn : Nat) (D0 : DataW Value) (R : Value → Option (DataW Value × List MemPlace)) (w : World) (p1 : w.cell? ⟨rb, 1, none⟩ = some (.map (some b))) (hown : w.ownsMap Tryz.prog 3 R b nn D0) (hmax : Maps.size D0 ≤ maxLen) (hbytes : Maps.size D0 * 8 ≤ 140737488355328) :
    Calls Tryz.prog 23 #[.pointer (some ⟨rb, 0, none⟩)] w fun e w' => ∃ (v : Value) (ss : List Int), e = .returned v ∧ ss.Perm (intKeys D0) ∧
      w'.ownsRow w.heap.size 3 1 v ss.length ((ss.mergeSort (fun x y => decide (x ≤ y))).map encZ) ∧ Below w.heap.size w w' := by
  refine (callsIn_wide (n := 6)).1 ?_
  have hbl := hown.lt
  have hseq : SeqGives Fence.wide 2 Tryz.prog 96 #[.pointer (some ⟨w.heap.size, 0, none⟩)] encZ (fun ss => ss.Perm (intKeys D0)) (Maps.size D0) (w.alloc (.cells #[.map (some b)] 47)) :=
    AnyZI.keys_gives (ρ := Tryz.keysA_ren) { Tryz.keysA with } Fence.wide _ trivial rfl (by omega) w.heap.size b nn D0 _ (by simp) (by simp) (by
      obtain ⟨es, clock, hb, Ft, hs, hD⟩ := hown
      exact ⟨es, clock, (Below.heap_alloc _ _ b hbl).trans hb, Ft, hs, hD⟩)
  have cK : ∀ mb W, CallsIn Fence.wide 5 Tryz.prog 61 #[.map mb] W fun e w' => e = .returned (.func (.func 96) #[] #[.pointer (some ⟨W.heap.size, 0, none⟩)]) ∧ w' = W.alloc (.cells #[.map mb] 47) := fun mb W => AnyZI.keys_in Tryz.keysA Fence.wide 5 trivial rfl mb W
  have cS := AnyZI.sorted_in Tryz.sortedA Fence.wide 5 trivial trivial trivial trivial rfl (by omega) (Tryz.sortsA _) (enters_of Tryz.func95 (by kernel_rfl) rfl) 96 #[.pointer (some ⟨w.heap.size, 0, none⟩)] trivial (enters_of Tryz.func96 (by kernel_rfl) rfl) _ _ hmax hbytes _ hseq
  change CallsIn _ _ Tryz.prog 60 _ _ _ at cS
  have hfK : Fence.wide.fn 61 := trivial
  have hfS : Fence.wide.fn 60 := trivial
  refine callsIn_of_wp Tryz.func23 rfl trivial ?_ rfl
  simp only [Tryz.ntmps23, List.size_toArray, List.length_cons, List.length_nil, Nat.reduceAdd, Nat.reduceSub, Array.replicate_succ, Array.replicate_zero, List.push_toArray, List.append_toArray, List.nil_append, List.cons_append]
  gi_wp2_with (first
    | (gi_at_call 61; refine (cK _ _).mono ?_; rintro e w' ⟨rfl, rfl⟩)
    | (gi_at_call 60; refine cS.mono ?_; rintro e w' ⟨v, ss, rfl, hS, hrow, hnil, hb⟩))
  go_ret
  exact ⟨v, ss, rfl, hS, ownsRow_base_a hrow (by simp), ((Below.refl _ w).alloc (Nat.le_refl _) _).trans (hb.mono (by simp))⟩

theorem crs_rise (W H : Int) (bl : Nat → Bool) (k : Nat) : (crs W H bl k).Pairwise (· < ·) := by
  unfold crs
  exact List.pairwise_lt_range.filter _

theorem nodes_any {rb pb mb : Nat} {W H V : Int} {bl : Nat → Bool} (w : World) (G : GraphAt w rb pb mb W H V bl) :
    Calls Tryz.prog 23 #[.pointer (some ⟨rb, 0, none⟩)] w fun e w' => ∃ v, e = .returned v ∧ w'.ownsRow w.heap.size 3 1 v (crs W H bl (W * H).toNat).length (vals (crs W H bl (W * H).toNat)) ∧ Below w.heap.size w w' := by
  obtain ⟨f, G, E⟩ := G
  have gw1 := G.ga.w1
  have hroom := cntS_le (keyB f) 256
  obtain ⟨D, hown, hsz, hD⟩ := G.mp
  have hc : CollectedI D (fun _ => false) (intsN (crs W H bl (W * H).toNat)) := by
    refine ⟨(rise_intsN (crs_rise _ _ _ _)).imp (fun h e => by omega), fun x => ?_⟩
    rw [mem_intsN, (hD x).1]
    constructor
    · rintro ⟨n, hn, rfl⟩
      obtain ⟨v, l, hf, _⟩ := (E n).yes (crs_mem.1 hn).2
      exact ⟨by rw [hf]; rfl, rfl⟩
    · rintro ⟨hs, _⟩
      cases hcx : cornB W H bl x with
      | false => rw [(E x).no hcx] at hs; cases hs
      | true =>
        have h2 : 0 ≤ x ∧ x < W * H := of_decide_eq_true (cornC_in gw1 (cornB_iff.1 hcx))
        refine ⟨x.toNat, crs_mem.2 ⟨by omega, ?_⟩, by omega⟩
        rw [Int.toNat_of_nonneg h2.1]; exact hcx
  have hp := hc.perm hown (int_keyed law3) law3 (fun _ => rfl)
  refine (nodes' rb mb _ D asIs w G.p1 hown (by rw [hsz]; unfold maxLen; omega) (by rw [hsz]; omega)).mono ?_
  rintro e w' ⟨v, ss, rfl, hS, hrow, hb⟩
  have hps := hS.trans hp.symm
  have e1 := mergeSort_of_perm_i hps
  obtain ⟨l, l1, l2, l3, l4⟩ := srt_ex (crs W H bl (W * H).toNat) ((crs_rise _ _ _ _).imp (fun h e => by omega))
  have e2 : l = crs W H bl (W * H).toNat := rise_eq l1 (crs_rise _ _ _ _) l2
  have e3 : ss.mergeSort (fun x y => decide (x ≤ y)) = intsN (crs W H bl (W * H).toNat) := by
    rw [e2] at l4
    exact e1.trans l4
  rw [e3, hps.length_eq] at hrow
  refine ⟨v, rfl, ?_, hb⟩
  rw [List.length_map, List.map_map] at hrow
  exact hrow

theorem eqlE (w : World) (a : Option Addr) (n c n' c' : Nat) : (binOp .eql 52 (.slice a n c) (.slice none n' c')).run Tryz.prog w = .ok (.bool a.isNone) w := Lib.run_eql_slice_nil w _ _ a n c n' c' Tryz.underE
theorem undE (w : World) : Sem.run Tryz.prog (underlying 52) w = .ok (TypeDesc.slice 67) w := run_underlying Tryz.underE w
set_option maxHeartbeats 1000000 in
set_option maxRecDepth 1000000 in
theorem clone_nil (w : World) : Calls Tryz.prog 55 #[.slice none 0 0] w fun e w' => e = .returned (.slice none 0 0) ∧ w' = w := by
  have q := eqlE
  go_enter Tryz.func55, Tryz.ntmps55
  go_wp2
  go_ret
  exact ⟨rfl, rfl⟩
set_option maxHeartbeats 1000000 in
set_option maxRecDepth 1000000 in
theorem clone_row {g n cap : Nat} {xs : List Value} (w : World) (h : w.ownsRow 0 67 4 (.slice (some ⟨g, 0, none⟩) n cap) n xs) (h1 : ∀ u ∈ xs, u.oneCell' = true) (hn : n ≤ 256) :
    Calls Tryz.prog 55 #[.slice (some ⟨g, 0, none⟩) n cap] w fun e w' => ∃ v, e = .returned v ∧ w'.ownsRow w.heap.size 67 4 v n xs ∧ Below w.heap.size w w' := by
  obtain ⟨i0, hi, hz0, hz1, hz2⟩ := info_parts Tryz.infoE
  have hx : xs.length = n * 4 := h.1
  have hc : Hid (∀ j u, xs[j]? = some u → w.cell? ⟨g, j, none⟩ = some u) := fun j u hj => by
    have hj' : j < xs.length := (List.getElem?_eq_some_iff.1 hj).1
    rw [h.cellAt j (by omega)]; exact hj
  have q := eqlE
  have u := undE
  clear h
  go_enter Tryz.func55, Tryz.ntmps55
  go_wp2_with (at_builtin; refine wpList_append_own _ rfl _ _ 52 rfl w.heap.size 67 i0 (.agg #[.int .i64 0, .int .i64 0, .int .i64 0, .int .i64 0]) 4 32 Tryz.underE hi hz0 hz1 hz2 rfl (by decide) _ _ _ rfl (World.ownsRow_made w #[] 0 (Nat.le_refl _) (Nat.zero_le _) (by simp)) ⟨g, 0, none⟩ n cap xs rfl ?qc1 ?qc2 ?qc3 ?qc4 ?qc5 ?qc6 ?_)
  case qc1 => exact hx
  case qc2 =>
    intro j u hj
    rw [Addr.add_lit, Nat.zero_add]
    exact Lib.cell?_alloc_some _ (hc.out j u hj)
  case qc3 => exact h1
  case qc4 => unfold maxLen; omega
  case qc5 => omega
  case qc6 => simp
  intro v' w1 hown hgrow _
  go_wp2
  go_ret
  refine ⟨v', rfl, by simpa using hown, ?_⟩
  exact ((Below.refl _ w).alloc (Nat.le_refl _) _).grown hgrow (by simp) (by intro k hk; simp [Value.ownBlock] at hk; omega)

theorem edgesV_one (W a : Int) (l : List Nat) : ∀ u ∈ edgesV W a l, u.oneCell' = true := by
  intro u hu
  unfold edgesV at hu
  obtain ⟨n, _, hn⟩ := List.mem_flatMap.1 hu
  unfold edgeV at hn
  simp at hn
  rcases hn with rfl | rfl | rfl | rfl <;> rfl
/-- the edges of a corner are few -/
theorem EdgeL.len {W H c : Int} {bl : Nat → Bool} {l : List Nat} (w1 : 1 ≤ W) (hwh : W * H ≤ 256) (h : EdgeL W H bl c l) : l.length ≤ 256 :=
  nodup_len 256 (h.1.imp (fun h e => by omega)) (fun n hn => by
    have h1 := ((h.2 n).1 hn).2
    rw [Bool.and_eq_true] at h1
    have h2 : 0 ≤ (n : Int) ∧ (n : Int) < W * H := of_decide_eq_true (cornC_in w1 (cornB_iff.1 h1.2))
    omega)

set_option maxHeartbeats 1000000 in
theorem edges_no {rb pb mb : Nat} {W H V c : Int} {bl : Nat → Bool} (w : World) (G : GraphAt w rb pb mb W H V bl) (hc : cornB W H bl c = false) (hw : (Lit.int .i64 c).wf = true) :
    Calls Tryz.prog 47 #[.pointer (some ⟨rb, 0, none⟩), .int .i64 c] w fun e w' => e = .returned (.tuple #[.slice none 0 0, .iface 96 (.int .i64 5)]) ∧ Below w.heap.size w w' := by
  obtain ⟨f, G, E⟩ := G
  have p1 := G.p1
  have hl : (Instr.lookup 47 (.map (some mb)) (.int .i64 c) true).run Tryz.prog w = .ok (.tuple #[.slice none 0 0, .bool false]) w := G.mp.look_none law3 Tryz.underM (zeroM w) hw ((E c).no hc) true
  clear G E
  go_enter Tryz.func47, Tryz.ntmps47
  go_wp2
  go_ret2
  exact ⟨rfl, Below.refl _ _⟩

set_option maxHeartbeats 1000000 in
theorem edges_yes {rb pb mb : Nat} {W H V c : Int} {bl : Nat → Bool} (w : World) (G : GraphAt w rb pb mb W H V bl) (hc : cornB W H bl c = true) (hw : (Lit.int .i64 c).wf = true) :
    Calls Tryz.prog 47 #[.pointer (some ⟨rb, 0, none⟩), .int .i64 c] w fun e w' => ∃ v l, e = .returned (.tuple #[v, .nilIface]) ∧ w'.ownsRow w.heap.size 67 4 v l.length (edgesV W c l) ∧ EdgeL W H bl c l ∧ Below w.heap.size w w' := by
  obtain ⟨f, G, E⟩ := G
  have p1 := G.p1
  have hwh := wh_bd G.ga.w1 G.ga.w2 G.ga.h1 G.ga.h2
  obtain ⟨v, l, hf, hown, hL, _⟩ := (E c).yes hc
  have hl : (Instr.lookup 47 (.map (some mb)) (.int .i64 c) true).run Tryz.prog w = .ok (.tuple #[v, .bool true]) w := G.mp.look_some law3 Tryz.underM (zeroM w) hw hf true
  have hlen := hL.len G.ga.w1 hwh.2
  have HL : Hid (EdgeL W H bl c l) := hL
  clear G E hL hf
  rcases hown.2 with ⟨rfl, h0⟩ | ⟨g, cap, cur, rfl, _⟩
  · have hcl := clone_nil w
    go_enter Tryz.func47, Tryz.ntmps47
    go_wp2_with fail
    refine hcl.mono ?_
    rintro e w1 ⟨rfl, rfl⟩
    clear hcl
    go_wp2
    go_ret2
    refine ⟨_, l, rfl, ?_, HL.out, Below.refl _ _⟩
    have e0 : l = [] := List.length_eq_zero_iff.1 h0
    rw [e0]; exact World.ownsRow_nil _ _ _ _
  · have hcl := clone_row w hown (edgesV_one _ _ _) hlen
    clear hown
    go_enter Tryz.func47, Tryz.ntmps47
    go_wp2_with fail
    refine hcl.mono ?_
    rintro e w1 ⟨v', rfl, hown', hb1⟩
    clear hcl
    go_wp2
    go_ret2
    exact ⟨_, l, rfl, hown', HL.out, hb1⟩

end Go.Proofs.YtmnpplkjhnoglaaGreatDoor
/-
  Ways over edges that bear costs of their own: what a labelling that cannot be bettered says of them. (For levels.)
-/
namespace Go.Proofs.YtmnpplkjhnoglaaGreatDoor

/-- from o to a over edges, at a cost -/
def Wg (Ed : Int → Int → Int → Int → Prop) (o a s d : Int) : Prop := ∀ R : Int → Int → Int → Prop, R o 0 0 → (∀ a s d b t u, R a s d → Ed a b t u → R b (s + t) (d + u)) → R a s d
section
variable {Ed : Int → Int → Int → Int → Prop} {o a b s d t u : Int}
theorem Wg.nil : Wg Ed o o 0 0 := fun _ h _ => h
theorem Wg.step (h : Wg Ed o a s d) (e : Ed a b t u) : Wg Ed o b (s + t) (d + u) := fun R h0 hs => hs _ _ _ _ _ _ (h R h0 hs) e
theorem Wg.one (e : Ed o b t u) : Wg Ed o b t u := by
  have h := Wg.nil.step e
  rwa [Int.zero_add, Int.zero_add] at h
theorem Wg.trans {c s' d' : Int} (h : Wg Ed o a s d) (k : Wg Ed a c s' d') : Wg Ed o c (s + s') (d + d') :=
  k (fun x p q => Wg Ed o x (s + p) (d + q)) (by rw [Int.add_zero, Int.add_zero]; exact h) (fun x p q y p' q' hx e => by
    have := hx.step e
    rwa [Int.add_assoc, Int.add_assoc] at this)
theorem Wg.inv (h : Wg Ed o a s d) : (a = o ∧ s = 0 ∧ d = 0) ∨ ∃ x p q t u, Wg Ed o x p q ∧ Ed x a t u ∧ s = p + t ∧ d = q + u := by
  have h' : Wg Ed o a s d ∧ ((a = o ∧ s = 0 ∧ d = 0) ∨ ∃ x p q t u, Wg Ed o x p q ∧ Ed x a t u ∧ s = p + t ∧ d = q + u) :=
    h (fun a s d => Wg Ed o a s d ∧ ((a = o ∧ s = 0 ∧ d = 0) ∨ ∃ x p q t u, Wg Ed o x p q ∧ Ed x a t u ∧ s = p + t ∧ d = q + u)) ⟨Wg.nil, Or.inl ⟨rfl, rfl, rfl⟩⟩
      (fun a s d b t u hx e => ⟨hx.1.step e, Or.inr ⟨a, s, d, t, u, hx.1, e, rfl, rfl⟩⟩)
  exact h'.2
theorem Wg.mono {Ed' : Int → Int → Int → Int → Prop} (h : Wg Ed o a s d) (hi : ∀ a b t u, Ed a b t u → Ed' a b t u) : Wg Ed' o a s d :=
  h (fun x p q => Wg Ed' o x p q) Wg.nil (fun _ _ _ _ _ _ hx e => hx.step (hi _ _ _ _ e))
/-- a way back, where each edge leads back -/
theorem Wg.back (hb : ∀ a b t u, Ed a b t u → Ed b a t u) (h : Wg Ed o a s d) : Wg Ed a o s d :=
  h (fun x p q => Wg Ed x o p q) Wg.nil (fun x p q y t u hx e => by
    have := (Wg.one (hb _ _ _ _ e)).trans hx
    rwa [Int.add_comm t, Int.add_comm u] at this)

/-- labels that no edge betters -/
structure Still (Ed : Int → Int → Int → Int → Prop) (o : Int) (B : Int → Option (Int × Int)) : Prop where
  home : ∃ s d, B o = some (s, d) ∧ val s d ≤ 0
  sound : ∀ {a s d}, B a = some (s, d) → Wg Ed o a s d
  still : ∀ {a b s d t u}, B a = some (s, d) → Ed a b t u → ∃ s' d', B b = some (s', d') ∧ val s' d' ≤ val (s + t) (d + u)
theorem Still.least {B : Int → Option (Int × Int)} (h : Still Ed o B) (hw : Wg Ed o a s d) : ∃ s' d', B a = some (s', d') ∧ val s' d' ≤ val s d :=
  hw (fun a s d => ∃ s' d', B a = some (s', d') ∧ val s' d' ≤ val s d) (by
      obtain ⟨s, d, h1, h2⟩ := h.home
      exact ⟨s, d, h1, by unfold val at *; omega⟩) (fun a s d b t u ⟨s', d', h1, h2⟩ e => by
      obtain ⟨s2, d2, h3, h4⟩ := h.still h1 e
      exact ⟨s2, d2, h3, by unfold val at *; omega⟩)
/-- is there a way that costs no more? -/
theorem Still.within {B : Int → Option (Int × Int)} (h : Still Ed o B) (x y : Int) : (∃ s d, Wg Ed o a s d ∧ val s d ≤ val x y) ↔ ∃ s d, B a = some (s, d) ∧ val s d ≤ val x y := by
  constructor
  · rintro ⟨s, d, h1, h2⟩
    obtain ⟨s', d', h3, h4⟩ := h.least h1
    exact ⟨s', d', h3, Int.le_trans h4 h2⟩
  · rintro ⟨s, d, h1, h2⟩
    exact ⟨s, d, h.sound h1, h2⟩
end
end Go.Proofs.YtmnpplkjhnoglaaGreatDoor
