/-
  Texts laid together: LvIns, LvIns2.
-/
import Derived.Test.YtmnpplkjhnoglaaGreatDoorP37
import Derived.Shelf.Spec.SlicesInsertGrow
/-
  An edge put among edges: slices.Insert at a list of edges.
-/
namespace Go.Proofs.YtmnpplkjhnoglaaGreatDoor
open Go.RowKit Go.Lib

theorem lesV_take (l : List LE) (i : Nat) : lesV (l.take i) = (lesV l).take (i * 4) := by
  induction l generalizing i with
  | nil => simp [lesV]
  | cons x l ih =>
    cases i with
    | zero => simp [lesV]
    | succ i =>
      rw [List.take_succ_cons, lesV_cons, lesV_cons, ih, List.take_append]
      have h : (leV x).length = 4 := rfl
      rw [List.take_of_length_le (l := leV x) (by rw [h]; omega), h, show (i + 1) * 4 - 4 = i * 4 by omega]
theorem lesV_drop (l : List LE) (i : Nat) : lesV (l.drop i) = (lesV l).drop (i * 4) := by
  induction l generalizing i with
  | nil => simp [lesV]
  | cons x l ih =>
    cases i with
    | zero => simp
    | succ i =>
      rw [List.drop_succ_cons, ih, lesV_cons, List.drop_append]
      have h : (leV x).length = 4 := rfl
      rw [List.drop_of_length_le (l := leV x) (by rw [h]; omega), h, List.nil_append, show (i + 1) * 4 - 4 = i * 4 by omega]
theorem lesV_ins (l : List LE) (i : Nat) (e : LE) : lesV (l.take i ++ e :: l.drop i) = (lesV l).take (i * 4) ++ leV e ++ (lesV l).drop (i * 4) := by
  rw [lesV_app, lesV_cons, lesV_take, lesV_drop, List.append_assoc]

/-- 'copy' of elements of k cells -/
theorem run_copy_row_k {P : Program} (w : World) (dT sT ty elem : TypeId) (g o dLen dCap k m : Nat) (a : Addr) (sLen sCap : Nat) (cur : Array Value) (t : TypeId) (cs : List Value)
    (hu : P.underlying dT = some (.slice elem)) (hs : (P.info? elem).map (·.size) = some k)
    (hg : w.heap[g]? = some (.cells cur t (0, 0))) (hm : Nat.min sLen dLen = m) (hn : cs.length = m * k)
    (hsrc : ∀ j v, cs[j]? = some v → w.cell? (a.add j) = some v) (hfit : o + cs.length ≤ cur.size) (h1 : ∀ v ∈ cs, v.oneCell' = true) :
    (Builtin.copy_ #[dT, sT] ty #[.slice (some ⟨g, o, none⟩) dLen dCap, .slice (some a) sLen sCap]).run P w =
      .ok (goInt m) (w.setRow g (cur.toList.take o ++ cs ++ cur.toList.drop (o + cs.length)).toArray) := by
  have hl := run_loadCells_list (P := P) w a cs hsrc
  have hst := run_storeCells_at P g o t cs 0 cur w hg (by simpa using hfit) h1
  cases hq : P.info? elem with
  | none => simp [hq] at hs
  | some i =>
    have hi : i.size = k := by simpa [hq] using hs
    simp [Builtin.copy_, run_underlying hu, Builtin.lenOf, Builtin.firstCells, sizeOf, typeInfo, hq, hi, hm, ← hn, hl, hst]

/-- the row in place: shifted, then laid -/
theorem shift_row {cur xs ev : List Value} {n i : Nat} (hx : cur.take (n * 4) = xs) (hl : xs.length = n * 4) (he : ev.length = 4) (hi : i < n) (hc : (n + 1) * 4 ≤ cur.length) :
    let c1 := cur.take (i * 4 + 4) ++ xs.drop (i * 4) ++ cur.drop (i * 4 + 4 + (xs.drop (i * 4)).length)
    c1.length = cur.length ∧ (c1.take (i * 4) ++ ev ++ c1.drop (i * 4 + ev.length)).length = cur.length ∧ (c1.take (i * 4) ++ ev ++ c1.drop (i * 4 + ev.length)).take ((n + 1) * 4) = xs.take (i * 4) ++ ev ++ xs.drop (i * 4) := by
  intro c1
  have hd : (xs.drop (i * 4)).length = n * 4 - i * 4 := by rw [List.length_drop, hl]
  have ht : (cur.take (i * 4 + 4)).length = i * 4 + 4 := by rw [List.length_take]; omega
  have h1 : c1.length = cur.length := by
    show (cur.take (i * 4 + 4) ++ xs.drop (i * 4) ++ cur.drop (i * 4 + 4 + (xs.drop (i * 4)).length)).length = _
    simp only [List.length_append, List.length_take, List.length_drop, hl]
    omega
  have h2 : c1.take (i * 4) = xs.take (i * 4) := by
    show (cur.take (i * 4 + 4) ++ xs.drop (i * 4) ++ cur.drop (i * 4 + 4 + (xs.drop (i * 4)).length)).take (i * 4) = _
    rw [List.append_assoc, List.take_append_of_le_length (by rw [ht]; omega), List.take_take, ← hx, List.take_take]
    congr 1; omega
  have h3 : c1.drop (i * 4 + 4) = xs.drop (i * 4) ++ cur.drop (i * 4 + 4 + (xs.drop (i * 4)).length) := by
    show (cur.take (i * 4 + 4) ++ xs.drop (i * 4) ++ cur.drop (i * 4 + 4 + (xs.drop (i * 4)).length)).drop (i * 4 + 4) = _
    rw [List.append_assoc, List.drop_append_of_le_length (by rw [ht]; omega), List.drop_of_length_le (by rw [ht]; omega), List.nil_append]
  refine ⟨h1, ?_, ?_⟩
  · rw [List.length_append, List.length_append, List.length_take, List.length_drop, h1, he]
    omega
  · rw [he, h2, h3, ← List.append_assoc, List.take_append_of_le_length (by
      rw [List.length_append, List.length_append, List.length_take, hd, he, hl]; omega), List.take_of_length_le (by
      rw [List.length_append, List.length_append, List.length_take, hd, he, hl]; omega)]
/-- a new row: laid, then the rest -/
theorem grow_row {row xs ev : List Value} {n i : Nat} (hx : row.take (i * 4) = xs.take (i * 4)) (hl : xs.length = n * 4) (he : ev.length = 4) (hi : i < n) (hc : (n + 1) * 4 ≤ row.length) :
    let c1 := row.take (i * 4) ++ ev ++ row.drop (i * 4 + ev.length)
    c1.length = row.length ∧ (c1.take (i * 4 + 4) ++ xs.drop (i * 4) ++ c1.drop (i * 4 + 4 + (xs.drop (i * 4)).length)).length = row.length ∧ (c1.take (i * 4 + 4) ++ xs.drop (i * 4) ++ c1.drop (i * 4 + 4 + (xs.drop (i * 4)).length)).take ((n + 1) * 4) = xs.take (i * 4) ++ ev ++ xs.drop (i * 4) := by
  intro c1
  have hd : (xs.drop (i * 4)).length = n * 4 - i * 4 := by rw [List.length_drop, hl]
  have ht : (row.take (i * 4)).length = i * 4 := by rw [List.length_take]; omega
  have h1 : c1.length = row.length := by
    show (row.take (i * 4) ++ ev ++ row.drop (i * 4 + ev.length)).length = _
    rw [List.length_append, List.length_append, List.length_drop, ht, he]
    omega
  have h2 : c1.take (i * 4 + 4) = xs.take (i * 4) ++ ev := by
    show (row.take (i * 4) ++ ev ++ row.drop (i * 4 + ev.length)).take (i * 4 + 4) = _
    rw [List.take_append_of_le_length (by rw [List.length_append, ht, he]; omega), List.take_of_length_le (by rw [List.length_append, ht, he]; omega), hx]
  refine ⟨h1, ?_, ?_⟩
  · simp only [List.length_append, List.length_take, List.length_drop, h1, hl]
    omega
  · rw [h2, List.take_append_of_le_length (by
      rw [List.length_append, List.length_append, List.length_take, hd, he, hl]; omega), List.take_of_length_le (by
      rw [List.length_append, List.length_append, List.length_take, hd, he, hl]; omega)]
end Go.Proofs.YtmnpplkjhnoglaaGreatDoor
/-
  An edge put among edges: slices.Insert at a list of edges, by its roads.
-/
namespace Go.Proofs.YtmnpplkjhnoglaaGreatDoor
open Go.RowKit Go.Lib

theorem run_sizeE (w : World) : (Go.sizeOf 67).run Tryz.prog w = .ok 4 w := by kernel_rfl
theorem sizE : (Tryz.prog.info? 67).map (·.size) = some 4 := by kernel_rfl
theorem ex_cells {w : World} {xb : Nat} {vs : List Value} (h : w.heap[xb]? = some (.cells vs.toArray 67 (0, 0))) : ∀ j u, vs[j]? = some u → w.cell? ((⟨xb, 0, none⟩ : Addr).add j) = some u := by
  intro j u hj
  rw [Addr.add_lit, Nat.zero_add, cell_of_row w xb j _ 67 (0, 0) h]
  simpa using hj

set_option maxHeartbeats 4000000 in
set_option maxRecDepth 100000 in
/-- at the end -/
theorem insert_end {N xb : Nat} {v : Value} {l : List LE} {e : LE} (w : World) (hown : w.ownsRow N 67 4 v l.length (lesV l)) (hl : l.length ≤ 256) (hN : N ≤ w.heap.size) (hxb : w.heap[xb]? = some (.cells (leV e).toArray 67 (0, 0))) :
    Calls Tryz.prog 142 #[v, .int .i64 (l.length : Int), .slice (some ⟨xb, 0, none⟩) 1 1] w fun r w' => ∃ v', r = .returned v' ∧ w'.ownsRow N 67 4 v' (l.length + 1) (lesV l ++ leV e) ∧ w.grownBy w' v.ownBlock ∧ (v'.ownBlock = v.ownBlock ∨ v'.ownBlock = some w.heap.size) := by
  obtain ⟨i0, hi, hz0, hz1, hz2⟩ := info_parts Tryz.infoE
  have hcells := ex_cells hxb
  have hone : ∀ u ∈ leV e, u.oneCell' = true := fun u hu => lesV_cells [e] u (by rw [lesV_one]; exact hu)
  obtain ⟨A, cap, rfl, hcap, hnil⟩ : ∃ A cap, v = .slice A l.length cap ∧ (l.length ≤ cap) ∧ cap ≤ 9223372036854775807 := by
    rcases hown.2 with ⟨rfl, h0⟩ | ⟨g, cap, cur, rfl, _, _, h1, h2, _⟩
    · exact ⟨none, 0, by rw [h0], by omega, by omega⟩
    · exact ⟨_, cap, rfl, h1, by unfold maxLen at h2; omega⟩
  have hlen : (leV e).length = 1 * 4 := rfl
  clear hxb
  generalize leV e = ev at *
  generalize lesV l = xs at *
  rcases Decidable.em (cap = l.length) with hc | hc
  all_goals
    try subst hc
    go_enter Tryz.func142, Tryz.ntmps142
    go_wp2_with (at_builtin; refine wpList_append_own_at _ rfl _ _ 52 rfl N 67 i0 (.agg #[.int .i64 0, .int .i64 0, .int .i64 0, .int .i64 0]) 4 32 Tryz.underE hi hz0 hz1 hz2 rfl (by decide) _ _ _ rfl hown ⟨xb, 0, none⟩ 1 1 ev rfl hlen hcells hone ?c3 ?c4 ?c5 ?_)
    case c3 => unfold maxLen; omega
    case c4 => omega
    case c5 => exact hN
    intro v' w1 hown' hgrow _ hat
    go_wp2
    go_ret
    exact ⟨v', rfl, hown', hgrow, hat⟩

set_option maxHeartbeats 4000000 in
set_option maxRecDepth 100000 in
/-- in the row, with room -/
theorem insert_shift {N xb g cap i : Nat} {l : List LE} {e : LE} (w : World) (hown : w.ownsRow N 67 4 (.slice (some ⟨g, 0, none⟩) l.length cap) l.length (lesV l)) (hl : l.length ≤ 256) (hi : i < l.length) (hroom : l.length + 1 ≤ cap) (hxg : xb ≠ g) (hxb : w.heap[xb]? = some (.cells (leV e).toArray 67 (0, 0))) :
    Calls Tryz.prog 142 #[.slice (some ⟨g, 0, none⟩) l.length cap, .int .i64 (i : Int), .slice (some ⟨xb, 0, none⟩) 1 1] w fun r w' => r = .returned (.slice (some ⟨g, 0, none⟩) (l.length + 1) cap) ∧ w'.ownsRow N 67 4 (.slice (some ⟨g, 0, none⟩) (l.length + 1) cap) (l.length + 1) ((lesV l).take (i * 4) ++ leV e ++ (lesV l).drop (i * 4)) ∧ w.grownBy w' (some g) := by
  obtain ⟨g', cap', cur, hv, hNg, hg, hnc, hcm, hcs, htake⟩ : ∃ g' cap' cur, (Value.slice (some ⟨g, 0, none⟩) l.length cap) = .slice (some ⟨g', 0, none⟩) l.length cap' ∧ N ≤ g' ∧ w.heap[g']? = some (.cells cur 67 (0, 0)) ∧ l.length ≤ cap' ∧ cap' ≤ maxLen ∧ cur.size = cap' * 4 ∧ cur.toList.take (l.length * 4) = lesV l := by
    rcases hown.2 with ⟨h, _⟩ | h
    · cases h
    · exact h
  cases hv
  have hx1 := hown.1
  have hcells := ex_cells hxb
  have hone : ∀ u ∈ leV e, u.oneCell' = true := fun u hu => lesV_cells [e] u (by rw [lesV_one]; exact hu)
  have honX : ∀ u ∈ (lesV l).drop (i * 4), u.oneCell' = true := fun u hu => lesV_cells l u (List.mem_of_mem_drop hu)
  have hlen : (leV e).length = 4 := rfl
  have hsrc : ∀ j u, (lesV l)[j]? = some u → w.cell? ⟨g, j, none⟩ = some u := fun j u hj => by
    have := hown.cells (g := g) rfl j u hj
    rwa [Addr.add_lit, Nat.zero_add] at this
  have hc63 : cap ≤ 9223372036854775807 := by unfold maxLen at hcm; omega
  have hov : ∀ lb cb, (callFunc 162 #[.slice (some ⟨xb, 0, none⟩) 1 1, .slice (some ⟨g, (i + 1) * 4, none⟩) lb cb]).run Tryz.prog w = .ok (.value (.bool false)) w := fun lb cb => by
    rw [run_callFunc_extern Tryz.func162 (by kernel_rfl) (by kernel_rfl) (by kernel_rfl) (e := Extern.SlicesOverlaps.overlaps #[52, 52] #[4]) (by kernel_rfl),
      Lib.run_overlaps_apart w 52 4 67 Tryz.underE 4 run_sizeE ⟨xb, 0, none⟩ ⟨g, (i + 1) * 4, none⟩ 1 1 lb cb hxg 67 67 4 cur.size (by simp [World.shape?, hxb, hlen]) (by simp [World.shape?, hg]) (by omega) (by simp [World.frozen?, hxb]) (by simp [World.frozen?, hxb])]
    rfl
  have hcl : cur.toList.length = cap * 4 := by rw [Array.length_toList (xs := cur), hcs]
  obtain ⟨hA, hB, hC⟩ := shift_row (n := l.length) (i := i) htake hx1 hlen hi (by rw [hcl]; omega)
  clear hxb
  generalize hXS : lesV l = xs at *
  generalize leV e = ev at *
  obtain ⟨c1, hc1⟩ : ∃ c1, c1 = cur.toList.take (i * 4 + 4) ++ xs.drop (i * 4) ++ cur.toList.drop (i * 4 + 4 + (xs.drop (i * 4)).length) := ⟨_, rfl⟩
  rw [← hc1] at hA hB hC
  have hdl : (xs.drop (i * 4)).length = (l.length - i) * 4 := by rw [List.length_drop, hx1]; omega
  have hcp1 : ∀ (ty : TypeId) (dc sc : Nat) (W : World), W.heap[g]? = some (.cells cur 67 (0, 0)) → (∀ x, W.cell? x = w.cell? x) → (Builtin.copy_ #[52, 52] ty #[.slice (some ⟨g, (i + 1) * 4, none⟩) (l.length - i) dc, .slice (some ⟨g, i * 4, none⟩) (l.length + 1 - i) sc]).run Tryz.prog W = .ok (goInt ((l.length - i : Nat) : Int)) (W.setRow g c1.toArray) := fun ty dc sc W hW hWc => by
    rw [run_copy_row_k W 52 52 ty 67 g ((i + 1) * 4) _ dc 4 (l.length - i) ⟨g, i * 4, none⟩ _ sc cur 67 (xs.drop (i * 4)) Tryz.underE sizE hW (by simp only [Nat.min_def]; split <;> omega) hdl (fun j u hj => by
      rw [Addr.add_lit, hWc]
      rw [List.getElem?_drop] at hj
      exact hsrc _ u hj) (by rw [hdl, hcs]; omega) honX, hc1, show (i + 1) * 4 = i * 4 + 4 by omega]
  have hcp2 : ∀ (ty : TypeId) (dc : Nat) (W : World), W.heap[g]? = some (.cells c1.toArray 67 (0, 0)) → (∀ j u, ev[j]? = some u → W.cell? ((⟨xb, 0, none⟩ : Addr).add j) = some u) → (Builtin.copy_ #[52, 52] ty #[.slice (some ⟨g, i * 4, none⟩) (l.length + 1 - i) dc, .slice (some ⟨xb, 0, none⟩) 1 1]).run Tryz.prog W = .ok (goInt 1) (W.setRow g (c1.take (i * 4) ++ ev ++ c1.drop (i * 4 + ev.length)).toArray) := fun ty dc W hW hWc => by
    rw [run_copy_row_k W 52 52 ty 67 g (i * 4) _ dc 4 1 ⟨xb, 0, none⟩ _ 1 c1.toArray 67 ev Tryz.underE sizE hW (by simp only [Nat.min_def]; split <;> omega) (by rw [hlen]) hWc (by rw [List.size_toArray, hA, hcl, hlen]; omega) hone]
    rfl

  have hcW1 : (w.drew.setRow g c1.toArray).heap[g]? = some (.cells c1.toArray 67 (0, 0)) := setRow_heap w.drew g cur _ 67 _ hg
  have hcW2 : ∀ j u, ev[j]? = some u → (w.drew.setRow g c1.toArray).cell? ((⟨xb, 0, none⟩ : Addr).add j) = some u := fun j u hj => by
    rw [World.cell?_of_block (w := w.drew) (setRow_other w.drew g _ _ (fun h => hxg (by rw [Addr.add_lit] at h; exact h)))]
    exact hcells j u hj
  have H1 : ∀ (ty : TypeId) (dc sc : Nat), (Builtin.copy_ #[52, 52] ty #[.slice (some ⟨g, (i + 1) * 4, none⟩) (l.length - i) dc, .slice (some ⟨g, i * 4, none⟩) (l.length + 1 - i) sc]).run Tryz.prog w.drew = .ok (goInt ((l.length - i : Nat) : Int)) (w.drew.setRow g c1.toArray) := fun ty dc sc => hcp1 ty dc sc w.drew hg (fun _ => rfl)
  have H2 : ∀ (ty : TypeId) (dc : Nat), (Builtin.copy_ #[52, 52] ty #[.slice (some ⟨g, i * 4, none⟩) (l.length + 1 - i) dc, .slice (some ⟨xb, 0, none⟩) 1 1]).run Tryz.prog (w.drew.setRow g c1.toArray) = .ok (goInt 1) ((w.drew.setRow g c1.toArray).setRow g (c1.take (i * 4) ++ ev ++ c1.drop (i * 4 + ev.length)).toArray) := fun ty dc => hcp2 ty dc _ hcW1 hcW2
  have hw1 : IntKind.i64.wrap ((i : Int) + 1) = (i : Int) + 1 := by rw [IntKind.wrap_i64]; omega
  have hb2 : ¬ (cap = i + 1) := by omega
  have hb4 : ¬ (cap = i) := by omega
  have hz2 : ¬ ((i : Int) = (l.length : Int)) := by omega
  have mixed : Tryz.prog.follows .mixedOrders = true := by kernel_rfl
  have hb1 : (0 : Int) ≤ (i : Int) + 1 := by omega
  have hin : i ≤ l.length := by omega
  have htn : ((i : Int) + 1).toNat = i + 1 := by omega
  have hb3 : (i : Int) ≤ (l.length : Int) + 1 := by omega
  have hb5 : (i : Int) ≤ (l.length : Int) := by omega
  have Hx1 : Hid _ := hx1
  have Hlen : Hid _ := hlen
  have Hcl : Hid _ := hcl
  have HB : Hid _ := hB
  have HC : Hid _ := hC
  clear hcp1 hcp2 hc1 hdl hx1 hlen hcl hA hB hC hcs htake hXS
  go_enter Tryz.func142, Tryz.ntmps142
  go_wp2_with (simp only [hov])
  go_region_law_o (refine step_copy_runI rfl _ _ 52 52 rfl _ _ (by simp [Act.eval, Act.put]) (by simp [Act.eval, Act.put]) (H1 _ _ _) ?_)
  go_wp2_with (at_builtin; refine wpList_copy_runI _ rfl _ _ 52 52 rfl _ _ rfl rfl (H2 _ _) ?_)
  go_ret
  refine ⟨rfl, ⟨?_, Or.inr ⟨g, cap, _, rfl, hNg, setRow_heap _ g _ _ 67 _ hcW1, hroom, hcm, ?_, ?_⟩⟩, ?_⟩
  · rw [List.length_append, List.length_append, List.length_take, List.length_drop, Hlen.out, Hx1.out]; omega
  · rw [List.size_toArray, ← List.append_assoc, HB.out, Hcl.out]
  · have h := HC.out
    rw [List.append_assoc (c1.take (i * 4))] at h
    exact h
  · exact ⟨rfl, rfl, rfl, by simp, fun k hk hne => by
      rw [setRow_other _ g k _ (fun h => hne (by rw [h])), setRow_other _ g k _ (fun h => hne (by rw [h]))]; rfl⟩
end Go.Proofs.YtmnpplkjhnoglaaGreatDoor
