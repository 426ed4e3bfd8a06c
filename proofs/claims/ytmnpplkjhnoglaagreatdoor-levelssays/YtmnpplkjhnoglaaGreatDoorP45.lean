/-
  Texts laid together: Touch, SameE, REdges.
-/
import Derived.Test.YtmnpplkjhnoglaaGreatDoorP44
import Derived.Great.BuildSlice
import Derived.Deep.RegionHeld3
import Derived.Deep.AppendLies
/-
  The corners whose edges may hang on a cell: package graph's 'addTouched'.
-/
namespace Go.Proofs.YtmnpplkjhnoglaaGreatDoor
open Go.RowKit

section
variable {W H x y ny nx z : Int} {bl : Nat → Bool}
end

end Go.Proofs.YtmnpplkjhnoglaaGreatDoor
/-
  Two lists of edges that lie alike: the reference's 'SameEdges'.
-/
namespace Go.Proofs.YtmnpplkjhnoglaaGreatDoor
open Go.RowKit

end Go.Proofs.YtmnpplkjhnoglaaGreatDoor
/-
  The reference's edges: each ray held against another.
-/
namespace Go.Proofs.YtmnpplkjhnoglaaGreatDoor
open Go.RowKit

theorem range_new (w : World) (l : List Value) (t : TypeId) : (w.alloc (.cells l.toArray t)).rangeAt w.heap.size 0 l := fun j v hj => by
  rw [Nat.zero_add, World.cell?_alloc_new, List.getElem?_toArray]
  exact hj
theorem range_below {w w' : World} {b o : Nat} {l : List Value} (h : w.rangeAt b o l) (hb : Below w.heap.size w w') : w'.rangeAt b o l := fun j v hj => by
  have := h j v hj
  exact (hb.cell (World.block_lt_of_cell? w _ this)).trans this
theorem ray_new (a : Nat) (F : Int → Option (Int × Int)) (w : World) : RayAt (w.alloc (.cells (rayL a F).toArray 103)) w.heap.size a F := rayAt_range (range_new w _ 103)

/-- by two rays: directly near -/
theorem direct_d {M cap : Nat} {A : Option Addr} {W H V : Int} {bl : Nat → Bool} {a b : Nat} {F G : Int → Option (Int × Int)} {RA RB : List Value} {L : List Nat} (w : World) (g : RefAt w M W H V bl) (hml : M < w.heap.size)
    (hA : ∀ w : World, RayAt (w.alloc (.cells RA.toArray 103)) w.heap.size a F) (hB : ∀ w : World, RayAt (w.alloc (.cells RB.toArray 103)) w.heap.size b G) (BF : Best (Edge W H bl) a F) (BG : Best (Edge W H bl) b G)
    (ha : inB W H a = true) (hb : inB W H b = true) (hL : crs W H bl (W * H).toNat = L) (hrow : OldRow w A L.length (fun i => (L.getD i 0 : Nat))) :
    Calls Tryz.prog 89 #[.pointer (some ⟨M, 0, none⟩), .agg RA.toArray, .agg RB.toArray, .slice A L.length cap] w fun e w' => ∃ r, e = .returned (.bool r) ∧ (r = true ↔ Dir W H bl a b) ∧ Below w.heap.size w w' := by
  have gw1 := g.w1
  have hwh := wh_bd g.w1 g.w2 g.h1 g.h2
  have hsm := oct_small g.w1 g.w2 g.h1 g.h2 ha hb
  have hbq : 0 ≤ (b : Int) ∧ (b : Int) < W * H := of_decide_eq_true hb
  have hLL : L.length ≤ 256 := by rw [← hL]; have := crs_len W H bl (W * H).toNat; omega
  have hmm : ∀ j, j < L.length → L.getD j 0 < (W * H).toNat ∧ cornB W H bl ((L.getD j 0 : Nat) : Int) = true := fun j hj => crs_mem.1 (by rw [hL, getD_at _ _ hj]; exact List.getElem_mem hj)
  refine (direct' (cap := cap) (A := A) (l := L) w g hml hA hB (fun w' g' => roct_any (a : Int) b w' g' ha hb) (lab_ok BF) (lab_ok BG) (by omega) rfl hLL (fun j hj => by have := (hmm j hj).1; omega) hrow).mono ?_
  rintro e w' ⟨r, rfl, hr, hbw⟩
  refine ⟨r, rfl, hr.trans ?_, hbw⟩
  have hni := near_iff (b := (b : Int)) gw1 (by omega) (by omega) BF
  have hon := on_iff (a := (a : Int)) (b := (b : Int)) gw1 (by omega) (by omega) BF BG
  unfold Dir
  rw [hni]
  refine and_congr_right fun _ => ?_
  constructor
  · intro h k hk hc
    have hkin : 0 ≤ k ∧ k < W * H := of_decide_eq_true (cornC_in gw1 hc)
    have hm : k.toNat ∈ L := by rw [← hL]; exact crs_mem.2 ⟨by omega, by rw [Int.toNat_of_nonneg hkin.1]; exact cornB_iff.2 hc⟩
    obtain ⟨j, hj, e⟩ := List.getElem_of_mem hm
    by_cases e1 : k = (a : Int)
    · exact Or.inl e1
    · by_cases e2 : k = (b : Int)
      · exact Or.inr e2
      · exfalso
        have := h j hj (by rw [getD_at _ _ hj, e]; omega) (by rw [getD_at _ _ hj, e]; omega)
        rw [getD_at _ _ hj, e, Int.toNat_of_nonneg hkin.1] at this
        exact this ((hon k).1 hk)
  · intro h j hj h1 h2 h3
    rcases h _ ((hon _).2 h3) (cornB_iff.1 (hmm j hj).2) with e | e <;> omega

/-- rays, one behind the other -/
theorem flat_at (R : Nat → List Value) (hR : ∀ n, (R n).length = 769) : ∀ (L : List Nat) (i j : Nat), i < L.length → j < 769 → (L.flatMap R)[i * 769 + j]? = (R (L.getD i 0))[j]?
  | [], i, _, h, _ => absurd h (Nat.not_lt_zero i)
  | n :: L, 0, j, _, hj => by
    rw [List.flatMap_cons, List.getElem?_append_left (by rw [hR]; omega), Nat.zero_mul, Nat.zero_add]
    rfl
  | n :: L, i + 1, j, h, hj => by
    have ih := flat_at R hR L i j (by simpa using h) hj
    rw [List.flatMap_cons, List.getElem?_append_right (by rw [hR]; omega), hR, show (i + 1) * 769 + j - 769 = i * 769 + j by omega, ih]
    rfl
/-- rays in memory that was there -/
def OldRays (w : World) (A : Option Addr) (R : Nat → List Value) (L : List Nat) : Prop := ∀ i, i < L.length → ∃ b, A = some ⟨b, 0, none⟩ ∧ b < w.heap.size ∧ w.rangeAt b (i * 769) (R (L.getD i 0))
theorem OldRays.below {w w' : World} {A : Option Addr} {R : Nat → List Value} {L : List Nat} (h : OldRays w A R L) (hb : Below w.heap.size w w') : OldRays w' A R L := fun i hi => by
  obtain ⟨b, e, h1, h2⟩ := h i hi
  exact ⟨b, e, Nat.lt_of_lt_of_le h1 hb.size, range_below h2 hb⟩
theorem rays_of {w : World} {base : Nat} {v : Value} {R : Nat → List Value} {L : List Nat} (hR : ∀ n, (R n).length = 769) (h : w.ownsRow base 103 769 v L.length (L.flatMap R)) : ∃ A cap, v = .slice A L.length cap ∧ OldRays w A R L := by
  rcases h.2 with ⟨rfl, h0⟩ | ⟨g, cap, cur, rfl, _, hg, _⟩
  · exact ⟨none, 0, by rw [h0], fun i hi => by omega⟩
  · refine ⟨_, _, rfl, fun i hi => ⟨g, rfl, (Array.getElem?_eq_some_iff.1 hg).1, fun j v hj => ?_⟩⟩
    have hj' : j < 769 := by have := (List.getElem?_eq_some_iff.1 hj).1; rw [hR] at this; exact this
    rw [h.cellAt _ (by omega), flat_at R hR L i j hi hj']
    exact hj

/-- two rays in memory -/
def TwoR (w : World) (X Y : Nat) (RA RB : List Value) (o : Nat) : Prop := w.rangeAt X 0 RA ∧ w.rangeAt Y o RB
theorem TwoR.below {w w' : World} {X Y o : Nat} {RA RB : List Value} (h : TwoR w X Y RA RB o) (hb : Below w.heap.size w w') : TwoR w' X Y RA RB o := ⟨range_below h.1 hb, range_below h.2 hb⟩

/-- which edges there are -/
def EdgeP (W H : Int) (bl : Nat → Bool) (self : Bool) (a : Nat) (n : Nat) : Prop := (self = true ∨ n ≠ a) ∧ Dir W H bl a n
def Upto (L : List Nat) (P : Nat → Prop) (i : Nat) (F : List Nat) : Prop := F.Pairwise (· < ·) ∧ ∀ n, n ∈ F ↔ ∃ j, j < i ∧ L.getD j 0 = n ∧ P n
theorem Upto.no {L F : List Nat} {P : Nat → Prop} {i : Nat} (h : Upto L P i F) (hn : ¬ P (L.getD i 0)) : Upto L P (i + 1) F := by
  refine ⟨h.1, fun n => (h.2 n).trans ⟨fun ⟨j, h1, h2⟩ => ⟨j, by omega, h2⟩, fun ⟨j, h1, h2, h3⟩ => ?_⟩⟩
  by_cases e : j = i
  · subst e; rw [h2] at hn; exact absurd h3 hn
  · exact ⟨j, by omega, h2, h3⟩
theorem rise_at {L : List Nat} (h : L.Pairwise (· < ·)) {i j : Nat} (hi : i < L.length) (hj : j < i) : L.getD j 0 < L.getD i 0 := by
  rw [getD_at _ _ hi, getD_at _ _ (by omega)]
  exact List.pairwise_iff_getElem.1 h j i (by omega) hi hj
theorem Upto.yes {L F : List Nat} {P : Nat → Prop} {i : Nat} (hL : L.Pairwise (· < ·)) (hi : i < L.length) (h : Upto L P i F) (hp : P (L.getD i 0)) : Upto L P (i + 1) (F ++ [L.getD i 0]) := by
  refine ⟨?_, fun n => ?_⟩
  · rw [List.pairwise_append]
    refine ⟨h.1, List.pairwise_singleton _ _, fun x hx y hy => ?_⟩
    rw [List.mem_singleton] at hy
    obtain ⟨j, h1, h2, _⟩ := (h.2 x).1 hx
    rw [hy, ← h2]
    exact rise_at hL hi h1
  · rw [List.mem_append, List.mem_singleton, h.2 n]
    constructor
    · rintro (⟨j, h1, h2⟩ | rfl)
      · exact ⟨j, by omega, h2⟩
      · exact ⟨i, by omega, rfl, hp⟩
    · rintro ⟨j, h1, h2, h3⟩
      by_cases e : j = i
      · subst e; exact Or.inr h2.symm
      · exact Or.inl ⟨j, by omega, h2, h3⟩

set_option maxHeartbeats 8000000 in
set_option maxRecDepth 1000000 in
theorem redges' {M cr cc a : Nat} {AR AC : Option Addr} {W H V : Int} {bl : Nat → Bool} {F : Int → Option (Int × Int)} {RA : List Value} {R : Nat → List Value} {Fl : Int → Int → Option (Int × Int)} {L : List Nat} {self : Bool} (w : World) (g : RefAt w M W H V bl) (hml : M < w.heap.size)
    (hA : ∀ w : World, RayAt (w.alloc (.cells RA.toArray 103)) w.heap.size a F) (hAr : ∀ w : World, (w.alloc (.cells RA.toArray 103)).rangeAt w.heap.size 0 RA) (lA : RA.length = 769) (BF : Best (Edge W H bl) a F) (ha : inB W H a = true)
    (hR : ∀ n, (R n).length = 769) (hRn : ∀ (n : Nat) (w : World), RayAt (w.alloc (.cells (R n).toArray 103)) w.heap.size n (Fl n)) (hB : ∀ c, CornC W H bl c → Best (Edge W H bl) c (Fl c))
    (hL : crs W H bl (W * H).toNat = L) (hrays : OldRays w AR R L) (hrow : OldRow w AC L.length (fun i => (L.getD i 0 : Nat))) :
    Calls Tryz.prog 51 #[.pointer (some ⟨M, 0, none⟩), .agg RA.toArray, .slice AR L.length cr, .slice AC L.length cc, .bool self] w fun e w' => ∃ v l, e = .returned v ∧ w'.ownsRow w.heap.size 67 4 v l.length (edgesV W a l) ∧ Upto L (EdgeP W H bl self a) L.length l ∧ Below w.heap.size w w' := by
  have gw1 := g.w1
  have hwh := wh_bd g.w1 g.w2 g.h1 g.h2
  obtain ⟨i0, hi, hz0, hz1, hz2⟩ := info_parts Tryz.infoE
  have hLL : L.length ≤ 256 := by rw [← hL]; have := crs_len W H bl (W * H).toNat; omega
  have HC : Hid (∀ i, i < L.length → L.getD i 0 < 256 ∧ cornB W H bl ((L.getD i 0 : Nat) : Int) = true) := fun i hi => by
    have := crs_mem.1 (show L.getD i 0 ∈ crs W H bl (W * H).toNat by rw [hL, getD_at _ _ hi]; exact List.getElem_mem hi)
    exact ⟨by omega, this.2⟩
  have HRi : Hid (L.Pairwise (· < ·)) := by rw [← hL]; exact crs_rise _ _ _ _
  have b0 : Below w.heap.size w (w.alloc (.cells RA.toArray 103)) := (Below.refl _ _).alloc (Nat.le_refl _) _
  have x0 := (hA w).a0
  have xr := hAr w
  have g0 := g.below b0 hml
  have hrays0 := hrays.below b0
  have hrow0 := hrow.below b0
  have hz0' : (w.alloc (.cells RA.toArray 103)).heap.size = w.heap.size + 1 := by simp
  have HL : Hid (crs W H bl (W * H).toNat = L) := hL
  clear g hrays hrow hL
  go_enter Tryz.func51, Tryz.ntmps51
  go_wp2
  generalize w.alloc (.cells RA.toArray 103) = w0 at *
  generalize hX : w.heap.size = X at *
  have HX : Hid (w.heap.size = X) := hX
  clear hX
  go_loopg [11, 12] L.length (fun gk lv iv wr => ∃ (i : Nat) (Fi : List Nat), gk = L.length - i ∧ iv = .int .i64 i ∧ i ≤ L.length ∧ Hid (Upto L (EdgeP W H bl self a) i Fi) ∧ wr.ownsRow w0.heap.size 67 4 lv Fi.length (edgesV W a Fi) ∧ Below w0.heap.size w0 wr)
  case atStart => exact ⟨0, [], rfl, rfl, Nat.zero_le _, ⟨List.Pairwise.nil, fun n => ⟨fun h => (by cases h), fun ⟨j, h, _⟩ => absurd h (Nat.not_lt_zero j)⟩⟩, World.ownsRow_nil _ _ _ _, Below.refl _ _⟩
  case round =>
    obtain ⟨i, Fi, hgk, rfl, hi', hup, hown, Br⟩ := hrel
    by_cases hlt : i < L.length
    · obtain ⟨ba, oa, rfl, hba, hcell0⟩ := hrow0 i hlt
      obtain ⟨bb, rfl, hbb, hray⟩ := (hrays0.below Br) i hlt
      obtain ⟨z, hzz⟩ : ∃ z, L.getD i 0 = z := ⟨_, rfl⟩
      have hc := HC.out i hlt
      have hyes := fun h => Upto.yes HRi.out hlt hup.out h
      have hno := fun h => Upto.no (P := EdgeP W H bl self a) hup.out h
      have hcell1 : w0.cell? ⟨ba, oa + i, none⟩ = some (.int .i64 (z : Int)) := by rw [← hzz]; exact hcell0
      have HS : Hid (∀ w', Below w0.heap.size w0 w' → w'.cell? ⟨X, 0, none⟩ = some (.int .i64 (a : Int)) ∧ w'.cell? ⟨ba, oa + i, none⟩ = some (.int .i64 (z : Int))) := fun w' B => ⟨(B.cell (World.block_lt_of_cell? _ _ x0)).trans x0, (B.cell (World.block_lt_of_cell? _ _ hcell1)).trans hcell1⟩
      have hcell := (HS.out _ Br).2
      rw [hzz] at hc hyes hno hray
      obtain ⟨hz256, hzc⟩ := hc
      have hzin := cornC_in gw1 (cornB_iff.1 hzc)
      have xa := (HS.out _ Br).1
      have xq := range_below xr Br
      have gr := g0.below Br (by omega)
      have hmr : M < wr.heap.size := by have := Br.size; omega
      have hrowr := hrow0.below Br
      have hoc := fun (w' : World) (g' : RefAt w' M W H V bl) => roct_any (a : Int) z w' g' ha hzin
      have hdi := fun (w' : World) (g' : RefAt w' M W H V bl) (h : M < w'.heap.size) (hr : OldRow w' (some ⟨ba, oa, none⟩) L.length (fun i => (L.getD i 0 : Nat))) => direct_d (cap := cc) (a := a) (b := z) w' g' h hA (hRn z) BF (hB z (cornB_iff.1 hzc)) ha hzin HL.out hr
      have hEV : Hid (edgesV W a (Fi ++ [z]) = edgesV W a Fi ++ [.int .i64 (z : Int), .int .i64 (octS W a z), .int .i64 (octD W a z), .int .i64 (-1)]) := edgesV_app _ _ _ _
      have hFl : Fi.length ≤ 256 := by
        have h1 := nodup_len 256 (hup.out.1.imp (fun h e => by omega)) (fun n hn => by
          obtain ⟨j, hj, e, _⟩ := (hup.out.2 n).1 hn
          have := HC.out j (by omega)
          rw [e] at this; exact this.1)
        exact h1
      have HLen : Hid ((Fi ++ [z]).length = Fi.length + 1) := by show _ = _; simp
      have lB := hR z
      have H1 : Hid (self = false → z = a → Upto L (EdgeP W H bl self a) (i + 1) Fi) := fun h1 h2 => hno (fun h => h.1.elim (fun h => by rw [h1] at h; cases h) (fun h => h h2))
      have H2 : Hid (¬ Dir W H bl a z → Upto L (EdgeP W H bl self a) (i + 1) Fi) := fun h1 => hno (fun h => h1 h.2)
      have H3 : Hid ((self = true ∨ z ≠ a) → Dir W H bl a z → Upto L (EdgeP W H bl self a) (i + 1) (Fi ++ [z])) := fun h1 h2 => hyes ⟨h1, h2⟩
      have hiX : (Tryz.prog.info? 103).map (·.size) = some RA.length := by rw [info112, lA]
      have hiY : (Tryz.prog.info? 103).map (·.size) = some (R z).length := by rw [info112, lB]
      have i1 : (0 : Int) ≤ (i : Int) := by omega
      have i2 : (i : Int) < (L.length : Int) := by omega
      clear hyes hno hzz hup hcell0 hcell1 hA hRn hB hrow0 hrays0 xr x0 b0 lB hAr lA hR hz256
      generalize R z = RB at *
      generalize octS W a z = es at *
      generalize octD W a z = ed at *
      by_cases hcont : self = false ∧ z = a
      · have HN := H1.out hcont.1 hcont.2
        obtain ⟨rfl, rfl⟩ := hcont
        clear H1 H2 H3 hoc hdi
        go_wp2
        go_quiet (fail)
        go_wp2
        go_roundg (L.length - (i + 1))
        case measure => omega
        case rel => exact ⟨i + 1, Fi, rfl, by go_num, by omega, HN, hown, below_drewN Br _⟩
      · have hself : self = true ∨ z ≠ a := by
          by_cases e : z = a
          · exact Or.inl (by cases self with
              | true => rfl
              | false => exact absurd ⟨rfl, e⟩ hcont)
          · exact Or.inr e
        have H4 : Hid (Dir W H bl a z → Upto L (EdgeP W H bl self a) (i + 1) (Fi ++ [z])) := H3.out hself
        clear H1 H3 hcont
        obtain ⟨Fz, hFz⟩ : ∃ Fz, Fi ++ [z] = Fz := ⟨_, rfl⟩
        rw [hFz] at hEV HLen H4
        clear hFz
        obtain ⟨D, hD⟩ : ∃ D : Prop, Dir W H bl a z = D := ⟨_, rfl⟩
        rw [hD] at H2 H4
        rw [hD] at hdi
        clear hD hzc hzin
        by_cases hez : z = a
        · have hs : self = true := hself.elim id (fun h => absurd hez h)
          subst hs
          subst hez
          clear hself
          go_wp2
          go_quiet (fail)
          have bD : Below wr.heap.size wr (wr.drewN nq) := below_drewN (Below.refl _ _) _
          have Br := Br.trans (bD.mono Br.size)
          have xq := range_below xq bD
          have hray := range_below hray bD
          have gr := gr.below bD hmr
          have hmr := Nat.lt_of_lt_of_le hmr bD.size
          have hrowr := hrowr.below bD
          have hown := own_below hown bD
          clear bD hcell xa
          generalize wr.drewN nq = w1 at *
          have bD : Below w1.heap.size w1 w1.drew := ⟨rfl, rfl, rfl, Nat.le_refl _, fun _ _ => rfl⟩
          have CC : TwoR w1.drew X bb RA RB (i * 769) := ⟨range_below xq bD, range_below hray bD⟩
          have BD := Br.trans (bD.mono Br.size)
          have gD := gr.below bD hmr
          have mD := Nat.lt_of_lt_of_le hmr bD.size
          have rD := hrowr.below bD
          have oD := own_below hown bD
          have hu := Tryz.underlying103
          clear bD Br xq hray gr hmr hrowr hown
          go_wp2_with fail
          refine wp_region_held_drew (S := fun w' => w'.rangeAt X 0 RA ∧ w'.rangeAt bb (i * 769) RB) (by kernel_rfl) CC (fun hHeld => ?_)
          refine wpAnyH_take (i := 0) (v := .pointer (some ⟨M, 0, none⟩)) rfl (by kernel_rfl) (by kernel_rfl) (by kernel_rfl) (fun _ _ _ h => h) (Or.inl ⟨by rfl, fun w' _ => by go_simp⟩) hHeld ?_
          simp only [Act.put, List.setIfInBounds_toArray]
          refine wpAnyH_take (i := 1) (v := .agg RA.toArray) rfl (by kernel_rfl) (by kernel_rfl) (by kernel_rfl) (fun _ _ _ h => h) (yieldsIf_load_mid (by rfl) 103 (.tmp 6) rfl X 0 rfl RA _ (fun _ h => h.1) hu rfl hiX) hHeld ?_
          simp only [Act.put]
          refine wpAnyH_take (i := 2) (v := .slice (some ⟨bb, 0, none⟩) L.length cr) rfl (by kernel_rfl) (by kernel_rfl) (by kernel_rfl) (fun _ _ _ h => h) (Or.inl ⟨by rfl, fun w' _ => by go_simp⟩) hHeld ?_
          simp only [Act.put]
          refine wpAnyH_take (i := 3) (v := .int .i64 i) rfl (by kernel_rfl) (by kernel_rfl) (by kernel_rfl) (fun _ _ _ h => h) (Or.inl ⟨by rfl, fun w' _ => by go_simp⟩) hHeld ?_
          simp only [Act.put]
          refine wpAnyH_take (i := 4) (v := .pointer (some ⟨bb, i * 769, none⟩)) rfl (by kernel_rfl) (by kernel_rfl) (by kernel_rfl) (fun _ _ _ h => h) (Or.inl ⟨by rfl, fun w' _ => by go_simp⟩) hHeld ?_
          simp only [Act.put]
          refine wpAnyH_take (i := 5) (v := .agg RB.toArray) rfl (by kernel_rfl) (by kernel_rfl) (by kernel_rfl) (fun _ _ _ h => h) (yieldsIf_load_mid (by rfl) 103 (.tmp 35) rfl bb (i * 769) rfl RB _ (fun _ h => h.2) hu rfl hiY) hHeld ?_
          simp only [Act.put]
          refine wpAnyH_take (i := 6) (v := .slice (some ⟨ba, oa, none⟩) L.length cc) rfl (by kernel_rfl) (by kernel_rfl) (by kernel_rfl) (fun _ _ _ h => h) (Or.inl ⟨by rfl, fun w' _ => by go_simp⟩) hHeld ?_
          simp only [Act.put]
          refine wpAnyH_ready (rs := [7]) (by kernel_rfl) (by simp) ?_
          refine AllReadyH.cons rfl (fun K hK => ?_) AllReadyH.nil
          go_simp
          go_at_call 89
          refine (hdi _ gD mD rD).mono ?_
          rintro e w2 ⟨r, rfl, hr, hb2⟩
          have CC := CC.below hb2
          have BD := BD.trans (hb2.mono BD.size)
          have gD := gD.below hb2 mD
          have mD := Nat.lt_of_lt_of_le mD hb2.size
          have rD := rD.below hb2
          have oD := own_below oD hb2
          clear hb2 hdi
          go_wp2_with fail
          refine hK.out _ _ CC (fun hHeld2 => ?_)
          clear hHeld hK K
          refine wpAnyH_ready (rs := [8]) (by kernel_rfl) (by simp) ?_
          refine AllReadyH.cons rfl (fun K hK => ?_) AllReadyH.nil
          go_simp
          refine hK.out _ _ CC (fun hHeld4 => ?_)
          refine wpAnyH_done (by kernel_rfl) ?_ _
          clear hK K hHeld2 hHeld4 CC hu
          cases r with
          | false =>
            have HN := H2.out (fun h => by have := hr.2 h; cases this)
            clear H2 H4 hr
            go_wp2
            go_roundg (L.length - (i + 1))
            case measure => omega
            case rel => exact ⟨i + 1, Fi, rfl, by go_num, by omega, HN, oD, BD⟩
          | true =>
            have HN := H4.out (hr.1 rfl)
            clear H2 H4 hr
            go_wp2_with fail
            have bD : Below w2.heap.size w2 w2.drew := ⟨rfl, rfl, rfl, Nat.le_refl _, fun _ _ => rfl⟩
            have BE := BD.trans (bD.mono BD.size)
            have gE := gD.below bD mD
            have oE := own_below oD bD
            have mE := Nat.lt_of_lt_of_le mD bD.size
            clear BD gD oD mD bD rD
            have h5 := hoc w2.drew gE
            have hzE := BE.size
            clear hoc gE
            go_region_held3 (fun w' => w'.cell? ⟨X, 0, none⟩ = some (.int .i64 ((z : Nat) : Int)) ∧ w'.cell? ⟨ba, oa + i, none⟩ = some (.int .i64 ((z : Nat) : Int))) (first | exact HS.out _ BE | exact HS.out _ B5 | exact HS.out _ B6 | exact HS.out _ B7)
              (first | (go_at_call 90; refine h5.mono ?_; rintro e w5 ⟨rfl, hb5⟩; have B5 := BE.trans (hb5.mono BE.size); have o5 := own_below oE hb5; have z5 := B5.size; have B6 : Below w0.heap.size w0 (w5.alloc (.cells #[.int .i64 ((z : Nat) : Int), .int .i64 es, .int .i64 ed, .int .i64 (-1)] 67)) := (B5.alloc z5 _); have o6 := (o5.alloc (.cells #[.int .i64 ((z : Nat) : Int), .int .i64 es, .int .i64 ed, .int .i64 (-1)] 67)); clear hb5 o5)
                     | (refine step_append_lies _ rfl (.tmp 40) (.tmp 54) 52 rfl w0.heap.size 67 i0 (.agg #[.int .i64 0, .int .i64 0, .int .i64 0, .int .i64 0]) 4 32 Tryz.underE hi hz0 hz1 hz2 rfl (by decide) _ _ _ rfl o6 ⟨w5.heap.size, 0, none⟩ 1 1 [.int .i64 ((z : Nat) : Int), .int .i64 es, .int .i64 ed, .int .i64 (-1)] rfl rfl (cell_four_new _ _ _ _ _ _) (by intro u hu; simp at hu; rcases hu with rfl | rfl | rfl | rfl <;> rfl) (by decide) (by unfold maxLen; omega) (by omega) (by simp; omega) _ rfl ?_; intro g7 c7 w7 hown7 hg7 _ hlt7; have B7 : Below w0.heap.size w0 w7 := (B6.grown hg7 (by simp; omega) (fun q hq => (o6.lt q hq).1))))
            have O7 := hown7
            rw [← hEV.out, ← HLen.out] at O7
            clear hown7 hg7 o6 B6
            go_wp2
            go_roundg (L.length - (i + 1))
            case measure => omega
            case rel => exact ⟨i + 1, Fz, rfl, by go_num, by omega, HN, by rw [HLen.out]; rw [HLen.out] at O7; exact O7, B7⟩
        · have na : (((z : Nat) : Int) == (a : Int)) = false := by rw [beq_eq_false_iff_ne]; omega
          have na' : ¬ (((z : Nat) : Int) = (a : Int)) := by omega
          clear hself
          go_wp2
          go_quiet (fail)
          clear na na'
          have bD : Below wr.heap.size wr (wr.drewN nq) := below_drewN (Below.refl _ _) _
          have Br := Br.trans (bD.mono Br.size)
          have xq := range_below xq bD
          have hray := range_below hray bD
          have gr := gr.below bD hmr
          have hmr := Nat.lt_of_lt_of_le hmr bD.size
          have hrowr := hrowr.below bD
          have hown := own_below hown bD
          clear bD hcell xa
          generalize wr.drewN nq = w1 at *
          have bD : Below w1.heap.size w1 w1.drew := ⟨rfl, rfl, rfl, Nat.le_refl _, fun _ _ => rfl⟩
          have CC : TwoR w1.drew X bb RA RB (i * 769) := ⟨range_below xq bD, range_below hray bD⟩
          have BD := Br.trans (bD.mono Br.size)
          have gD := gr.below bD hmr
          have mD := Nat.lt_of_lt_of_le hmr bD.size
          have rD := hrowr.below bD
          have oD := own_below hown bD
          have hu := Tryz.underlying103
          clear bD Br xq hray gr hmr hrowr hown
          go_wp2_with fail
          refine wp_region_held_drew (S := fun w' => w'.rangeAt X 0 RA ∧ w'.rangeAt bb (i * 769) RB) (by kernel_rfl) CC (fun hHeld => ?_)
          refine wpAnyH_take (i := 0) (v := .pointer (some ⟨M, 0, none⟩)) rfl (by kernel_rfl) (by kernel_rfl) (by kernel_rfl) (fun _ _ _ h => h) (Or.inl ⟨by rfl, fun w' _ => by go_simp⟩) hHeld ?_
          simp only [Act.put, List.setIfInBounds_toArray]
          refine wpAnyH_take (i := 1) (v := .agg RA.toArray) rfl (by kernel_rfl) (by kernel_rfl) (by kernel_rfl) (fun _ _ _ h => h) (yieldsIf_load_mid (by rfl) 103 (.tmp 6) rfl X 0 rfl RA _ (fun _ h => h.1) hu rfl hiX) hHeld ?_
          simp only [Act.put]
          refine wpAnyH_take (i := 2) (v := .slice (some ⟨bb, 0, none⟩) L.length cr) rfl (by kernel_rfl) (by kernel_rfl) (by kernel_rfl) (fun _ _ _ h => h) (Or.inl ⟨by rfl, fun w' _ => by go_simp⟩) hHeld ?_
          simp only [Act.put]
          refine wpAnyH_take (i := 3) (v := .int .i64 i) rfl (by kernel_rfl) (by kernel_rfl) (by kernel_rfl) (fun _ _ _ h => h) (Or.inl ⟨by rfl, fun w' _ => by go_simp⟩) hHeld ?_
          simp only [Act.put]
          refine wpAnyH_take (i := 4) (v := .pointer (some ⟨bb, i * 769, none⟩)) rfl (by kernel_rfl) (by kernel_rfl) (by kernel_rfl) (fun _ _ _ h => h) (Or.inl ⟨by rfl, fun w' _ => by go_simp⟩) hHeld ?_
          simp only [Act.put]
          refine wpAnyH_take (i := 5) (v := .agg RB.toArray) rfl (by kernel_rfl) (by kernel_rfl) (by kernel_rfl) (fun _ _ _ h => h) (yieldsIf_load_mid (by rfl) 103 (.tmp 35) rfl bb (i * 769) rfl RB _ (fun _ h => h.2) hu rfl hiY) hHeld ?_
          simp only [Act.put]
          refine wpAnyH_take (i := 6) (v := .slice (some ⟨ba, oa, none⟩) L.length cc) rfl (by kernel_rfl) (by kernel_rfl) (by kernel_rfl) (fun _ _ _ h => h) (Or.inl ⟨by rfl, fun w' _ => by go_simp⟩) hHeld ?_
          simp only [Act.put]
          refine wpAnyH_ready (rs := [7]) (by kernel_rfl) (by simp) ?_
          refine AllReadyH.cons rfl (fun K hK => ?_) AllReadyH.nil
          go_simp
          go_at_call 89
          refine (hdi _ gD mD rD).mono ?_
          rintro e w2 ⟨r, rfl, hr, hb2⟩
          have CC := CC.below hb2
          have BD := BD.trans (hb2.mono BD.size)
          have gD := gD.below hb2 mD
          have mD := Nat.lt_of_lt_of_le mD hb2.size
          have rD := rD.below hb2
          have oD := own_below oD hb2
          clear hb2 hdi
          go_wp2_with fail
          refine hK.out _ _ CC (fun hHeld2 => ?_)
          clear hHeld hK K
          refine wpAnyH_ready (rs := [8]) (by kernel_rfl) (by simp) ?_
          refine AllReadyH.cons rfl (fun K hK => ?_) AllReadyH.nil
          go_simp
          refine hK.out _ _ CC (fun hHeld4 => ?_)
          refine wpAnyH_done (by kernel_rfl) ?_ _
          clear hK K hHeld2 hHeld4 CC hu
          cases r with
          | false =>
            have HN := H2.out (fun h => by have := hr.2 h; cases this)
            clear H2 H4 hr
            go_wp2
            go_roundg (L.length - (i + 1))
            case measure => omega
            case rel => exact ⟨i + 1, Fi, rfl, by go_num, by omega, HN, oD, BD⟩
          | true =>
            have HN := H4.out (hr.1 rfl)
            clear H2 H4 hr
            go_wp2_with fail
            have bD : Below w2.heap.size w2 w2.drew := ⟨rfl, rfl, rfl, Nat.le_refl _, fun _ _ => rfl⟩
            have BE := BD.trans (bD.mono BD.size)
            have gE := gD.below bD mD
            have oE := own_below oD bD
            have mE := Nat.lt_of_lt_of_le mD bD.size
            clear BD gD oD mD bD rD
            have h5 := hoc w2.drew gE
            have hzE := BE.size
            clear hoc gE
            go_region_held3 (fun w' => w'.cell? ⟨X, 0, none⟩ = some (.int .i64 ((a : Nat) : Int)) ∧ w'.cell? ⟨ba, oa + i, none⟩ = some (.int .i64 ((z : Nat) : Int))) (first | exact HS.out _ BE | exact HS.out _ B5 | exact HS.out _ B6 | exact HS.out _ B7)
              (first | (go_at_call 90; refine h5.mono ?_; rintro e w5 ⟨rfl, hb5⟩; have B5 := BE.trans (hb5.mono BE.size); have o5 := own_below oE hb5; have z5 := B5.size; have B6 : Below w0.heap.size w0 (w5.alloc (.cells #[.int .i64 ((z : Nat) : Int), .int .i64 es, .int .i64 ed, .int .i64 (-1)] 67)) := (B5.alloc z5 _); have o6 := (o5.alloc (.cells #[.int .i64 ((z : Nat) : Int), .int .i64 es, .int .i64 ed, .int .i64 (-1)] 67)); clear hb5 o5)
                     | (refine step_append_lies _ rfl (.tmp 40) (.tmp 54) 52 rfl w0.heap.size 67 i0 (.agg #[.int .i64 0, .int .i64 0, .int .i64 0, .int .i64 0]) 4 32 Tryz.underE hi hz0 hz1 hz2 rfl (by decide) _ _ _ rfl o6 ⟨w5.heap.size, 0, none⟩ 1 1 [.int .i64 ((z : Nat) : Int), .int .i64 es, .int .i64 ed, .int .i64 (-1)] rfl rfl (cell_four_new _ _ _ _ _ _) (by intro u hu; simp at hu; rcases hu with rfl | rfl | rfl | rfl <;> rfl) (by decide) (by unfold maxLen; omega) (by omega) (by simp; omega) _ rfl ?_; intro g7 c7 w7 hown7 hg7 _ hlt7; have B7 : Below w0.heap.size w0 w7 := (B6.grown hg7 (by simp; omega) (fun q hq => (o6.lt q hq).1))))
            have O7 := hown7
            rw [← hEV.out, ← HLen.out] at O7
            clear hown7 hg7 o6 B6
            go_wp2
            go_roundg (L.length - (i + 1))
            case measure => omega
            case rel => exact ⟨i + 1, Fz, rfl, by go_num, by omega, HN, by rw [HLen.out]; rw [HLen.out] at O7; exact O7, B7⟩
    · have hge : i = L.length := by omega
      subst hge
      go_wp2
      go_ret
      have hX := HX.out
      exact ⟨_, Fi, rfl, ownsRow_base_a hown (by omega), hup.out, by rw [hX]; exact b0.trans (Br.mono (by omega))⟩
end Go.Proofs.YtmnpplkjhnoglaaGreatDoor
