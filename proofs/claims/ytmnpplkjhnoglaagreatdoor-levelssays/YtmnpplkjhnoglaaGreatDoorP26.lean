/-
  Texts laid together: LvC, LvDist, LvNeed.
-/
import Derived.Test.YtmnpplkjhnoglaaGreatDoorP25
import Derived.Deep.RegionHeld3
/-
  What a search over levels' edges may lean on. (For levels.)
-/
namespace Go.Proofs.YtmnpplkjhnoglaaGreatDoor
open Go.RowKit

/-- levels' edges: in their order, either way, between corners, of small costs -/
structure Okl (L : List Nat) (K : Int) (st : LSt) : Prop where
  esy : Esy st.es
  cor : Cor L st
  bd : ∀ {a e}, e ∈ st.es a → 0 ≤ e.s ∧ 0 ≤ e.d ∧ e.s ≤ K ∧ e.d ≤ K
section
variable {L : List Nat} {K : Int} {st : LSt} {n o : Nat}
theorem Okl.edge (O : Okl L K st) {a b t u : Int} (h : EdR st n a b t u) : 0 ≤ t ∧ 0 ≤ u ∧ t ≤ K ∧ u ≤ K ∧ ∃ m : Nat, b = (m : Int) ∧ m ∈ L := by
  obtain ⟨e, h1, rfl, rfl, rfl, _, _⟩ := h
  obtain ⟨b1, b2, b3, b4⟩ := O.bd h1
  exact ⟨b1, b2, b3, b4, e.to, rfl, (O.cor.ends h1).2⟩
theorem Okl.way (O : Okl L K st) (ho : o ∈ L) {a s d : Int} (h : Wg (EdR st n) (o : Int) a s d) : 0 ≤ s ∧ 0 ≤ d ∧ ∃ m : Nat, a = (m : Int) ∧ m ∈ L :=
  h (fun a s d => 0 ≤ s ∧ 0 ≤ d ∧ ∃ m : Nat, a = (m : Int) ∧ m ∈ L) ⟨Int.le_refl _, Int.le_refl _, o, rfl, ho⟩ (fun a s d b t u hx e => by
    obtain ⟨h1, h2, _, _, h3⟩ := O.edge e
    exact ⟨by omega, by omega, h3⟩)
theorem Okl.one (O : Okl L K st) {a b t u t' u' : Int} (h : EdR st n a b t u) (h' : EdR st n a b t' u') : t' = t ∧ u' = u := by
  obtain ⟨e, h1, h2, rfl, rfl, _, _⟩ := h
  obtain ⟨e', h1', h2', rfl, rfl, _, _⟩ := h'
  have := (O.esy.ord _).one h1' h1 (by omega)
  subst this
  exact ⟨rfl, rfl⟩
theorem Okl.len (O : Okl L K st) (hb : ∀ n ∈ L, n < 256) (a : Nat) : (st.es a).length ≤ 256 := by
  have h1 : ((st.es a).map (·.to)).Nodup := by
    unfold List.Nodup
    rw [List.pairwise_map]
    exact (O.esy.ord a).imp (fun h => Nat.ne_of_lt h)
  have := nodup_len 256 h1 (fun n hn => by
    obtain ⟨e, he, rfl⟩ := List.mem_map.1 hn
    exact hb _ (O.cor.ends he).2)
  simpa using this
end
theorem val_le {s d : Int} (h1 : 0 ≤ s) (h2 : 0 ≤ d) (h : val s d ≤ val 1024 1024) : s ≤ 2500 ∧ d ≤ 2500 := by
  have e : val 1024 1024 = 95459694592 := by decide
  rw [e] at h
  unfold val at h
  omega
/-- what a search says: whether there is a way that costs no more -/
def Dist (st : LSt) (n a : Nat) (M : Int) (F : Int → Option (Int × Int)) : Prop :=
  ∀ (b x y : Int), val x y ≤ M → ((∃ p q, Wg (EdR st n) (a : Int) b p q ∧ val p q ≤ val x y) ↔ ∃ p q, F b = some (p, q) ∧ val p q ≤ val x y)
/-- what a search has in memory -/
structure DMem (w : World) (X lb : Nat) (n ms md : Int) (v : Value) (nh : Nat) (R F : Int → Option (Int × Int)) : Prop where
  x : w.cell? ⟨X, 0, none⟩ = some (.pointer (some ⟨lb, 0, none⟩))
  n : w.cell? ⟨X + 1, 0, none⟩ = some (.int .i64 n)
  m : Slot w (X + 2) ms md
  k : w.cell? ⟨X + 4, 0, none⟩ = some (.map (some (X + 3)))
  mp : MapF Tryz.prog 3 w (X + 3) (fv F) (cnt F 256)
  hp : HeapAt w (X + 6) (X + 5) v nh R
  own : ∀ g, v.ownBlock = some g → X + 7 ≤ g
  few : nh ≤ 1 + 256 * cnt F 256
section
variable {w w' : World} {X lb : Nat} {n ms md : Int} {v v' : Value} {nh nh' : Nat} {R R' F : Int → Option (Int × Int)}
theorem DMem.below (D : DMem w X lb n ms md v nh R F) (hb : Below w.heap.size w w') : DMem w' X lb n ms md v nh R F :=
  ⟨(hb.cell (World.block_lt_of_cell? _ _ D.x)).trans D.x, (hb.cell (World.block_lt_of_cell? _ _ D.n)).trans D.n, D.m.below hb, (hb.cell (World.block_lt_of_cell? _ _ D.k)).trans D.k, D.mp.keep (F := fun _ => False) (Keep.of_below hb) id, D.hp.below hb, D.own, D.few⟩
theorem DMem.far (D : DMem w X lb n ms md v nh R F) : ∀ g, hb3 (X + 6) (X + 5) v g → X + 5 ≤ g := by
  rintro g (rfl | rfl | h)
  · omega
  · omega
  · have := D.own g h; omega
theorem DMem.heap (D : DMem w X lb n ms md v nh R F) (K : Keep (hb3 (X + 6) (X + 5) v) w w') (hp : HeapAt w' (X + 6) (X + 5) v' nh' R') (hown : ∀ g, v'.ownBlock = some g → X + 7 ≤ g) (hf : nh' ≤ 1 + 256 * cnt F 256) : DMem w' X lb n ms md v' nh' R' F := by
  have nf : ∀ g, g < X + 5 → ¬ hb3 (X + 6) (X + 5) v g := fun g hg h => by have := D.far g h; omega
  exact ⟨K.cellOf D.x (nf X (by omega)), K.cellOf D.n (nf (X + 1) (by omega)), D.m.keep K (nf (X + 2) (by omega)), K.cellOf D.k (nf (X + 4) (by omega)), D.mp.keep K (nf (X + 3) (by omega)), hp, hown, hf⟩
theorem DMem.known (D : DMem w X lb n ms md v nh R F) {a s d : Int} (h0 : 0 ≤ a) (h1 : a < 256) (hF : F a = none) (hm : MapF Tryz.prog 3 w' (X + 3) (putF (fv F) a (.agg #[.int .i64 s, .int .i64 d])) (if (fv F a).isSome then cnt F 256 else cnt F 256 + 1)) (ht : w.mapTurned w' (X + 3)) : DMem w' X lb n ms md v nh R (putH F a s d) := by
  have K := turned_keep ht
  have e : cnt (putH F a s d) 256 = cnt F 256 + 1 := cnt_put F a s d 256 h0 h1 hF
  rw [fv_put, fv_none hF] at hm
  have hown := D.own
  refine ⟨K.cellOf D.x (by show ¬ X = X + 3; omega), K.cellOf D.n (by show ¬ X + 1 = X + 3; omega), D.m.keep K (by omega), K.cellOf D.k (by show ¬ X + 4 = X + 3; omega), ?_, D.hp.keep K (by omega) (by omega) (fun g hg => by have := hown g hg; omega), D.own, ?_⟩
  · rw [e]; exact hm
  · have := D.few; rw [e]; omega
end
end Go.Proofs.YtmnpplkjhnoglaaGreatDoor
/-
  A search over levels' edges: package levels' 'distances'.
-/
namespace Go.Proofs.YtmnpplkjhnoglaaGreatDoor
open Go.RowKit

/-- a search under way, one popped (or none left) -/
structure DRun (w wr : World) (X lb : Nat) (st : LSt) (n a : Nat) (ms md : Int) (F : Int → Option (Int × Int)) (nv cv mv : Value) : Prop where
  ex : ∃ (Hh R : Int → Option (Int × Int)) (v : Value) (nh cb : Nat) (s d : Int), cv = .pointer (some ⟨cb, 0, none⟩) ∧ X + 7 ≤ cb ∧ v.ownBlock ≠ some cb ∧ Slot wr cb s d ∧ okC s d ∧ DMem wr X lb (n : Int) ms md v nh R F ∧ Dg (EdR st n) (a : Int) F Hh (fun _ _ => True) ∧
    ((mv = .bool false ∧ ∀ x, Hh x = none) ∨ ∃ c : Nat, mv = .bool true ∧ nv = .int .i64 (c : Int) ∧ Hh (c : Int) = some (s, d) ∧ (∀ {b t u}, Hh b = some (t, u) → val s d ≤ val t u) ∧ R = delH Hh (c : Int))
  sm : ∀ {x s d}, F x = some (s, d) → val s d ≤ val ms md
  bl : Below w.heap.size w wr

theorem DMem.other {w w' : World} {X lb C : Nat} {n ms md : Int} {v : Value} {nh : Nat} {R F : Int → Option (Int × Int)} (D : DMem w X lb n ms md v nh R F) (K : Keep (fun k => k = C) w w') (hC : X + 7 ≤ C) (hv : v.ownBlock ≠ some C) : DMem w' X lb n ms md v nh R F :=
  ⟨K.cellOf D.x (by show ¬ X = C; omega), K.cellOf D.n (by show ¬ X + 1 = C; omega), D.m.keep K (by omega), K.cellOf D.k (by show ¬ X + 4 = C; omega), D.mp.keep K (by omega), D.hp.keep K (by omega) (by omega) (fun g hg e => hv (by rw [hg, e])), D.own, D.few⟩
theorem keepTwo (w : World) (B : Nat) (x y : Value) : Keep (fun k => k = B) w ((w.setCell ⟨B, 0, none⟩ x).setCell ⟨B, 1, none⟩ y) :=
  ((Keep.refl (fun k => k = B) w).setCell (p := ⟨B, 0, none⟩) (fun _ => rfl) x).setCell (p := ⟨B, 1, none⟩) (fun _ => rfl) y

set_option maxHeartbeats 4000000 in
set_option maxRecDepth 1000000 in
theorem dist_levels {N lb vb eb top n a : Nat} {L : List Nat} {st : LSt} {f : Int → Option Value} {ms md : Int} (w : World) (V : LvAt w N lb vb eb top L st f) (O : Okl L 512 st) (ha : a ∈ L) (m1 : 0 ≤ ms) (m2 : ms ≤ 1024) (d1 : 0 ≤ md) (d2 : md ≤ 1024) :
    Calls Tryz.prog 140 #[.pointer (some ⟨lb, 0, none⟩), .int .i64 (a : Int), .int .i64 (n : Int), .agg #[.int .i64 ms, .int .i64 md]] w fun e w' => ∃ kb F, e = .returned (.map (some kb)) ∧ MapF Tryz.prog 3 w' kb (fv F) (cnt F 256) ∧ Dist st n a (val ms md) F ∧ (∀ {x s d}, F x = some (s, d) → okC s d) ∧ w.heap.size ≤ kb ∧ Below w.heap.size w w' := by
  have hmm := @run_makeMap Tryz.prog
  have haL := V.bd a ha
  have hwa := wf_small (a := (a : Int)) (by omega) (by omega)
  have okM : okC ms md := by unfold okC; omega
  have ok0 : okC 0 0 := by unfold okC; omega
  have hM0 : 0 ≤ val ms md := by unfold val; omega
  have hMb : val ms md ≤ val 1024 1024 := by unfold val; omega
  have HE : Hid (∀ {a b t u}, EdR st n a b t u → 0 ≤ val t u) := fun {a b t u} e => by
    obtain ⟨h1, h2, _⟩ := O.edge e
    unfold val; omega
  have HFin : Hid (∀ F Hh, Dg (EdR st n) (a : Int) F Hh (fun _ _ => True) → (∀ {b t u}, Hh b = some (t, u) → val ms md < val t u) → (∀ {x s d}, F x = some (s, d) → val s d ≤ val ms md) → Dist st n a (val ms md) F ∧ ∀ {x s d}, F x = some (s, d) → okC s d) := fun F Hh D hh sm =>
    ⟨fun b x y hxy => D.within hh hM0 HE.out hxy, fun {x s d} hx => by
      obtain ⟨h1, h2, _⟩ := O.way ha (D.sF hx)
      have := val_le h1 h2 (Int.le_trans (sm hx) hMb)
      unfold okC; omega⟩
  obtain ⟨W0, hW0⟩ : ∃ W0, W0 = (((((w.alloc (.cells #[.pointer (some ⟨lb, 0, none⟩)] 35)).alloc (.cells #[.int .i64 (n : Int)] 3)).alloc (.cells #[.int .i64 ms, .int .i64 md] 65)).alloc (.map #[] 0)).alloc (.cells #[.map (some (w.heap.size + 1 + 1 + 1))] 125)) := ⟨_, rfl⟩
  have hz0 : W0.heap.size = w.heap.size + 5 := by rw [hW0]; simp
  have BW : Below w.heap.size w W0 := by
    rw [hW0]
    exact (((((Below.refl _ _).alloc (Nat.le_refl _) _).alloc (by simp) _).alloc (by simp; omega) _).alloc (by simp; omega) _).alloc (by simp; omega) _
  have k0 : W0.cell? ⟨w.heap.size, 0, none⟩ = some (.pointer (some ⟨lb, 0, none⟩)) := by
    rw [hW0]
    exact Lib.cell?_alloc_some _ (Lib.cell?_alloc_some _ (Lib.cell?_alloc_some _ (Lib.cell?_alloc_some _ (World.cell?_alloc_at _ _ _ 0 rfl))))
  have k1 : W0.cell? ⟨w.heap.size + 1, 0, none⟩ = some (.int .i64 (n : Int)) := by
    rw [hW0]
    exact Lib.cell?_alloc_some _ (Lib.cell?_alloc_some _ (Lib.cell?_alloc_some _ (World.cell?_alloc_at _ _ _ 0 (by simp))))
  have k2 : Slot W0 (w.heap.size + 2) ms md := by
    have e2 : ((w.alloc (.cells #[.pointer (some ⟨lb, 0, none⟩)] 35)).alloc (.cells #[.int .i64 (n : Int)] 3)).heap.size = w.heap.size + 2 := by simp
    have q := Slot.new ((w.alloc (.cells #[.pointer (some ⟨lb, 0, none⟩)] 35)).alloc (.cells #[.int .i64 (n : Int)] 3)) ms md
    rw [e2] at q
    rw [hW0]
    exact (q.below ((Below.refl _ _).alloc (Nat.le_refl _) _)).below ((Below.refl _ _).alloc (Nat.le_refl _) _)
  have k3 : MapF Tryz.prog 3 W0 (w.heap.size + 3) (fv fun _ => none) (cnt (fun _ => none) 256) := by
    have e3 : (((w.alloc (.cells #[.pointer (some ⟨lb, 0, none⟩)] 35)).alloc (.cells #[.int .i64 (n : Int)] 3)).alloc (.cells #[.int .i64 ms, .int .i64 md] 65)).heap.size = w.heap.size + 3 := by simp
    have q := MapF.made (((w.alloc (.cells #[.pointer (some ⟨lb, 0, none⟩)] 35)).alloc (.cells #[.int .i64 (n : Int)] 3)).alloc (.cells #[.int .i64 ms, .int .i64 md] 65)) Tryz.prog 3
    rw [e3] at q
    rw [hW0, cnt_none]
    exact q.keep (F := fun _ => False) ((Keep.refl _ _).alloc _) id
  have k4 : W0.cell? ⟨w.heap.size + 4, 0, none⟩ = some (.map (some (w.heap.size + 3))) := by
    rw [hW0]
    exact World.cell?_alloc_at _ _ _ 0 (by simp)
  have hnew := new_any W0
  rw [hz0] at hnew
  go_enter Tryz.func140, Tryz.ntmps140
  go_wp2_with fail
  rw [← hW0]
  refine hnew.mono ?_
  rintro e w1 ⟨rfl, HA, hb1, hz1⟩
  have b1 : Below W0.heap.size W0 w1 := by rw [hz0]; exact hb1
  have B1 := BW.trans (b1.mono BW.size)
  have D1 : DMem w1 w.heap.size lb (n : Int) ms md (.slice none 0 0) 0 (fun _ => none) (fun _ => none) :=
    ⟨(b1.cell (World.block_lt_of_cell? _ _ k0)).trans k0, (b1.cell (World.block_lt_of_cell? _ _ k1)).trans k1, k2.below b1, (b1.cell (World.block_lt_of_cell? _ _ k4)).trans k4, k3.keep (F := fun _ => False) (Keep.of_below b1) id, HA, fun g hg => (by cases hg), by omega⟩
  have S1 : w.heap.size + 7 ≤ w1.heap.size := by omega
  clear hnew HA hb1 hz1 b1 BW k0 k1 k2 k3 k4 hz0
  simp only [Nat.add_assoc, Nat.reduceAdd]
  go_wp2_with fail
  refine (push_new (a : Int) 0 0 _ D1.hp rfl ok0 hwa (by omega)).mono ?_
  rintro e w2 ⟨rfl, ⟨v2, HB, hob⟩, K2⟩
  have D2 := D1.heap K2 HB (fun g hg => by
    rcases hob with h | ⟨g', h, hg'⟩
    · rw [h] at hg; cases hg
    · rw [h] at hg; cases hg; omega) (by omega)
  have B2 : Below w.heap.size w w2 := B1.trans (K2.to_below B1.size (fun k hk => by have := D1.far k hk; omega))
  have S2 : w.heap.size + 7 ≤ w2.heap.size := Nat.le_trans S1 K2.size
  clear D1 HB hob K2 B1
  go_wp2_with fail
  refine (pop_one _ D2.hp).mono ?_
  rintro e w3 ⟨c, s, d, rfl, hHa, hmin, ⟨v3, HC, ho3⟩, K3⟩
  have okc := (D2.hp.fits hHa).1
  have D3 := D2.heap K3 HC (fun g hg => D2.own g (by rw [← ho3]; exact hg)) (by omega)
  have B3 : Below w.heap.size w w3 := B2.trans (K3.to_below B2.size (fun k hk => by have := D2.far k hk; omega))
  have S3 : w.heap.size + 7 ≤ w3.heap.size := Nat.le_trans S2 K3.size
  have HST : Hid (DRun w (w3.alloc (.cells #[.int .i64 s, .int .i64 d] 65)) w.heap.size lb st n a ms md (fun _ => none) (.int .i64 c) (.pointer (some ⟨w3.heap.size, 0, none⟩)) (.bool true)) := by
    have b4 : Below w3.heap.size w3 (w3.alloc (.cells #[.int .i64 s, .int .i64 d] 65)) := (Below.refl _ _).alloc (Nat.le_refl _) _
    have DG := Dg.start (EdR st n) (a : Int)
    obtain ⟨_, _, m, hcm, _⟩ := O.way ha (DG.sH hHa)
    subst hcm
    refine ⟨⟨_, _, v3, _, w3.heap.size, s, d, rfl, S3, fun h => ?_, Slot.new w3 s d, okc, D3.below b4, DG, Or.inr ⟨m, rfl, rfl, hHa, fun {b t u} hb => ?_, rfl⟩⟩, fun h => (by cases h), B3.trans (b4.mono B3.size)⟩
    · have := (D3.hp.blocks).2.2 _ h; omega
    · have := hmin b t u hb
      unfold bef Item.v at this
      simp only at this
      omega
  clear D2 HC ho3 K3 B2 hHa hmin D3 B3
  go_wp2
  go_loopg [11, 12, 13] 257 (fun gk nv cv mv wr => ∃ F : Int → Option (Int × Int), gk = 257 - cnt F 256 ∧ DRun w wr w.heap.size lb st n a ms md F nv cv mv)
  case atStart => exact ⟨_, by rw [cnt_none], HST⟩
  case round =>
    clear HST
    obtain ⟨F, hgk, R⟩ := hrel
    have HG : Hid (gk = 257 - cnt F 256) := hgk
    clear hgk
    obtain ⟨Hh, R0, v, nh, cb, s, d, rfl, hcb, hvc, sl, okc, D, DG, hcase⟩ := R.ex
    have hB := R.bl
    have SMF : Hid (∀ {x s d}, F x = some (s, d) → val s d ≤ val ms md) := fun h => R.sm h
    clear R
    have q7 := D.m.c0
    have q8 := D.m.c1
    have qk := D.k
    have s0 := sl.c0
    have s1 := sl.c1
    rcases hcase with ⟨rfl, hno⟩ | ⟨c, rfl, rfl, hHc, hle, hR⟩
    · obtain ⟨hD1, hD2⟩ := HFin.out F Hh DG (fun h => by rw [hno] at h; cases h) SMF.out
      have HD1 : Hid _ := hD1
      have HD2 : Hid (∀ {x s d}, F x = some (s, d) → okC s d) := hD2
      have mp := D.mp
      clear hD1 hD2 hno DG
      go_wp2
      go_ret
      exact ⟨_, F, rfl, mp, HD1.out, HD2.out, by omega, hB⟩
    · have hlt := less_v (r := ltB ms md s d) rfl wr okM okc
      cases hl : ltB ms md s d with
      | true =>
        have hv : val ms md < val s d := (ltB_val okM okc).1 hl
        obtain ⟨hD1, hD2⟩ := HFin.out F Hh DG (fun h => Int.lt_of_lt_of_le hv (hle h)) SMF.out
        have HD1 : Hid (Dist st n a (val ms md) F) := hD1
        have HD2 : Hid (∀ {x s d}, F x = some (s, d) → okC s d) := hD2
        rw [hl] at hlt
        clear hD1 hD2 DG hHc hle hR hv hl
        go_wp2_with fail
        refine hlt.mono ?_
        rintro e w5 ⟨rfl, hb5⟩
        have D5 := D.below hb5
        have qk5 := D5.k
        have mp5 := D5.mp
        have B5 := hB.trans (hb5.mono hB.size)
        clear hlt D hb5 D5 hB
        go_wp2
        go_ret
        exact ⟨_, F, rfl, mp5, HD1.out, HD2.out, by omega, B5⟩
      | false =>
        have hv : val s d ≤ val ms md := by
          have h1 : ¬ val ms md < val s d := fun h => by rw [(ltB_val okM okc).2 h] at hl; cases hl
          omega
        rw [hl] at hlt
        clear hl
        go_wp2_with fail
        refine hlt.mono ?_
        rintro e w5 ⟨rfl, hb5⟩
        have hnh : nh ≤ 1 + 256 * cnt F 256 := D.few
        have D5 := D.below hb5
        have sl5 := sl.below hb5
        have B5 := hB.trans (hb5.mono hB.size)
        clear hlt D hb5 hB sl q7 q8 qk s0 s1
        have qk := D5.k
        have s0 := sl5.c0
        have s1 := sl5.c1
        obtain ⟨DG2, hFc, hmx⟩ := DG.pop hHc hle
        obtain ⟨n1, n2, c', hcc, hcL⟩ := O.way ha (DG.sH hHc)
        have hcc : c = c' := by omega
        subst hcc
        have hcb2 := V.bd c hcL
        have hwc := wf_small (a := (c : Int)) (by omega) (by omega)
        have hcnt := cnt_le F 256
        obtain ⟨w6, hrun6, hm6, ht6⟩ := D5.mp.store law3 Tryz.underK (by unfold maxLen; omega) hwc (.agg #[.int .i64 s, .int .i64 d])
        have D6 := D5.known (by omega) (by omega) hFc hm6 ht6
        have K6 := turned_keep ht6
        have sl6 := sl5.keep K6 (by omega)
        have B6 : Below w.heap.size w w6 := B5.trans (K6.to_below B5.size (fun k e => by omega))
        have V6 := V.below B6
        obtain ⟨A, cap, hl6, row6, _⟩ := V6.edges hcL
        have hfind := find_ahead (kb := w.heap.size + 4) (nb := w.heap.size + 1) (xb := w.heap.size) (cap := cap) (p := fun e => !(putH F c s d (e.to : Int)).isSome && (decide (e.to ≠ n) && (st.lev e.to == 0))) w6 row6 (O.len V.bd c) (fun w' e hB' he =>
          clo_ahead w' (V6.below hB') ((hB'.cell (World.block_lt_of_cell? _ _ D6.x)).trans D6.x) ((hB'.cell (World.block_lt_of_cell? _ _ D6.k)).trans D6.k) ((hB'.cell (World.block_lt_of_cell? _ _ D6.n)).trans D6.n) (D6.mp.keep (F := fun _ => False) (Keep.of_below hB') id) e (O.cor.ends he).2)
        have HL : Hid (∀ e, e ∈ (st.es c).filter (fun e => !(putH F c s d (e.to : Int)).isSome && (decide (e.to ≠ n) && (st.lev e.to == 0))) ↔ e ∈ st.es c ∧ putH F c s d (e.to : Int) = none ∧ e.to ≠ n ∧ st.lev e.to = 0) := fun e => by
          rw [List.mem_filter]
          simp
        have hLL : ((st.es c).filter (fun e => !(putH F c s d (e.to : Int)).isSome && (decide (e.to ≠ n) && (st.lev e.to == 0)))).length ≤ 256 := Nat.le_trans (List.length_filter_le _ _) (O.len V.bd c)
        have c2 := V6.c2
        have x6 := D6.x
        have hFc' : putH F c s d c = some (s, d) := putH_at _ _ _ _
        have hcnt' : cnt (putH F c s d) 256 = cnt F 256 + 1 := cnt_put F _ s d 256 (by omega) (by omega) hFc
        have SM' : Hid (∀ {x s' d'}, putH F c s d x = some (s', d') → val s' d' ≤ val ms md) := fun h => Int.le_trans (hmx h) hv
        have HMX : Hid (∀ {x t u}, putH F c s d x = some (t, u) → val t u ≤ val s d) := fun h => hmx h
        have hvl := val_le n1 n2 (Int.le_trans hv hMb)
        have HDG : Hid (Dg (EdR st n) (a : Int) (putH F c s d) R0 (fun x _ => x ≠ c)) := by rw [hR]; exact DG2
        clear hm6 ht6 K6 D5 sl5 B5 DG DG2 hle hHc hR SMF hmx hFc
        generalize (st.es c).filter (fun e => !(putH F c s d (e.to : Int)).isSome && (decide (e.to ≠ n) && (st.lev e.to == 0))) = l at *
        generalize putH F c s d = F' at *
        go_wp2_with fail
        refine hfind.mono ?_
        rintro e w7 ⟨v7, rfl, hown7, hb7⟩
        obtain ⟨A7, cap7, rfl, row7, hA7⟩ := rowL_of hown7
        have HA7 : Hid (∀ b o, A7 = some ⟨b, o, none⟩ → w6.heap.size ≤ b ∧ b < w7.heap.size) := fun b o h => by
          rcases hA7 with ⟨h1, _⟩ | ⟨g, h1, _, h2, h3⟩
          · rw [h1] at h; cases h
          · rw [h1] at h; cases h; exact ⟨h2, h3⟩
        have D7 := D6.below hb7
        have sl7 := sl6.below hb7
        have B7 := B6.trans (hb7.mono B6.size)
        have hS7 : w.heap.size + 7 ≤ w6.heap.size := by have := D6.hp.blocks.1; omega
        have hv7 : ∀ g, v.ownBlock = some g → g < w6.heap.size := D6.hp.blocks.2.2
        have hS67 := hb7.size
        clear hfind hown7 hb7 D6 sl6 B6 V6 hl6 row6 hrun6 c2 x6 hA7 qk s0 s1
        go_wp2
        go_loopw [55] (fun iv wr => ∃ (k : Nat) (v' : Value) (nh' : Nat) (H' : Int → Option (Int × Int)), k ≤ l.length ∧ iv = .int .i64 k ∧ DMem wr w.heap.size lb (n : Int) ms md v' nh' H' F' ∧ nh' ≤ nh + k ∧ Slot wr cb s d ∧ v'.ownBlock ≠ some cb ∧ Hid (Dg (EdR st n) (a : Int) F' H' (fun x y => x ≠ c ∨ ∃ e ∈ l.take k, y = (e.to : Int))) ∧ RowL wr A7 l ∧ Hid (∀ g, v'.ownBlock = some g → g < w6.heap.size ∨ w7.heap.size ≤ g) ∧ w7.heap.size ≤ wr.heap.size ∧ Below w.heap.size w wr)
          (fun i _ => l.length - (intOf i).toNat)
        case atStart => exact ⟨0, v, nh, R0, Nat.zero_le _, rfl, D7, by omega, sl7, hvc, HDG.out.pass (s := s) (d := d) HMX.out hFc' (fun _ h => Or.inl (by rcases h with h | ⟨e, he, _⟩; exact h; simp at he)) (fun hx _ => hx), row7, fun g hg => Or.inl (hv7 g hg), Nat.le_refl _, B7⟩
        case round =>
          clear D7 sl7 row7 B7 HDG
          obtain ⟨k, v', nh', H', hk, rfl, D7, hnh', sl7, hvc7, HDG, row7, hvo, hsz, B7⟩ := hrel
          by_cases hlt : k < l.length
          · obtain ⟨e, he⟩ : ∃ e, l[k]? = some e := ⟨l[k], by simp [hlt]⟩
            obtain ⟨b, o, rfl, q1, q2, q3, q4⟩ := row7 k e he
            obtain ⟨hb6, hb7⟩ := HA7.out b o rfl
            obtain ⟨hee, hFe, hen, hel⟩ := (HL.out e).1 (List.mem_of_getElem? he)
            obtain ⟨e1, e2, e3, e4⟩ := O.bd hee
            have heL := V.bd _ (O.cor.ends hee).2
            have hwe := wf_small (a := (e.to : Int)) (by omega) (by omega)
            have i1 : (0 : Int) ≤ (k : Int) := by omega
            have i2 : (k : Int) < (l.length : Int) := by omega
            have HTK : Hid (∀ y : Int, (∃ e' ∈ l.take (k + 1), y = (e'.to : Int)) → (∃ e' ∈ l.take k, y = (e'.to : Int)) ∨ y = (e.to : Int)) := fun y ⟨e', h1, h2⟩ => by
              rw [List.take_add_one, he, List.mem_append] at h1
              rcases h1 with h1 | h1
              · exact Or.inl ⟨e', h1, h2⟩
              · simp at h1; rw [h1] at h2; exact Or.inr h2
            have HED : Hid (EdR st n (c : Int) (e.to : Int) e.s e.d) := ⟨e, by simpa using hee, rfl, rfl, rfl, hel, hen⟩
            have HPU : Hid (∀ H2, Pushed H' (e.to : Int) (s + e.s) (d + e.d) H2 → Dg (EdR st n) (a : Int) F' H2 (fun x y => x ≠ c ∨ ∃ e ∈ l.take (k + 1), y = (e.to : Int))) := fun H2 hp => by
              have h1 := HDG.out.push hFc' HMX.out HED.out (by unfold val; omega) hFe hp (fun h => O.one HED.out h)
              refine h1.pass (s := s) (d := d) HMX.out hFc' (fun {y t u} _ h => Or.inl ?_) (fun {x y} hx _ => Or.inl (Or.inl hx))
              rcases h with h | h
              · exact absurd rfl h
              · rcases HTK.out y h with h | h
                · exact Or.inl (Or.inr h)
                · exact Or.inr ⟨rfl, h⟩
            have okE : okC e.s e.d := by unfold okC; omega
            have okS : okC (s + e.s) (d + e.d) := by unfold okC; omega
            have hE : w.heap.size + 7 ≤ wr.heap.size := by omega
            have b8 : Below wr.heap.size wr (wr.alloc (.cells #[.int .i64 (e.to : Int), .int .i64 e.s, .int .i64 e.d, .int .i64 e.mid] 67)) := (Below.refl _ _).alloc (Nat.le_refl _) _
            have y0 : (wr.alloc (.cells #[.int .i64 (e.to : Int), .int .i64 e.s, .int .i64 e.d, .int .i64 e.mid] 67)).cell? ⟨wr.heap.size, 0, none⟩ = some (.int .i64 (e.to : Int)) := World.cell?_alloc_at _ _ _ 0 rfl
            have y1 : (wr.alloc (.cells #[.int .i64 (e.to : Int), .int .i64 e.s, .int .i64 e.d, .int .i64 e.mid] 67)).cell? ⟨wr.heap.size, 1, none⟩ = some (.int .i64 e.s) := World.cell?_alloc_at _ _ _ 1 rfl
            have y2 : (wr.alloc (.cells #[.int .i64 (e.to : Int), .int .i64 e.s, .int .i64 e.d, .int .i64 e.mid] 67)).cell? ⟨wr.heap.size, 2, none⟩ = some (.int .i64 e.d) := World.cell?_alloc_at _ _ _ 2 rfl
            have D8 := D7.below b8
            have sl8 := sl7.below b8
            have row8 := row7.below b8
            have B8 := B7.trans (b8.mono B7.size)
            have hz8 : wr.heap.size < (wr.alloc (.cells #[.int .i64 (e.to : Int), .int .i64 e.s, .int .i64 e.d, .int .i64 e.mid] 67)).heap.size := by simp
            have hvE : ∀ g, v'.ownBlock = some g → g < wr.heap.size := D7.hp.blocks.2.2
            clear D7 sl7 row7 B7 b8 HTK HDG hee hel hen he hFe HED
            generalize (e.to : Int) = et at *
            generalize e.s = es at *
            generalize e.d = ed at *
            generalize e.mid = em at *
            go_wp2_with fail
            generalize wr.alloc (.cells #[.int .i64 et, .int .i64 es, .int .i64 ed, .int .i64 em] 67) = w8 at *
            have b9 : Below w8.heap.size w8 w8.drew := (Below.refl _ _).drew
            have D9 := D8.below b9
            have sl9 := sl8.below b9
            have row9 := row8.below b9
            have B9 := B8.trans (b9.mono B8.size)
            have hz9 : wr.heap.size < w8.drew.heap.size := hz8
            have t0 : w8.drew.cell? ⟨wr.heap.size, 0, none⟩ = some (.int .i64 et) := y0
            have t1 : w8.drew.cell? ⟨wr.heap.size, 1, none⟩ = some (.int .i64 es) := y1
            have t2 : w8.drew.cell? ⟨wr.heap.size, 2, none⟩ = some (.int .i64 ed) := y2
            have t3 := sl9.c0
            have t4 := sl9.c1
            have hadd := add_any s d es ed w8.drew okc okE
            clear D8 sl8 row8 B8 b9 y0 y1 y2 q1 q2 q3 q4 hz8
            generalize wr.heap.size = E at *
            go_region_held3 (fun w' => w'.cell? ⟨E, 0, none⟩ = some (.int .i64 et) ∧ w'.cell? ⟨E, 1, none⟩ = some (.int .i64 es) ∧ w'.cell? ⟨E, 2, none⟩ = some (.int .i64 ed) ∧ w'.cell? ⟨cb, 0, none⟩ = some (.int .i64 s) ∧ w'.cell? ⟨cb, 1, none⟩ = some (.int .i64 d)) (first | exact ⟨t0, t1, t2, t3, t4⟩ | exact ⟨u0, u1, u2, u3, u4⟩ | exact ⟨x0, x1, x2, x3, x4⟩)
              (first
                | (go_at_call 106; refine hadd.mono ?_; rintro r w10 ⟨rfl, hb10⟩; have u0 := (hb10.cell (World.block_lt_of_cell? _ _ t0)).trans t0; have u1 := (hb10.cell (World.block_lt_of_cell? _ _ t1)).trans t1; have u2 := (hb10.cell (World.block_lt_of_cell? _ _ t2)).trans t2; have u3 := (hb10.cell (World.block_lt_of_cell? _ _ t3)).trans t3; have u4 := (hb10.cell (World.block_lt_of_cell? _ _ t4)).trans t4; have D10 := D9.below hb10; have sl10 := sl9.below hb10; have row10 := row9.below hb10; have B10 := B9.trans (hb10.mono B9.size); have hz10 := Nat.lt_of_lt_of_le hz9 hb10.size; have hpush := push_all et (s + es) (d + ed) w10 D10.hp okS hwe (by omega))
                | (go_at_call 129; refine hpush.mono ?_; rintro r w11 ⟨rfl, ⟨v11, nh11, HA11, hn11, ho11⟩, K11⟩; have nE : ¬ hb3 (w.heap.size + 6) (w.heap.size + 5) v' E := (by rintro (h | h | h); omega; omega; have := hvE _ h; omega); have nC : ¬ hb3 (w.heap.size + 6) (w.heap.size + 5) v' cb := (by rintro (h | h | h); omega; omega; exact hvc7 h); have x0 := K11.cellOf u0 nE; have x1 := K11.cellOf u1 nE; have x2 := K11.cellOf u2 nE; have x3 := K11.cellOf u3 nC; have x4 := K11.cellOf u4 nC))
            have nB : ¬ hb3 (w.heap.size + 6) (w.heap.size + 5) v' b := by
              rintro (h | h | h)
              · omega
              · omega
              · rcases hvo.out _ h with h | h <;> omega
            have D11 := D10.heap K11 HA11 (fun g hg => by
              rcases ho11 g hg with h | h
              · exact D10.own g h
              · omega) (by omega)
            have sl11 := sl10.keep K11 nC
            have row11 := row10.keep K11 (fun b' o' h => by cases h; exact nB)
            have B11 : Below w.heap.size w w11 := B10.trans (K11.to_below B10.size (fun k hk => by have := D10.far k hk; omega))
            have HDN := HPU.out _ (pushed H' et (s + es) (d + ed))
            have HDN : Hid (Dg (EdR st n) (a : Int) F' (pushH H' et (s + es) (d + ed)) (fun x y => x ≠ c ∨ ∃ e ∈ l.take (k + 1), y = (e.to : Int))) := HDN
            have hz11 := Nat.lt_of_lt_of_le hz10 K11.size
            have hv11 : v11.ownBlock ≠ some cb := fun h => by
              rcases ho11 cb h with h | h
              · exact hvc7 h
              · have := World.block_lt_of_cell? _ _ u3
                simp only at this
                omega
            have HVO : Hid (∀ g, v11.ownBlock = some g → g < w6.heap.size ∨ w7.heap.size ≤ g) := fun g hg => by
              rcases ho11 g hg with h | h
              · exact hvo.out g h
              · right; omega
            clear hadd hpush D10 sl10 row10 B10 K11 HA11 ho11 D9 sl9 row9 B9 t0 t1 t2 t3 t4 u0 u1 u2 u3 u4 x0 x1 x2 x3 x4 HPU hb10
            go_wp2
            go_roundw
            case rel => exact ⟨k + 1, v11, nh11, _, by omega, by go_num, D11, by omega, sl11, hv11, HDN.out, row11, HVO.out, by omega, B11⟩
            case measure => simp [intOf]; omega
          · have e : k = l.length := by omega
            subst e
            have HDA : Hid (Dg (EdR st n) (a : Int) F' H' (fun _ _ => True)) := by
              refine HDG.out.pass (s := s) (d := d) HMX.out hFc' (fun {y t u} he _ => ?_) (fun {x y} hx _ => Or.inl hx)
              obtain ⟨e', h1, rfl, rfl, rfl, h2, h3⟩ := he
              have h1 : e' ∈ st.es c := by simpa using h1
              cases hF : F' (e'.to : Int) with
              | some q =>
                right
                obtain ⟨b1, b2, _⟩ := O.bd h1
                exact ⟨by simp, by unfold val; omega⟩
              | none => exact Or.inl (Or.inr ⟨e', by rw [List.take_length]; exact (HL.out e').2 ⟨h1, hF, h3, h2⟩, rfl⟩)
            have b8 : Below wr.heap.size wr (wr.alloc (.cells #[.int .i64 s, .int .i64 d] 65)) := (Below.refl _ _).alloc (Nat.le_refl _) _
            have D8 := D7.below b8
            have sl8 := Slot.new wr s d
            have B8 := B7.trans (b8.mono B7.size)
            have s0 := sl7.c0
            have s1 := sl7.c1
            have hvE : ∀ g, v'.ownBlock = some g → g < wr.heap.size := D7.hp.blocks.2.2
            have hX : w.heap.size + 7 ≤ wr.heap.size := by omega
            clear HDG b8 row7 D7 B7 hvo
            cases nh' with
            | zero =>
              have hpop := pop_none _ D8.hp
              have hH0 : ∀ x, H' x = none := fun x => D8.hp.empty x
              go_wp2_with fail
              refine hpop.mono ?_
              rintro r w9 ⟨rfl, hb9⟩
              have D9 := D8.below hb9
              have sl9 := sl8.below hb9
              have B9 := B8.trans (hb9.mono B8.size)
              clear hpop D8 sl8 B8 hb9 sl7 s0 s1
              generalize wr.heap.size = C2 at *
              have z0 := sl9.z0
              have z1 := sl9.z1
              have c0 := sl9.c0
              have c1 := sl9.c1
              go_wp2
              go_roundg (257 - cnt F' 256)
              case measure => have := HG.out; omega
              case rel =>
                refine ⟨F', rfl, ⟨⟨H', H', v', 0, C2, 0, 0, rfl, by omega, fun h => ?_, sl9.set 0 0, ok0, D9.other (keepTwo _ _ _ _) (by omega) (fun h => ?_), HDA.out, Or.inl ⟨rfl, hH0⟩⟩, SM'.out, B9.trans ((keepTwo _ _ _ _).to_below B9.size (fun k e => by omega))⟩⟩
                · have := hvE _ h; omega
                · have := hvE _ h; omega
            | succ m =>
              have hpop := pop_one _ D8.hp
              go_wp2_with fail
              refine hpop.mono ?_
              rintro r w9 ⟨c9, s9, d9, rfl, hHa, hmin, ⟨v9, HC, ho9⟩, K9⟩
              have okc9 := (D8.hp.fits hHa).1
              have nC : ¬ hb3 (w.heap.size + 6) (w.heap.size + 5) v' wr.heap.size := by
                rintro (h | h | h)
                · omega
                · omega
                · have := hvE _ h; omega
              have D9 := D8.heap K9 HC (fun g hg => D8.own g (by rw [← ho9]; exact hg)) (by omega)
              have sl9 := sl8.keep K9 nC
              have B9 : Below w.heap.size w w9 := B8.trans (K9.to_below B8.size (fun k hk => by have := D8.far k hk; omega))
              have HW : Hid (∃ m9 : Nat, c9 = (m9 : Int)) := by
                obtain ⟨_, _, m9, h9, _⟩ := O.way ha (HDA.out.sH hHa)
                exact ⟨m9, h9⟩
              have HMI : Hid (∀ {b t u}, H' b = some (t, u) → val s9 d9 ≤ val t u) := fun {b t u} hb => by
                have := hmin b t u hb
                unfold bef Item.v at this
                simp only at this
                omega
              have HHA : Hid (H' c9 = some (s9, d9)) := hHa
              have HV9 : Hid (∀ g, v9.ownBlock = some g → g < wr.heap.size) := fun g hg => hvE g (by rw [← ho9]; exact hg)
              clear hpop D8 sl8 B8 sl7 s0 s1 hmin hHa ho9 K9 HC nC
              generalize wr.heap.size = C2 at *
              have z0 := sl9.z0
              have z1 := sl9.z1
              have c0 := sl9.c0
              have c1 := sl9.c1
              go_wp2
              go_roundg (257 - cnt F' 256)
              case measure => have := HG.out; omega
              case rel =>
                obtain ⟨m9, rfl⟩ := HW.out
                refine ⟨F', rfl, ⟨⟨H', _, v9, m, C2, s9, d9, rfl, by omega, fun h => ?_, sl9.set s9 d9, okc9, D9.other (keepTwo _ _ _ _) (by omega) (fun h => ?_), HDA.out, Or.inr ⟨m9, rfl, rfl, HHA.out, HMI.out, rfl⟩⟩, SM'.out, B9.trans ((keepTwo _ _ _ _).to_below B9.size (fun k e => by omega))⟩⟩
                · have := HV9.out _ h; omega
                · have := HV9.out _ h; omega
end Go.Proofs.YtmnpplkjhnoglaaGreatDoor
/-
  The links that a corner would leave behind: package levels' 'greatest' and 'needed'.
-/
namespace Go.Proofs.YtmnpplkjhnoglaaGreatDoor
open Go.RowKit

set_option maxHeartbeats 2000000 in
set_option maxRecDepth 1000000 in
theorem greatest_any {cap : Nat} {A : Option Addr} {l : List LE} (w : World) (hrow : RowL w A l) (hl : l.length ≤ 256) (hb : ∀ e ∈ l, 0 ≤ e.s ∧ 0 ≤ e.d ∧ e.s ≤ 512 ∧ e.d ≤ 512) :
    Calls Tryz.prog 141 #[.slice A l.length cap] w fun e w' => ∃ gs gd, e = .returned (.agg #[.int .i64 gs, .int .i64 gd]) ∧ (0 ≤ gs ∧ 0 ≤ gd ∧ gs ≤ 512 ∧ gd ≤ 512) ∧ (∀ e ∈ l, val e.s e.d ≤ val gs gd) ∧ Below w.heap.size w w' := by
  have ok0 : okC 0 0 := by unfold okC; omega
  have B0 : Below w.heap.size w ((w.alloc (.cells #[.int .i64 0, .int .i64 0] 65)).alloc (.cells #[.int .i64 0, .int .i64 0] 65)) := ((Below.refl _ _).alloc (Nat.le_refl _) _).alloc (by simp) _
  have r0 : Slot ((w.alloc (.cells #[.int .i64 0, .int .i64 0] 65)).alloc (.cells #[.int .i64 0, .int .i64 0] 65)) w.heap.size 0 0 := (Slot.new w 0 0).below ((Below.refl _ _).alloc (Nat.le_refl _) _)
  have g0 : Slot ((w.alloc (.cells #[.int .i64 0, .int .i64 0] 65)).alloc (.cells #[.int .i64 0, .int .i64 0] 65)) (w.heap.size + 1) 0 0 := by
    have q := Slot.new (w.alloc (.cells #[.int .i64 0, .int .i64 0] 65)) 0 0
    have e : (w.alloc (.cells #[.int .i64 0, .int .i64 0] 65)).heap.size = w.heap.size + 1 := by simp
    rw [e] at q
    exact q
  have HB : Hid (∀ e ∈ l, 0 ≤ e.s ∧ 0 ≤ e.d ∧ e.s ≤ 512 ∧ e.d ≤ 512) := hb
  clear hb
  go_enter Tryz.func141, Tryz.ntmps141
  go_wp2
  go_loopw [8] (fun iv wr => ∃ (k : Nat) (gs gd : Int), k ≤ l.length ∧ iv = .int .i64 k ∧ Slot wr w.heap.size 0 0 ∧ Slot wr (w.heap.size + 1) gs gd ∧ Hid (0 ≤ gs ∧ 0 ≤ gd ∧ gs ≤ 512 ∧ gd ≤ 512) ∧ Hid (∀ e ∈ l.take k, val e.s e.d ≤ val gs gd) ∧ w.heap.size + 2 ≤ wr.heap.size ∧ Below w.heap.size w wr)
    (fun i _ => l.length - (intOf i).toNat)
  case atStart => exact ⟨0, 0, 0, Nat.zero_le _, rfl, r0, g0, by unfold Hid; decide, fun e he => by simp at he, by simp, B0⟩
  case round =>
    clear r0 g0 B0
    obtain ⟨k, gs, gd, hk, rfl, r0, g0, HG, HM, hsz, hB⟩ := hrel
    have g1 := g0.c0
    have g2 := g0.c1
    by_cases hlt : k < l.length
    · obtain ⟨e, he⟩ : ∃ e, l[k]? = some e := ⟨l[k], by simp [hlt]⟩
      obtain ⟨b, o, rfl, q1, q2, q3, q4⟩ := (hrow.below hB) k e he
      obtain ⟨e1, e2, e3, e4⟩ := HB.out e (List.mem_of_getElem? he)
      obtain ⟨f1, f2, f3, f4⟩ := HG.out
      have okE : okC e.s e.d := by unfold okC; omega
      have okG : okC gs gd := by unfold okC; omega
      have i1 : (0 : Int) ≤ (k : Int) := by omega
      have i2 : (k : Int) < (l.length : Int) := by omega
      have HT : Hid (∀ x, x ∈ l.take (k + 1) → x ∈ l.take k ∨ x = e) := fun x hx => by
        rw [List.take_add_one, he, List.mem_append] at hx
        simpa using hx
      have b1 : Below wr.heap.size wr (wr.alloc (.cells #[.int .i64 (e.to : Int), .int .i64 e.s, .int .i64 e.d, .int .i64 e.mid] 67)) := (Below.refl _ _).alloc (Nat.le_refl _) _
      have B1 := hB.trans (b1.mono hB.size)
      have r1 := r0.below b1
      have gg1 := g0.below b1
      have y1 : (wr.alloc (.cells #[.int .i64 (e.to : Int), .int .i64 e.s, .int .i64 e.d, .int .i64 e.mid] 67)).cell? ⟨wr.heap.size, 1, none⟩ = some (.int .i64 e.s) := World.cell?_alloc_at _ _ _ 1 rfl
      have y2 : (wr.alloc (.cells #[.int .i64 (e.to : Int), .int .i64 e.s, .int .i64 e.d, .int .i64 e.mid] 67)).cell? ⟨wr.heap.size, 2, none⟩ = some (.int .i64 e.d) := World.cell?_alloc_at _ _ _ 2 rfl
      have h1 := gg1.c0
      have h2 := gg1.c1
      have hlt2 := less_v (r := ltB gs gd e.s e.d) rfl (wr.alloc (.cells #[.int .i64 (e.to : Int), .int .i64 e.s, .int .i64 e.d, .int .i64 e.mid] 67)) okG okE
      have hs1 : w.heap.size + 2 ≤ (wr.alloc (.cells #[.int .i64 (e.to : Int), .int .i64 e.s, .int .i64 e.d, .int .i64 e.mid] 67)).heap.size := by simp; omega
      have HMn : Hid (val e.s e.d ≤ val gs gd → ∀ x ∈ l.take (k + 1), val x.s x.d ≤ val gs gd) := fun h x hx => by
        rcases HT.out x hx with h1 | h1
        · exact HM.out x h1
        · rw [h1]; exact h
      have HMy : Hid (val gs gd < val e.s e.d → ∀ x ∈ l.take (k + 1), val x.s x.d ≤ val e.s e.d) := fun h x hx => by
        rcases HT.out x hx with h1 | h1
        · have := HM.out x h1; omega
        · rw [h1]; exact Int.le_refl _
      clear he b1 r0 g0 hB
      generalize (e.to : Int) = et at *
      generalize e.s = es at *
      generalize e.d = ed at *
      generalize e.mid = em at *
      cases hl2 : ltB gs gd es ed with
      | true =>
        have hv := HMy.out ((ltB_val okG okE).1 hl2)
        have HV : Hid (∀ x ∈ l.take (k + 1), val x.s x.d ≤ val es ed) := hv
        rw [hl2] at hlt2
        clear hv hl2 HMy HMn HM HT
        go_wp2_with fail
        generalize wr.alloc (.cells #[.int .i64 et, .int .i64 es, .int .i64 ed, .int .i64 em] 67) = w1 at *
        refine hlt2.mono ?_
        rintro r w2 ⟨rfl, hb2⟩
        have B2 := B1.trans (hb2.mono B1.size)
        have r2 := r1.below hb2
        have gg2 := gg1.below hb2
        have z1 := (hb2.cell (World.block_lt_of_cell? _ _ y1)).trans y1
        have z2 := (hb2.cell (World.block_lt_of_cell? _ _ y2)).trans y2
        have hs2 := Nat.le_trans hs1 hb2.size
        have f0 := gg2.z0
        have f1' := gg2.z1
        have c0 := gg2.c0
        have c1 := gg2.c1
        clear hlt2 hb2 B1 r1 gg1 y1 y2 h1 h2 g1 g2 q1 q2 q3 q4
        go_wp2
        go_roundw
        case rel => exact ⟨k + 1, es, ed, by omega, by go_num, r2.keep (keepTwo _ _ _ _) (by omega), gg2.set es ed, by unfold Hid; exact ⟨e1, e2, e3, e4⟩, HV.out, by simpa using hs2, B2.trans ((keepTwo _ _ _ _).to_below B2.size (fun k e => by omega))⟩
        case measure => simp [intOf]; omega
      | false =>
        have hv := HMn.out (by
          have : ¬ val gs gd < val es ed := fun h => by rw [(ltB_val okG okE).2 h] at hl2; cases hl2
          omega)
        have HV : Hid (∀ x ∈ l.take (k + 1), val x.s x.d ≤ val gs gd) := hv
        rw [hl2] at hlt2
        clear hv hl2 HMy HMn HM HT
        go_wp2_with fail
        generalize wr.alloc (.cells #[.int .i64 et, .int .i64 es, .int .i64 ed, .int .i64 em] 67) = w1 at *
        refine hlt2.mono ?_
        rintro r w2 ⟨rfl, hb2⟩
        have B2 := B1.trans (hb2.mono B1.size)
        have r2 := r1.below hb2
        have gg2 := gg1.below hb2
        have hs2 := Nat.le_trans hs1 hb2.size
        clear hlt2 hb2 B1 r1 gg1 y1 y2 h1 h2 g1 g2 q1 q2 q3 q4
        go_wp2
        go_roundw
        case rel => exact ⟨k + 1, gs, gd, by omega, by go_num, r2, gg2, HG.out, HV.out, hs2, B2⟩
        case measure => simp [intOf]; omega
    · have e : k = l.length := by omega
      subst e
      have HM2 : Hid (∀ e ∈ l, val e.s e.d ≤ val gs gd) := fun e he => HM.out e (by rw [List.take_length]; exact he)
      have c0 := r0.c0
      have c1 := r0.c1
      have z0 := r0.z0
      have z1 := r0.z1
      clear HM
      go_wp2
      have q := setTwo wr w.heap.size gs gd c0 c1
      have hd := q.1
      have ht := q.2
      refine bodyPost_ret (v := .agg #[.int .i64 gs, .int .i64 gd]) (by simp [results, Tryz.results141, go_sem, hd, ht]) rfl ⟨gs, gd, rfl, HG.out, HM2.out, ?_⟩
      exact hB.trans ((keepTwo _ _ _ _).to_below hB.size (fun k e => by omega))

/-- what one end needs of those behind it -/
def rowM (p : LE → LE → Bool) (n : Nat) (a : LE) (l : List LE) : List (Nat × LE) := (l.filter (p a)).map (fun b => (a.to, ⟨b.to, a.s + b.s, a.d + b.d, (n : Int)⟩))
def mTo (p : LE → LE → Bool) (n : Nat) : List LE → Nat → List (Nat × LE)
  | [], _ => []
  | _ :: _, 0 => []
  | a :: l, i + 1 => rowM p n a l ++ mTo p n l i
theorem mTo_zero (p : LE → LE → Bool) (n : Nat) (l : List LE) : mTo p n l 0 = [] := by
  cases l <;> rfl
theorem mTo_step {p : LE → LE → Bool} {n : Nat} : ∀ {l : List LE} {i : Nat} {a : LE}, l[i]? = some a → mTo p n l (i + 1) = mTo p n l i ++ rowM p n a (l.drop (i + 1))
  | [], i, a, h => by simp at h
  | x :: l, 0, a, h => by
    simp at h; subst h
    show rowM p n x l ++ mTo p n l 0 = [] ++ rowM p n x l
    rw [mTo_zero, List.append_nil, List.nil_append]
  | x :: l, i + 1, a, h => by
    show rowM p n x l ++ mTo p n l (i + 1) = (rowM p n x l ++ mTo p n l i) ++ rowM p n a (l.drop (i + 1))
    rw [mTo_step (l := l) (i := i) (a := a) (by simpa using h), List.append_assoc]
theorem mTo_all (p : LE → LE → Bool) (n : Nat) : ∀ l : List LE, mTo p n l l.length = moreF p n l
  | [] => rfl
  | a :: l => by
    show rowM p n a l ++ mTo p n l l.length = _
    rw [mTo_all p n l]
    rfl
theorem rowM_no {p : LE → LE → Bool} {n : Nat} {a : LE} {l : List LE} {j : Nat} {b : LE} (h : l[j]? = some b) (hp : p a b = false) : rowM p n a (l.take (j + 1)) = rowM p n a (l.take j) := by
  unfold rowM
  rw [List.take_add_one, h, List.filter_append]
  simp [hp]
theorem rowM_yes {p : LE → LE → Bool} {n : Nat} {a : LE} {l : List LE} {j : Nat} {b : LE} (h : l[j]? = some b) (hp : p a b = true) : rowM p n a (l.take (j + 1)) = rowM p n a (l.take j) ++ [(a.to, ⟨b.to, a.s + b.s, a.d + b.d, (n : Int)⟩)] := by
  unfold rowM
  rw [List.take_add_one, h, List.filter_append]
  simp [hp]
theorem rowM_len (p : LE → LE → Bool) (n : Nat) (a : LE) (l : List LE) : (rowM p n a l).length ≤ l.length := by
  unfold rowM
  rw [List.length_map]
  exact List.length_filter_le _ _
theorem mTo_len (p : LE → LE → Bool) (n : Nat) : ∀ (l : List LE) (i : Nat), (mTo p n l i).length ≤ i * l.length
  | [], _ => Nat.zero_le _
  | _ :: _, 0 => Nat.zero_le _
  | a :: l, i + 1 => by
    show (rowM p n a l ++ mTo p n l i).length ≤ (i + 1) * (l.length + 1)
    rw [List.length_append]
    have h1 := rowM_len p n a l
    have h2 := mTo_len p n l i
    rw [Nat.mul_succ, Nat.succ_mul]
    omega
end Go.Proofs.YtmnpplkjhnoglaaGreatDoor
