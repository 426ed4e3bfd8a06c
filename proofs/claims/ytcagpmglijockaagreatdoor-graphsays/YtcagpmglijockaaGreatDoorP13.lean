/-
  Texts laid together: RGr, AsGrid, AsGr, LinkM, Links.
-/
import Derived.Test.YtcagpmglijockaaGreatDoorP12
/-
  The reference's graph: of each corner its edges.
-/
namespace Go.Proofs.YtcagpmglijockaaGreatDoor
open Go.RowKit

/-- the reference's graph while it is laid -/
structure RGt (w : World) (M rb mb : Nat) (W H V : Int) (bl : Nat → Bool) (A AR : Option Addr) (cap : Nat) (R : Nat → List Value) (L : List Nat) (f : Int → Option Value) : Prop where
  p0 : w.cell? ⟨rb, 0, none⟩ = some (.slice A L.length cap)
  p1 : w.cell? ⟨rb, 1, none⟩ = some (.map (some mb))
  ra : RefAt w M W H V bl
  row : OldRow w A L.length (fun i => (L.getD i 0 : Nat))
  rays : OldRays w AR R L
  mp : MapF Tryz.prog 3 w mb f (cntS (keyB f) 256)
  bd : ∀ i, keyB f i = true → 0 ≤ i ∧ i < 256
section
variable {w w' : World} {M rb mb cap : Nat} {W H V : Int} {bl : Nat → Bool} {A AR : Option Addr} {R : Nat → List Value} {L : List Nat} {f : Int → Option Value}
theorem RGt.lts (G : RGt w M rb mb W H V bl A AR cap R L f) : rb < w.heap.size ∧ M < w.heap.size ∧ mb < w.heap.size := ⟨World.block_lt_of_cell? w _ G.p0, World.block_lt_of_cell? w _ G.ra.c0, G.mp.lt⟩
theorem RGt.cell (G : RGt w M rb mb W H V bl A AR cap R L f) (K : Keep (fun k => k = mb) w w') {q o : Nat} {v : Value} (h : w.cell? ⟨q, o, none⟩ = some v) : w'.cell? ⟨q, o, none⟩ = some v :=
  K.cellOf h (fun e => by
    have h' := G.mp.cell o
    rw [← e, h] at h'; cases h')
theorem RGt.below (G : RGt w M rb mb W H V bl A AR cap R L f) (hb : Below w.heap.size w w') : RGt w' M rb mb W H V bl A AR cap R L f :=
  ⟨(hb.cell (p := ⟨rb, 0, none⟩) G.lts.1).trans G.p0, (hb.cell (p := ⟨rb, 1, none⟩) G.lts.1).trans G.p1, G.ra.below hb G.lts.2.1, G.row.below hb, G.rays.below hb, G.mp.keep (F := fun _ => False) (Keep.of_below hb) id, G.bd⟩
theorem RGt.room (_G : RGt w M rb mb W H V bl A AR cap R L f) : cntS (keyB f) 256 < maxLen := by
  have := cntS_le (keyB f) 256
  unfold maxLen
  omega
theorem RGt.put (G : RGt w M rb mb W H V bl A AR cap R L f) {a : Int} {v : Value} (h0 : 0 ≤ a) (h1 : a < 256) (hm : MapF Tryz.prog 3 w' mb (putF f a v) (if (f a).isSome then cntS (keyB f) 256 else cntS (keyB f) 256 + 1)) (ht : w.mapTurned w' mb) : RGt w' M rb mb W H V bl A AR cap R L (putF f a v) := by
  have K := turned_keep ht
  refine ⟨G.cell K G.p0, G.cell K G.p1, ⟨G.ra.w1, G.ra.w2, G.ra.h1, G.ra.h2, G.cell K G.ra.c0, G.cell K G.ra.c1, G.cell K G.ra.c2, fun i hi => G.cell K (G.ra.cs i hi)⟩, fun i hi => ?_, fun i hi => ?_, ?_, fun i hi => ?_⟩
  · obtain ⟨b, o, e, k1, k2⟩ := G.row i hi
    exact ⟨b, o, e, Nat.lt_of_lt_of_le k1 K.size, G.cell K k2⟩
  · obtain ⟨b, e, k1, k2⟩ := G.rays i hi
    exact ⟨b, e, Nat.lt_of_lt_of_le k1 K.size, fun j v hj => G.cell K (k2 j v hj)⟩
  · rw [keyB_put]
    cases hs : keyB f a with
    | true => rw [insS_same hs]; have e : (f a).isSome = true := hs; rw [e] at hm; exact hm
    | false => rw [cntS_put (keyB f) a 256 h0 h1 hs]; have e : (f a).isSome = false := hs; rw [e] at hm; exact hm
  · rw [keyB_put] at hi
    rcases (insS_iff _ _ _).1 hi with rfl | hi
    · exact ⟨h0, h1⟩
    · exact G.bd i hi
end
/-- what the map of edges holds up to a corner -/
def Eds (w : World) (W H : Int) (bl : Nat → Bool) (L : List Nat) (f : Int → Option Value) (i : Nat) : Prop := (∀ c : Int, (∃ j, j < i ∧ c = ((L.getD j 0 : Nat) : Int)) → ∃ v l, f c = some v ∧ w.ownsRow 1 53 4 v l.length (edgesV W c l) ∧ EdgeL W H bl c l) ∧ ∀ c : Int, ¬ (∃ j, j < i ∧ c = ((L.getD j 0 : Nat) : Int)) → f c = none
theorem Eds.next {w w' : World} {W H : Int} {bl : Nat → Bool} {L l : List Nat} {f f' : Int → Option Value} {i mb n : Nat} {v : Value} (E : Eds w W H bl L f i) (M : MapF Tryz.prog 3 w mb f n) (K : Keep (fun k => k = mb) w w') (hf : f' = putF f ((L.getD i 0 : Nat) : Int) v)
    (ho : w.ownsRow 1 53 4 v l.length (edgesV W ((L.getD i 0 : Nat) : Int) l)) (hl : EdgeL W H bl ((L.getD i 0 : Nat) : Int) l) : Eds w' W H bl L f' (i + 1) := by
  have kp : ∀ {v : Value} {l : List Nat} {c : Int}, w.ownsRow 1 53 4 v l.length (edgesV W c l) → w'.ownsRow 1 53 4 v l.length (edgesV W c l) := fun h => own_keep h K (own_map h M)
  subst hf
  refine ⟨fun c hc => ?_, fun c hc => ?_⟩
  · by_cases e : c = ((L.getD i 0 : Nat) : Int)
    · exact ⟨v, l, by unfold putF; rw [if_pos e], by rw [e]; exact kp ho, by rw [e]; exact hl⟩
    · obtain ⟨j, hj, h⟩ := hc
      have hji : j ≠ i := fun e' => e (by rw [h, e'])
      obtain ⟨v', l', h1, h2, h3⟩ := E.1 c ⟨j, by omega, h⟩
      exact ⟨v', l', by unfold putF; rw [if_neg e]; exact h1, kp h2, h3⟩
  · have e : c ≠ ((L.getD i 0 : Nat) : Int) := fun e => hc ⟨i, by omega, e⟩
    unfold putF
    rw [if_neg e]
    exact E.2 c (fun ⟨j, hj, h⟩ => hc ⟨j, by omega, h⟩)
theorem Eds.below {w w' : World} {W H : Int} {bl : Nat → Bool} {L : List Nat} {f : Int → Option Value} {i : Nat} (E : Eds w W H bl L f i) (hb : Below w.heap.size w w') : Eds w' W H bl L f i :=
  ⟨fun c hc => by obtain ⟨v, l, h1, h2, h3⟩ := E.1 c hc; exact ⟨v, l, h1, own_below h2 hb, h3⟩, E.2⟩

/-- what a round of the second loop reads -/
def Four (w : World) (rb mb ba o bb p z n cap oa : Nat) (RZ : List Value) : Prop := w.cell? ⟨rb, 1, none⟩ = some (.map (some mb)) ∧ w.cell? ⟨rb, 0, none⟩ = some (.slice (some ⟨ba, oa, none⟩) n cap) ∧ w.cell? ⟨ba, o, none⟩ = some (.int .i64 (z : Int)) ∧ w.rangeAt bb p RZ
theorem Four.below {w w' : World} {rb mb ba o bb p z n cap oa : Nat} {RZ : List Value} (h : Four w rb mb ba o bb p z n cap oa RZ) (hb : Below w.heap.size w w') : Four w' rb mb ba o bb p z n cap oa RZ := by
  have k : ∀ {a : Addr} {v : Value}, w.cell? a = some v → w'.cell? a = some v := fun {a v} h => (hb.cell (World.block_lt_of_cell? w a h)).trans h
  exact ⟨k h.1, k h.2.1, k h.2.2.1, range_below h.2.2.2 hb⟩

set_option maxHeartbeats 1000000 in
set_option maxRecDepth 1000000 in
theorem rgraph' {M : Nat} {W H V : Int} {bl : Nat → Bool} {R : Nat → List Value} {Fl : Int → Int → Option (Int × Int)} {L : List Nat} (w : World) (g : RefAt w M W H V bl) (hml : M < w.heap.size)
    (hR : ∀ n, (R n).length = 769) (hR1 : ∀ n, ∀ u ∈ R n, u.oneCell' = true) (hRn : ∀ (n : Nat) (w : World), RayAt (w.alloc (.cells (R n).toArray 92)) w.heap.size n (Fl n)) (hB : ∀ c, CornC W H bl c → Best (Edge W H bl) c (Fl c))
    (hL : crs W H bl (W * H).toNat = L)
    (hfn : ∀ (n : Nat) (w' : World), CornC W H bl n → RefAt w' M W H V bl → M < w'.heap.size → Calls Tryz.prog 40 #[.pointer (some ⟨M, 0, none⟩), .int .i64 (n : Int)] w' fun e w'' => e = .returned (.agg (R n).toArray) ∧ Below w'.heap.size w' w'') :
    Calls Tryz.prog 20 #[.pointer (some ⟨M, 0, none⟩)] w fun e w' => ∃ rb mb A AR cap f, e = .returned (.pointer (some ⟨rb, 0, none⟩)) ∧ RGt w' M rb mb W H V bl A AR cap R L f ∧ Eds w' W H bl L f L.length ∧ Below w.heap.size w w' := by
  have gw1 := g.w1
  have hwh := wh_bd g.w1 g.w2 g.h1 g.h2
  obtain ⟨ie, zr, hie, hzr, hsz, hby, hzs⟩ := info_ray
  have hLL : L.length ≤ 256 := by rw [← hL]; have := crs_len W H bl (W * H).toNat; omega
  have HC : Hid (∀ i, i < L.length → CornC W H bl ((L.getD i 0 : Nat) : Int) ∧ L.getD i 0 < 256) := fun i hi => by
    have := crs_mem.1 (show L.getD i 0 ∈ crs W H bl (W * H).toNat by rw [hL, getD_at _ _ hi]; exact List.getElem_mem hi)
    exact ⟨cornB_iff.1 this.2, by omega⟩
  have hco := rcorners_v hL w g hml
  have HL : Hid (crs W H bl (W * H).toNat = L) := hL
  clear hL
  go_enter Tryz.func20, Tryz.ntmps20
  go_wp2_with fail
  refine hco.mono ?_
  rintro e w1 ⟨A, cap, rfl, hrow, hb1⟩
  clear hco
  have hmk := mkmapM w1
  have hM : MapF Tryz.prog 3 (w1.alloc (.map #[] 0)) w1.heap.size (fun _ => none) 0 := MapF.made w1 Tryz.prog 3
  have b2 : Below w1.heap.size w1 ((w1.alloc (.map #[] 0)).alloc (.cells #[.slice A L.length cap, .map (some w1.heap.size)] 68)) := ((Below.refl _ _).alloc (Nat.le_refl _) _).alloc (by simp) _
  have hM2 : MapF Tryz.prog 3 ((w1.alloc (.map #[] 0)).alloc (.cells #[.slice A L.length cap, .map (some w1.heap.size)] 68)) w1.heap.size (fun _ => none) (cntS (keyB fun _ => none) 256) := by
    rw [cntS_empty]
    exact hM.keep (F := fun _ => False) ((Keep.refl _ _).alloc _) id
  have q0 : ((w1.alloc (.map #[] 0)).alloc (.cells #[.slice A L.length cap, .map (some w1.heap.size)] 68)).cell? ⟨w1.heap.size + 1, 0, none⟩ = some (.slice A L.length cap) := World.cell?_alloc_at #[.slice A L.length cap, .map (some w1.heap.size)] 68 (w1.heap.size + 1) 0 (by simp)
  have q1 : ((w1.alloc (.map #[] 0)).alloc (.cells #[.slice A L.length cap, .map (some w1.heap.size)] 68)).cell? ⟨w1.heap.size + 1, 1, none⟩ = some (.map (some w1.heap.size)) := World.cell?_alloc_at #[.slice A L.length cap, .map (some w1.heap.size)] 68 (w1.heap.size + 1) 1 (by simp)
  have B2 := hb1.trans (b2.mono hb1.size)
  have row2 := hrow.below b2
  clear hM hrow
  go_wp2
  generalize (w1.alloc (.map #[] 0)).alloc (.cells #[.slice A L.length cap, .map (some w1.heap.size)] 68) = w2 at *
  have hz1 := hb1.size
  generalize hmb : w1.heap.size = mb at *
  generalize hrb : mb + 1 = rb at *
  have g2 := g.below B2 hml
  have hm2 := Nat.lt_of_lt_of_le hml B2.size
  clear hmk b2 hb1
  go_loopg [4, 5] L.length (fun gk lv iv wr => ∃ (i : Nat), gk = L.length - i ∧ iv = .int .i64 i ∧ i ≤ L.length ∧ wr.ownsRow w2.heap.size 92 769 lv i ((L.take i).flatMap R) ∧ Below w2.heap.size w2 wr)
  case atStart => exact ⟨0, rfl, rfl, Nat.zero_le _, World.ownsRow_nil _ _ _ _, Below.refl _ _⟩
  case round =>
    obtain ⟨i, hgk, rfl, hi', hown, Br⟩ := hrel
    have gr := g2.below Br hm2
    have hmr := Nat.lt_of_lt_of_le hm2 Br.size
    have p0 := (Br.cell (World.block_lt_of_cell? _ _ q0)).trans q0
    by_cases hlt : i < L.length
    · obtain ⟨ba, oa, rfl, hba, hcell0⟩ := (row2.below Br) i hlt
      have hzc := (HC.out i hlt).1
      have htk := take_flat hlt R
      obtain ⟨z, hzz⟩ : ∃ z, L.getD i 0 = z := ⟨_, rfl⟩
      rw [hzz] at hzc htk
      have hcell : wr.cell? ⟨ba, oa + i, none⟩ = some (.int .i64 (z : Int)) := by rw [← hzz]; exact hcell0
      have hf := hfn z wr hzc gr hmr
      have HTK : Hid ((L.take (i + 1)).flatMap R = (L.take i).flatMap R ++ R z) := htk
      have lz := hR z
      have oz := hR1 z
      have i1 : (0 : Int) ≤ (i : Int) := by omega
      have i2 : (i : Int) < (L.length : Int) := by omega
      clear hcell0 hzz htk
      generalize R z = RZ at *
      go_wp2_with fail
      refine hf.mono ?_
      rintro e w5 ⟨rfl, hb5⟩
      have hown5 := own_below hown hb5
      have B5 := Br.trans (hb5.mono Br.size)
      have hz5 := B5.size
      have hrn := range_new w5 RZ 92
      clear hf hown Br hcell hb5 p0
      go_wp2_with (first
        | (refine wpList_build_ray rfl _ rfl RZ lz rfl ?_)
        | (at_builtin; refine wpList_append_own _ rfl _ _ 89 rfl w2.heap.size 92 ie zr 769 4360 Tryz.und89 hie hzr hsz hby hzs (by decide) _ _ _ rfl (hown5.alloc _) ⟨w5.heap.size, 0, none⟩ 1 1 RZ rfl (by rw [lz]) ?c2 oz ?c3 ?c4 ?c5 ?_))
      case c2 =>
        intro j u hj
        have := hrn j u hj
        rw [Nat.zero_add] at this
        have hadd : (⟨w5.heap.size, 0, none⟩ : Addr).add j = ⟨w5.heap.size, j, none⟩ := by unfold Addr.add; split <;> simp_all
        rw [hadd]
        exact this
      case c3 => unfold maxLen; omega
      case c4 => omega
      case c5 => simp; omega
      intro v6 w6 hown6 hg6 _
      have B6 : Below w2.heap.size w2 w6 := (B5.alloc hz5 _).grown hg6 (by simp; omega) (fun q hq => (hown5.lt q hq).1)
      rw [← HTK.out] at hown6
      clear hown5 B5 hrn hg6
      go_wp2
      go_roundg (L.length - (i + 1))
      case measure => omega
      case rel => exact ⟨i + 1, rfl, by go_num, by omega, hown6, B6⟩
    · have hge : i = L.length := by omega
      subst hge
      rw [List.take_length] at hown
      obtain ⟨AR, cr, rfl, hrays⟩ := rays_of hR hown
      have G0 : RGt wr M rb mb W H V bl A AR cap R L (fun _ => none) := ⟨p0, (Br.cell (World.block_lt_of_cell? _ _ q1)).trans q1, gr, row2.below Br, hrays, hM2.keep (F := fun _ => False) (Keep.of_below Br) id, fun i h => by cases h⟩
      have B0 := B2.trans (Br.mono B2.size)
      clear hfn hown hrays q0 q1 gr hmr g2 hm2 B2 row2 Br hM2
      go_wp2
      clear p0
      generalize wr = w3 at *
      go_loopg [6] L.length (fun gk iv wr => ∃ (i : Nat) (f : Int → Option Value), gk = L.length - i ∧ iv = .int .i64 i ∧ i ≤ L.length ∧ RGt wr M rb mb W H V bl A AR cap R L f ∧ Hid (Eds wr W H bl L f i) ∧ Below w.heap.size w wr)
      case atStart => exact ⟨0, _, rfl, rfl, Nat.zero_le _, G0, ⟨fun c ⟨j, hj, _⟩ => absurd hj (Nat.not_lt_zero j), fun c _ => rfl⟩, B0⟩
      case round =>
        obtain ⟨i, f, hgk, rfl, hi', G, hE, Br⟩ := hrel
        clear G0 B0
        have p0 := G.p0
        by_cases hlt : i < L.length
        · obtain ⟨ba, oa, rfl, hba, hcell0⟩ := G.row i hlt
          obtain ⟨bb, rfl, hbb, hray⟩ := G.rays i hlt
          obtain ⟨z, hzz⟩ : ∃ z, L.getD i 0 = z := ⟨_, rfl⟩
          have hc := HC.out i hlt
          have hcell : wr.cell? ⟨ba, oa + i, none⟩ = some (.int .i64 (z : Int)) := by rw [← hzz]; exact hcell0
          rw [hzz] at hc hray
          obtain ⟨hzc, hz256⟩ := hc
          have hwz := wf_small (a := (z : Int)) (by omega) (by omega)
          have HZ : Hid (L.getD i 0 = z) := hzz
          have hzin := cornC_in gw1 hzc
          have bD : Below wr.heap.size wr wr.drew := ⟨rfl, rfl, rfl, Nat.le_refl _, fun _ _ => rfl⟩
          have GD := G.below bD
          have ED := hE.out.below bD
          have BD := Br.trans (bD.mono Br.size)
          have CC : Four wr.drew rb mb ba (oa + i) bb (i * 769) z L.length cap oa (R z) := ⟨GD.p1, GD.p0, (bD.cell (World.block_lt_of_cell? _ _ hcell)).trans hcell, range_below hray bD⟩
          have hed := redges' (cr := cr) (cc := cap) (self := false) wr.drew GD.ra GD.lts.2.1 (hRn z) (fun w => range_new w _ 92) (hR z) (hB z hzc) hzin hR hRn hB HL.out GD.rays GD.row
          have hu := Tryz.underlying92
          have hiY : (Tryz.prog.info? 92).map (·.size) = some (R z).length := by rw [info112, hR z]
          have i1 : (0 : Int) ≤ (i : Int) := by omega
          have i2 : (i : Int) < (L.length : Int) := by omega
          have HED : Hid (Eds wr.drew W H bl L f i) := ED
          clear hcell0 hzz hray hcell bD hE ED G
          generalize (R z) = RZ at *
          go_wp2_with fail
          refine wp_region_held_drew (S := fun w' => w'.cell? ⟨rb, 1, none⟩ = some (.map (some mb)) ∧ w'.cell? ⟨rb, 0, none⟩ = some (.slice (some ⟨ba, oa, none⟩) L.length cap) ∧ w'.cell? ⟨ba, oa + i, none⟩ = some (.int .i64 (z : Int)) ∧ w'.rangeAt bb (i * 769) RZ) (by kernel_rfl) CC (fun hHeld => ?_)
          clear p0
          refine wpAnyH_take (i := 0) (oi := { dst := some 42, op := .move (.tmp 3), type := 64, pos := "parts.go:595", after := #[], guard := none }) (v := .pointer (some ⟨rb, 0, none⟩)) rfl (by kernel_rfl) (by kernel_rfl) (by kernel_rfl) (fun _ _ _ h => h) (Or.inl ⟨by rfl, fun w' _ => by go_simp⟩) hHeld ?_
          simp only [Act.put, List.setIfInBounds_toArray, List.set_cons_zero, List.set_cons_succ]
          refine wpAnyH_take (i := 1) (oi := { dst := some 43, op := .nilCheck (.tmp 42), type := 0, pos := "parts.go:595", after := #[{ on := 0, ground := .data }], guard := none }) (v := .pointer (some ⟨rb, 0, none⟩)) rfl (by kernel_rfl) (by kernel_rfl) (by kernel_rfl) (fun _ _ _ h => h) (Or.inl ⟨by rfl, fun w' _ => by go_simp⟩) hHeld ?_
          simp only [Act.put, List.setIfInBounds_toArray, List.set_cons_zero, List.set_cons_succ]
          refine wpAnyH_take (i := 2) (oi := { dst := some 44, op := .fieldAddr 68 (.tmp 43) 1, type := 0, pos := "parts.go:595", after := #[{ on := 1, ground := .data }], guard := none }) (v := .pointer (some ⟨rb, 1, none⟩)) rfl (by kernel_rfl) (by kernel_rfl) (by kernel_rfl) (fun _ _ _ h => h) (Or.inl ⟨by rfl, fun w' _ => by go_simp⟩) hHeld ?_
          simp only [Act.put, List.setIfInBounds_toArray, List.set_cons_zero, List.set_cons_succ]
          refine wpAnyH_take (i := 3) (oi := { dst := some 45, op := .load 59 (.tmp 44), type := 59, pos := "parts.go:595", after := #[{ on := 2, ground := .data }], guard := none }) (v := .map (some mb)) rfl (by kernel_rfl) (by kernel_rfl) (by kernel_rfl) (fun _ _ _ h => h) (Or.inl ⟨by rfl, fun w' h => by obtain ⟨s1, s2, s3, s4⟩ := h; go_simp⟩) hHeld ?_
          simp only [Act.put, List.setIfInBounds_toArray, List.set_cons_zero, List.set_cons_succ]
          refine wpAnyH_take (i := 4) (oi := { dst := some 46, op := .move (.tmp 3), type := 64, pos := "parts.go:595", after := #[], guard := none }) (v := .pointer (some ⟨rb, 0, none⟩)) rfl (by kernel_rfl) (by kernel_rfl) (by kernel_rfl) (fun _ _ _ h => h) (Or.inl ⟨by rfl, fun w' _ => by go_simp⟩) hHeld ?_
          simp only [Act.put, List.setIfInBounds_toArray, List.set_cons_zero, List.set_cons_succ]
          refine wpAnyH_take (i := 5) (oi := { dst := some 47, op := .nilCheck (.tmp 46), type := 0, pos := "parts.go:595", after := #[{ on := 4, ground := .data }], guard := none }) (v := .pointer (some ⟨rb, 0, none⟩)) rfl (by kernel_rfl) (by kernel_rfl) (by kernel_rfl) (fun _ _ _ h => h) (Or.inl ⟨by rfl, fun w' _ => by go_simp⟩) hHeld ?_
          simp only [Act.put, List.setIfInBounds_toArray, List.set_cons_zero, List.set_cons_succ]
          refine wpAnyH_take (i := 6) (oi := { dst := some 48, op := .fieldAddr 68 (.tmp 47) 0, type := 0, pos := "parts.go:595", after := #[{ on := 5, ground := .data }], guard := none }) (v := .pointer (some ⟨rb, 0, none⟩)) rfl (by kernel_rfl) (by kernel_rfl) (by kernel_rfl) (fun _ _ _ h => h) (Or.inl ⟨by rfl, fun w' _ => by go_simp⟩) hHeld ?_
          simp only [Act.put, List.setIfInBounds_toArray, List.set_cons_zero, List.set_cons_succ]
          refine wpAnyH_take (i := 7) (oi := { dst := some 49, op := .load 22 (.tmp 48), type := 22, pos := "parts.go:595", after := #[{ on := 6, ground := .data }], guard := none }) (v := .slice (some ⟨ba, oa, none⟩) L.length cap) rfl (by kernel_rfl) (by kernel_rfl) (by kernel_rfl) (fun _ _ _ h => h) (Or.inl ⟨by rfl, fun w' h => by obtain ⟨s1, s2, s3, s4⟩ := h; go_simp⟩) hHeld ?_
          simp only [Act.put, List.setIfInBounds_toArray, List.set_cons_zero, List.set_cons_succ]
          refine wpAnyH_take (i := 8) (oi := { dst := some 50, op := .move (.tmp 6), type := 3, pos := "parts.go:595", after := #[], guard := none }) (v := .int .i64 i) rfl (by kernel_rfl) (by kernel_rfl) (by kernel_rfl) (fun _ _ _ h => h) (Or.inl ⟨by rfl, fun w' _ => by go_simp⟩) hHeld ?_
          simp only [Act.put, List.setIfInBounds_toArray, List.set_cons_zero, List.set_cons_succ]
          refine wpAnyH_take (i := 9) (oi := { dst := some 51, op := .indexAddr 22 (.tmp 49) (.tmp 50), type := 0, pos := "parts.go:595", after := #[{ on := 7, ground := .data }, { on := 8, ground := .data }], guard := none }) (v := .pointer (some ⟨ba, oa + i, none⟩)) rfl (by kernel_rfl) (by kernel_rfl) (by kernel_rfl) (fun _ _ _ h => h) (Or.inl ⟨by rfl, fun w' _ => by go_simp⟩) hHeld ?_
          simp only [Act.put, List.setIfInBounds_toArray, List.set_cons_zero, List.set_cons_succ]
          refine wpAnyH_take (i := 10) (oi := { dst := some 52, op := .load 3 (.tmp 51), type := 3, pos := "parts.go:595", after := #[{ on := 9, ground := .data }], guard := none }) (v := .int .i64 (z : Int)) rfl (by kernel_rfl) (by kernel_rfl) (by kernel_rfl) (fun _ _ _ h => h) (Or.inl ⟨by rfl, fun w' h => by obtain ⟨s1, s2, s3, s4⟩ := h; go_simp⟩) hHeld ?_
          simp only [Act.put, List.setIfInBounds_toArray, List.set_cons_zero, List.set_cons_succ]
          refine wpAnyH_take (i := 11) (oi := { dst := some 53, op := .move (.tmp 0), type := 28, pos := "parts.go:595", after := #[], guard := none }) (v := .pointer (some ⟨M, 0, none⟩)) rfl (by kernel_rfl) (by kernel_rfl) (by kernel_rfl) (fun _ _ _ h => h) (Or.inl ⟨by rfl, fun w' _ => by go_simp⟩) hHeld ?_
          simp only [Act.put, List.setIfInBounds_toArray, List.set_cons_zero, List.set_cons_succ]
          refine wpAnyH_take (i := 12) (oi := { dst := some 54, op := .move (.tmp 4), type := 89, pos := "parts.go:595", after := #[], guard := none }) (v := .slice (some ⟨bb, 0, none⟩) L.length cr) rfl (by kernel_rfl) (by kernel_rfl) (by kernel_rfl) (fun _ _ _ h => h) (Or.inl ⟨by rfl, fun w' _ => by go_simp⟩) hHeld ?_
          simp only [Act.put, List.setIfInBounds_toArray, List.set_cons_zero, List.set_cons_succ]
          refine wpAnyH_take (i := 13) (oi := { dst := some 55, op := .move (.tmp 6), type := 3, pos := "parts.go:595", after := #[], guard := none }) (v := .int .i64 i) rfl (by kernel_rfl) (by kernel_rfl) (by kernel_rfl) (fun _ _ _ h => h) (Or.inl ⟨by rfl, fun w' _ => by go_simp⟩) hHeld ?_
          simp only [Act.put, List.setIfInBounds_toArray, List.set_cons_zero, List.set_cons_succ]
          refine wpAnyH_take (i := 14) (oi := { dst := some 56, op := .indexAddr 89 (.tmp 54) (.tmp 55), type := 0, pos := "parts.go:595", after := #[{ on := 12, ground := .data }, { on := 13, ground := .data }], guard := none }) (v := .pointer (some ⟨bb, i * 769, none⟩)) rfl (by kernel_rfl) (by kernel_rfl) (by kernel_rfl) (fun _ _ _ h => h) (Or.inl ⟨by rfl, fun w' _ => by go_simp⟩) hHeld ?_
          simp only [Act.put, List.setIfInBounds_toArray, List.set_cons_zero, List.set_cons_succ]
          refine wpAnyH_take (i := 15) (oi := { dst := some 57, op := .load 92 (.tmp 56), type := 92, pos := "parts.go:595", after := #[{ on := 14, ground := .data }], guard := none }) (v := .agg RZ.toArray) rfl (by kernel_rfl) (by kernel_rfl) (by kernel_rfl) (fun _ _ _ h => h) (yieldsIf_load_mid (by rfl) 92 (.tmp 56) rfl bb (i * 769) rfl RZ _ (fun _ h => h.2.2.2) hu rfl hiY) hHeld ?_
          simp only [Act.put, List.setIfInBounds_toArray, List.set_cons_zero, List.set_cons_succ]
          refine wpAnyH_take (i := 16) (oi := { dst := some 58, op := .move (.tmp 4), type := 89, pos := "parts.go:595", after := #[], guard := none }) (v := .slice (some ⟨bb, 0, none⟩) L.length cr) rfl (by kernel_rfl) (by kernel_rfl) (by kernel_rfl) (fun _ _ _ h => h) (Or.inl ⟨by rfl, fun w' _ => by go_simp⟩) hHeld ?_
          simp only [Act.put, List.setIfInBounds_toArray, List.set_cons_zero, List.set_cons_succ]
          refine wpAnyH_take (i := 17) (oi := { dst := some 59, op := .move (.tmp 3), type := 64, pos := "parts.go:595", after := #[], guard := none }) (v := .pointer (some ⟨rb, 0, none⟩)) rfl (by kernel_rfl) (by kernel_rfl) (by kernel_rfl) (fun _ _ _ h => h) (Or.inl ⟨by rfl, fun w' _ => by go_simp⟩) hHeld ?_
          simp only [Act.put, List.setIfInBounds_toArray, List.set_cons_zero, List.set_cons_succ]
          refine wpAnyH_take (i := 18) (oi := { dst := some 60, op := .nilCheck (.tmp 59), type := 0, pos := "parts.go:595", after := #[{ on := 17, ground := .data }], guard := none }) (v := .pointer (some ⟨rb, 0, none⟩)) rfl (by kernel_rfl) (by kernel_rfl) (by kernel_rfl) (fun _ _ _ h => h) (Or.inl ⟨by rfl, fun w' _ => by go_simp⟩) hHeld ?_
          simp only [Act.put, List.setIfInBounds_toArray, List.set_cons_zero, List.set_cons_succ]
          refine wpAnyH_take (i := 19) (oi := { dst := some 61, op := .fieldAddr 68 (.tmp 60) 0, type := 0, pos := "parts.go:595", after := #[{ on := 18, ground := .data }], guard := none }) (v := .pointer (some ⟨rb, 0, none⟩)) rfl (by kernel_rfl) (by kernel_rfl) (by kernel_rfl) (fun _ _ _ h => h) (Or.inl ⟨by rfl, fun w' _ => by go_simp⟩) hHeld ?_
          simp only [Act.put, List.setIfInBounds_toArray, List.set_cons_zero, List.set_cons_succ]
          refine wpAnyH_take (i := 20) (oi := { dst := some 62, op := .load 22 (.tmp 61), type := 22, pos := "parts.go:595", after := #[{ on := 19, ground := .data }], guard := none }) (v := .slice (some ⟨ba, oa, none⟩) L.length cap) rfl (by kernel_rfl) (by kernel_rfl) (by kernel_rfl) (fun _ _ _ h => h) (Or.inl ⟨by rfl, fun w' h => by obtain ⟨s1, s2, s3, s4⟩ := h; go_simp⟩) hHeld ?_
          simp only [Act.put, List.setIfInBounds_toArray, List.set_cons_zero, List.set_cons_succ]
          refine wpAnyH_ready (rs := [21]) (by kernel_rfl) (by simp) ?_
          refine AllReadyH.cons rfl (fun K hK => ?_) AllReadyH.nil
          go_simp
          go_at_call 41
          refine hed.mono ?_
          rintro e w5 ⟨v, l, rfl, ho, hup, hb5⟩
          have CC := CC.below hb5
          have G5 := GD.below hb5
          have E5 := HED.out.below hb5
          have B5 := BD.trans (hb5.mono BD.size)
          clear hed GD HED
          go_wp2_with fail
          refine hK.out _ _ CC (fun hHeld2 => ?_)
          clear hHeld hK K
          obtain ⟨w7, hrun7, hm7, ht7⟩ := G5.mp.store law3 Tryz.underM G5.room hwz v
          have K7 := turned_keep ht7
          have G7 := G5.put (by omega) (by omega) hm7 ht7
          have ho' : w5.ownsRow 1 53 4 v l.length (edgesV W ((L.getD i 0 : Nat) : Int) l) := by rw [HZ.out]; exact own_base ho (by have := BD.size; omega)
          have E7 : Hid (Eds w7 W H bl L (putF f (z : Int) v) (i + 1)) := E5.next G5.mp K7 (by rw [HZ.out]) ho' (by
            rw [HZ.out]
            rw [← HL.out] at hup
            refine ⟨hup.1, fun n => ?_⟩
            rw [hup.all n, in_crs gw1]
            unfold EdgeP
            rw [Bool.and_eq_true, decide_eq_true_iff]
            constructor
            · rintro ⟨h1, h2, h3⟩
              exact ⟨h3, by rcases h2 with h2 | h2
                            · cases h2
                            · omega, h1⟩
            · rintro ⟨h1, h2, h3⟩
              exact ⟨h3, Or.inr (by omega), h1⟩)
          have B7 : Below w.heap.size w w7 := B5.trans (K7.to_below B5.size (fun k e => by omega))
          have CC7 : Four w7 rb mb ba (oa + i) bb (i * 769) z L.length cap oa RZ := ⟨G5.cell K7 CC.1, G5.cell K7 CC.2.1, G5.cell K7 CC.2.2.1, fun j v hj => G5.cell K7 (CC.2.2.2 j v hj)⟩
          clear ho ho' hup hb5 E5 B5 G5 K7 hm7 ht7
          refine wpAnyH_ready (rs := [22]) (by kernel_rfl) (by simp) ?_
          refine AllReadyH.cons rfl (fun K hK => ?_) AllReadyH.nil
          go_simp
          refine hK.out _ _ CC7 (fun hHeld4 => ?_)
          refine wpAnyH_done (by kernel_rfl) ?_ _
          clear hK K hHeld2 hHeld4 CC CC7 hu hrun7
          go_wp2
          go_roundg (L.length - (i + 1))
          case measure => omega
          case rel => exact ⟨i + 1, _, rfl, by go_num, by omega, G7, E7, B7⟩
        · have hge : i = L.length := by omega
          subst hge
          go_wp2
          go_ret
          exact ⟨rb, mb, A, AR, cap, f, rfl, G, hE.out, Br⟩
end Go.Proofs.YtcagpmglijockaaGreatDoor
/-
  The walk of 'asGrid': of two grids that are alike it returns true.
-/
namespace Go.Proofs.YtcagpmglijockaaGreatDoor
open Go.RowKit

set_option maxHeartbeats 8000000 in
set_option maxRecDepth 1000000 in
theorem asGrid_any (g m : Nat) (W H V : Int) (bl : Nat → Bool) (w : World) (hP : Pair w g m W H V bl) :
    Calls Tryz.prog 22 #[.pointer (some ⟨g, 0, none⟩), .pointer (some ⟨m, 0, none⟩)] w fun e w' => e = .returned (.bool true) ∧ Below w.heap.size w w' := by
  obtain ⟨k1, k2⟩ := wh_bd hP.ga.w1 hP.ga.w2 hP.ga.h1 hP.ga.h2
  have w1 := hP.ga.w1
  have w2 := hP.ga.w2
  have h1 := hP.ga.h1
  have h2 := hP.ga.h2
  have r0 := hP.ra.c0
  have r1 := hP.ra.c1
  have r2 := hP.ra.c2
  go_enter Tryz.func22, Tryz.ntmps22
  go_wp2_with (go_at_call 42; refine (size_any _ hP.ga).mono ?_; rintro e w' ⟨rfl, m0, rfl⟩)
  go_quiet (first | (go_at_call 34; exact Calls.quiet_off (cells_any _ (hP.ga.drewN _))) | (go_at_call 43; exact Calls.quiet_off_same (version_any _ (hP.ga.drewN _))))
  go_wp2
  clear r0 r1 r2
  go_loopg [7] (W * H + 2).toNat (fun q c wr => ∃ j : Int, -1 ≤ j ∧ j ≤ W * H + 1 ∧ q = (W * H + 1 - j).toNat ∧ c = .int .i64 j ∧ Below w.heap.size w wr)
  case atStart => exact ⟨-1, by omega, by omega, by omega, rfl, below_drewN (below_drewN (Below.refl _ _) _) _⟩
  case round =>
    obtain ⟨c, hc1, hc2, hgk, rfl, hnx⟩ := hrel
    have HG : Hid (gk = (W * H + 1 - c).toNat) := hgk
    clear hgk
    have hPr := hP.below hnx
    have hsz := hnx.size
    by_cases hle : c ≤ W * H
    · cases hin : inB W H c with
      | false =>
        go_wp2_with (first | (go_at_call 16; refine (ris_out _ _ hPr.ra hin).mono ?_; rintro e w' ⟨rfl, m1, rfl⟩) | (go_at_call 44; refine (place_out _ _ (hPr.ga.drewN _) hin).mono ?_; rintro e w' ⟨rfl, m1, rfl⟩) | (go_at_call 45; refine (free_out _ _ (hPr.ga.drewN _) hin).mono ?_; rintro e w' ⟨rfl, m1, rfl⟩) | (go_at_call 46; refine (moves_out _ _ (hPr.ga.drewN _) hin).mono ?_; rintro e w' ⟨rfl, m1, rfl⟩) | (go_at_call 10; refine (same_err 1 _ (by decide)).mono ?_; rintro e w' ⟨rfl, rfl⟩))
        go_roundg ((W * H + 1 - (c + 1)).toNat)
        case measure => have := HG.out; omega
        case rel => exact ⟨c + 1, by omega, by omega, rfl, rfl, below_drewN hnx _⟩
      | true =>
        have hcc : 0 ≤ c ∧ c < W * H := of_decide_eq_true hin
        obtain ⟨cN, rfl⟩ : ∃ cN : Nat, c = cN := ⟨c.toNat, by omega⟩
        obtain ⟨q1, q2⟩ := hcc
        have q3 : (cN : Int) < 256 := by omega
        obtain ⟨l, hl⟩ := dirsOf (W := W) (H := H) bl (cN : Int) w1
        have hl8 := hl.len
        have y1 : 0 ≤ (cN : Int) / W := Int.ediv_nonneg q1 (by omega)
        have y2 : (cN : Int) / W ≤ 256 := by
          have := Int.ediv_le_self W q1
          omega
        have hbb : ((!bl cN) == bl cN) = false := by cases bl cN <;> rfl
        go_wp2_with (first | (go_at_call 16; refine (ris_in _ _ hPr.ra hin).mono ?_; rintro e w' ⟨rfl, m1, rfl⟩) | (go_at_call 44; refine (place_in _ _ (hPr.ga.drewN _) hin).mono ?_; rintro e w' ⟨rfl, m1, rfl⟩) | (go_at_call 45; refine (free_in _ _ (hPr.ga.drewN _) hin).mono ?_; rintro e w' ⟨rfl, m1, rfl⟩) | (go_at_call 46; refine (moves_v hl _ (hPr.ga.drewN _) (hPr.st.drewN _) hin (hPr.drewN _).gl).mono ?_; rintro e w3 ⟨A1, cap1, rfl, hrow, hb3⟩; have hP3 := (hPr.drewN _).below hb3; have hcs := hP3.ra.cs cN (by omega)) | (go_at_call 10; refine (same_nil _).mono ?_; rintro e w' ⟨rfl, rfl⟩) | (go_at_call 47; refine (rmoves_v hl _ hP3.ra hin hP3.ml).mono ?_; rintro e w4 ⟨A2, cap2, rfl, hrow2, hb4⟩; have hP4 := hP3.below hb4; have hrow4 := hrow.below hb4) | (go_at_call 21; refine (sameRows (by omega) hrow4 hrow2).mono ?_; rintro e w' ⟨rfl, m5, rfl⟩))
        have HB4 : Below w.heap.size w w4 := ((below_drewN hnx _).trans (hb3.mono (by simp; omega))).trans (hb4.mono (by have := hb3.size; simp at this; omega))
        obtain ⟨L, hL⟩ : ∃ L, l.length = L := ⟨_, rfl⟩
        have HL : Hid (l.length = L) := hL
        rw [hL] at hrow4 hl8 ⊢
        have HR : Hid (OldRow w4 A1 L (fun i => (l.getD i 0 : Nat))) := hrow4
        clear hL hrow4 hrow2 hrow hcs hP3 hPr hb3 hb4 hnx hsz hbb y1 y2
        go_loopg [16] L (fun q i wr => ∃ p : Nat, p ≤ L ∧ q = L - p ∧ i = .int .i64 p ∧ ∃ k, wr = w4.drewN k)
        case atStart => exact ⟨0, Nat.zero_le _, rfl, rfl, _, rfl⟩
        case round =>
          obtain ⟨p, hp, hgp, rfl, mk, rfl⟩ := hrel
          have HGp : Hid (gk = L - p) := hgp
          clear hgp
          by_cases hplt : p < L
          · obtain ⟨ba, oa, rfl, hba, hc⟩ := HR.out p hplt
            have hc3 : w4.cell? ⟨ba, oa + p, none⟩ = some (.int .i64 ((l.getD p 0 : Nat) : Int)) := hc
            have hd8 := hl.lt p (by rw [HL.out]; exact hplt)
            clear hc hba
            generalize l.getD p 0 = d at *
            obtain ⟨r, hr⟩ : ∃ r, (cN : Int) + (stepY d * W + stepX d) = r := ⟨_, rfl⟩
            have HRr : Hid ((cN : Int) + (stepY d * W + stepX d) = r) := hr
            clear hr
            have p1 : (0 : Int) ≤ (p : Int) := by omega
            have p2 : (p : Int) < (L : Int) := by omega
            go_wp2
            go_quiet (first | (go_at_call 48; exact Calls.quiet_off (to_v HRr.out _ (hP4.ga.drewN _) (hP4.st.drewN _) hd8 (by omega) (by omega))) | (go_at_call 49; exact Calls.quiet_off_same (rto_v HRr.out _ (hP4.ra.drewN _) hd8 (by omega) (by omega))))
            go_wp2
            go_roundg (L - (p + 1))
            case measure => have := HGp.out; omega
            case rel => exact ⟨p + 1, by omega, rfl, by go_num, _, rfl⟩
          · have : p = L := by omega
            subst this
            go_wp2
            go_roundg ((W * H + 1 - ((cN : Int) + 1)).toNat)
            case measure => have := HG.out; omega
            case rel => exact ⟨(cN : Int) + 1, by omega, by omega, rfl, rfl, below_drewN HB4 _⟩
    · go_wp2
      obtain ⟨w5, rfl⟩ : ∃ w5 : World, w5 = wr := ⟨_, rfl⟩
      have HB5 := hnx
      have hP5 := hPr
      clear hnx hPr hsz HG hc1 hc2
      go_loopg [17] (W + 2).toNat (fun q x wr => ∃ j : Int, -1 ≤ j ∧ j ≤ W + 1 ∧ q = (W + 1 - j).toNat ∧ x = .int .i64 j ∧ ∃ k, wr = w5.drewN k)
      case atStart => exact ⟨-1, by omega, by omega, by omega, rfl, 0, rfl⟩
      case round =>
        obtain ⟨x, hx1, hx2, hgx, rfl, kx, rfl⟩ := hrel
        have HGx : Hid (gk = (W + 1 - x).toNat) := hgx
        clear hgx
        by_cases hxW : x ≤ W
        · go_wp2
          go_loopg [18] (H + 2).toNat (fun q y wr => ∃ j : Int, -1 ≤ j ∧ j ≤ H + 1 ∧ q = (H + 1 - j).toNat ∧ y = .int .i64 j ∧ ∃ k, wr = w5.drewN k)
          case atStart => exact ⟨-1, by omega, by omega, by omega, rfl, _, rfl⟩
          case round =>
            obtain ⟨y, hy1, hy2, hgy, rfl, ky, rfl⟩ := hrel
            have HGy : Hid (gk = (H + 1 - y).toNat) := hgy
            clear hgy
            by_cases hyH : y ≤ H
            · obtain ⟨o, ho⟩ : ∃ o, openB W H bl x y = o := ⟨_, rfl⟩
              have HO : Hid (openB W H bl x y = o) := ho
              clear ho
              obtain ⟨e1, e2⟩ := yw_bd (y := y) w1 w2 (by omega) (by omega)
              have hoo : (o != o) = false := by cases o <;> rfl
              have hcs : (0 ≤ x ∧ x < W ∧ 0 ≤ y ∧ y < H) ∨ (¬ 0 ≤ x) ∨ (0 ≤ x ∧ ¬ x < W) ∨ (0 ≤ x ∧ x < W ∧ ¬ 0 ≤ y) ∨ (0 ≤ x ∧ x < W ∧ 0 ≤ y ∧ ¬ y < H) := by omega
              rcases hcs with ⟨g1, g2, g3, g4⟩ | g1 | ⟨g1, g2⟩ | ⟨g1, g2, g3⟩ | ⟨g1, g2, g3, g4⟩
              · have hat : atB W H x y = true := decide_eq_true ⟨g1, g2, g3, g4⟩
                go_wp2_with (first | (go_at_call 50; refine (cell_in _ _ _ (hP5.ga.drewN _) hat).mono ?_; rintro e w' ⟨rfl, rfl⟩) | (go_at_call 51; refine (open_v HO.out _ (hP5.ga.drewN _)).mono ?_; rintro e w' ⟨rfl, m1, rfl⟩) | (go_at_call 52; refine (ropen_v HO.out _ (hP5.ra.drewN _)).mono ?_; rintro e w' ⟨rfl, m1, rfl⟩))
                go_loopg [22] 8 (fun q d wr => ∃ n : Nat, n ≤ 8 ∧ q = 8 - n ∧ d = .int .i64 n ∧ ∃ k, wr = w5.drewN k)
                case atStart => exact ⟨0, by omega, rfl, rfl, _, rfl⟩
                case round =>
                  obtain ⟨n, hn, hgn, rfl, kn, rfl⟩ := hrel
                  have HGn : Hid (gk = 8 - n) := hgn
                  clear hgn
                  by_cases hn8 : n < 8
                  · obtain ⟨b, hb⟩ : ∃ b, mayB W H bl x y n = b := ⟨_, rfl⟩
                    have HM : Hid (mayB W H bl x y n = b) := hb
                    have hbb : (b != b) = false := by cases b <;> rfl
                    clear hb
                    go_wp2_with (first | (go_at_call 53; refine (may_v HM.out _ (hP5.ga.drewN _) (hP5.st.drewN _) hn8 (by omega) (by omega) (by omega) (by omega)).mono ?_; rintro e w' ⟨rfl, m1, rfl⟩) | (go_at_call 54; refine (rmay_v HM.out _ (hP5.ra.drewN _) hn8 (by omega) (by omega) (by omega) (by omega)).mono ?_; rintro e w' ⟨rfl, m1, rfl⟩))
                    go_roundg (8 - (n + 1))
                    case measure => have := HGn.out; omega
                    case rel => exact ⟨n + 1, by omega, rfl, by go_num, _, rfl⟩
                  · go_wp2
                    go_roundg ((H + 1 - (y + 1)).toNat)
                    case measure => have := HGy.out; omega
                    case rel => exact ⟨y + 1, by omega, by omega, rfl, rfl, _, rfl⟩
              all_goals
                have hat : atB W H x y = false := decide_eq_false (by omega)
                go_wp2_with (first | (go_at_call 50; refine (cell_out _ _ _ (hP5.ga.drewN _) hat).mono ?_; rintro e w' ⟨rfl, rfl⟩) | (go_at_call 51; refine (open_v HO.out _ (hP5.ga.drewN _)).mono ?_; rintro e w' ⟨rfl, m1, rfl⟩) | (go_at_call 52; refine (ropen_v HO.out _ (hP5.ra.drewN _)).mono ?_; rintro e w' ⟨rfl, m1, rfl⟩) | (go_at_call 10; refine (same_err 1 _ (by decide)).mono ?_; rintro e w' ⟨rfl, rfl⟩))
                go_loopg [22] 8 (fun q d wr => ∃ n : Nat, n ≤ 8 ∧ q = 8 - n ∧ d = .int .i64 n ∧ ∃ k, wr = w5.drewN k)
                case atStart => exact ⟨0, by omega, rfl, rfl, _, rfl⟩
                case round =>
                  obtain ⟨n, hn, hgn, rfl, kn, rfl⟩ := hrel
                  have HGn : Hid (gk = 8 - n) := hgn
                  clear hgn
                  by_cases hn8 : n < 8
                  · obtain ⟨b, hb⟩ : ∃ b, mayB W H bl x y n = b := ⟨_, rfl⟩
                    have HM : Hid (mayB W H bl x y n = b) := hb
                    have hbb : (b != b) = false := by cases b <;> rfl
                    clear hb
                    go_wp2_with (first | (go_at_call 53; refine (may_v HM.out _ (hP5.ga.drewN _) (hP5.st.drewN _) hn8 (by omega) (by omega) (by omega) (by omega)).mono ?_; rintro e w' ⟨rfl, m1, rfl⟩) | (go_at_call 54; refine (rmay_v HM.out _ (hP5.ra.drewN _) hn8 (by omega) (by omega) (by omega) (by omega)).mono ?_; rintro e w' ⟨rfl, m1, rfl⟩))
                    go_roundg (8 - (n + 1))
                    case measure => have := HGn.out; omega
                    case rel => exact ⟨n + 1, by omega, rfl, by go_num, _, rfl⟩
                  · go_wp2
                    go_roundg ((H + 1 - (y + 1)).toNat)
                    case measure => have := HGy.out; omega
                    case rel => exact ⟨y + 1, by omega, by omega, rfl, rfl, _, rfl⟩
            · go_wp2
              go_roundg ((W + 1 - (x + 1)).toNat)
              case measure => have := HGx.out; omega
              case rel => exact ⟨x + 1, by omega, by omega, rfl, rfl, _, rfl⟩
        · go_wp2
          go_ret
          exact ⟨rfl, below_drewN HB5 _⟩
end Go.Proofs.YtcagpmglijockaaGreatDoor
/-
  Has a graph what the reference's has: 'asGraph'.
-/
namespace Go.Proofs.YtcagpmglijockaaGreatDoor
open Go.RowKit

theorem rgraph_any {M : Nat} {W H V : Int} {bl : Nat → Bool} (w : World) (g : RefAt w M W H V bl) (hml : M < w.heap.size) :
    Calls Tryz.prog 20 #[.pointer (some ⟨M, 0, none⟩)] w fun e w' => ∃ rb mb A AR cap R f, e = .returned (.pointer (some ⟨rb, 0, none⟩)) ∧ RGt w' M rb mb W H V bl A AR cap R (crs W H bl (W * H).toNat) f ∧ Eds w' W H bl (crs W H bl (W * H).toNat) f (crs W H bl (W * H).toNat).length ∧ Below w.heap.size w w' := by
  have gw1 := g.w1
  obtain ⟨Fl, hFl⟩ := bests_ex w g
  refine (rgraph' (R := fun n => rayL n (Fl n)) w g hml (fun n => rayL_len _ _) (fun n => rayL_one _ _) (fun n => ray_new n (Fl n)) hFl rfl (fun n w' hn g' h' => from_c n w' g' h' (cornC_in gw1 hn) (hFl _ hn))).mono ?_
  rintro e w' ⟨rb, mb, A, AR, cap, f, h⟩
  exact ⟨rb, mb, A, AR, cap, _, f, h⟩

/-- both graphs, and cells to ask of -/
structure AG (w : World) (rb pb mb M gb eb : Nat) (W H V : Int) (bl : Nat → Bool) (A AR : Option Addr) (cap : Nat) (R : Nat → List Value) (L : List Nat) (f : Int → Option Value) (AF : Option Addr) (n : Nat) (xs : Nat → Int) : Prop where
  gr : GraphAt w rb pb mb W H V bl
  rg : RGt w M gb eb W H V bl A AR cap R L f
  ed : Eds w W H bl L f L.length
  st : StepsAt w
  row : OldRow w AF n xs
theorem AG.below {w w' : World} {rb pb mb M gb eb : Nat} {W H V : Int} {bl : Nat → Bool} {A AR : Option Addr} {cap : Nat} {R : Nat → List Value} {L : List Nat} {f : Int → Option Value} {AF : Option Addr} {n : Nat} {xs : Nat → Int} (h : AG w rb pb mb M gb eb W H V bl A AR cap R L f AF n xs) (hb : Below w.heap.size w w') : AG w' rb pb mb M gb eb W H V bl A AR cap R L f AF n xs :=
  ⟨h.gr.below hb, h.rg.below hb, h.ed.below hb, h.st.below hb (by have := h.rg.lts.1; omega), h.row.below hb⟩
theorem wf_c {c : Int} (h0 : -1 ≤ c) (h1 : c ≤ 256) : (Lit.int .i64 c).wf = true := by
  by_cases e : c = -1
  · subst e; rfl
  · by_cases e2 : c = 256
    · subst e2; rfl
    · exact wf_small (by omega) (by omega)
theorem ffv_cases (W H : Int) (bl : Nat → Bool) (c : Int) : (ffv W H bl c = 0 ∧ inB W H c = true ∧ bl c.toNat = false) ∨ ffv W H bl c = 1 ∨ ffv W H bl c = 4 := by
  unfold ffv
  cases inB W H c with
  | false => exact Or.inr (Or.inl rfl)
  | true =>
    cases bl c.toNat with
    | false => exact Or.inl ⟨rfl, rfl, rfl⟩
    | true => exact Or.inr (Or.inr rfl)

set_option maxHeartbeats 2000000 in
set_option maxRecDepth 1000000 in
theorem asgr_any {rb pb mb M n cf : Nat} {AF : Option Addr} {W H V : Int} {bl : Nat → Bool} {xs : Nat → Int} (w : World) (G : GraphAt w rb pb mb W H V bl) (g : RefAt w M W H V bl) (hml : M < w.heap.size) (s : StepsAt w) (hrow : OldRow w AF n xs) (hn : n ≤ 1000) :
    Calls Tryz.prog 7 #[.pointer (some ⟨rb, 0, none⟩), .pointer (some ⟨M, 0, none⟩), .slice AF n cf] w fun e w' => e = .returned (.bool true) ∧ Below w.heap.size w w' := by
  have gw1 := g.w1
  have hwh := wh_bd g.w1 g.w2 g.h1 g.h2
  have hwr : IntKind.i64.wrap (W * H) = W * H := wrap_small (by omega) (by omega)
  have h1 := rgraph_any w g hml
  go_enter Tryz.func7, Tryz.ntmps7
  go_wp2_with fail
  refine h1.mono ?_
  rintro e w1 ⟨gb, eb, A, AR, cap, R, f, rfl, rg, ed, hb1⟩
  have S1 : AG w1 rb pb mb M gb eb W H V bl A AR cap R (crs W H bl (W * H).toNat) f AF n xs := ⟨G.below hb1, rg, ed, s.below hb1 (by omega), hrow.below hb1⟩
  have HM : Hid (∀ c : Int, cornB W H bl c = true ↔ ∃ j, j < (crs W H bl (W * H).toNat).length ∧ c = (((crs W H bl (W * H).toNat).getD j 0 : Nat) : Int)) := fun c => by
    constructor
    · intro hc
      have h3 : 0 ≤ c ∧ c < W * H := of_decide_eq_true (cornC_in gw1 (cornB_iff.1 hc))
      have hm : c.toNat ∈ crs W H bl (W * H).toNat := (in_crs gw1).2 (by rw [Int.toNat_of_nonneg h3.1]; exact hc)
      obtain ⟨j, hj, e⟩ := List.getElem_of_mem hm
      exact ⟨j, hj, by rw [getD_at _ _ hj, e]; omega⟩
    · rintro ⟨j, hj, rfl⟩
      exact (in_crs gw1).1 (by rw [getD_at _ _ hj]; exact List.getElem_mem hj)
  have hLL := crs_len W H bl (W * H).toNat
  clear rg ed h1 G g s hrow
  go_wp2_with fail
  have bD : Below w1.heap.size w1 w1.drew := ⟨rfl, rfl, rfl, Nat.le_refl _, fun _ _ => rfl⟩
  have S2 := S1.below bD
  have B2 := hb1.trans (bD.mono hb1.size)
  have hno := nodes_any w1.drew S2.gr
  generalize crs W H bl (W * H).toNat = L at *
  have p2 := S2.rg.p0
  clear S1 bD hb1
  go_region_held3 (fun w' => w'.cell? ⟨gb, 0, none⟩ = some (.slice A L.length cap)) (first | exact p2 | exact p3 | exact p4 | exact p5 | exact p6)
    (first
      | (go_at_call 14; refine hno.mono ?_; rintro e w3 ⟨v3, rfl, ho3, hb3⟩; obtain ⟨A3, c3, rfl, row3⟩ := row_of ho3; have S3 := S2.below hb3; have B3 := B2.trans (hb3.mono B2.size); have p3 := S3.rg.p0; clear hno)
      | (go_at_call 21; refine (sameRows (by omega) row3 S3.rg.row).mono ?_; rintro e w4 ⟨rfl, m4, hw4⟩; have hb4 : Below w3.heap.size w3 w4 := (by rw [hw4]; exact below_drewN (Below.refl _ _) _); clear hw4; have S4 := S3.below hb4; have B4 := B3.trans (hb4.mono B3.size); have p4 := S4.rg.p0)
      | (go_at_call 23; refine (ggrid_any _ S4.gr).mono ?_; rintro e w5 ⟨rfl, hb5, hs5, g5, _⟩; have S5 := S4.below hb5; have B5 := B4.trans (hb5.mono B4.size); have p5 := S5.rg.p0)
      | (go_at_call 22; refine (asGrid_any w4.heap.size M W H V bl w5 ⟨g5, S5.rg.ra, hs5, S5.rg.lts.2.1, S5.st, by omega⟩).mono ?_; rintro e w6 ⟨rfl, hb6⟩; have S6 := S5.below hb6; have B6 := B5.trans (hb6.mono B5.size); have p6 := S6.rg.p0))
  clear S2 S3 S4 S5 B2 B3 B4 B5 p2 p3 p4 p5 p6 row3 ho3 hb3 hb4 hb5 hb6 g5 hs5
  go_wp2
  go_loopg [8] ((W * H + 1 - (-1)).toNat) (fun gk cv wr => ∃ c : Int, gk = (W * H + 1 - c).toNat ∧ cv = .int .i64 c ∧ -1 ≤ c ∧ c ≤ W * H + 1 ∧ AG wr rb pb mb M gb eb W H V bl A AR cap R L f AF n xs ∧ Below w.heap.size w wr)
  case atStart => exact ⟨-1, rfl, rfl, by omega, by omega, S6, B6⟩
  case round =>
    obtain ⟨c, hgk, rfl, hc1, hc2, S, Br⟩ := hrel
    clear S6 B6
    have m0 := S.rg.ra.c0
    have m1 := S.rg.ra.c1
    by_cases hle : c ≤ W * H
    · go_wp2
      go_quiet (fail)
      have bD : Below wr.heap.size wr (wr.drewN nq) := below_drewN (Below.refl _ _) _
      have S2 := S.below bD
      have B2 := Br.trans (bD.mono Br.size)
      clear S Br bD m0 m1
      generalize wr.drewN nq = w2 at *
      have hwf := wf_c hc1 (show c ≤ 256 by omega)
      have q1 := S2.rg.p1
      cases hcb : cornB W H bl c with
      | false =>
        have hed := edges_no w2 S2.gr hcb hwf
        have hfn := S2.ed.2 c (fun h => by have := (HM.out c).2 h; rw [hcb] at this; cases this)
        go_wp2_with fail
        refine hed.mono ?_
        rintro e w3 ⟨rfl, hb3⟩
        have S3 := S2.below hb3
        have B3 := B2.trans (hb3.mono B2.size)
        have q1 := S3.rg.p1
        have hl : (Instr.lookup 59 (.map (some eb)) (.int .i64 c) true).run Tryz.prog w3 = .ok (.tuple #[.slice none 0 0, .bool false]) w3 := S3.rg.mp.look_none law3 Tryz.underM (zeroM w3) hwf hfn true
        have hsa := same_err 5 w3 (by omega)
        clear hed S2 B2 hb3
        go_wp2_with (go_at_call 10; refine hsa.mono ?_; rintro e w' ⟨rfl, rfl⟩)
        go_roundg ((W * H + 1 - (c + 1)).toNat)
        case measure => omega
        case rel => exact ⟨c + 1, rfl, by go_num, by omega, by omega, S3, B3⟩
      | true =>
        obtain ⟨vx, lx, hfx, hox, hlx⟩ := S2.ed.1 c ((HM.out c).1 hcb)
        have hed := edges_yes w2 S2.gr hcb hwf
        go_wp2_with fail
        refine hed.mono ?_
        rintro e w3 ⟨v, l, rfl, ho3, hl3, hb3⟩
        have S3 := S2.below hb3
        have B3 := B2.trans (hb3.mono B2.size)
        have q1 := S3.rg.p1
        have hll : lx = l := rise_eq hlx.1 hl3.1 (fun n => (hlx.2 n).trans (hl3.2 n).symm)
        subst hll
        have hlen := hl3.len gw1 hwh.2
        obtain ⟨AX, cx, rfl, rowx⟩ := rowE_of (own_below hox hb3)
        obtain ⟨AY, cy, rfl, rowy⟩ := rowE_of ho3
        have hl : (Instr.lookup 59 (.map (some eb)) (.int .i64 c) true).run Tryz.prog w3 = .ok (.tuple #[.slice AX lx.length cx, .bool true]) w3 := S3.rg.mp.look_some law3 Tryz.underM (zeroM w3) hwf hfx true
        have hsa := sameE_any (ca := cy) (cb := cx) w3 rowy rowx (by omega)
        clear hed S2 B2 hb3 hox ho3 hl3 hlx hfx rowx rowy
        go_wp2_with (go_at_call 24; refine hsa.mono ?_; rintro e w' ⟨rfl, m4, hw4⟩)
        have hb4 : Below w3.heap.size w3 (w3.drewN m4) := below_drewN (Below.refl _ _) _
        go_roundg ((W * H + 1 - (c + 1)).toNat)
        case measure => omega
        case rel => exact ⟨c + 1, rfl, by go_num, by omega, by omega, S3.below hb4, B3.trans (hb4.mono B3.size)⟩
    · go_wp2
      go_quiet (fail)
      have bD : Below wr.heap.size wr (wr.drewN nq) := below_drewN (Below.refl _ _) _
      have S2 := S.below bD
      have B2 := Br.trans (bD.mono Br.size)
      clear S Br bD m0 m1
      generalize wr.drewN nq = w2 at *
      go_wp2
      clear hle hc1 hc2 hgk
      go_loopg [13] n (fun gj iv wq => ∃ i : Nat, gj = n - i ∧ iv = .int .i64 i ∧ i ≤ n ∧ AG wq rb pb mb M gb eb W H V bl A AR cap R L f AF n xs ∧ Below w.heap.size w wq)
      case atStart => exact ⟨0, rfl, rfl, Nat.zero_le _, S2, B2⟩
      case round =>
        obtain ⟨i, hgj, rfl, hi, S, Br⟩ := hrel
        clear S2 B2
        by_cases hlt : i < n
        · obtain ⟨ba, oa, rfl, hba, hcell⟩ := S.row i hlt
          have i1 : (0 : Int) ≤ (i : Int) := by omega
          have i2 : (i : Int) < (n : Int) := by omega
          generalize hxi : xs i = x at *
          have HX : Hid (xs i = x) := hxi
          clear hxi
          rcases ffv_cases W H bl x with ⟨hf, hin, hfr⟩ | hf | hf
          · have hco := conn_ok wr S.gr S.st hin hfr
            go_wp2_with fail
            refine hco.mono ?_
            rintro e w3 ⟨v, l, rfl, ho3, hl3, hb3⟩
            have S3 := S.below hb3
            have B3 := Br.trans (hb3.mono Br.size)
            have hff := ff_any x w3 S3.rg.ra
            rw [hf] at hff
            have hcell3 := (hb3.cell (World.block_lt_of_cell? _ _ hcell)).trans hcell
            obtain ⟨AY, cy, rfl, rowy⟩ := rowE_of ho3
            clear hco S Br hb3 hcell
            go_wp2_with fail
            refine hff.mono ?_
            rintro e w4 ⟨rfl, hb4⟩
            have S4 := S3.below hb4
            have B4 := B3.trans (hb4.mono B3.size)
            have hcell4 := (hb4.cell (World.block_lt_of_cell? _ _ hcell3)).trans hcell3
            have rowy4 := rowy.below hb4
            have hsn := same_nil w4
            clear hff S3 B3 hb4 hcell3 rowy
            have hq : 0 ≤ x ∧ x < W * H := of_decide_eq_true hin
            obtain ⟨xn, rfl⟩ : ∃ xn : Nat, x = xn := ⟨x.toNat, by omega⟩
            have hrc := rconn_any w4 S4.rg.ra S4.rg.lts.2.1 hin
            go_wp2_with (first
              | (go_at_call 10; refine hsn.mono ?_; rintro e w' ⟨rfl, rfl⟩)
              | (go_at_call 27; refine hrc.mono ?_; rintro e w5 ⟨v5, l5, rfl, ho5, hl5, hb5⟩; obtain ⟨AZ, cz, rfl, rowz⟩ := rowE_of ho5)
              | fail)
            have hll : l5 = l := rise_eq hl5.1 hl3.1 (fun n => (hl5.2 n).trans (hl3.2 n).symm)
            subst hll
            have hlen : l5.length ≤ 256 := nodup_len 256 (hl5.1.imp (fun h e => by omega)) (fun n hn => by
              have h2 : 0 ≤ (n : Int) ∧ (n : Int) < W * H := of_decide_eq_true (cornC_in gw1 (cornB_iff.1 ((hl5.2 n).1 hn).2))
              omega)
            refine (sameE_any w5 (rowy4.below hb5) rowz (by omega)).mono ?_
            rintro e w6 ⟨rfl, m6, hw6⟩
            have hb6 : Below w5.heap.size w5 w6 := by rw [hw6]; exact below_drewN (Below.refl _ _) _
            have S6 := (S4.below hb5).below hb6
            have B5 := B4.trans (hb5.mono B4.size)
            have B6 := B5.trans (hb6.mono B5.size)
            clear hw6 S4 B4 B5 hb5 hb6 rowz rowy4 ho5 hl5 hl3 hcell4 hrc hsn ho3
            go_wp2
            go_roundg (n - (i + 1))
            case measure => omega
            case rel => exact ⟨i + 1, rfl, by go_num, by omega, S6, B6⟩
          · have hco := conn_err (c := x) wr S.gr (by rw [hf]; decide)
            rw [hf, errV_some (n := 1) (by decide)] at hco
            go_wp2_with fail
            refine hco.mono ?_
            rintro e w3 ⟨rfl, hb3⟩
            have S3 := S.below hb3
            have B3 := Br.trans (hb3.mono Br.size)
            have hff := ff_any x w3 S3.rg.ra
            rw [hf] at hff
            have hcell3 := (hb3.cell (World.block_lt_of_cell? _ _ hcell)).trans hcell
            clear hco S Br hb3 hcell
            go_wp2_with fail
            refine hff.mono ?_
            rintro e w4 ⟨rfl, hb4⟩
            have S4 := S3.below hb4
            have B4 := B3.trans (hb4.mono B3.size)
            have hsn := same_err 1 w4 (by decide)
            clear hff S3 B3 hb4 hcell3
            go_wp2_with (go_at_call 10; refine hsn.mono ?_; rintro e w' ⟨rfl, rfl⟩)
            go_roundg (n - (i + 1))
            case measure => omega
            case rel => exact ⟨i + 1, rfl, by go_num, by omega, S4, B4⟩
          · have hco := conn_err (c := x) wr S.gr (by rw [hf]; decide)
            rw [hf, errV_some (n := 4) (by decide)] at hco
            go_wp2_with fail
            refine hco.mono ?_
            rintro e w3 ⟨rfl, hb3⟩
            have S3 := S.below hb3
            have B3 := Br.trans (hb3.mono Br.size)
            have hff := ff_any x w3 S3.rg.ra
            rw [hf] at hff
            have hcell3 := (hb3.cell (World.block_lt_of_cell? _ _ hcell)).trans hcell
            clear hco S Br hb3 hcell
            go_wp2_with fail
            refine hff.mono ?_
            rintro e w4 ⟨rfl, hb4⟩
            have S4 := S3.below hb4
            have B4 := B3.trans (hb4.mono B3.size)
            have hsn := same_err 4 w4 (by decide)
            clear hff S3 B3 hb4 hcell3
            go_wp2_with (go_at_call 10; refine hsn.mono ?_; rintro e w' ⟨rfl, rfl⟩)
            go_roundg (n - (i + 1))
            case measure => omega
            case rel => exact ⟨i + 1, rfl, by go_num, by omega, S4, B4⟩
        · have hge : i = n := by omega
          subst hge
          go_wp2
          go_ret
          exact ⟨rfl, Br⟩
end Go.Proofs.YtcagpmglijockaaGreatDoor
/-
  A closed fact: round one blocked cell of nine.
-/
namespace Go.Proofs.YtcagpmglijockaaGreatDoor
open Go.RowKit

/-- the middle of nine cells is blocked -/
def mid9 : Nat → Bool := upd (fun _ => false) 4 true
theorem tw_in {t a p : Int} (Rr : List Int) (ha : a ∈ Rr) (hs : ∀ p ∈ Rr, ∀ k, k < 8 → mayB 3 3 mid9 (p % 3) (p / 3) k = true → Good (p % 3) (p / 3) (t % 3) (t / 3) k → p + (stepY k * 3 + stepX k) ∈ Rr) (h : Tw 3 3 mid9 a t p) : p ∈ Rr :=
  h (fun p => p ∈ Rr) ha (fun p k r hp e hg => by rw [e.2.2.2]; exact hs p hp k e.1 e.2.2.1 hg)
theorem corn9 : crs 3 3 mid9 9 = [0, 2, 6, 8] := by decide
theorem tw02 {p : Int} (h : Tw 3 3 mid9 0 2 p) : p ∈ ([0, 1, 2] : List Int) := tw_in _ (by decide) (by unfold Good; decide) h
theorem tw06 {p : Int} (h : Tw 3 3 mid9 0 6 p) : p ∈ ([0, 3, 6] : List Int) := tw_in _ (by decide) (by unfold Good; decide) h
theorem tw08 {p : Int} (h : Tw 3 3 mid9 0 8 p) : p ∈ ([0] : List Int) := tw_in _ (by decide) (by unfold Good; decide) h
theorem tw80 {p : Int} (h : Tw 3 3 mid9 8 0 p) : p ∈ ([8] : List Int) := tw_in _ (by decide) (by unfold Good; decide) h
theorem on02 : On 3 3 mid9 0 2 2 := ⟨(Tw.nil.step (k := 2) (r := 1) (by unfold Edge; decide) (by unfold Good; decide)).step (k := 2) (r := 2) (by unfold Edge; decide) (by unfold Good; decide), Tw.nil⟩
theorem on06 : On 3 3 mid9 0 6 6 := ⟨(Tw.nil.step (k := 4) (r := 3) (by unfold Edge; decide) (by unfold Good; decide)).step (k := 4) (r := 6) (by unfold Edge; decide) (by unfold Good; decide), Tw.nil⟩
theorem dir02 : Dir 3 3 mid9 0 2 := ⟨⟨2, on02⟩, fun k hk hc => by
  have h := tw02 hk.1
  simp only [List.mem_cons, List.not_mem_nil, or_false] at h
  rcases h with rfl | rfl | rfl
  · exact Or.inl rfl
  · exact absurd (cornB_iff.2 hc) (by decide)
  · exact Or.inr rfl⟩
theorem dir06 : Dir 3 3 mid9 0 6 := ⟨⟨6, on06⟩, fun k hk hc => by
  have h := tw06 hk.1
  simp only [List.mem_cons, List.not_mem_nil, or_false] at h
  rcases h with rfl | rfl | rfl
  · exact Or.inl rfl
  · exact absurd (cornB_iff.2 hc) (by decide)
  · exact Or.inr rfl⟩
theorem dir08 : ¬ Dir 3 3 mid9 0 8 := fun ⟨⟨z, h1, h2⟩, _⟩ => by
  have h1 := tw08 h1
  have h2 := tw80 h2
  simp only [List.mem_cons, List.not_mem_nil, or_false] at h1 h2
  omega
theorem edge9 {l : List Nat} (h : EdgeL 3 3 mid9 0 l) : l = [2, 6] := by
  refine rise_eq h.1 (by decide) (fun n => (h.2 n).trans ?_)
  rw [Bool.and_eq_true, decide_eq_true_iff]
  constructor
  · rintro ⟨h1, h2, h3⟩
    have hm : n ∈ crs 3 3 mid9 (3 * 3 : Int).toNat := (in_crs (by decide)).2 h3
    rw [show (3 * 3 : Int).toNat = 9 from rfl, corn9] at hm
    simp only [List.mem_cons, List.not_mem_nil, or_false] at hm ⊢
    rcases hm with rfl | rfl | rfl | rfl
    · exact absurd rfl h2
    · exact Or.inl rfl
    · exact Or.inr rfl
    · exact absurd h1 dir08
  · intro hm
    simp only [List.mem_cons, List.not_mem_nil, or_false] at hm
    rcases hm with rfl | rfl
    · exact ⟨dir02, by decide, by decide⟩
    · exact ⟨dir06, by decide, by decide⟩
end Go.Proofs.YtcagpmglijockaaGreatDoor
/-
  The statement's closed fact: 'links'.
-/
namespace Go.Proofs.YtcagpmglijockaaGreatDoor
open Go.RowKit

set_option maxHeartbeats 1000000 in
set_option maxRecDepth 1000000 in
theorem links_any (w : World) (s : StepsAt w) (hpos : 0 < w.heap.size) : Calls Tryz.prog 4 #[] w fun e w' => e = .returned (.bool true) ∧ Below w.heap.size w w' := by
  have hs3 : sideB 3 = true := by decide
  have hG := gridAt_new 3 3 w hs3 hs3
  have hF : Free (w.alloc (.cells (gridC 3 3) 79)) w.heap.size := free_alloc w _ _ _ (Nat.le_refl _)
  have hb : Below w.heap.size w (w.alloc (.cells (gridC 3 3) 79)) := (Below.refl _ _).alloc (Nat.le_refl _) _
  have hsz : (w.alloc (.cells (gridC 3 3) 79)).heap.size = w.heap.size + 1 := by simp
  have hset := set_new 4 true _ hG hF (by decide) rfl (by decide) (by decide)
  go_enter Tryz.func4, Tryz.ntmps4
  go_wp2_with (go_at_call 11; refine (new_ok _ _ _ hs3 hs3).mono ?_; rintro e w' ⟨rfl, rfl⟩)
  refine hset.mono ?_
  rintro e w1 ⟨rfl, T1, G1, F1⟩
  have B1 : Below w.heap.size w w1 := T1.below hb (Nat.le_refl _)
  have s1 : StepsAt w1 := s.below B1 hpos
  have z1 : w.heap.size < w1.heap.size := by rw [T1.size, hsz]; omega
  clear hG hF hb hsz hset F1 T1
  have hN := new_graph (bl := mid9) w1 G1 s1 z1
  go_wp2_with fail
  refine hN.mono ?_
  rintro e w2 ⟨rb, pb, mb, rfl, GA, _, _, _, hb2⟩
  have B2 := B1.trans (hb2.mono B1.size)
  have hE := edges_yes (c := 0) w2 GA (by decide) (wf_c (by decide) (by decide))
  clear hN hb2 G1 s1 z1 B1
  go_wp2_with fail
  refine hE.mono ?_
  rintro e w3 ⟨v, l, rfl, ho, hl, hb3⟩
  have hll := edge9 hl
  subst hll
  obtain ⟨A, cap, rfl, row⟩ := rowE_of ho
  obtain ⟨ba, rfl, h0, h1, h2, h3, h4⟩ := row 0 (by decide)
  have h1 : w3.cell? ⟨ba, 0, none⟩ = some (.int .i64 2) := h1
  have h2 : w3.cell? ⟨ba, 1, none⟩ = some (.int .i64 2) := h2
  have h3 : w3.cell? ⟨ba, 2, none⟩ = some (.int .i64 0) := h3
  have h4 : w3.cell? ⟨ba, 3, none⟩ = some (.int .i64 (-1)) := h4
  have GA3 := GA.below hb3
  have B3 := B2.trans (hb3.mono B2.size)
  clear hE hb3 GA B2 row ho hl
  have hsn := same_nil w3
  have hno := nodes_any w3 GA3
  rw [show (3 * 3 : Int).toNat = 9 from rfl, corn9] at hno
  go_wp2_with (first
    | (go_at_call 10; refine hsn.mono ?_; rintro e w' ⟨rfl, rfl⟩)
    | (go_at_call 14; refine hno.mono ?_; rintro e w5 ⟨v5, rfl, ho5, hb5⟩; obtain ⟨A5, c5, rfl, _⟩ := row_of ho5))
  go_ret
  exact ⟨rfl, B3.trans (hb5.mono B3.size)⟩
end Go.Proofs.YtcagpmglijockaaGreatDoor
