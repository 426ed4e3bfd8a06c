/-
  Texts laid together: CornerW, RGraph, RGr.
-/
import Derived.Test.YtmnpplkjhnoglaaGreatDoorP45
import Derived.Deep.RegionHeld3
/-
  The walk of 'CornerSays'.
-/
namespace Go.Proofs.YtmnpplkjhnoglaaGreatDoor
open Go.RowKit

theorem all_v {b : Nat} {W H V : Int} {bl : Nat → Bool} {l : List Nat} (hl : crs W H bl (W * H).toNat = l) (w : World) (g : GridAt w b W H V bl) (s : StepsAt w) (hb : b < w.heap.size) :
    Calls Tryz.prog 45 #[.pointer (some ⟨b, 0, none⟩)] w fun e w' => ∃ A cap, e = .returned (.slice A l.length cap) ∧ OldRow w' A l.length (fun i => (l.getD i 0 : Nat)) ∧ Below w.heap.size w w' :=
  (all_any w g s hb).mono fun e w' ⟨v, he, hown, hbl⟩ => by
    rw [hl] at hown
    obtain ⟨A, cap, rfl, hrow⟩ := row_of hown
    exact ⟨A, cap, he, hrow, hbl⟩
theorem rcorners_v {b : Nat} {W H V : Int} {bl : Nat → Bool} {l : List Nat} (hl : crs W H bl (W * H).toNat = l) (w : World) (g : RefAt w b W H V bl) (hb : b < w.heap.size) :
    Calls Tryz.prog 49 #[.pointer (some ⟨b, 0, none⟩)] w fun e w' => ∃ A cap, e = .returned (.slice A l.length cap) ∧ OldRow w' A l.length (fun i => (l.getD i 0 : Nat)) ∧ Below w.heap.size w w' :=
  (rcorners_any w g hb).mono fun e w' ⟨v, he, hown, hbl⟩ => by
    rw [hl] at hown
    obtain ⟨A, cap, rfl, hrow⟩ := row_of hown
    exact ⟨A, cap, he, hrow, hbl⟩

end Go.Proofs.YtmnpplkjhnoglaaGreatDoor
/-
  The reference's rays of all corners, and 'Connected'.
-/
namespace Go.Proofs.YtmnpplkjhnoglaaGreatDoor
open Go.RowKit

theorem Tryz.und89 : Tryz.prog.underlying 101 = some (.slice 103) := by kernel_rfl
theorem info_ray : ∃ (ie : TypeInfo) (z : Value), Tryz.prog.info? 103 = some ie ∧ ie.zero = some z ∧ ie.size = 769 ∧ ie.bytes = 4360 ∧ z.cells.size = 769 := by
  have h1 : (Tryz.prog.info? 103).map (·.size) = some 769 := info112
  have h2 : (Tryz.prog.info? 103).map (·.bytes) = some 4360 := by kernel_rfl
  have h3 : ((Tryz.prog.info? 103).bind (·.zero)).map (·.cells.size) = some 769 := by kernel_rfl
  cases hie : Tryz.prog.info? 103 with
  | none => rw [hie] at h1; cases h1
  | some ie =>
    rw [hie] at h1 h2 h3
    cases hz : ie.zero with
    | none => rw [Option.bind_some, hz] at h3; cases h3
    | some z =>
      rw [Option.bind_some, hz] at h3
      exact ⟨ie, z, rfl, hz, Option.some.inj h1, Option.some.inj h2, Option.some.inj h3⟩
/-- one ray as a row of its own -/
theorem wpList_build_ray {ops : Array Oper} {rest : List Oper} {o : Oper} {a : Act} {w : World} {Q : Exit → Act → World → Prop} (hgd : o.guard = none) (x : Operand) (ho : o.op = .buildSlice 101 1 #[(0, x)]) (RL : List Value) (lR : RL.length = 769) (hx : a.eval x = .agg RL.toArray)
    (h : wpList Tryz.prog ops Q rest (a.put o.dst (.slice (some ⟨w.heap.size, 0, none⟩) 1 1)) (w.alloc (.cells RL.toArray 103))) : wpList Tryz.prog ops Q (o :: rest) a w := by
  obtain ⟨ie, z, hie, hz, hsz, hby, hzs⟩ := info_ray
  refine wpList_buildSlice hgd 101 103 1 #[(0, x)] ho RL.toArray ie z Tryz.und89 hie hz (by rw [hsz]; decide) (by rw [hsz]; decide) ?_ h
  have e0 : ((#[(0, x)] : Array (Nat × Operand)).map fun (i, x) => (i, a.eval x)).toList = (([a.eval x] : List Value).zipIdx 0).map fun x => (x.2, x.1) := by simp
  rw [e0, hx, hsz]
  have := Great.fill_whole (s := 769) (by decide) [Value.agg RL.toArray] ((Array.range (1 * 769)).map (z.cells[· % z.cells.size]!)) (fun v hv => by
    rw [List.mem_singleton] at hv
    rw [hv]
    show RL.toArray.size = 769
    rw [List.size_toArray, lR]) (by simp)
  have e1 : ([Value.agg RL.toArray].flatMap fun v => v.cells.toList) = RL := by
    rw [List.flatMap_cons, List.flatMap_nil, List.append_nil]
    rfl
  rw [e1] at this
  exact this

theorem best_ex {b : Nat} {W H V : Int} {bl : Nat → Bool} (w : World) (g : RefAt w b W H V bl) {c : Int} (hr : inB W H c = true) : ∃ F, Best (Edge W H bl) c F := by
  have hc : 0 ≤ c ∧ c < W * H := of_decide_eq_true hr
  obtain ⟨n, rfl⟩ : ∃ n : Nat, c = n := ⟨c.toNat, by omega⟩
  obtain ⟨e, w', fr, h, _⟩ := rflood_any n w g (World.block_lt_of_cell? _ _ g.c0) hr []
  obtain ⟨F, _, hB, _⟩ := h
  exact ⟨F, hB⟩
/-- the ray of a corner -/
theorem from_c {M : Nat} {W H V : Int} {bl : Nat → Bool} {F : Int → Option (Int × Int)} (c : Nat) (w : World) (g : RefAt w M W H V bl) (hml : M < w.heap.size) (hr : inB W H c = true) (hF : Best (Edge W H bl) c F) :
    Calls Tryz.prog 50 #[.pointer (some ⟨M, 0, none⟩), .int .i64 (c : Int)] w fun e w' => e = .returned (.agg (rayL c F).toArray) ∧ Below w.heap.size w w' :=
  (from_any c w g hml hr).mono fun e w' ⟨G, he, hG, hb⟩ => ⟨by rw [he, hF.unique hG], hb⟩
theorem take_flat {L : List Nat} {i : Nat} (h : i < L.length) (R : Nat → List Value) : (L.take (i + 1)).flatMap R = (L.take i).flatMap R ++ R (L.getD i 0) := by
  rw [List.take_succ_eq_append_getElem h, List.flatMap_append, ← getD_at _ _ h]
  simp

theorem Upto.all {W H : Int} {bl : Nat → Bool} {P : Nat → Prop} {l : List Nat} (h : Upto (crs W H bl (W * H).toNat) P (crs W H bl (W * H).toNat).length l) (n : Nat) : n ∈ l ↔ n ∈ crs W H bl (W * H).toNat ∧ P n := by
  rw [h.2 n]
  constructor
  · rintro ⟨j, hj, e, hp⟩
    exact ⟨by rw [← e, getD_at _ _ hj]; exact List.getElem_mem hj, hp⟩
  · rintro ⟨hm, hp⟩
    obtain ⟨j, hj, e⟩ := List.getElem_of_mem hm
    exact ⟨j, hj, by rw [getD_at _ _ hj, e], hp⟩
theorem in_crs {W H : Int} {bl : Nat → Bool} (w1 : 1 ≤ W) {n : Nat} : n ∈ crs W H bl (W * H).toNat ↔ cornB W H bl (n : Int) = true := by
  rw [crs_mem]
  constructor
  · exact fun h => h.2
  · intro h
    have h3 : 0 ≤ (n : Int) ∧ (n : Int) < W * H := of_decide_eq_true (cornC_in w1 (cornB_iff.1 h))
    exact ⟨by omega, h⟩

end Go.Proofs.YtmnpplkjhnoglaaGreatDoor
/-
  The reference's graph: of each corner its edges.
-/
namespace Go.Proofs.YtmnpplkjhnoglaaGreatDoor
open Go.RowKit

/-- the reference's graph while it is laid -/
structure RGt (w : World) (M rb mb : Nat) (W H V : Int) (bl : Nat → Bool) (A AR : Option Addr) (cap : Nat) (R : Nat → List Value) (L : List Nat) (f : Int → Option Value) : Prop where
  p0 : w.cell? ⟨rb, 0, none⟩ = some (.slice A L.length cap)
  p1 : w.cell? ⟨rb, 1, none⟩ = some (.map (some mb))
  ra : RefAt w M W H V bl
  row : OldRow w A L.length (fun i => (L.getD i 0 : Nat))
  rays : OldRays w AR R L
  mp : MapF Tryz.prog 3 w mb f (cntS (keyB f) 256)
  bd : ∀ i, keyB f i = true → 0 ≤ i ∧ i < 256
section
variable {w w' : World} {M rb mb cap : Nat} {W H V : Int} {bl : Nat → Bool} {A AR : Option Addr} {R : Nat → List Value} {L : List Nat} {f : Int → Option Value}
theorem RGt.lts (G : RGt w M rb mb W H V bl A AR cap R L f) : rb < w.heap.size ∧ M < w.heap.size ∧ mb < w.heap.size := ⟨World.block_lt_of_cell? w _ G.p0, World.block_lt_of_cell? w _ G.ra.c0, G.mp.lt⟩
theorem RGt.cell (G : RGt w M rb mb W H V bl A AR cap R L f) (K : Keep (fun k => k = mb) w w') {q o : Nat} {v : Value} (h : w.cell? ⟨q, o, none⟩ = some v) : w'.cell? ⟨q, o, none⟩ = some v :=
  K.cellOf h (fun e => by
    have h' := G.mp.cell o
    rw [← e, h] at h'; cases h')
theorem RGt.below (G : RGt w M rb mb W H V bl A AR cap R L f) (hb : Below w.heap.size w w') : RGt w' M rb mb W H V bl A AR cap R L f :=
  ⟨(hb.cell (p := ⟨rb, 0, none⟩) G.lts.1).trans G.p0, (hb.cell (p := ⟨rb, 1, none⟩) G.lts.1).trans G.p1, G.ra.below hb G.lts.2.1, G.row.below hb, G.rays.below hb, G.mp.keep (F := fun _ => False) (Keep.of_below hb) id, G.bd⟩
theorem RGt.room (_G : RGt w M rb mb W H V bl A AR cap R L f) : cntS (keyB f) 256 < maxLen := by
  have := cntS_le (keyB f) 256
  unfold maxLen
  omega
theorem RGt.put (G : RGt w M rb mb W H V bl A AR cap R L f) {a : Int} {v : Value} (h0 : 0 ≤ a) (h1 : a < 256) (hm : MapF Tryz.prog 3 w' mb (putF f a v) (if (f a).isSome then cntS (keyB f) 256 else cntS (keyB f) 256 + 1)) (ht : w.mapTurned w' mb) : RGt w' M rb mb W H V bl A AR cap R L (putF f a v) := by
  have K := turned_keep ht
  refine ⟨G.cell K G.p0, G.cell K G.p1, ⟨G.ra.w1, G.ra.w2, G.ra.h1, G.ra.h2, G.cell K G.ra.c0, G.cell K G.ra.c1, G.cell K G.ra.c2, fun i hi => G.cell K (G.ra.cs i hi)⟩, fun i hi => ?_, fun i hi => ?_, ?_, fun i hi => ?_⟩
  · obtain ⟨b, o, e, k1, k2⟩ := G.row i hi
    exact ⟨b, o, e, Nat.lt_of_lt_of_le k1 K.size, G.cell K k2⟩
  · obtain ⟨b, e, k1, k2⟩ := G.rays i hi
    exact ⟨b, e, Nat.lt_of_lt_of_le k1 K.size, fun j v hj => G.cell K (k2 j v hj)⟩
  · rw [keyB_put]
    cases hs : keyB f a with
    | true => rw [insS_same hs]; have e : (f a).isSome = true := hs; rw [e] at hm; exact hm
    | false => rw [cntS_put (keyB f) a 256 h0 h1 hs]; have e : (f a).isSome = false := hs; rw [e] at hm; exact hm
  · rw [keyB_put] at hi
    rcases (insS_iff _ _ _).1 hi with rfl | hi
    · exact ⟨h0, h1⟩
    · exact G.bd i hi
end
/-- what the map of edges holds up to a corner -/
def Eds (w : World) (W H : Int) (bl : Nat → Bool) (L : List Nat) (f : Int → Option Value) (i : Nat) : Prop := (∀ c : Int, (∃ j, j < i ∧ c = ((L.getD j 0 : Nat) : Int)) → ∃ v l, f c = some v ∧ w.ownsRow 1 67 4 v l.length (edgesV W c l) ∧ EdgeL W H bl c l) ∧ ∀ c : Int, ¬ (∃ j, j < i ∧ c = ((L.getD j 0 : Nat) : Int)) → f c = none
theorem Eds.next {w w' : World} {W H : Int} {bl : Nat → Bool} {L l : List Nat} {f f' : Int → Option Value} {i mb n : Nat} {v : Value} (E : Eds w W H bl L f i) (M : MapF Tryz.prog 3 w mb f n) (K : Keep (fun k => k = mb) w w') (hf : f' = putF f ((L.getD i 0 : Nat) : Int) v)
    (ho : w.ownsRow 1 67 4 v l.length (edgesV W ((L.getD i 0 : Nat) : Int) l)) (hl : EdgeL W H bl ((L.getD i 0 : Nat) : Int) l) : Eds w' W H bl L f' (i + 1) := by
  have kp : ∀ {v : Value} {l : List Nat} {c : Int}, w.ownsRow 1 67 4 v l.length (edgesV W c l) → w'.ownsRow 1 67 4 v l.length (edgesV W c l) := fun h => own_keep h K (own_map h M)
  subst hf
  refine ⟨fun c hc => ?_, fun c hc => ?_⟩
  · by_cases e : c = ((L.getD i 0 : Nat) : Int)
    · exact ⟨v, l, by unfold putF; rw [if_pos e], by rw [e]; exact kp ho, by rw [e]; exact hl⟩
    · obtain ⟨j, hj, h⟩ := hc
      have hji : j ≠ i := fun e' => e (by rw [h, e'])
      obtain ⟨v', l', h1, h2, h3⟩ := E.1 c ⟨j, by omega, h⟩
      exact ⟨v', l', by unfold putF; rw [if_neg e]; exact h1, kp h2, h3⟩
  · have e : c ≠ ((L.getD i 0 : Nat) : Int) := fun e => hc ⟨i, by omega, e⟩
    unfold putF
    rw [if_neg e]
    exact E.2 c (fun ⟨j, hj, h⟩ => hc ⟨j, by omega, h⟩)
theorem Eds.below {w w' : World} {W H : Int} {bl : Nat → Bool} {L : List Nat} {f : Int → Option Value} {i : Nat} (E : Eds w W H bl L f i) (hb : Below w.heap.size w w') : Eds w' W H bl L f i :=
  ⟨fun c hc => by obtain ⟨v, l, h1, h2, h3⟩ := E.1 c hc; exact ⟨v, l, h1, own_below h2 hb, h3⟩, E.2⟩

/-- what a round of the second loop reads -/
def Four (w : World) (rb mb ba o bb p z n cap oa : Nat) (RZ : List Value) : Prop := w.cell? ⟨rb, 1, none⟩ = some (.map (some mb)) ∧ w.cell? ⟨rb, 0, none⟩ = some (.slice (some ⟨ba, oa, none⟩) n cap) ∧ w.cell? ⟨ba, o, none⟩ = some (.int .i64 (z : Int)) ∧ w.rangeAt bb p RZ
theorem Four.below {w w' : World} {rb mb ba o bb p z n cap oa : Nat} {RZ : List Value} (h : Four w rb mb ba o bb p z n cap oa RZ) (hb : Below w.heap.size w w') : Four w' rb mb ba o bb p z n cap oa RZ := by
  have k : ∀ {a : Addr} {v : Value}, w.cell? a = some v → w'.cell? a = some v := fun {a v} h => (hb.cell (World.block_lt_of_cell? w a h)).trans h
  exact ⟨k h.1, k h.2.1, k h.2.2.1, range_below h.2.2.2 hb⟩

set_option maxHeartbeats 1000000 in
set_option maxRecDepth 1000000 in
theorem rgraph' {M : Nat} {W H V : Int} {bl : Nat → Bool} {R : Nat → List Value} {Fl : Int → Int → Option (Int × Int)} {L : List Nat} (w : World) (g : RefAt w M W H V bl) (hml : M < w.heap.size)
    (hR : ∀ n, (R n).length = 769) (hR1 : ∀ n, ∀ u ∈ R n, u.oneCell' = true) (hRn : ∀ (n : Nat) (w : World), RayAt (w.alloc (.cells (R n).toArray 103)) w.heap.size n (Fl n)) (hB : ∀ c, CornC W H bl c → Best (Edge W H bl) c (Fl c))
    (hL : crs W H bl (W * H).toNat = L)
    (hfn : ∀ (n : Nat) (w' : World), CornC W H bl n → RefAt w' M W H V bl → M < w'.heap.size → Calls Tryz.prog 50 #[.pointer (some ⟨M, 0, none⟩), .int .i64 (n : Int)] w' fun e w'' => e = .returned (.agg (R n).toArray) ∧ Below w'.heap.size w' w'') :
    Calls Tryz.prog 12 #[.pointer (some ⟨M, 0, none⟩)] w fun e w' => ∃ rb mb A AR cap f, e = .returned (.pointer (some ⟨rb, 0, none⟩)) ∧ RGt w' M rb mb W H V bl A AR cap R L f ∧ Eds w' W H bl L f L.length ∧ Below w.heap.size w w' := by
  have gw1 := g.w1
  have hwh := wh_bd g.w1 g.w2 g.h1 g.h2
  obtain ⟨ie, zr, hie, hzr, hsz, hby, hzs⟩ := info_ray
  have hLL : L.length ≤ 256 := by rw [← hL]; have := crs_len W H bl (W * H).toNat; omega
  have HC : Hid (∀ i, i < L.length → CornC W H bl ((L.getD i 0 : Nat) : Int) ∧ L.getD i 0 < 256) := fun i hi => by
    have := crs_mem.1 (show L.getD i 0 ∈ crs W H bl (W * H).toNat by rw [hL, getD_at _ _ hi]; exact List.getElem_mem hi)
    exact ⟨cornB_iff.1 this.2, by omega⟩
  have hco := rcorners_v hL w g hml
  have HL : Hid (crs W H bl (W * H).toNat = L) := hL
  clear hL
  go_enter Tryz.func12, Tryz.ntmps12
  go_wp2_with fail
  refine hco.mono ?_
  rintro e w1 ⟨A, cap, rfl, hrow, hb1⟩
  clear hco
  have hmk := mkmapM w1
  have hM : MapF Tryz.prog 3 (w1.alloc (.map #[] 0)) w1.heap.size (fun _ => none) 0 := MapF.made w1 Tryz.prog 3
  have b2 : Below w1.heap.size w1 ((w1.alloc (.map #[] 0)).alloc (.cells #[.slice A L.length cap, .map (some w1.heap.size)] 100)) := ((Below.refl _ _).alloc (Nat.le_refl _) _).alloc (by simp) _
  have hM2 : MapF Tryz.prog 3 ((w1.alloc (.map #[] 0)).alloc (.cells #[.slice A L.length cap, .map (some w1.heap.size)] 100)) w1.heap.size (fun _ => none) (cntS (keyB fun _ => none) 256) := by
    rw [cntS_empty]
    exact hM.keep (F := fun _ => False) ((Keep.refl _ _).alloc _) id
  have q0 : ((w1.alloc (.map #[] 0)).alloc (.cells #[.slice A L.length cap, .map (some w1.heap.size)] 100)).cell? ⟨w1.heap.size + 1, 0, none⟩ = some (.slice A L.length cap) := World.cell?_alloc_at #[.slice A L.length cap, .map (some w1.heap.size)] 100 (w1.heap.size + 1) 0 (by simp)
  have q1 : ((w1.alloc (.map #[] 0)).alloc (.cells #[.slice A L.length cap, .map (some w1.heap.size)] 100)).cell? ⟨w1.heap.size + 1, 1, none⟩ = some (.map (some w1.heap.size)) := World.cell?_alloc_at #[.slice A L.length cap, .map (some w1.heap.size)] 100 (w1.heap.size + 1) 1 (by simp)
  have B2 := hb1.trans (b2.mono hb1.size)
  have row2 := hrow.below b2
  clear hM hrow
  go_wp2
  generalize (w1.alloc (.map #[] 0)).alloc (.cells #[.slice A L.length cap, .map (some w1.heap.size)] 100) = w2 at *
  have hz1 := hb1.size
  generalize hmb : w1.heap.size = mb at *
  generalize hrb : mb + 1 = rb at *
  have g2 := g.below B2 hml
  have hm2 := Nat.lt_of_lt_of_le hml B2.size
  clear hmk b2 hb1
  go_loopg [4, 5] L.length (fun gk lv iv wr => ∃ (i : Nat), gk = L.length - i ∧ iv = .int .i64 i ∧ i ≤ L.length ∧ wr.ownsRow w2.heap.size 103 769 lv i ((L.take i).flatMap R) ∧ Below w2.heap.size w2 wr)
  case atStart => exact ⟨0, rfl, rfl, Nat.zero_le _, World.ownsRow_nil _ _ _ _, Below.refl _ _⟩
  case round =>
    obtain ⟨i, hgk, rfl, hi', hown, Br⟩ := hrel
    have gr := g2.below Br hm2
    have hmr := Nat.lt_of_lt_of_le hm2 Br.size
    have p0 := (Br.cell (World.block_lt_of_cell? _ _ q0)).trans q0
    by_cases hlt : i < L.length
    · obtain ⟨ba, oa, rfl, hba, hcell0⟩ := (row2.below Br) i hlt
      have hzc := (HC.out i hlt).1
      have htk := take_flat hlt R
      obtain ⟨z, hzz⟩ : ∃ z, L.getD i 0 = z := ⟨_, rfl⟩
      rw [hzz] at hzc htk
      have hcell : wr.cell? ⟨ba, oa + i, none⟩ = some (.int .i64 (z : Int)) := by rw [← hzz]; exact hcell0
      have hf := hfn z wr hzc gr hmr
      have HTK : Hid ((L.take (i + 1)).flatMap R = (L.take i).flatMap R ++ R z) := htk
      have lz := hR z
      have oz := hR1 z
      have i1 : (0 : Int) ≤ (i : Int) := by omega
      have i2 : (i : Int) < (L.length : Int) := by omega
      clear hcell0 hzz htk
      generalize R z = RZ at *
      go_wp2_with fail
      refine hf.mono ?_
      rintro e w5 ⟨rfl, hb5⟩
      have hown5 := own_below hown hb5
      have B5 := Br.trans (hb5.mono Br.size)
      have hz5 := B5.size
      have hrn := range_new w5 RZ 103
      clear hf hown Br hcell hb5 p0
      go_wp2_with (first
        | (refine wpList_build_ray rfl _ rfl RZ lz rfl ?_)
        | (at_builtin; refine wpList_append_own _ rfl _ _ 101 rfl w2.heap.size 103 ie zr 769 4360 Tryz.und89 hie hzr hsz hby hzs (by decide) _ _ _ rfl (hown5.alloc _) ⟨w5.heap.size, 0, none⟩ 1 1 RZ rfl (by rw [lz]) ?c2 oz ?c3 ?c4 ?c5 ?_))
      case c2 =>
        intro j u hj
        have := hrn j u hj
        rw [Nat.zero_add] at this
        have hadd : (⟨w5.heap.size, 0, none⟩ : Addr).add j = ⟨w5.heap.size, j, none⟩ := by unfold Addr.add; split <;> simp_all
        rw [hadd]
        exact this
      case c3 => unfold maxLen; omega
      case c4 => omega
      case c5 => simp; omega
      intro v6 w6 hown6 hg6 _
      have B6 : Below w2.heap.size w2 w6 := (B5.alloc hz5 _).grown hg6 (by simp; omega) (fun q hq => (hown5.lt q hq).1)
      rw [← HTK.out] at hown6
      clear hown5 B5 hrn hg6
      go_wp2
      go_roundg (L.length - (i + 1))
      case measure => omega
      case rel => exact ⟨i + 1, rfl, by go_num, by omega, hown6, B6⟩
    · have hge : i = L.length := by omega
      subst hge
      rw [List.take_length] at hown
      obtain ⟨AR, cr, rfl, hrays⟩ := rays_of hR hown
      have G0 : RGt wr M rb mb W H V bl A AR cap R L (fun _ => none) := ⟨p0, (Br.cell (World.block_lt_of_cell? _ _ q1)).trans q1, gr, row2.below Br, hrays, hM2.keep (F := fun _ => False) (Keep.of_below Br) id, fun i h => by cases h⟩
      have B0 := B2.trans (Br.mono B2.size)
      clear hfn hown hrays q0 q1 gr hmr g2 hm2 B2 row2 Br hM2
      go_wp2
      clear p0
      generalize wr = w3 at *
      go_loopg [6] L.length (fun gk iv wr => ∃ (i : Nat) (f : Int → Option Value), gk = L.length - i ∧ iv = .int .i64 i ∧ i ≤ L.length ∧ RGt wr M rb mb W H V bl A AR cap R L f ∧ Hid (Eds wr W H bl L f i) ∧ Below w.heap.size w wr)
      case atStart => exact ⟨0, _, rfl, rfl, Nat.zero_le _, G0, ⟨fun c ⟨j, hj, _⟩ => absurd hj (Nat.not_lt_zero j), fun c _ => rfl⟩, B0⟩
      case round =>
        obtain ⟨i, f, hgk, rfl, hi', G, hE, Br⟩ := hrel
        clear G0 B0
        have p0 := G.p0
        by_cases hlt : i < L.length
        · obtain ⟨ba, oa, rfl, hba, hcell0⟩ := G.row i hlt
          obtain ⟨bb, rfl, hbb, hray⟩ := G.rays i hlt
          obtain ⟨z, hzz⟩ : ∃ z, L.getD i 0 = z := ⟨_, rfl⟩
          have hc := HC.out i hlt
          have hcell : wr.cell? ⟨ba, oa + i, none⟩ = some (.int .i64 (z : Int)) := by rw [← hzz]; exact hcell0
          rw [hzz] at hc hray
          obtain ⟨hzc, hz256⟩ := hc
          have hwz := wf_small (a := (z : Int)) (by omega) (by omega)
          have HZ : Hid (L.getD i 0 = z) := hzz
          have hzin := cornC_in gw1 hzc
          have bD : Below wr.heap.size wr wr.drew := ⟨rfl, rfl, rfl, Nat.le_refl _, fun _ _ => rfl⟩
          have GD := G.below bD
          have ED := hE.out.below bD
          have BD := Br.trans (bD.mono Br.size)
          have CC : Four wr.drew rb mb ba (oa + i) bb (i * 769) z L.length cap oa (R z) := ⟨GD.p1, GD.p0, (bD.cell (World.block_lt_of_cell? _ _ hcell)).trans hcell, range_below hray bD⟩
          have hed := redges' (cr := cr) (cc := cap) (self := false) wr.drew GD.ra GD.lts.2.1 (hRn z) (fun w => range_new w _ 103) (hR z) (hB z hzc) hzin hR hRn hB HL.out GD.rays GD.row
          have hu := Tryz.underlying103
          have hiY : (Tryz.prog.info? 103).map (·.size) = some (R z).length := by rw [info112, hR z]
          have i1 : (0 : Int) ≤ (i : Int) := by omega
          have i2 : (i : Int) < (L.length : Int) := by omega
          have HED : Hid (Eds wr.drew W H bl L f i) := ED
          clear hcell0 hzz hray hcell bD hE ED G
          generalize (R z) = RZ at *
          go_wp2_with fail
          refine wp_region_held_drew (S := fun w' => w'.cell? ⟨rb, 1, none⟩ = some (.map (some mb)) ∧ w'.cell? ⟨rb, 0, none⟩ = some (.slice (some ⟨ba, oa, none⟩) L.length cap) ∧ w'.cell? ⟨ba, oa + i, none⟩ = some (.int .i64 (z : Int)) ∧ w'.rangeAt bb (i * 769) RZ) (by kernel_rfl) CC (fun hHeld => ?_)
          clear p0
          refine wpAnyH_take (i := 0) (oi := { dst := some 42, op := .move (.tmp 3), type := 42, pos := "parts.go:595", after := #[], guard := none }) (v := .pointer (some ⟨rb, 0, none⟩)) rfl (by kernel_rfl) (by kernel_rfl) (by kernel_rfl) (fun _ _ _ h => h) (Or.inl ⟨by rfl, fun w' _ => by go_simp⟩) hHeld ?_
          simp only [Act.put, List.setIfInBounds_toArray, List.set_cons_zero, List.set_cons_succ]
          refine wpAnyH_take (i := 1) (oi := { dst := some 43, op := .nilCheck (.tmp 42), type := 0, pos := "parts.go:595", after := #[{ on := 0, ground := .data }], guard := none }) (v := .pointer (some ⟨rb, 0, none⟩)) rfl (by kernel_rfl) (by kernel_rfl) (by kernel_rfl) (fun _ _ _ h => h) (Or.inl ⟨by rfl, fun w' _ => by go_simp⟩) hHeld ?_
          simp only [Act.put, List.setIfInBounds_toArray, List.set_cons_zero, List.set_cons_succ]
          refine wpAnyH_take (i := 2) (oi := { dst := some 44, op := .fieldAddr 100 (.tmp 43) 1, type := 0, pos := "parts.go:595", after := #[{ on := 1, ground := .data }], guard := none }) (v := .pointer (some ⟨rb, 1, none⟩)) rfl (by kernel_rfl) (by kernel_rfl) (by kernel_rfl) (fun _ _ _ h => h) (Or.inl ⟨by rfl, fun w' _ => by go_simp⟩) hHeld ?_
          simp only [Act.put, List.setIfInBounds_toArray, List.set_cons_zero, List.set_cons_succ]
          refine wpAnyH_take (i := 3) (oi := { dst := some 45, op := .load 47 (.tmp 44), type := 47, pos := "parts.go:595", after := #[{ on := 2, ground := .data }], guard := none }) (v := .map (some mb)) rfl (by kernel_rfl) (by kernel_rfl) (by kernel_rfl) (fun _ _ _ h => h) (Or.inl ⟨by rfl, fun w' h => by obtain ⟨s1, s2, s3, s4⟩ := h; go_simp⟩) hHeld ?_
          simp only [Act.put, List.setIfInBounds_toArray, List.set_cons_zero, List.set_cons_succ]
          refine wpAnyH_take (i := 4) (oi := { dst := some 46, op := .move (.tmp 3), type := 42, pos := "parts.go:595", after := #[], guard := none }) (v := .pointer (some ⟨rb, 0, none⟩)) rfl (by kernel_rfl) (by kernel_rfl) (by kernel_rfl) (fun _ _ _ h => h) (Or.inl ⟨by rfl, fun w' _ => by go_simp⟩) hHeld ?_
          simp only [Act.put, List.setIfInBounds_toArray, List.set_cons_zero, List.set_cons_succ]
          refine wpAnyH_take (i := 5) (oi := { dst := some 47, op := .nilCheck (.tmp 46), type := 0, pos := "parts.go:595", after := #[{ on := 4, ground := .data }], guard := none }) (v := .pointer (some ⟨rb, 0, none⟩)) rfl (by kernel_rfl) (by kernel_rfl) (by kernel_rfl) (fun _ _ _ h => h) (Or.inl ⟨by rfl, fun w' _ => by go_simp⟩) hHeld ?_
          simp only [Act.put, List.setIfInBounds_toArray, List.set_cons_zero, List.set_cons_succ]
          refine wpAnyH_take (i := 6) (oi := { dst := some 48, op := .fieldAddr 100 (.tmp 47) 0, type := 0, pos := "parts.go:595", after := #[{ on := 5, ground := .data }], guard := none }) (v := .pointer (some ⟨rb, 0, none⟩)) rfl (by kernel_rfl) (by kernel_rfl) (by kernel_rfl) (fun _ _ _ h => h) (Or.inl ⟨by rfl, fun w' _ => by go_simp⟩) hHeld ?_
          simp only [Act.put, List.setIfInBounds_toArray, List.set_cons_zero, List.set_cons_succ]
          refine wpAnyH_take (i := 7) (oi := { dst := some 49, op := .load 22 (.tmp 48), type := 22, pos := "parts.go:595", after := #[{ on := 6, ground := .data }], guard := none }) (v := .slice (some ⟨ba, oa, none⟩) L.length cap) rfl (by kernel_rfl) (by kernel_rfl) (by kernel_rfl) (fun _ _ _ h => h) (Or.inl ⟨by rfl, fun w' h => by obtain ⟨s1, s2, s3, s4⟩ := h; go_simp⟩) hHeld ?_
          simp only [Act.put, List.setIfInBounds_toArray, List.set_cons_zero, List.set_cons_succ]
          refine wpAnyH_take (i := 8) (oi := { dst := some 50, op := .move (.tmp 6), type := 3, pos := "parts.go:595", after := #[], guard := none }) (v := .int .i64 i) rfl (by kernel_rfl) (by kernel_rfl) (by kernel_rfl) (fun _ _ _ h => h) (Or.inl ⟨by rfl, fun w' _ => by go_simp⟩) hHeld ?_
          simp only [Act.put, List.setIfInBounds_toArray, List.set_cons_zero, List.set_cons_succ]
          refine wpAnyH_take (i := 9) (oi := { dst := some 51, op := .indexAddr 22 (.tmp 49) (.tmp 50), type := 0, pos := "parts.go:595", after := #[{ on := 7, ground := .data }, { on := 8, ground := .data }], guard := none }) (v := .pointer (some ⟨ba, oa + i, none⟩)) rfl (by kernel_rfl) (by kernel_rfl) (by kernel_rfl) (fun _ _ _ h => h) (Or.inl ⟨by rfl, fun w' _ => by go_simp⟩) hHeld ?_
          simp only [Act.put, List.setIfInBounds_toArray, List.set_cons_zero, List.set_cons_succ]
          refine wpAnyH_take (i := 10) (oi := { dst := some 52, op := .load 3 (.tmp 51), type := 3, pos := "parts.go:595", after := #[{ on := 9, ground := .data }], guard := none }) (v := .int .i64 (z : Int)) rfl (by kernel_rfl) (by kernel_rfl) (by kernel_rfl) (fun _ _ _ h => h) (Or.inl ⟨by rfl, fun w' h => by obtain ⟨s1, s2, s3, s4⟩ := h; go_simp⟩) hHeld ?_
          simp only [Act.put, List.setIfInBounds_toArray, List.set_cons_zero, List.set_cons_succ]
          refine wpAnyH_take (i := 11) (oi := { dst := some 53, op := .move (.tmp 0), type := 27, pos := "parts.go:595", after := #[], guard := none }) (v := .pointer (some ⟨M, 0, none⟩)) rfl (by kernel_rfl) (by kernel_rfl) (by kernel_rfl) (fun _ _ _ h => h) (Or.inl ⟨by rfl, fun w' _ => by go_simp⟩) hHeld ?_
          simp only [Act.put, List.setIfInBounds_toArray, List.set_cons_zero, List.set_cons_succ]
          refine wpAnyH_take (i := 12) (oi := { dst := some 54, op := .move (.tmp 4), type := 101, pos := "parts.go:595", after := #[], guard := none }) (v := .slice (some ⟨bb, 0, none⟩) L.length cr) rfl (by kernel_rfl) (by kernel_rfl) (by kernel_rfl) (fun _ _ _ h => h) (Or.inl ⟨by rfl, fun w' _ => by go_simp⟩) hHeld ?_
          simp only [Act.put, List.setIfInBounds_toArray, List.set_cons_zero, List.set_cons_succ]
          refine wpAnyH_take (i := 13) (oi := { dst := some 55, op := .move (.tmp 6), type := 3, pos := "parts.go:595", after := #[], guard := none }) (v := .int .i64 i) rfl (by kernel_rfl) (by kernel_rfl) (by kernel_rfl) (fun _ _ _ h => h) (Or.inl ⟨by rfl, fun w' _ => by go_simp⟩) hHeld ?_
          simp only [Act.put, List.setIfInBounds_toArray, List.set_cons_zero, List.set_cons_succ]
          refine wpAnyH_take (i := 14) (oi := { dst := some 56, op := .indexAddr 101 (.tmp 54) (.tmp 55), type := 0, pos := "parts.go:595", after := #[{ on := 12, ground := .data }, { on := 13, ground := .data }], guard := none }) (v := .pointer (some ⟨bb, i * 769, none⟩)) rfl (by kernel_rfl) (by kernel_rfl) (by kernel_rfl) (fun _ _ _ h => h) (Or.inl ⟨by rfl, fun w' _ => by go_simp⟩) hHeld ?_
          simp only [Act.put, List.setIfInBounds_toArray, List.set_cons_zero, List.set_cons_succ]
          refine wpAnyH_take (i := 15) (oi := { dst := some 57, op := .load 103 (.tmp 56), type := 103, pos := "parts.go:595", after := #[{ on := 14, ground := .data }], guard := none }) (v := .agg RZ.toArray) rfl (by kernel_rfl) (by kernel_rfl) (by kernel_rfl) (fun _ _ _ h => h) (yieldsIf_load_mid (by rfl) 103 (.tmp 56) rfl bb (i * 769) rfl RZ _ (fun _ h => h.2.2.2) hu rfl hiY) hHeld ?_
          simp only [Act.put, List.setIfInBounds_toArray, List.set_cons_zero, List.set_cons_succ]
          refine wpAnyH_take (i := 16) (oi := { dst := some 58, op := .move (.tmp 4), type := 101, pos := "parts.go:595", after := #[], guard := none }) (v := .slice (some ⟨bb, 0, none⟩) L.length cr) rfl (by kernel_rfl) (by kernel_rfl) (by kernel_rfl) (fun _ _ _ h => h) (Or.inl ⟨by rfl, fun w' _ => by go_simp⟩) hHeld ?_
          simp only [Act.put, List.setIfInBounds_toArray, List.set_cons_zero, List.set_cons_succ]
          refine wpAnyH_take (i := 17) (oi := { dst := some 59, op := .move (.tmp 3), type := 42, pos := "parts.go:595", after := #[], guard := none }) (v := .pointer (some ⟨rb, 0, none⟩)) rfl (by kernel_rfl) (by kernel_rfl) (by kernel_rfl) (fun _ _ _ h => h) (Or.inl ⟨by rfl, fun w' _ => by go_simp⟩) hHeld ?_
          simp only [Act.put, List.setIfInBounds_toArray, List.set_cons_zero, List.set_cons_succ]
          refine wpAnyH_take (i := 18) (oi := { dst := some 60, op := .nilCheck (.tmp 59), type := 0, pos := "parts.go:595", after := #[{ on := 17, ground := .data }], guard := none }) (v := .pointer (some ⟨rb, 0, none⟩)) rfl (by kernel_rfl) (by kernel_rfl) (by kernel_rfl) (fun _ _ _ h => h) (Or.inl ⟨by rfl, fun w' _ => by go_simp⟩) hHeld ?_
          simp only [Act.put, List.setIfInBounds_toArray, List.set_cons_zero, List.set_cons_succ]
          refine wpAnyH_take (i := 19) (oi := { dst := some 61, op := .fieldAddr 100 (.tmp 60) 0, type := 0, pos := "parts.go:595", after := #[{ on := 18, ground := .data }], guard := none }) (v := .pointer (some ⟨rb, 0, none⟩)) rfl (by kernel_rfl) (by kernel_rfl) (by kernel_rfl) (fun _ _ _ h => h) (Or.inl ⟨by rfl, fun w' _ => by go_simp⟩) hHeld ?_
          simp only [Act.put, List.setIfInBounds_toArray, List.set_cons_zero, List.set_cons_succ]
          refine wpAnyH_take (i := 20) (oi := { dst := some 62, op := .load 22 (.tmp 61), type := 22, pos := "parts.go:595", after := #[{ on := 19, ground := .data }], guard := none }) (v := .slice (some ⟨ba, oa, none⟩) L.length cap) rfl (by kernel_rfl) (by kernel_rfl) (by kernel_rfl) (fun _ _ _ h => h) (Or.inl ⟨by rfl, fun w' h => by obtain ⟨s1, s2, s3, s4⟩ := h; go_simp⟩) hHeld ?_
          simp only [Act.put, List.setIfInBounds_toArray, List.set_cons_zero, List.set_cons_succ]
          refine wpAnyH_ready (rs := [21]) (by kernel_rfl) (by simp) ?_
          refine AllReadyH.cons rfl (fun K hK => ?_) AllReadyH.nil
          go_simp
          go_at_call 51
          refine hed.mono ?_
          rintro e w5 ⟨v, l, rfl, ho, hup, hb5⟩
          have CC := CC.below hb5
          have G5 := GD.below hb5
          have E5 := HED.out.below hb5
          have B5 := BD.trans (hb5.mono BD.size)
          clear hed GD HED
          go_wp2_with fail
          refine hK.out _ _ CC (fun hHeld2 => ?_)
          clear hHeld hK K
          obtain ⟨w7, hrun7, hm7, ht7⟩ := G5.mp.store law3 Tryz.underM G5.room hwz v
          have K7 := turned_keep ht7
          have G7 := G5.put (by omega) (by omega) hm7 ht7
          have ho' : w5.ownsRow 1 67 4 v l.length (edgesV W ((L.getD i 0 : Nat) : Int) l) := by rw [HZ.out]; exact own_base ho (by have := BD.size; omega)
          have E7 : Hid (Eds w7 W H bl L (putF f (z : Int) v) (i + 1)) := E5.next G5.mp K7 (by rw [HZ.out]) ho' (by
            rw [HZ.out]
            rw [← HL.out] at hup
            refine ⟨hup.1, fun n => ?_⟩
            rw [hup.all n, in_crs gw1]
            unfold EdgeP
            rw [Bool.and_eq_true, decide_eq_true_iff]
            constructor
            · rintro ⟨h1, h2, h3⟩
              exact ⟨h3, by rcases h2 with h2 | h2
                            · cases h2
                            · omega, h1⟩
            · rintro ⟨h1, h2, h3⟩
              exact ⟨h3, Or.inr (by omega), h1⟩)
          have B7 : Below w.heap.size w w7 := B5.trans (K7.to_below B5.size (fun k e => by omega))
          have CC7 : Four w7 rb mb ba (oa + i) bb (i * 769) z L.length cap oa RZ := ⟨G5.cell K7 CC.1, G5.cell K7 CC.2.1, G5.cell K7 CC.2.2.1, fun j v hj => G5.cell K7 (CC.2.2.2 j v hj)⟩
          clear ho ho' hup hb5 E5 B5 G5 K7 hm7 ht7
          refine wpAnyH_ready (rs := [22]) (by kernel_rfl) (by simp) ?_
          refine AllReadyH.cons rfl (fun K hK => ?_) AllReadyH.nil
          go_simp
          refine hK.out _ _ CC7 (fun hHeld4 => ?_)
          refine wpAnyH_done (by kernel_rfl) ?_ _
          clear hK K hHeld2 hHeld4 CC CC7 hu hrun7
          go_wp2
          go_roundg (L.length - (i + 1))
          case measure => omega
          case rel => exact ⟨i + 1, _, rfl, by go_num, by omega, G7, E7, B7⟩
        · have hge : i = L.length := by omega
          subst hge
          go_wp2
          go_ret
          exact ⟨rb, mb, A, AR, cap, f, rfl, G, hE.out, Br⟩
end Go.Proofs.YtmnpplkjhnoglaaGreatDoor
