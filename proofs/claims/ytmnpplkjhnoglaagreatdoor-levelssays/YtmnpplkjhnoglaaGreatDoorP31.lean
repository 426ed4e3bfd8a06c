/-
  Texts laid together: LvNew2, SrT, LvRead.
-/
import Derived.Test.YtmnpplkjhnoglaaGreatDoorP30
/-
  Levels of a graph: package levels' 'New', where there may be so many.
-/
namespace Go.Proofs.YtmnpplkjhnoglaaGreatDoor
open Go.RowKit Go.Maps

/-- levels of a graph, in memory -/
def Lvd (w : World) (N lb most : Nat) (W H : Int) (bl : Nat → Bool) (es : Nat → List LE) : Prop := ∃ vb eb, Overed w N lb vb eb most (crs W H bl (W * H).toNat) es

set_option maxHeartbeats 4000000 in
set_option maxRecDepth 1000000 in
theorem new_levels {rb pb mb most : Nat} {W H V : Int} {bl : Nat → Bool} {es : Nat → List LE} (w : World) (G : GraphAt w rb pb mb W H V bl) (hG : GEs W H bl es) (m1 : 1 ≤ most) (m6 : most ≤ 6) :
    Calls Tryz.prog 10 #[.pointer (some ⟨rb, 0, none⟩), .int .i64 (most : Int)] w fun e w' => ∃ lb, e = .returned (.tuple #[.pointer (some ⟨lb, 0, none⟩), .nilIface]) ∧ Lvd w' w.heap.size lb most W H bl es ∧ Below w.heap.size w w' := by
  obtain ⟨w1, w2, h1, h2⟩ : 1 ≤ W ∧ W ≤ 16 ∧ 1 ≤ H ∧ H ≤ 16 := by
    obtain ⟨f, G, _⟩ := G
    exact ⟨G.ga.w1, G.ga.w2, G.ga.h1, G.ga.h2⟩
  have hwh := wh_bd w1 w2 h1 h2
  have hmm := @run_makeMap Tryz.prog
  have b0 : Below w.heap.size w (w.alloc (.map #[] 0)) := (Below.refl _ _).alloc (Nat.le_refl _) _
  have M0 : MapF Tryz.prog 3 (w.alloc (.map #[] 0)) w.heap.size (fun _ => none) 0 := MapF.made w Tryz.prog 3
  have hz0 : w.heap.size < (w.alloc (.map #[] 0)).heap.size := by simp
  have G0 := G.below b0
  have hnod := nodes_any _ G0
  have HB : Hid (Btw (crs W H bl (W * H).toNat) 0 16 ⟨fun _ => 0, es⟩) := hG.btw w1 w2 h1 h2
  have HR : Hid ((crs W H bl (W * H).toNat).Pairwise (· < ·)) := crs_rise _ _ _ _
  have HC : Hid (∀ n ∈ crs W H bl (W * H).toNat, cornB W H bl n = true ∧ n < 256) := fun n hn => by
    have := crs_mem.1 hn
    exact ⟨this.2, by omega⟩
  have hLL : (crs W H bl (W * H).toNat).length ≤ 256 := by have := crs_len W H bl (W * H).toNat; omega
  have HLD : Hid (∀ w' lb vb eb, Overed w' w.heap.size lb vb eb most (crs W H bl (W * H).toNat) es → Lvd w' w.heap.size lb most W H bl es) := fun _ _ vb eb h => ⟨vb, eb, h⟩
  have HGW : Hid (GraphAt w rb pb mb W H V bl) := G
  clear G
  go_enter Tryz.func10, Tryz.ntmps10
  go_wp2_with fail
  generalize w.alloc (.map #[] 0) = wa at *
  refine hnod.mono ?_
  rintro e wb ⟨vL, rfl, hownL, hb1⟩
  generalize crs W H bl (W * H).toNat = L at *
  obtain ⟨AL, capL, rfl, _⟩ := row_of hownL
  have B1 := b0.trans (hb1.mono b0.size)
  have G1 := G0.below hb1
  have E1 : EsAt wb w.heap.size w.heap.size [] es (fun _ => none) := ⟨M0.keep (F := fun _ => False) (Keep.of_below hb1) id, fun n hn => (by cases hn), fun i v h => (by cases h), fun n m v v' g h => (by cases h), Nat.le_refl _, fun n hn => (by cases hn), Nat.zero_le _⟩
  have own1 := own_base hownL (Nat.zero_le _)
  have hg1 : ∀ q, (Value.slice AL L.length capL).ownBlock = some q → wa.heap.size ≤ q := fun q hq => (hownL.lt q hq).1
  have HG1 : Hid _ := hg1
  clear hnod hb1 hownL G0 M0 b0 hg1
  go_wp2
  go_loopw [20] (fun iv wr => ∃ (k : Nat) (f : Int → Option Value), k ≤ L.length ∧ iv = .int .i64 k ∧ EsAt wr w.heap.size w.heap.size (L.take k) es f ∧ GraphAt wr rb pb mb W H V bl ∧ wr.ownsRow 0 3 1 (.slice AL L.length capL) L.length (vals L) ∧ Below w.heap.size w wr)
    (fun i _ => L.length - (intOf i).toNat)
  case atStart => exact ⟨0, _, Nat.zero_le _, rfl, E1, G1, own1, B1⟩
  case round =>
    clear E1 G1 own1 B1
    obtain ⟨k, f, hk, rfl, E, G, own, hB⟩ := hrel
    by_cases hlt : k < L.length
    · obtain ⟨g0, hA0⟩ : ∃ g0, AL = some ⟨g0, 0, none⟩ := by
        rcases own.2 with ⟨_, h0⟩ | ⟨g0, _, _, hv, _⟩
        · omega
        · exact ⟨g0, by cases hv; rfl⟩
      subst hA0
      have hcell := own_int own k hlt
      obtain ⟨n, hn⟩ : ∃ n, L[k]? = some n := ⟨L[k], List.getElem?_eq_getElem hlt⟩
      have hnk : L.getD k 0 = n := by
        rw [List.getD_eq_getElem?_getD, hn]; rfl
      rw [hnk] at hcell
      have hnL := List.mem_of_getElem? hn
      obtain ⟨hnc, hnb⟩ := HC.out n hnL
      have hwn := wf_small (a := (n : Int)) (by omega) (by omega)
      have HTK : Hid (L.take (k + 1) = L.take k ++ [n]) := by
        rw [List.take_add_one, hn]; rfl
      have HNP : Hid (n ∉ L.take k) := fun hm => by
        obtain ⟨i, hi, h⟩ := List.getElem_of_mem hm
        have hik : i < k := by rw [List.length_take] at hi; omega
        have h2 : L[i]? = some n := by
          rw [List.getElem_take] at h
          rw [List.getElem?_eq_getElem (by omega), h]
        have h3 := List.pairwise_iff_getElem.1 HR.out i k (by omega) hlt hik
        rw [List.getElem?_eq_getElem hlt] at hn
        rw [List.getElem?_eq_getElem (by omega)] at h2
        have e1 := Option.some.inj hn
        have e2 := Option.some.inj h2
        omega
      have i1 : (0 : Int) ≤ (k : Int) := by omega
      have i2 : (k : Int) < (L.length : Int) := by omega
      have hlk : (L.take k).length = k := by rw [List.length_take]; omega
      have hed := edges_yes wr G hnc hwn
      have HEE : Hid (∀ l, EdgeL W H bl (n : Int) l → edgesV W (n : Int) l = lesV (es n) ∧ l.length = (es n).length) := fun l hl => by
        obtain ⟨l', h1, h2⟩ := hG.1 n hnc
        have e := hl.one h1
        subst e
        rw [h2, lesV_edges, List.length_map]
        exact ⟨rfl, rfl⟩
      clear hn hnk hnL
      go_wp2_with fail
      refine hed.mono ?_
      rintro e w5 ⟨v5, l, rfl, hown5, hEL, hb5⟩
      have G5 := G.below hb5
      have own5 := own_below own hb5
      have E5 := E.keep (F := fun _ => False) (Keep.of_below hb5) id (fun _ _ _ _ _ => id)
      have B5 := hB.trans (hb5.mono hB.size)
      obtain ⟨w6, hrun6, hm6, ht6⟩ := E5.em.store law3 Tryz.underM (by rw [hlk]; unfold maxLen; omega) hwn v5
      have K6 := turned_keep ht6
      have hfn : f (n : Int) = none := by
        cases hf : f (n : Int) with
        | none => rfl
        | some u => exact absurd (by simpa using (E.no _ _ hf).2) HNP.out
      rw [hfn] at hm6
      obtain ⟨q1, q2⟩ := HEE.out l hEL
      have row6 : w6.ownsRow w.heap.size 67 4 v5 (es n).length (lesV (es n)) := by
        rw [← q1, ← q2]
        exact own_keep (own_base hown5 hB.size) K6 (own_map hown5 E5.em)
      have E6 := E5.add hnb (by rw [hlk]; omega) K6 hm6 row6 HNP.out (fun g hg i u hu h => by
        obtain ⟨k1, k2⟩ := E.no i u hu
        obtain ⟨u', e1, e2⟩ := E.row i.toNat k2
        rw [Int.toNat_of_nonneg k1, hu] at e1; cases e1
        have := (e2.lt g h).2
        have := (hown5.lt g hg).1
        omega)
      rw [← HTK.out] at E6
      have own6 := own_keep own5 K6 (own_map own5 E5.em)
      have B6 : Below w.heap.size w w6 := B5.trans (K6.to_below B5.size (fun q e => by omega))
      have G6 := HGW.out.below B6
      clear hed hown5 hEL hb5 G G5 own own5 E E5 hB B5 hm6 ht6 K6 row6 q1 q2
      go_wp2
      go_roundw
      case rel => exact ⟨k + 1, _, by omega, by go_num, E6, G6, own6, B6⟩
      case measure => simp [intOf]; omega
    · have e : k = L.length := by omega
      subst e
      rw [List.take_length] at E
      have hov := over_any wr E hB.size HR.out HB.out m1 m6
      clear own G E
      go_wp2_with fail
      refine hov.mono ?_
      rintro e w5 ⟨rfl, hO, hb5⟩
      have B5 := hB.trans hb5
      have HL := HLD.out _ _ _ _ hO
      clear hov hO hb5
      go_wp2
      go_ret2
      exact ⟨_, rfl, HL, B5⟩
end Go.Proofs.YtmnpplkjhnoglaaGreatDoor
/-
  Cells that are apart and not near are connected over corners, at no greater cost; what is found over edges is as far as over cells. (For search.)
-/
namespace Go.Proofs.YtmnpplkjhnoglaaGreatDoor
section
variable {W H : Int} {bl : Nat → Bool} {Fl : Int → Int → Option (Int × Int)}
end
end Go.Proofs.YtmnpplkjhnoglaaGreatDoor
/-
  What levels tell: the top, a corner's level, its edges.
-/
namespace Go.Proofs.YtmnpplkjhnoglaaGreatDoor
open Go.RowKit Go.Maps

section
variable {N lb vb eb top n : Nat} {L : List Nat} {st : LSt} {f : Int → Option Value}
set_option maxHeartbeats 400000 in
theorem top_any (w : World) (V : LvAt w N lb vb eb top L st f) : Calls Tryz.prog 14 #[.pointer (some ⟨lb, 0, none⟩)] w fun e w' => e = .returned (.int .i64 (top : Int)) ∧ w' = w := by
  have c0 := V.c0
  clear V
  generalize (top : Int) = t at *
  go_enter Tryz.func14, Tryz.ntmps14
  go_wp2
  go_ret
  exact ⟨rfl, rfl⟩
set_option maxHeartbeats 400000 in
theorem level_yes (w : World) (V : LvAt w N lb vb eb top L st f) (hn : n ∈ L) : Calls Tryz.prog 17 #[.pointer (some ⟨lb, 0, none⟩), .int .i64 (n : Int)] w fun e w' => e = .returned (.tuple #[.int .i64 (st.lev n : Int), .nilIface]) ∧ w' = w := by
  have c1 := V.c1
  have hl : (Instr.lookup 46 (.map (some vb)) (.int .i64 (n : Int)) true).run Tryz.prog w = .ok (.tuple #[.int .i64 (st.lev n : Int), .bool true]) w := V.lv.look_some law3 Tryz.underV (zero3 w) (wf_small (by omega) (by have := V.bd n hn; omega)) (lvF_in hn) true
  clear V
  generalize (st.lev n : Int) = t at *
  go_enter Tryz.func17, Tryz.ntmps17
  go_wp2
  go_ret2
  exact ⟨rfl, rfl⟩
set_option maxHeartbeats 400000 in
theorem level_no {c : Int} (w : World) (V : LvAt w N lb vb eb top L st f) (hc : ¬ (0 ≤ c ∧ c.toNat ∈ L)) (hw : (Lit.int .i64 c).wf = true) : Calls Tryz.prog 17 #[.pointer (some ⟨lb, 0, none⟩), .int .i64 c] w fun e w' => e = .returned (.tuple #[.int .i64 0, .iface 96 (.int .i64 5)]) ∧ w' = w := by
  have c1 := V.c1
  have hl : (Instr.lookup 46 (.map (some vb)) (.int .i64 c) true).run Tryz.prog w = .ok (.tuple #[.int .i64 0, .bool false]) w := V.lv.look_none law3 Tryz.underV (zero3 w) hw (by unfold lvF; rw [if_neg hc]) true
  clear V
  go_enter Tryz.func17, Tryz.ntmps17
  go_wp2
  go_ret2
  exact ⟨rfl, rfl⟩
set_option maxHeartbeats 400000 in
theorem ledges_no {c : Int} (w : World) (V : LvAt w N lb vb eb top L st f) (hc : ¬ (0 ≤ c ∧ c.toNat ∈ L)) (hw : (Lit.int .i64 c).wf = true) : Calls Tryz.prog 18 #[.pointer (some ⟨lb, 0, none⟩), .int .i64 c] w fun e w' => e = .returned (.tuple #[.slice none 0 0, .iface 96 (.int .i64 5)]) ∧ w' = w := by
  have c2 := V.c2
  have hf : f c = none := by
    cases h : f c with
    | none => rfl
    | some v => exact absurd (V.no c v h) hc
  have hl : (Instr.lookup 47 (.map (some eb)) (.int .i64 c) true).run Tryz.prog w = .ok (.tuple #[.slice none 0 0, .bool false]) w := V.em.look_none law3 Tryz.underM (zeroM w) hw hf true
  clear V hf
  go_enter Tryz.func18, Tryz.ntmps18
  go_wp2
  go_ret2
  exact ⟨rfl, rfl⟩
set_option maxHeartbeats 1000000 in
theorem ledges_yes (w : World) (V : LvAt w N lb vb eb top L st f) (hn : n ∈ L) (hlen : (st.es n).length ≤ 256) : Calls Tryz.prog 18 #[.pointer (some ⟨lb, 0, none⟩), .int .i64 (n : Int)] w fun e w' => ∃ v, e = .returned (.tuple #[v, .nilIface]) ∧ w'.ownsRow w.heap.size 67 4 v (st.es n).length (lesV (st.es n)) ∧ Below w.heap.size w w' := by
  have c2 := V.c2
  obtain ⟨v, hf, hown⟩ := V.row n hn
  have hl : (Instr.lookup 47 (.map (some eb)) (.int .i64 (n : Int)) true).run Tryz.prog w = .ok (.tuple #[v, .bool true]) w := V.em.look_some law3 Tryz.underM (zeroM w) (wf_small (by omega) (by have := V.bd n hn; omega)) hf true
  clear V hf
  rcases hown.2 with ⟨rfl, h0⟩ | ⟨g, cap, cur, rfl, _⟩
  · have hcl := clone_nil w
    have e0 : st.es n = [] := List.length_eq_zero_iff.1 h0
    have HE : Hid (st.es n = []) := e0
    clear hown h0 e0
    go_enter Tryz.func18, Tryz.ntmps18
    go_wp2_with fail
    refine hcl.mono ?_
    rintro e w1 ⟨rfl, rfl⟩
    clear hcl
    go_wp2
    go_ret2
    refine ⟨_, rfl, ?_, Below.refl _ _⟩
    rw [HE.out]; exact World.ownsRow_nil _ _ _ _
  · have hcl := clone_row w (own_base hown (Nat.zero_le _)) (lesV_cells _) hlen
    generalize (st.es n).length = len at *
    clear hown
    go_enter Tryz.func18, Tryz.ntmps18
    go_wp2_with fail
    refine hcl.mono ?_
    rintro e w1 ⟨v', rfl, hown', hb1⟩
    clear hcl
    go_wp2
    go_ret2
    exact ⟨_, rfl, hown', hb1⟩
end
end Go.Proofs.YtmnpplkjhnoglaaGreatDoor
