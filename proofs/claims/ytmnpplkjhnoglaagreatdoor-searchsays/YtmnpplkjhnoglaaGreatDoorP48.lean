/-
  Texts laid together: FF, ToSr, SyH.
-/
import Derived.Test.YtmnpplkjhnoglaaGreatDoorP47
import Derived.Deep.CutRange
/-
  Is a cell free, by the reference.
-/
namespace Go.Proofs.YtmnpplkjhnoglaaGreatDoor
open Go.RowKit

end Go.Proofs.YtmnpplkjhnoglaaGreatDoor
/-
  What 'TopSearch' does at every plot: it answers true.
-/
namespace Go.Proofs.YtmnpplkjhnoglaaGreatDoor
open Go.RowKit

theorem fl_ex {b : Nat} {W H V : Int} {bl : Nat → Bool} (w : World) (g : RefAt w b W H V bl) : ∃ Fl : Int → Int → Option (Int × Int), ∀ c, inB W H c = true → Best (Edge W H bl) c (Fl c) := by
  have h : ∀ c, ∃ F, inB W H c = true → Best (Edge W H bl) c F := fun c => by
    by_cases hc : inB W H c = true
    · obtain ⟨F, hF⟩ := best_ex w g hc
      exact ⟨F, fun _ => hF⟩
    · exact ⟨fun _ => none, fun h => absurd h hc⟩
  exact ⟨fun c => Classical.choose (h c), fun c hc => Classical.choose_spec (h c) hc⟩
end Go.Proofs.YtmnpplkjhnoglaaGreatDoor
/-
  What 'SearchSays' does at every plot, number of levels and lists of edges: it answers true.
-/
namespace Go.Proofs.YtmnpplkjhnoglaaGreatDoor
open Go.RowKit

theorem rgraph_any {M : Nat} {W H V : Int} {bl : Nat → Bool} (w : World) (g : RefAt w M W H V bl) (hml : M < w.heap.size) :
    Calls Tryz.prog 12 #[.pointer (some ⟨M, 0, none⟩)] w fun e w' => ∃ rb mb A AR cap R f, e = .returned (.pointer (some ⟨rb, 0, none⟩)) ∧ RGt w' M rb mb W H V bl A AR cap R (crs W H bl (W * H).toNat) f ∧ Eds w' W H bl (crs W H bl (W * H).toNat) f (crs W H bl (W * H).toNat).length ∧ Below w.heap.size w w' := by
  have gw1 := g.w1
  obtain ⟨Fl, hFl0⟩ := fl_ex w g
  have hFl : ∀ c, CornC W H bl c → Best (Edge W H bl) c (Fl c) := fun c hc => hFl0 c (cornC_in gw1 hc)
  refine (rgraph' (R := fun n => rayL n (Fl n)) w g hml (fun n => rayL_len _ _) (fun n => rayL_one _ _) (fun n => ray_new n (Fl n)) hFl rfl (fun n w' hn g' h' => from_c n w' g' h' (cornC_in gw1 hn) (hFl _ hn))).mono ?_
  rintro e w' ⟨rb, mb, A, AR, cap, f, h⟩
  exact ⟨rb, mb, A, AR, cap, _, f, h⟩
theorem GEs.len {W H : Int} {bl : Nat → Bool} {es : Nat → List LE} (G : GEs W H bl es) (w1 : 1 ≤ W) (w2 : W ≤ 16) (h1 : 1 ≤ H) (h2 : H ≤ 16) (n : Nat) : (es n).length ≤ 256 := by
  have hwh := wh_bd w1 w2 h1 h2
  cases hc : cornB W H bl n with
  | true =>
    obtain ⟨l, k1, k2⟩ := G.1 n hc
    rw [k2, List.length_map]
    exact k1.len w1 hwh.2
  | false =>
    rw [G.2 n hc]
    exact Nat.zero_le _
/-- what the reference says of a number: nothing where it is a cell -/
def isv (W H c : Int) : Int := if inB W H c = true then 0 else 1
theorem ris_any {b : Nat} {W H V : Int} {bl : Nat → Bool} (c : Int) (w : World) (g : RefAt w b W H V bl) :
    Calls Tryz.prog 31 #[.pointer (some ⟨b, 0, none⟩), .int .i64 c] w fun e w' => e = .returned (.int .i64 (isv W H c)) ∧ Below w.heap.size w w' := by
  unfold isv
  cases h : inB W H c with
  | true => exact (ris_in c w g h).mono fun e w' ⟨h1, m, h2⟩ => ⟨h1, by rw [h2]; exact below_drewN (Below.refl _ _) _⟩
  | false => exact (ris_out c w g h).mono fun e w' ⟨h1, m, h2⟩ => ⟨h1, by rw [h2]; exact below_drewN (Below.refl _ _) _⟩
theorem isv_in {W H c : Int} (h : (isv W H c == 0) = true) : inB W H c = true := by
  unfold isv at h
  cases hc : inB W H c with
  | true => rfl
  | false => rw [hc] at h; cases h
/-- one end, at no cost: the guess is never too high -/
theorem adm_one {W H : Int} {bl : Nat → Bool} {es : Nat → List LE} (G : GEs W H bl es) (w1 : 1 ≤ W) (w2 : W ≤ 16) (h1 : 1 ≤ H) (h2 : H ≤ 16) {most k : Nat} {st : LSt} (m6 : most ≤ 6) (m1 : 1 ≤ most) (h : Rds most (crs W H bl (W * H).toNat) ⟨fun _ => 0, es⟩ k st)
    {e0 : IE} (hs : e0.s = 0 ∧ e0.d = 0) : Adm (crs W H bl (W * H).toNat) st.es (octG W e0.to) (srcE (crs W H bl (W * H).toNat) [e0]) := fun {b i s d p q} h0 hb h3 hw => by
  obtain ⟨O, _, hU⟩ := lvOk G w1 w2 h1 h2 m6 m1 h
  obtain ⟨bn, rfl⟩ : ∃ m : Nat, b = (m : Int) := ⟨b.toNat, by omega⟩
  rw [Int.toNat_natCast] at hb
  rw [octG_in (O.small bn hb)]
  obtain ⟨e1, hm, _, rfl, rfl, rfl⟩ := h3
  rw [List.mem_singleton.1 hm] at hw ⊢
  have key := hw (fun x p q => 0 ≤ x ∧ octV W bn x ≤ val p q) ⟨h0, by unfold octV; rw [octS_self, octD_self]; exact Int.le_refl _⟩ (fun x p q y t u ⟨x0, hx⟩ ⟨e, k1, k2, k3, k4⟩ => by
    obtain ⟨way, l', u1, u2, u3, u4, u5⟩ := hU k1
    subst u2
    have hwk := GEs.walk w1 w2 h1 h2 G (by omega) (u5.way u4)
    have hlow := oct_low' w1 hwk
    have ex : ((x.toNat : Nat) : Int) = x := by omega
    rw [ex] at hlow
    subst k2 k3 k4
    have := oct_tri W bn x e.to
    rw [val_both]
    exact ⟨by omega, by omega⟩)
  have k2 := key.2
  show octV W bn e0.to ≤ _
  rw [hs.1, hs.2]
  have : val 0 0 = 0 := by decide
  omega
set_option maxHeartbeats 40000000 in
set_option maxRecDepth 1000000 in
theorem searchSays_any (W H most goal : Int) (A A1 A2 : Option Addr) (n cap cap1 cap2 : Nat) (xs : Nat → Int) (out inn : List IE) (w : World) (s : StepsAt w) (hm : n ≤ maxLen) (hx : OldRow w A n xs) (ho : RowI w A1 out) (hi : RowI w A2 inn) :
    Calls Tryz.prog 5 #[.agg #[.int .i64 W, .int .i64 H, .slice A n cap], .int .i64 most, .slice A1 out.length cap1, .slice A2 inn.length cap2, .int .i64 goal] w fun e w' => e = .returned (.bool true) ∧ Below w.heap.size w w' := by
  have b0 : Below w.heap.size w (w.alloc (.cells #[.int .i64 W, .int .i64 H, .slice A n cap] 24)) := (Below.refl _ _).alloc (Nat.le_refl _) _
  have q : ∀ o, (w.alloc (.cells #[.int .i64 W, .int .i64 H, .slice A n cap] 24)).cell? ⟨w.heap.size, o, none⟩ = #[Value.int .i64 W, .int .i64 H, .slice A n cap][o]? := fun o => by rw [World.cell?_alloc_new]
  have hz0 : (w.alloc (.cells #[.int .i64 W, .int .i64 H, .slice A n cap] 24)).heap.size = w.heap.size + 1 := by simp
  have hspos := s.pos
  go_enter Tryz.func5, Tryz.ntmps5
  go_wp2_with fail
  generalize w.alloc (.cells #[.int .i64 W, .int .i64 H, .slice A n cap] 24) = w1 at *
  have hh := hunts_any w1 (s.below b0 hspos)
  refine hh.mono ?_
  rintro e w2 ⟨rfl, hb2⟩
  have q0 := (hb2.cell (p := ⟨w.heap.size, 0, none⟩) (by show w.heap.size < _; omega)).trans (q 0)
  have q1 := (hb2.cell (p := ⟨w.heap.size, 1, none⟩) (by show w.heap.size < _; omega)).trans (q 1)
  have q2 := (hb2.cell (p := ⟨w.heap.size, 2, none⟩) (by show w.heap.size < _; omega)).trans (q 2)
  have B2 := b0.trans (hb2.mono b0.size)
  clear hh q hb2 hz0 b0
  by_cases ho30 : 30 < (out.length : Int)
  · go_wp2
    go_ret
    exact ⟨rfl, B2⟩
  by_cases hi30 : 30 < (inn.length : Int)
  · go_wp2
    go_ret
    exact ⟨rfl, B2⟩
  have HQ : Hid (w2.cell? ⟨w.heap.size, 0, none⟩ = some (.int .i64 W) ∧ w2.cell? ⟨w.heap.size, 1, none⟩ = some (.int .i64 H) ∧ w2.cell? ⟨w.heap.size, 2, none⟩ = some (.slice A n cap)) := ⟨q0, q1, q2⟩
  have HL : Hid (out.length ≤ 30 ∧ inn.length ≤ 30) := ⟨by omega, by omega⟩
  clear q0 q1 q2
  go_wp2
  clear ho30 hi30
  go_loopw [12] (fun iv wr => ∃ (i : Nat), i ≤ out.length ∧ iv = .int .i64 i ∧ Hid (∀ j e, j < i → out[j]? = some e → 0 ≤ e.s ∧ e.s ≤ 1048576 ∧ 0 ≤ e.d ∧ e.d ≤ 1048576) ∧ Below w2.heap.size w2 wr)
    (fun i _ => out.length - (intOf i).toNat)
  case atStart => exact ⟨0, Nat.zero_le _, rfl, fun j _ hj => absurd hj (Nat.not_lt_zero j), Below.refl _ _⟩
  case round =>
    obtain ⟨i, hi1, rfl, HC, hB⟩ := hrel
    by_cases hlt : i < out.length
    · obtain ⟨e, he⟩ : ∃ e, out[i]? = some e := ⟨out[i], List.getElem?_eq_getElem hlt⟩
      obtain ⟨_, b1, o1, hA1, _, c1, c2, _⟩ := (ho.below (Nat.le_refl _) (B2.trans (hB.mono B2.size))) i e he
      subst hA1
      have i1 : (0 : Int) ≤ (i : Int) := by omega
      have i2 : (i : Int) < (out.length : Int) := by omega
      by_cases hok : 0 ≤ e.s ∧ e.s ≤ 1048576 ∧ 0 ≤ e.d ∧ e.d ≤ 1048576
      · have HN : Hid (∀ j e, j < i + 1 → out[j]? = some e → 0 ≤ e.s ∧ e.s ≤ 1048576 ∧ 0 ≤ e.d ∧ e.d ≤ 1048576) := fun j e' hj he' => by
          by_cases ej : j < i
          · exact HC.out j e' ej he'
          · have : j = i := by omega
            subst this
            rw [he] at he'; cases he'
            exact hok
        have hcf := costFault_ok e.s e.d wr hok
        clear hok he HC
        go_wp2_with fail
        refine hcf.mono ?_
        rintro r w5 ⟨rfl, hb5⟩
        have B5 := hB.trans (hb5.mono hB.size)
        clear hcf c1 c2 hb5 hB
        go_wp2
        go_roundw
        case rel => exact ⟨i + 1, by omega, by go_num, HN.out, B5⟩
        case measure => simp [intOf]; omega
      · have hcf := costFault_bad e.s e.d wr hok
        clear hok he HC
        go_wp2_with fail
        refine hcf.mono ?_
        rintro r w5 ⟨rfl, hb5⟩
        have B5 := hB.trans (hb5.mono hB.size)
        clear hcf c1 c2 hb5 hB
        go_wp2
        go_ret
        exact ⟨rfl, B2.trans (B5.mono B2.size)⟩
    · have ei : i = out.length := by omega
      subst ei
      have HCO : Hid (∀ e ∈ out, 0 ≤ e.s ∧ e.s ≤ 1048576 ∧ 0 ≤ e.d ∧ e.d ≤ 1048576) := fun e he => by
        obtain ⟨j, hj⟩ := List.getElem?_of_mem he
        exact HC.out j e (List.getElem?_eq_some_iff.1 hj).1 hj
      clear HC hlt hi1
      go_wp2
      obtain ⟨WA, hWA⟩ : ∃ WA, WA = wr := ⟨_, rfl⟩
      go_loopw [13] (fun iv wr => ∃ (i : Nat), i ≤ inn.length ∧ iv = .int .i64 i ∧ Hid (∀ j e, j < i → inn[j]? = some e → 0 ≤ e.s ∧ e.s ≤ 1048576 ∧ 0 ≤ e.d ∧ e.d ≤ 1048576) ∧ Below w2.heap.size w2 wr)
        (fun i _ => inn.length - (intOf i).toNat)
      case atStart => exact ⟨0, Nat.zero_le _, rfl, fun j _ hj => absurd hj (Nat.not_lt_zero j), hB⟩
      case round =>
        clear hB hWA WA
        obtain ⟨i, hi1, rfl, HC, hB⟩ := hrel
        by_cases hlt : i < inn.length
        · obtain ⟨e, he⟩ : ∃ e, inn[i]? = some e := ⟨inn[i], List.getElem?_eq_getElem hlt⟩
          obtain ⟨_, b1, o1, hA1, _, c1, c2, _⟩ := (hi.below (Nat.le_refl _) (B2.trans (hB.mono B2.size))) i e he
          subst hA1
          have i1 : (0 : Int) ≤ (i : Int) := by omega
          have i2 : (i : Int) < (inn.length : Int) := by omega
          by_cases hok : 0 ≤ e.s ∧ e.s ≤ 1048576 ∧ 0 ≤ e.d ∧ e.d ≤ 1048576
          · have HN : Hid (∀ j e, j < i + 1 → inn[j]? = some e → 0 ≤ e.s ∧ e.s ≤ 1048576 ∧ 0 ≤ e.d ∧ e.d ≤ 1048576) := fun j e' hj he' => by
              by_cases ej : j < i
              · exact HC.out j e' ej he'
              · have : j = i := by omega
                subst this
                rw [he] at he'; cases he'
                exact hok
            have hcf := costFault_ok e.s e.d wr hok
            clear hok he HC
            go_wp2_with fail
            refine hcf.mono ?_
            rintro r w5 ⟨rfl, hb5⟩
            have B5 := hB.trans (hb5.mono hB.size)
            clear hcf c1 c2 hb5 hB
            go_wp2
            go_roundw
            case rel => exact ⟨i + 1, by omega, by go_num, HN.out, B5⟩
            case measure => simp [intOf]; omega
          · have hcf := costFault_bad e.s e.d wr hok
            clear hok he HC
            go_wp2_with fail
            refine hcf.mono ?_
            rintro r w5 ⟨rfl, hb5⟩
            have B5 := hB.trans (hb5.mono hB.size)
            clear hcf c1 c2 hb5 hB
            go_wp2
            go_ret
            exact ⟨rfl, B2.trans (B5.mono B2.size)⟩
        · have ei : i = inn.length := by omega
          subst ei
          have HCI : Hid (∀ e ∈ inn, 0 ≤ e.s ∧ e.s ≤ 1048576 ∧ 0 ≤ e.d ∧ e.d ≤ 1048576) := fun e he => by
            obtain ⟨j, hj⟩ := List.getElem?_of_mem he
            exact HC.out j e (List.getElem?_eq_some_iff.1 hj).1 hj
          have kq : ∀ {y : Addr} {z : Value}, w2.cell? y = some z → wr.cell? y = some z := fun {y z} h => (hB.cell (World.block_lt_of_cell? w2 y h)).trans h
          have q0 := kq HQ.out.1
          have q1 := kq HQ.out.2.1
          have q2 := kq HQ.out.2.2
          have B6 := B2.trans (hB.mono B2.size)
          have hLd := laid_any W H A n cap xs wr hm (hx.below B6)
          have HO : Hid (RowI w A1 out) := ho
          have HI : Hid (RowI w A2 inn) := hi
          clear HC hlt hi1 kq HQ hB B2 ho hi hx
          go_wp2_with fail
          clear q0 q1 q2
          generalize wr = w6 at *
          refine hLd.mono ?_
          rintro e w7 ⟨hb7, hcs⟩
          have B7 := B6.trans (hb7.mono B6.size)
          clear hLd B6
          rcases hcs with rfl | ⟨rfl, hsz7, V, bl, hV, hB⟩
          · have B8 : Below w.heap.size w (w7.alloc (.cells #[.pointer none] 27)) := B7.alloc B7.size _
            go_wp2
            go_quiet (fail)
            go_wp2
            go_ret
            exact ⟨rfl, below_drewN B8 _⟩
          · generalize w6.heap.size + 1 + 1 = mb2 at *
            generalize w6.heap.size + 1 = gb at *
            have b8 : Below w7.heap.size w7 (w7.alloc (.cells #[.pointer (some ⟨mb2, 0, none⟩)] 27)) := (Below.refl _ _).alloc (Nat.le_refl _) _
            have B8 := B7.trans (b8.mono B7.size)
            have hB8 := hB.below' b8
            have cm : (w7.alloc (.cells #[.pointer (some ⟨mb2, 0, none⟩)] 27)).cell? ⟨w7.heap.size, 0, none⟩ = some (.pointer (some ⟨mb2, 0, none⟩)) := World.cell?_alloc_at #[.pointer (some ⟨mb2, 0, none⟩)] 27 w7.heap.size 0 rfl
            have hra := hB8.ra
            have ra0 := hra.c0
            have ra1 := hra.c1
            have gw1 := hra.w1
            have gw2 := hra.w2
            have gh1 := hra.h1
            have gh2 := hra.h2
            have hwh := wh_bd hra.w1 hra.w2 hra.h1 hra.h2
            have hwr : IntKind.i64.wrap (W * H) = W * H := wrap_small (by omega) (by omega)
            clear hb7 hB b8 B7 hsz7
            go_wp2_with fail
            generalize w7.alloc (.cells #[.pointer (some ⟨mb2, 0, none⟩)] 27) = w8 at *
            generalize w7.heap.size = mc at *
            by_cases h100 : 100 < W * H
            · clear hB8 hra
              go_quiet (fail)
              go_wp2
              go_ret
              exact ⟨rfl, below_drewN B8 _⟩
            by_cases hm1 : most < 1
            · clear hB8 hra
              go_quiet (fail)
              go_wp2
              go_ret
              exact ⟨rfl, below_drewN B8 _⟩
            by_cases hm6 : 6 < most
            · clear hB8 hra
              go_quiet (fail)
              go_wp2
              go_ret
              exact ⟨rfl, below_drewN B8 _⟩
            obtain ⟨mN, hmN⟩ : ∃ mN : Nat, most = (mN : Int) := ⟨most.toNat, by omega⟩
            subst hmN
            go_quiet (fail)
            go_wp2_with fail
            have hb9 : Below w8.heap.size w8 (w8.drewN nq) := below_drewN (Below.refl _ _) _
            have hB9 := hB8.below' hb9
            have B9 := B8.trans (hb9.mono B8.size)
            have cm9 : (w8.drewN nq).cell? ⟨mc, 0, none⟩ = some (.pointer (some ⟨mb2, 0, none⟩)) := cm
            obtain ⟨es, hGE⟩ := gEs_ex W H bl gw1
            have HGE : Hid (GEs W H bl es) := hGE
            have HM : Hid (1 ≤ mN ∧ mN ≤ 6) := ⟨by omega, by omega⟩
            have gl : gb < (w8.drewN nq).heap.size := World.block_lt_of_cell? _ _ hB9.ga.c0
            clear hGE hB8 hra ra0 ra1 cm hb9 h100 hwr hm1 hm6 B8
            generalize w8.drewN nq = w9 at *
            refine (new_graph w9 hB9.ga (s.below B9 hspos) gl).mono ?_
            rintro e w10 ⟨rb2, pb2, mbm, rfl, G10, _, _, _, hb10⟩
            have hlv1 := new_levels (most := mN) w10 G10 HGE.out HM.out.1 HM.out.2
            go_wp2_with fail
            refine hlv1.mono ?_
            rintro e w11 ⟨lb1, rfl, L11, hb11⟩
            have D11 := hb10.trans (hb11.mono hb10.size)
            have cm11 := (D11.cell (World.block_lt_of_cell? _ _ cm9)).trans cm9
            have hB11 := hB9.below' D11
            have B11 := B9.trans (D11.mono B9.size)
            have hrg := rgraph_any w11 hB11.ra (World.block_lt_of_cell? _ _ hB11.ra.c0)
            clear hlv1 G10 hb10 hb11 D11 cm9 hB9 B9 gl
            go_wp2_with fail
            refine hrg.mono ?_
            rintro e w12 ⟨rb, mb, A', AR, capA, R, f, rfl, RG, ED, hb12⟩
            have hB12 := hB11.below' hb12
            have B12 := B11.trans (hb12.mono B11.size)
            have cm12 := (hb12.cell (World.block_lt_of_cell? _ _ cm11)).trans cm11
            have L12 := L11.below hb12
            have GM := RG.gm ED HGE.out
            have HGM : Hid _ := GM
            have HEL : Hid (∀ n, (es n).length ≤ 256) := fun n => HGE.out.len gw1 gw2 gh1 gh2 n
            have hcl : (crs W H bl (W * H).toNat).length ≤ 256 := by have := crs_len W H bl (W * H).toNat; omega
            have hrb := rbest_any (cap1 := cap1) (cap2 := cap2) w12 GM (HGE.out.esOk gw1 gw2 gh1 gh2) (HO.out.below (Nat.le_refl _) B12) (HI.out.below (Nat.le_refl _) B12) HCO.out HCI.out hcl HEL.out (by have := HL.out; omega) (by have := HL.out; omega)
            clear hrg RG ED hb12 hB11 B11 cm11 L11 GM
            go_wp2_with fail
            refine hrb.mono ?_
            rintro e w13 ⟨s1, d1, f1, BB, rfl, hRB, hRL, hRE, hb13⟩
            have hb14 := hb13.alloc hb13.size (.cells #[.int .i64 s1, .int .i64 d1] 65)
            have sl1 := Slot.new w13 s1 d1
            have hB14 := hB12.below' hb14
            have B14 := B12.trans (hb14.mono B12.size)
            have cm14 := (hb14.cell (World.block_lt_of_cell? _ _ cm12)).trans cm12
            have L14 := L12.below hb14
            have GM14 : Hid _ := HGM.out.below hb14
            have HREF : Hid (∀ {s d f}, Srch W H bl es out inn s d f → f = f1 ∧ s = s1 ∧ d = d1) := fun S => S.ref hRB hRL HCI.out hRE
            have HBE : Hid (∃ N, Lvd (w13.alloc (.cells #[.int .i64 s1, .int .i64 d1] 65)) N lb1 mN W H bl es) := ⟨_, L14⟩
            obtain ⟨vb, eb, K, st, fv', hR, _, V14⟩ := L14
            obtain ⟨O, hlv', hU⟩ := lvOk HGE.out gw1 gw2 gh1 gh2 HM.out.2 HM.out.1 hR
            have hsr := best_any (cap := cap1) (cap2 := cap2) (cs := []) _ V14 O hlv' hU (none30_ok _) (fun _ => ⟨Int.le_refl _, by decide, Int.le_refl _, by decide⟩) (HO.out.below (Nat.le_refl _) B14) (HI.out.below (Nat.le_refl _) B14) (by have := HL.out; omega) (by have := HL.out; omega)
            have HBS : Hid (∀ {way s d f}, way.length ≤ 40000 → BestR (crs W H bl (W * H).toNat) ⟨endL (K + 1) st, st.es⟩ (fun _ => (0, 0)) out inn way s d f → Srch W H bl es out inn s d f ∧ (f = false → way = []) ∧ (f = true → ∃ (o i : Nat) (t : List Nat) (s0 d0 s1 d1 p q : Int), srcE (crs W H bl (W * H).toNat) out (o : Int) s0 d0 ∧ srcE (crs W H bl (W * H).toNat) inn (i : Int) s1 d1 ∧ way = o :: t ∧ way.getLast? = some i ∧ Prc es way p q ∧ s = s0 + p + s1 ∧ d = d0 + q + d1)) := fun hwl hB =>
              ⟨srch HGE.out gw1 gw2 gh1 gh2 HM.out.2 HM.out.1 hR (adm_none O) hB hwl, fun hf => by obtain ⟨_, _, _, _, _, _, _, _, h4, _⟩ := hB; exact (h4 hf).1, (BestR.best (HGE.out.btw gw1 gw2 gh1 gh2) (fun _ => rfl) hR O hU (adm_none O) hB).2⟩
            clear hrb hb14 hb13 hRB hRL hRE hB12 B12 cm12 L12 V14 O hlv' hU HGM hR
            go_wp2_with fail
            generalize w13.alloc (.cells #[.int .i64 s1, .int .i64 d1] 65) = w14 at *
            generalize w13.heap.size = X1 at *
            refine hsr.mono ?_
            rintro e w15 ⟨way, s2, d2, f2, v2, rfl, hBR, own2, hwl, hb15⟩
            obtain ⟨S2, hno, hyes⟩ := HBS.out hwl hBR
            obtain ⟨rfl, rfl, rfl⟩ := HREF.out S2
            have hb16 := hb15.alloc hb15.size (.cells #[.int .i64 s2, .int .i64 d2] 65)
            have sl2 := Slot.new w15 s2 d2
            have sl1 := sl1.below hb16
            have B16 := B14.trans (hb16.mono B14.size)
            have hB16 := hB14.below' hb16
            have cm16 := (hb16.cell (World.block_lt_of_cell? _ _ cm14)).trans cm14
            have GM16 : Hid _ := GM14.out.below hb16
            have HLV : Hid (∃ N, Lvd (w15.alloc (.cells #[.int .i64 s2, .int .i64 d2] 65)) N lb1 mN W H bl es) := by
              obtain ⟨N, L⟩ := HBE.out
              exact ⟨N, L.below hb16⟩
            have own16 := own_below own2 ((Below.refl _ _).alloc (Nat.le_refl _) (.cells #[.int .i64 s2, .int .i64 d2] 65))
            have x0 := sl1.c0
            have x1 := sl1.c1
            have x2 := sl2.c0
            have x3 := sl2.c1
            clear hsr HBS hBR own2 hb15 hb16 S2 HBE GM14 hB14 B14 cm14
            go_upto_region 26 with fail
            generalize w15.alloc (.cells #[.int .i64 s2, .int .i64 d2] 65) = w16 at *
            generalize w15.heap.size = X2 at *
            clear x0 x1 x2 x3
            have hra := hB16.ra
            go_cut [166] from 141 to 166 (fun b wd => ∃ r : Bool, b = .bool r ∧ Hid (r = true → ∃ e0 : IE, inn[0]? = some e0 ∧ inn.length = 1 ∧ e0.s = 0 ∧ e0.d = 0 ∧ inB W H e0.to = true) ∧ Below w16.heap.size w16 wd)
            case first =>
              have hne := since_ne w16
              have kx : ∀ (x : Since w16) {y : Addr} {z : Value}, w16.cell? y = some z → x.u.cell? y = some z := fun x {y z} h => (x.h.cell (World.block_lt_of_cell? w16 y h)).trans h
              have t0 : ∀ x : Since w16, x.u.cell? ⟨mc, 0, none⟩ = some (.pointer (some ⟨mb2, 0, none⟩)) := fun x => kx x cm16
              have hris : Hid (∀ (x : Since w16) (c : Int), _) := fun x c => ris_any c x.u (hra.below x.h (World.block_lt_of_cell? _ _ hra.c0))
              clear hra
              cases hg0 : (isv W H goal == 0) with
              | false =>
                clear kx cm16
                refine wp_region_since (by kernel_rfl) (by kernel_rfl) ?_
                repeat (go_big_quiet_step (first | (go_at_call 31; exact Calls.since_of (hris.out _ _))))
                clear t0 hris
                refine wpQuiet_nil ?_
                rintro _ ⟨x, rfl⟩
                go_wp2_with fail
                go_meet
                exact ⟨false, rfl, fun h => (by cases h), x.h⟩
              | true =>
                cases hl : ((inn.length : Int) == 1) with
                | false =>
                  clear kx cm16
                  refine wp_region_since (by kernel_rfl) (by kernel_rfl) ?_
                  repeat (go_big_quiet_step (first | (go_at_call 31; exact Calls.since_of (hris.out _ _))))
                  clear t0 hris
                  refine wpQuiet_nil ?_
                  rintro _ ⟨x, rfl⟩
                  go_wp2_with fail
                  go_meet
                  exact ⟨false, rfl, fun h => (by cases h), x.h⟩
                | true =>
                  have hl1 : inn.length = 1 := by have := beq_iff_eq.1 hl; omega
                  obtain ⟨e0, he0⟩ : ∃ e0, inn[0]? = some e0 := ⟨inn[0], List.getElem?_eq_getElem (by omega)⟩
                  have HE0 : Hid (inn[0]? = some e0 ∧ inn.length = 1) := ⟨he0, hl1⟩
                  obtain ⟨_, b2, o2, hA2, k0, k1, k2, _⟩ := (HI.out.below (Nat.le_refl _) B16) 0 e0 he0
                  simp only [Nat.zero_mul, Nat.add_zero] at k0 k1 k2
                  subst hA2
                  have t1 : ∀ x : Since w16, x.u.cell? ⟨b2, o2, none⟩ = some (.int .i64 e0.to) := fun x => kx x k0
                  have t2 : ∀ x : Since w16, x.u.cell? ⟨b2, o2 + 1, none⟩ = some (.int .i64 e0.s) := fun x => kx x k1
                  have t3 : ∀ x : Since w16, x.u.cell? ⟨b2, o2 + 2, none⟩ = some (.int .i64 e0.d) := fun x => kx x k2
                  have i2 : (0 : Int) < (inn.length : Int) := by omega
                  clear kx cm16 he0 hl1 k0 k1 k2
                  cases x1 : (e0.s == 0) with
                  | false =>
                    refine wp_region_since (by kernel_rfl) (by kernel_rfl) ?_
                    repeat (go_big_quiet_step (first | (go_at_call 31; exact Calls.since_of (hris.out _ _))))
                    clear t0 hris t1 t2 t3
                    refine wpQuiet_nil ?_
                    rintro _ ⟨x, rfl⟩
                    go_wp2_with fail
                    go_meet
                    exact ⟨false, rfl, fun h => (by cases h), x.h⟩
                  | true =>
                    cases x2 : (e0.d == 0) with
                    | false =>
                      refine wp_region_since (by kernel_rfl) (by kernel_rfl) ?_
                      repeat (go_big_quiet_step (first | (go_at_call 31; exact Calls.since_of (hris.out _ _))))
                      clear t0 hris t1 t2 t3
                      refine wpQuiet_nil ?_
                      rintro _ ⟨x, rfl⟩
                      go_wp2_with fail
                      go_meet
                      exact ⟨false, rfl, fun h => (by cases h), x.h⟩
                    | true =>
                      cases x3 : (isv W H e0.to == 0) with
                      | false =>
                        refine wp_region_since (by kernel_rfl) (by kernel_rfl) ?_
                        repeat (go_big_quiet_step (first | (go_at_call 31; exact Calls.since_of (hris.out _ _))))
                        clear t0 hris t1 t2 t3
                        refine wpQuiet_nil ?_
                        rintro _ ⟨x, rfl⟩
                        go_wp2_with fail
                        go_meet
                        exact ⟨false, rfl, fun h => (by cases h), x.h⟩
                      | true =>
                        refine wp_region_since (by kernel_rfl) (by kernel_rfl) ?_
                        repeat (go_big_quiet_step (first | (go_at_call 31; exact Calls.since_of (hris.out _ _))))
                        clear t0 hris t1 t2 t3
                        refine wpQuiet_nil ?_
                        rintro _ ⟨x, rfl⟩
                        go_wp2_with fail
                        go_meet
                        exact ⟨true, rfl, fun _ => ⟨e0, HE0.out.1, HE0.out.2, beq_iff_eq.1 x1, beq_iff_eq.1 x2, isv_in x3⟩, x.h⟩
            case rest =>
              obtain ⟨r, rfl, HRr, hb17⟩ := hcut
              cases r with
              | false =>
                have hbz := hb17
                have ownz := own_below own16 hb17
                have slz := sl2.below hb17
                clear HRr hb17 own16 sl2 sl1 hra hB16 cm16
                obtain ⟨WZ, hWZ⟩ : ∃ WZ, WZ = wc := ⟨_, rfl⟩
                subst hWZ
                have hBz := B16.trans (hbz.mono B16.size)
                cases f2 with
                | false =>
                  have hw0 := hno rfl
                  subst hw0
                  obtain ⟨A9, cap9, rfl, _⟩ := row_of ownz
                  clear hyes
                  go_wp2
                  go_ret
                  exact ⟨rfl, hBz⟩
                | true =>
                  obtain ⟨oN, iN, tw, s0, d0, s1', d1', pp, qq, c1, c2, c3, c4, c5, c6, c7⟩ := hyes rfl
                  have hpos : 0 < way.length := by rw [c3]; exact Nat.succ_pos _
                  obtain ⟨gw, capw, rfl, RN, _⟩ := rowN_of ownz hpos
                  have hfst : way[0]? = some oN := by rw [c3]; rfl
                  have hlst : way[way.length - 1]? = some iN := by rw [← List.getLast?_eq_getElem?]; exact c4
                  have htr := tracked_yes (cap0 := capw) (cap1 := cap1) (cap2 := cap2) WZ gw1 gw2 gh1 gh2 HGE.out (GM16.out.below hbz) (HO.out.below (Nat.le_refl _) hBz) (HI.out.below (Nat.le_refl _) hBz) (by have := HL.out; omega) (by have := HL.out; omega) HCO.out HCI.out RN hwl hfst hlst c5 HEL.out c1 c2 c6 c7
                  have zz0 := (slz).c0
                  have zz1 := (slz).c1
                  clear c1 c2 c3 c4 c5 c6 c7 hyes hno ownz RN hfst hlst hpos
                  go_wp2_with fail
                  refine htr.mono ?_
                  rintro e wq ⟨rfl, hbq⟩
                  have Bq := hBz.trans (hbq.mono hBz.size)
                  clear htr
                  go_wp2
                  go_ret
                  exact ⟨rfl, Bq⟩
              | true =>
                obtain ⟨e0, he0, hl1, hs0, hd0, hib⟩ := HRr.out rfl
                have hie : inn = [e0] := by
                  match inn, hl1, he0 with
                  | [x], _, h => cases h; rfl
                obtain ⟨_, b2, o2, hA2, k0, _⟩ := (HI.out.below (Nat.le_refl _) (B16.trans (hb17.mono B16.size))) 0 e0 he0
                simp only [Nat.zero_mul, Nat.add_zero] at k0
                subst hA2
                have i2 : (0 : Int) < (inn.length : Int) := by omega
                have b18 : Below wc.heap.size wc (wc.alloc (.cells #[.int .i64 e0.to] 3)) := (Below.refl _ _).alloc (Nat.le_refl _) _
                have hb18 := hb17.trans (b18.mono hb17.size)
                have ct18 : (wc.alloc (.cells #[.int .i64 e0.to] 3)).cell? ⟨wc.heap.size, 0, none⟩ = some (.int .i64 e0.to) := World.cell?_alloc_at #[.int .i64 e0.to] 3 wc.heap.size 0 rfl
                have cm18 := (hb18.cell (World.block_lt_of_cell? _ _ cm16)).trans cm16
                have B18 := B16.trans (hb18.mono B16.size)
                obtain ⟨Nl, hLv⟩ := HLV.out
                have hs3 := srch_any (cap := cap1) (cap2 := cap2) _ (hLv.below hb18) HGE.out gw1 gw2 gh1 gh2 HM.out.2 HM.out.1 (guess32_ok _ cm18 ct18 (hB16.below' hb18).ra hib) (octG_bd gw1 gw2 gh2 hib) (fun hR => by rw [hie]; exact adm_one HGE.out gw1 gw2 gh1 gh2 HM.out.2 HM.out.1 hR ⟨hs0, hd0⟩) (HO.out.below (Nat.le_refl _) B18) (HI.out.below (Nat.le_refl _) B18) (by have := HL.out; omega) (by have := HL.out; omega)
                have own18 := own_below own16 hb18
                have sl1 := sl1.below hb18
                have sl2 := sl2.below hb18
                clear HRr hie hl1 hs0 hd0 hib he0 b18 hLv cm16 hra hB16 hb17 own16 ct18 cm18
                go_wp2_with fail
                clear k0
                generalize wc.alloc (.cells #[.int .i64 e0.to] 3) = w18 at *
                generalize wc.heap.size = X3 at *
                refine hs3.mono ?_
                rintro e w19 ⟨s3, d3, f3, v3, rfl, S3, hb19⟩
                obtain ⟨e1, e2, e3⟩ := HREF.out S3
                replace e1 := e1.symm
                replace e2 := e2.symm
                replace e3 := e3.symm
                subst e1 e2 e3
                have hb20 := hb19.alloc hb19.size (.cells #[.int .i64 s2, .int .i64 d2] 65)
                have hbz := hb18.trans (hb20.mono hb18.size)
                have ownz := own_below own18 hb20
                have sl3 := Slot.new w19 s2 d2
                have sl1 := sl1.below hb20
                have slz := sl2.below hb20
                have x0 := sl1.c0
                have x1 := sl1.c1
                have x2 := sl3.c0
                have x3 := sl3.c1
                clear hs3 S3 hb19 hb20 hb18 own18 sl2 B18 sl1 sl3
                go_upto_region 31 with fail
                clear x0 x1 x2 x3
                obtain ⟨WZ, hWZ⟩ : ∃ WZ, WZ = w19.alloc (.cells #[.int .i64 s2, .int .i64 d2] 65) := ⟨_, rfl⟩
                rw [← hWZ] at hbz ownz slz ⊢
                clear hWZ
                have hBz := B16.trans (hbz.mono B16.size)
                cases f2 with
                | false =>
                  have hw0 := hno rfl
                  subst hw0
                  obtain ⟨A9, cap9, rfl, _⟩ := row_of ownz
                  clear hyes
                  go_wp2
                  go_ret
                  exact ⟨rfl, hBz⟩
                | true =>
                  obtain ⟨oN, iN, tw, s0, d0, s1', d1', pp, qq, c1, c2, c3, c4, c5, c6, c7⟩ := hyes rfl
                  have hpos : 0 < way.length := by rw [c3]; exact Nat.succ_pos _
                  obtain ⟨gw, capw, rfl, RN, _⟩ := rowN_of ownz hpos
                  have hfst : way[0]? = some oN := by rw [c3]; rfl
                  have hlst : way[way.length - 1]? = some iN := by rw [← List.getLast?_eq_getElem?]; exact c4
                  have htr := tracked_yes (cap0 := capw) (cap1 := cap1) (cap2 := cap2) WZ gw1 gw2 gh1 gh2 HGE.out (GM16.out.below hbz) (HO.out.below (Nat.le_refl _) hBz) (HI.out.below (Nat.le_refl _) hBz) (by have := HL.out; omega) (by have := HL.out; omega) HCO.out HCI.out RN hwl hfst hlst c5 HEL.out c1 c2 c6 c7
                  have zz0 := (slz).c0
                  have zz1 := (slz).c1
                  clear c1 c2 c3 c4 c5 c6 c7 hyes hno ownz RN hfst hlst hpos
                  go_wp2_with fail
                  refine htr.mono ?_
                  rintro e wq ⟨rfl, hbq⟩
                  have Bq := hBz.trans (hbq.mono hBz.size)
                  clear htr
                  go_wp2
                  go_ret
                  exact ⟨rfl, Bq⟩
end Go.Proofs.YtmnpplkjhnoglaaGreatDoor
