/-
  Texts laid together: RFlood3, RangeF, TurnM, TurnP.
-/
import Derived.Test.YtfhicijgpdpfpaaDoorP12
import Derived.Maps.Ext
import Derived.Maps.RangeWalk
import Derived.Laws.IdiomRangeMap
/-
  The reference's flood: the walk.
-/
namespace Go.Proofs.YtfhicijgpdpfpaaDoor
open Go.RowKit Go.Maps

theorem wrap_small' {n : Int} (h1 : -1000000 ≤ n) (h2 : n ≤ 1000000) : IntKind.i64.wrap n = n := by
  unfold IntKind.wrap
  simp [IntKind.bits, IntKind.signed]
  omega
theorem mem_take {l : List Nat} {q dk j : Nat} (hq : q < l.length) (hd : l.getD q 0 = dk) (h : j ∈ l.take (q + 1)) : j ∈ l.take q ∨ j = dk := by
  rw [List.take_add_one, List.getElem?_eq_getElem hq] at h
  rw [getD_at _ _ hq] at hd
  rw [List.mem_append] at h
  rcases h with h | h
  · exact Or.inl h
  · exact Or.inr ((by simpa using h : j = l[q]).trans hd)
theorem costL_one (F : Int → Option (Int × Int)) : ∀ v ∈ costL F, v.oneCell' = true := by
  intro v hv
  unfold costL at hv
  rw [List.mem_map] at hv
  obtain ⟨i, _, rfl⟩ := hv
  rfl
theorem isL_one (F : Int → Option (Int × Int)) : ∀ v ∈ isL F, v.oneCell' = true := by
  intro v hv
  unfold isL at hv
  rw [List.mem_map] at hv
  obtain ⟨i, _, rfl⟩ := hv
  rfl
theorem und54 : Tryd.prog.underlying 45 = some (.array 256 31) := by kernel_rfl
theorem und55 : Tryd.prog.underlying 46 = some (.array 256 4) := by kernel_rfl
theorem results_two {P : Program} {fn : Func} {tmps : Array Value} {w : World} {i j : Nat} {s t : TypeId} {A B : Addr} {u v : Value} (hr : fn.results = #[.cell i s, .cell j t]) (a : tmps.getD i undef = .pointer (some A)) (b : tmps.getD j undef = .pointer (some B))
    (h : (loadVar s A).run P w = .ok u w) (k : (loadVar t B).run P w = .ok v w) : (results fn tmps).run P w = .ok (.tuple #[u, v]) w := by
  unfold results
  rw [hr]
  rw [Array.getD_eq_getD_getElem?] at a b
  simp [a, b, h, k, asAddr]
theorem set_last (w : World) (c : Nat) :
    ((((w.alloc (.cells zC 45)).alloc (.cells zB 46)).alloc (.cells zC 45)).alloc (.cells zB 46)).setCell ⟨w.heap.size + 1 + 1 + 1, c, none⟩ (.bool true) = (((w.alloc (.cells zC 45)).alloc (.cells zB 46)).alloc (.cells zC 45)).alloc (.cells (zB.setIfInBounds c (.bool true)) 46) := by
  simp [go_sem]

set_option maxHeartbeats 8000000 in
set_option maxRecDepth 1000000 in
theorem rflood_any {b : Nat} {W H V : Int} {bl : Nat → Bool} (c : Nat) (w : World) (g : RefAt w b W H V bl) (hb : b < w.heap.size) (hr : inB W H c = true) :
    Calls Tryd.prog 17 #[.pointer (some ⟨b, 0, none⟩), .int .i64 (c : Int)] w fun e w' => RFlooded w w' e W H bl c := by
  obtain ⟨i0, hi0, hz0, hz1, hz2'⟩ := info_parts Tryd.info3
  have w1' := g.w1
  obtain ⟨kk1, kk2⟩ := wh_bd g.w1 g.w2 g.h1 g.h2
  have hc : 0 ≤ (c : Int) ∧ (c : Int) < W * H := of_decide_eq_true hr
  have S0 := fst_start w c hr kk2
  have L0 := Lab.start (Edge W H bl) (c : Int) (W * H).toNat (by omega) (by omega) (fun a _ => ¬ pend [c] 0 a) (fun _ h => h ⟨0, Nat.le_refl _, by simp, rfl⟩)
  obtain ⟨N, hN⟩ : ∃ N : Nat, (W * H).toNat = N := ⟨_, rfl⟩
  obtain ⟨q1, q2⟩ := hc
  have q3 : (c : Int) < 256 := by omega
  have LN := LabAt.new ((w.alloc (.cells zC 45)).alloc (.cells zB 46))
  have ci := LN.i0 c (by omega)
  have cz := LN.zi c
  have es : ((w.alloc (.cells zC 45)).alloc (.cells zB 46)).heap.size + 1 = w.heap.size + 1 + 1 + 1 := by simp
  rw [es] at ci cz
  clear LN es
  go_enter Tryd.func17, Tryd.ntmps17
  go_wp2_with (first | (refine wpList_alloc54 rfl rfl ?_) | (refine wpList_alloc55 rfl rfl ?_))
  rw [set_last] at S0
  generalize (((((w.alloc (.cells zC 45)).alloc (.cells zB 46)).alloc (.cells zC 45)).alloc (.cells (zB.setIfInBounds c (.bool true)) 46)).alloc (.cells #[.int .i64 (c : Int)] 3)) = wS at *
  clear ci cz
  rw [hN] at L0
  have hN256 : N ≤ 256 := by omega
  go_loopg [8, 9] ((pot (putH (fun _ => none) (c : Int) 0 0) N).toNat + 1) (fun gk tv iv wr => ∃ (td : List Nat) (i : Nat) (F : Int → Option (Int × Int)), i ≤ td.length ∧ gk = (pot F N).toNat + (td.length - i) ∧ iv = .int .i64 i ∧ FSt w wr tv td W H F ∧ Lab (Edge W H bl) c N F (fun a _ => ¬ pend td i a))
  case atStart => exact ⟨[c], 0, _, by simp, rfl, rfl, S0, L0⟩
  case round =>
    clear S0 L0
    obtain ⟨td, i, F, hi, hgk, rfl, S, L⟩ := hrel
    have HG : Hid (gk = (pot F N).toNat + (td.length - i)) := hgk
    clear hgk
    have hlen := S.len
    rw [hN] at hlen
    have hpot := L.pot0
    by_cases hlt : i < td.length
    · obtain ⟨hain, haF⟩ := S.mem i hlt
      obtain ⟨⟨s, d⟩, hFa⟩ := Option.isSome_iff_exists.1 haF
      have hlt' : (i : Int) < (td.length : Int) := by omega
      have i0' : (0 : Int) ≤ (i : Int) := by omega
      rcases S.own.2 with ⟨_, h0⟩ | ⟨gt, cap, cur, rfl, hbase, hg, _⟩
      · omega
      · have ca := own_int S.own i hlt
        have hgt : gt < wr.heap.size := (Array.getElem?_eq_some_iff.1 hg).1
        obtain ⟨a, ha⟩ : ∃ a, td.getD i 0 = a := ⟨_, rfl⟩
        have HA : Hid (td.getD i 0 = a) := ha
        rw [ha] at hain hFa ca
        clear haF ha hg
        have hac : 0 ≤ (a : Int) ∧ (a : Int) < W * H := of_decide_eq_true hain
        obtain ⟨a1, a2⟩ := hac
        have haB : a < 256 := by omega
        have a3 : (a : Int) < 256 := by omega
        have gr := g.below S.bel hb
        obtain ⟨l, hl⟩ := dirsOf (W := W) (H := H) bl (a : Int) w1'
        have hbr := Nat.lt_of_lt_of_le hb S.bel.size
        go_wp2_with fail
        refine (rmoves_b hl wr gr hain hbr).mono ?_
        rintro e w2 ⟨A1, cap1, rfl, ⟨hrow, hnew⟩, hb2⟩
        have S2 := S.below hb2
        have L2 : Lab (Edge W H bl) c N F (fun x j => (¬ pend td (i + 1) x ∧ x ≠ a) ∨ (x = a ∧ j ∈ l.take 0)) := by
          refine L.widen fun {x k y s d} _ _ h => ?_
          rcases h with ⟨h1, h2⟩ | ⟨_, h2⟩
          · rintro ⟨j, j1, j2, j3⟩
            by_cases e : j = i
            · subst e; rw [HA.out] at j3; exact h2 j3.symm
            · exact h1 ⟨j, by omega, j2, j3⟩
          · simp at h2
        have hz2 := hb2.size
        have hl8 := hl.len
        obtain ⟨L', hL'⟩ : ∃ L', l.length = L' := ⟨_, rfl⟩
        have HL : Hid (l.length = L') := hL'
        rw [hL'] at hrow hl8 ⊢
        obtain ⟨M0, hM0⟩ : ∃ M0, wr.heap.size = M0 := ⟨_, rfl⟩
        rw [hM0] at hnew hgt hz2
        have hbig0 : w.heap.size + 4 ≤ M0 := by have := S.big; omega
        clear S L hL' gr hb2 hbr ca hM0
        go_wp2
        go_loopg [8, 12] L' (fun gk tv kv wq => ∃ (q : Nat) (td' : List Nat) (F' : Int → Option (Int × Int)), q ≤ L' ∧ gk = L' - q ∧ kv = .int .i64 q ∧ FSt w wq tv td' W H F' ∧ Lab (Edge W H bl) c N F' (fun x j => (¬ pend td' (i + 1) x ∧ x ≠ a) ∨ (x = a ∧ j ∈ l.take q)) ∧ F' a = some (s, d) ∧ i < td'.length ∧ (pot F' N).toNat + (td'.length - i) ≤ (pot F N).toNat + (td.length - i) ∧ Keep (fun k => k < M0) w2 wq ∧ (∀ x, tv.ownBlock = some x → x < M0 ∨ w2.heap.size ≤ x))
        case atStart => exact ⟨0, td, F, by omega, rfl, rfl, S2, L2, hFa, hlt, Nat.le_refl _, Keep.refl _ _, fun x hx => Or.inl (by simp [Value.ownBlock] at hx; omega)⟩
        case round =>
          clear S2 L2 hFa hbase hgt
          obtain ⟨q, td', F', hq, hgq, rfl, S3, L3, hFa3, hi3, hms, K3, hob⟩ := hrel
          have HGq : Hid (gk = L' - q) := hgq
          have HM : Hid ((pot F' N).toNat + (td'.length - i) ≤ (pot F N).toNat + (td.length - i)) := hms
          clear hgq hms
          by_cases hqlt : q < L'
          · have hqlt' : (q : Int) < (L' : Int) := by omega
            have hq0 : (0 : Int) ≤ (q : Int) := by omega
            have hql : q < l.length := by rw [HL.out]; exact hqlt
            obtain ⟨bs, os, rfl, hbs, hcell⟩ := hrow q hqlt
            have hbn := hnew bs os rfl
            have cl : wr.cell? ⟨bs, os + q, none⟩ = some (.int .i64 ((l.getD q 0 : Nat) : Int)) := K3.cellOf hcell (by show ¬ bs < M0; omega)
            have hd8 := hl.lt q hql
            have hmay : mayB W H bl ((a : Int) % W) ((a : Int) / W) (l.getD q 0) = true := by
              have hi' : q < (mvs W H bl ((a : Int) % W) ((a : Int) / W) 8).length := by rw [hl.eq]; exact hql
              have := (mvs_at hi').2
              rw [hl.eq] at this
              exact this
            obtain ⟨dk, hdk⟩ : ∃ dk, l.getD q 0 = dk := ⟨_, rfl⟩
            have HDK : Hid (l.getD q 0 = dk) := hdk
            rw [hdk] at cl hd8 hmay
            clear hcell hdk
            have hed : Edge W H bl a dk ((a : Int) + (stepY dk * W + stepX dk)) := ⟨hd8, hain, hmay, rfl⟩
            have hti := hed.in' w1'
            have htc : 0 ≤ (a : Int) + (stepY dk * W + stepX dk) ∧ (a : Int) + (stepY dk * W + stepX dk) < W * H := of_decide_eq_true hti
            obtain ⟨tn, htn⟩ : ∃ tn : Nat, (a : Int) + (stepY dk * W + stepX dk) = tn := ⟨((a : Int) + (stepY dk * W + stepX dk)).toNat, by omega⟩
            have hto := fun w g => rto_v (b := b) (W := W) (H := H) (V := V) (bl := bl) (c := (a : Int)) (d := dk) htn w g hd8 (by omega) (by omega)
            rw [htn] at hed hti htc
            obtain ⟨t1, t2⟩ := htc
            have t3 : (tn : Int) < 256 := by omega
            have htB : tn < 256 := by omega
            have g3 := g.below S3.bel hb
            clear htn hmay
            go_wp2_with (go_at_call 48; refine (hto _ g3).mono ?_; rintro e w4 ⟨rfl, rfl⟩)
            have hrem : Int.tmod (dk : Int) 2 = stD dk := by unfold stD; rw [Int.tmod_eq_emod_of_nonneg (by omega)]; omega
            have hsub : 1 - stD dk = stS dk := by unfold stS stD; omega
            have hst := st_bd dk
            obtain ⟨v1, v2, v3⟩ := L3.val_bd hN256 hFa3
            obtain ⟨v4, v5⟩ := val_small v1 v2 v3
            have hok1 : okC s d := by unfold okC; omega
            have hok2 : okC (stS dk) (stD dk) := by unfold okC; omega
            have hadd := fun w => plus_any s d (stS dk) (stD dk) w hok1 hok2
            have hu : IntKind.i64.wrap (stS dk) = stS dk := wrap_small' (by omega) (by omega)
            have S4 : FSt w w4.drew u8 td' W H F' := S3.below ((Below.refl _ _).drew)
            have K4 : Keep (fun k => k < M0) w2 w4.drew := K3.drew
            have cl : w4.drew.cell? ⟨bs, os + q, none⟩ = some (.int .i64 (dk : Int)) := cl
            have x0 : w4.drew.cell? ⟨w.heap.size + 1 + 1, a * 2, none⟩ = some (.int .i64 s) := by have := S4.lab.c0 a haB; rw [(lab_some hFa3).1] at this; exact this
            have x1 : w4.drew.cell? ⟨w.heap.size + 1 + 1, a * 2 + 1, none⟩ = some (.int .i64 d) := by have := S4.lab.c1 a haB; rw [(lab_some hFa3).2] at this; exact this
            have hbig := S3.big
            have e1 : bs < w4.heap.size := World.block_lt_of_cell? w4.drew _ cl
            have CC : ∀ w', Below w4.drew.heap.size w4.drew w' → w'.cell? ⟨w.heap.size + 1 + 1, a * 2, none⟩ = some (.int .i64 s) ∧ w'.cell? ⟨w.heap.size + 1 + 1, a * 2 + 1, none⟩ = some (.int .i64 d) ∧ w'.cell? ⟨bs, os + q, none⟩ = some (.int .i64 (dk : Int)) :=
              fun w' hb' => ⟨(hb'.cell (World.block_lt_of_cell? _ _ x0)).trans x0, (hb'.cell (World.block_lt_of_cell? _ _ x1)).trans x1, (hb'.cell (World.block_lt_of_cell? _ _ cl)).trans cl⟩
            have HBx : Below w4.drew.heap.size w4.drew w4.drew := Below.refl _ _
            clear S3 K3 g3 hto
            go_wp2
            go_region_held3 (fun w' => w'.cell? ⟨w.heap.size + 1 + 1, a * 2, none⟩ = some (.int .i64 s) ∧ w'.cell? ⟨w.heap.size + 1 + 1, a * 2 + 1, none⟩ = some (.int .i64 d) ∧ w'.cell? ⟨bs, os + q, none⟩ = some (.int .i64 (dk : Int)))
              (first | (exact CC _ HBx) | (exact CC _ (HBx.alloc HBx.size _)) | (exact CC _ ((HBx.setCell (p := ⟨w4.heap.size, 0, none⟩) (Nat.le_refl _) _).setCell (p := ⟨w4.heap.size, 1, none⟩) (Nat.le_refl _) _)) | (exact CC _ ((HBx.alloc HBx.size _).setCell HBx.size _)) | (exact CC _ (((HBx.alloc HBx.size _).setCell HBx.size _).setCell HBx.size _)) | (go_keep))
              (first | (go_at_call 42; refine (hadd _).mono ?_; rintro e w5 ⟨rfl, hb5⟩; have HBx : Below w4.drew.heap.size w4.drew w5 := (by first | exact hb5 | exact (HBx.alloc HBx.size _).trans (hb5.mono (by simp))); obtain ⟨hc5, hf5⟩ := bcell hb5; have hz5 := hb5.size; simp at hz5))
            all_goals
              have hFD : ∃ DB W6 : Nat, True := ⟨0, 0, trivial⟩
              clear hFD
              first
                | (have z0 : w5.cell? ⟨w4.heap.size, 0, none⟩ = some (.int .i64 0) := (hc5 _ _ (by simp)).trans (World.cell?_alloc_at (w := w4) #[.int .i64 0, .int .i64 0] 31 w4.heap.size 0 rfl)
                   have z1 : w5.cell? ⟨w4.heap.size, 1, none⟩ = some (.int .i64 0) := (hc5 _ _ (by simp)).trans (World.cell?_alloc_at (w := w4) #[.int .i64 0, .int .i64 0] 31 w4.heap.size 1 rfl)
                   have z2 : w5.frozen? ⟨w4.heap.size, 0, none⟩ = false := (hf5 _ _ (by simp)).trans (free_alloc w4 #[.int .i64 0, .int .i64 0] 31 w4.heap.size (Nat.le_refl _) 0)
                   have z3 : w5.frozen? ⟨w4.heap.size, 1, none⟩ = false := (hf5 _ _ (by simp)).trans (free_alloc w4 #[.int .i64 0, .int .i64 0] 31 w4.heap.size (Nat.le_refl _) 1)
                   have Sl := (Slot.mk z0 z1 z2 z3).set (s + stS dk) (d + stD dk)
                   have B6 := (HBx.setCell (p := ⟨w4.heap.size, 0, none⟩) (Nat.le_refl _) (.int .i64 (s + stS dk))).setCell (p := ⟨w4.heap.size, 1, none⟩) (Nat.le_refl _) (.int .i64 (d + stD dk))
                   clear z0 z1 z2 z3
                   have hDB : w4.heap.size ≤ w4.heap.size := Nat.le_refl _
                   generalize (w5.setCell ⟨w4.heap.size, 0, none⟩ (.int .i64 (s + stS dk))).setCell ⟨w4.heap.size, 1, none⟩ (.int .i64 (d + stD dk)) = W6 at *
                   obtain ⟨DB, hDB'⟩ : ∃ DB, w4.heap.size = DB := ⟨_, rfl⟩
                   have hDB2 : w4.heap.size ≤ DB := by omega
                   rw [hDB'] at Sl ⊢)
                | (have Sl := Slot.new w5 (s + stS dk) (d + stD dk)
                   have B6 := HBx.alloc HBx.size (.cells #[.int .i64 (s + stS dk), .int .i64 (d + stD dk)] 31)
                   have hDB : w4.heap.size ≤ w5.heap.size := hz5
                   generalize w5.alloc (.cells #[.int .i64 (s + stS dk), .int .i64 (d + stD dk)] 31) = W6 at *
                   obtain ⟨DB, hDB'⟩ : ∃ DB, w5.heap.size = DB := ⟨_, rfl⟩
                   have hDB2 : w4.heap.size ≤ DB := by omega
                   rw [hDB'] at Sl ⊢)
              have S6 := S4.below B6
              have K6 := K4.below B6
              clear hDB hDB' S4 K4 B6 x0 x1 cl CC HBx hb5 hc5 hf5 hz5 hadd
              have hI := S6.lab.i0 tn htB
              cases hF : F' (tn : Int) with
              | none =>
                have hnr : ∀ {t u}, F' (tn : Int) = some (t, u) → val (s + stS dk) (d + stD dk) < val t u := fun h => by rw [hF] at h; cases h
                rw [hF] at hI
                have hI : W6.cell? ⟨w.heap.size + 1 + 1 + 1, tn, none⟩ = some (.bool false) := hI
                go_wp2
                go_quiet (fail)
                have S7 := S6.below (below_drewN (Below.refl W6.heap.size W6) nq)
                have K7 := K6.drewN nq
                have Sl7 := Sl.below (below_drewN (Below.refl W6.heap.size W6) nq)
                clear S6 K6 Sl hI
                generalize W6.drewN nq = W7 at *
                have hne : ∀ {y}, Edge W H bl a dk y → y = (tn : Int) := fun e => hed.one e rfl
                obtain ⟨Lx, hpx, hatx⟩ := Lab.nearer (pend := fun x => pend td' (i + 1) x) (dn := fun j => j ∈ l.take q) hN256 L3 hFa3 hed t1 (by omega) hnr hne
                have Ly : Lab (Edge W H bl) c N (putH F' tn (s + stS dk) (d + stD dk)) (fun x j => (¬ pend (td' ++ [tn]) (i + 1) x ∧ x ≠ a) ∨ (x = a ∧ j ∈ l.take (q + 1))) := by
                  refine Lx.widen fun {x k y s d} _ _ h => ?_
                  rcases h with ⟨h1, h2⟩ | ⟨h1, h2⟩
                  · exact Or.inl ⟨fun h3 => h1 ((pend_app (by omega)).2 h3), h2⟩
                  · exact Or.inr ⟨h1, mem_take hql HDK.out h2⟩
                have hp0 := Lx.pot0
                have hlen7 := S7.len
                rw [hN] at hlen7
                have P8 : FSt w (((W7.setCell ⟨w.heap.size + 1 + 1, tn * 2, none⟩ (.int .i64 (s + stS dk))).setCell ⟨w.heap.size + 1 + 1, tn * 2 + 1, none⟩ (.int .i64 (d + stD dk))).setCell ⟨w.heap.size + 1 + 1 + 1, tn, none⟩ (.bool true)) u8 td' W H (putH F' tn (s + stS dk) (d + stD dk)) := S7.put tn htB _ _ (by rw [hN]; exact hpx)
                have K8 : Keep (fun k => k < M0) w2 (((W7.setCell ⟨w.heap.size + 1 + 1, tn * 2, none⟩ (.int .i64 (s + stS dk))).setCell ⟨w.heap.size + 1 + 1, tn * 2 + 1, none⟩ (.int .i64 (d + stD dk))).setCell ⟨w.heap.size + 1 + 1 + 1, tn, none⟩ (.bool true)) := K7.trans (put_keep W7 (w.heap.size + 2) (w.heap.size + 3) tn _ _) (fun k _ hk => by omega)
                have y0 : W7.cell? ⟨w.heap.size + 1 + 1, tn * 2, none⟩ = some (.int .i64 (labS F' tn)) := S7.lab.c0 tn htB
                have y1 : W7.cell? ⟨w.heap.size + 1 + 1, tn * 2 + 1, none⟩ = some (.int .i64 (labD F' tn)) := S7.lab.c1 tn htB
                have y2 : W7.frozen? ⟨w.heap.size + 1 + 1, tn * 2, none⟩ = false := S7.lab.zc _
                have y3 : W7.frozen? ⟨w.heap.size + 1 + 1, tn * 2 + 1, none⟩ = false := S7.lab.zc _
                have y4 : W7.cell? ⟨w.heap.size + 1 + 1 + 1, tn, none⟩ = some (.bool (F' tn).isSome) := S7.lab.i0 tn htB
                have y5 : W7.frozen? ⟨w.heap.size + 1 + 1 + 1, tn, none⟩ = false := S7.lab.zi _
                have y6 := Sl7.c0
                have y7 := Sl7.c1
                have hb7 := S7.big
                have n1 : w.heap.size + 1 + 1 + 1 ≠ w.heap.size + 1 + 1 := by omega
                clear S7 K7 Sl7 Lx
                go_wp2_with (at_builtin; refine wpList_append_own_at _ rfl _ _ 22 rfl (w.heap.size + 4) 3 i0 (.int .i64 0) 1 8 Tryd.underlying22 hi0 hz0 hz1 hz2' rfl (by decide) _ _ _ rfl (World.ownsRow.alloc P8.own _) ⟨W7.heap.size, 0, none⟩ 1 1 [.int .i64 (tn : Int)] rfl rfl ?c1 ?c2 ?c3 ?c4 ?c5 ?_)
                case c1 =>
                  intro j u hj
                  match j, hj with
                  | 0, hj =>
                    simp at hj; subst hj; simp only [Addr.add]
                    exact World.cell?_alloc_at #[.int .i64 (tn : Int)] 3 W7.heap.size 0 (by simp)
                case c2 => intro u hu; simp at hu; subst hu; rfl
                case c3 => unfold maxLen; omega
                case c4 => omega
                case c5 => simp; omega
                intro v' w9 hown' hgrow _ hloc
                have P8a := P8.below ((Below.refl _ _).alloc (Nat.le_refl _) (.cells #[.int .i64 (tn : Int)] 3))
                have P9 : FSt w w9 v' (td' ++ [tn]) W H (putH F' tn (s + stS dk) (d + stD dk)) := P8a.app (by simpa [vals] using hown') hgrow hti (by rw [putH_same]; rfl) (by rw [hN]; omega)
                have K9 : Keep (fun k => k < M0) w2 w9 := (K8.alloc _).grown hgrow (fun k hk hk2 => by rcases hob k hk with h | h <;> omega)
                have hob9 : ∀ x, v'.ownBlock = some x → x < M0 ∨ w2.heap.size ≤ x := fun x hx => by
                  rcases hloc with h | h
                  · exact hob x (h.symm.trans hx)
                  · right
                    have := h.symm.trans hx
                    have h8 := K8.size
                    simp at this h8
                    omega
                clear hown' hgrow hloc P8 P8a K8 hob y0 y1 y2 y3 y4 y5 y6 y7
                go_wp2
                go_roundg (L' - (q + 1))
                case measure => have := HGq.out; omega
                case rel => exact ⟨q + 1, td' ++ [tn], _, by omega, rfl, by go_num, P9, Ly, hatx, by simp; omega, by have := HM.out; simp; omega, K9, hob9⟩
              | some p =>
                obtain ⟨t, u⟩ := p
                obtain ⟨r1, r2, r3⟩ := L3.val_bd hN256 hF
                obtain ⟨r4, r5⟩ := val_small r1 r2 r3
                have hok3 : okC t u := by unfold okC; omega
                have hok4 : okC (s + stS dk) (d + stD dk) := by unfold okC; omega
                have hcv := fun w => rcmp_any (s + stS dk) (d + stD dk) t u w hok4 hok3
                have hcm := cmpC_val' (s + stS dk) (d + stD dk) t u hok4 hok3
                rw [hF] at hI
                have hI : W6.drew.cell? ⟨w.heap.size + 1 + 1 + 1, tn, none⟩ = some (.bool true) := hI
                have g0 : W6.drew.cell? ⟨w.heap.size + 1 + 1, tn * 2, none⟩ = some (.int .i64 t) := by have := S6.lab.c0 tn htB; rw [(lab_some hF).1] at this; exact this
                have g1 : W6.drew.cell? ⟨w.heap.size + 1 + 1, tn * 2 + 1, none⟩ = some (.int .i64 u) := by have := S6.lab.c1 tn htB; rw [(lab_some hF).2] at this; exact this
                have g2 : W6.drew.cell? ⟨DB, 0, none⟩ = some (.int .i64 (s + stS dk)) := Sl.c0
                have g4 : W6.drew.cell? ⟨DB, 1, none⟩ = some (.int .i64 (d + stD dk)) := Sl.c1
                have CC : ∀ w', Below W6.drew.heap.size W6.drew w' → w'.cell? ⟨w.heap.size + 1 + 1 + 1, tn, none⟩ = some (.bool true) ∧ w'.cell? ⟨w.heap.size + 1 + 1, tn * 2, none⟩ = some (.int .i64 t) ∧ w'.cell? ⟨w.heap.size + 1 + 1, tn * 2 + 1, none⟩ = some (.int .i64 u) ∧ w'.cell? ⟨DB, 0, none⟩ = some (.int .i64 (s + stS dk)) ∧ w'.cell? ⟨DB, 1, none⟩ = some (.int .i64 (d + stD dk)) :=
                  fun w' hb' => ⟨(hb'.cell (World.block_lt_of_cell? _ _ hI)).trans hI, (hb'.cell (World.block_lt_of_cell? _ _ g0)).trans g0, (hb'.cell (World.block_lt_of_cell? _ _ g1)).trans g1, (hb'.cell (World.block_lt_of_cell? _ _ g2)).trans g2, (hb'.cell (World.block_lt_of_cell? _ _ g4)).trans g4⟩
                have HB7 : Below W6.drew.heap.size W6.drew W6.drew := Below.refl _ _
                have HB67 : Below W6.heap.size W6 W6.drew := (Below.refl _ _).drew
                by_cases hlv : val (s + stS dk) (d + stD dk) < val t u
                · have hnr : ∀ {t u}, F' (tn : Int) = some (t, u) → val (s + stS dk) (d + stD dk) < val t u := fun h => by rw [hF] at h; cases h; exact hlv
                  have hc0 : cmpC (s + stS dk) (d + stD dk) t u < 0 := by rw [hcm]; unfold cmpI; rw [if_pos hlv]; decide
                  generalize cmpC (s + stS dk) (d + stD dk) t u = cr at *
                  clear hcm
                  go_wp2
                  go_region_held3 (fun w' => w'.cell? ⟨w.heap.size + 1 + 1 + 1, tn, none⟩ = some (.bool true) ∧ w'.cell? ⟨w.heap.size + 1 + 1, tn * 2, none⟩ = some (.int .i64 t) ∧ w'.cell? ⟨w.heap.size + 1 + 1, tn * 2 + 1, none⟩ = some (.int .i64 u) ∧ w'.cell? ⟨DB, 0, none⟩ = some (.int .i64 (s + stS dk)) ∧ w'.cell? ⟨DB, 1, none⟩ = some (.int .i64 (d + stD dk))) (first | (exact CC _ HB7)) (first | (go_at_call 52; refine (hcv _).mono ?_; rintro e W7 ⟨rfl, hb7'⟩; have HB7 := HB7.trans (hb7'.mono HB7.size)))
                  have HBa := HB67.trans (HB7.mono (by exact Nat.le_refl _))
                  have S7 := S6.below HBa
                  have K7 := K6.below HBa
                  have Sl7 := Sl.below HBa
                  clear S6 K6 Sl hI g0 g1 g2 g4 CC HB7 HB67 HBa hcv
                  have hne : ∀ {y}, Edge W H bl a dk y → y = (tn : Int) := fun e => hed.one e rfl
                  obtain ⟨Lx, hpx, hatx⟩ := Lab.nearer (pend := fun x => pend td' (i + 1) x) (dn := fun j => j ∈ l.take q) hN256 L3 hFa3 hed t1 (by omega) hnr hne
                  have Ly : Lab (Edge W H bl) c N (putH F' tn (s + stS dk) (d + stD dk)) (fun x j => (¬ pend (td' ++ [tn]) (i + 1) x ∧ x ≠ a) ∨ (x = a ∧ j ∈ l.take (q + 1))) := by
                    refine Lx.widen fun {x k y s d} _ _ h => ?_
                    rcases h with ⟨h1, h2⟩ | ⟨h1, h2⟩
                    · exact Or.inl ⟨fun h3 => h1 ((pend_app (by omega)).2 h3), h2⟩
                    · exact Or.inr ⟨h1, mem_take hql HDK.out h2⟩
                  have hp0 := Lx.pot0
                  have hlen7 := S7.len
                  rw [hN] at hlen7
                  have P8 : FSt w (((W7.setCell ⟨w.heap.size + 1 + 1, tn * 2, none⟩ (.int .i64 (s + stS dk))).setCell ⟨w.heap.size + 1 + 1, tn * 2 + 1, none⟩ (.int .i64 (d + stD dk))).setCell ⟨w.heap.size + 1 + 1 + 1, tn, none⟩ (.bool true)) u8 td' W H (putH F' tn (s + stS dk) (d + stD dk)) := S7.put tn htB _ _ (by rw [hN]; exact hpx)
                  have K8 : Keep (fun k => k < M0) w2 (((W7.setCell ⟨w.heap.size + 1 + 1, tn * 2, none⟩ (.int .i64 (s + stS dk))).setCell ⟨w.heap.size + 1 + 1, tn * 2 + 1, none⟩ (.int .i64 (d + stD dk))).setCell ⟨w.heap.size + 1 + 1 + 1, tn, none⟩ (.bool true)) := K7.trans (put_keep W7 (w.heap.size + 2) (w.heap.size + 3) tn _ _) (fun k _ hk => by omega)
                  have y0 : W7.cell? ⟨w.heap.size + 1 + 1, tn * 2, none⟩ = some (.int .i64 (labS F' tn)) := S7.lab.c0 tn htB
                  have y1 : W7.cell? ⟨w.heap.size + 1 + 1, tn * 2 + 1, none⟩ = some (.int .i64 (labD F' tn)) := S7.lab.c1 tn htB
                  have y2 : W7.frozen? ⟨w.heap.size + 1 + 1, tn * 2, none⟩ = false := S7.lab.zc _
                  have y3 : W7.frozen? ⟨w.heap.size + 1 + 1, tn * 2 + 1, none⟩ = false := S7.lab.zc _
                  have y4 : W7.cell? ⟨w.heap.size + 1 + 1 + 1, tn, none⟩ = some (.bool (F' tn).isSome) := S7.lab.i0 tn htB
                  have y5 : W7.frozen? ⟨w.heap.size + 1 + 1 + 1, tn, none⟩ = false := S7.lab.zi _
                  have y6 := Sl7.c0
                  have y7 := Sl7.c1
                  have hb7 := S7.big
                  have n1 : w.heap.size + 1 + 1 + 1 ≠ w.heap.size + 1 + 1 := by omega
                  clear S7 K7 Sl7 Lx
                  go_wp2_with (at_builtin; refine wpList_append_own_at _ rfl _ _ 22 rfl (w.heap.size + 4) 3 i0 (.int .i64 0) 1 8 Tryd.underlying22 hi0 hz0 hz1 hz2' rfl (by decide) _ _ _ rfl (World.ownsRow.alloc P8.own _) ⟨W7.heap.size, 0, none⟩ 1 1 [.int .i64 (tn : Int)] rfl rfl ?c1 ?c2 ?c3 ?c4 ?c5 ?_)
                  case c1 =>
                    intro j u hj
                    match j, hj with
                    | 0, hj =>
                      simp at hj; subst hj; simp only [Addr.add]
                      exact World.cell?_alloc_at #[.int .i64 (tn : Int)] 3 W7.heap.size 0 (by simp)
                  case c2 => intro u hu; simp at hu; subst hu; rfl
                  case c3 => unfold maxLen; omega
                  case c4 => omega
                  case c5 => simp; omega
                  intro v' w9 hown' hgrow _ hloc
                  have P8a := P8.below ((Below.refl _ _).alloc (Nat.le_refl _) (.cells #[.int .i64 (tn : Int)] 3))
                  have P9 : FSt w w9 v' (td' ++ [tn]) W H (putH F' tn (s + stS dk) (d + stD dk)) := P8a.app (by simpa [vals] using hown') hgrow hti (by rw [putH_same]; rfl) (by rw [hN]; omega)
                  have K9 : Keep (fun k => k < M0) w2 w9 := (K8.alloc _).grown hgrow (fun k hk hk2 => by rcases hob k hk with h | h <;> omega)
                  have hob9 : ∀ x, v'.ownBlock = some x → x < M0 ∨ w2.heap.size ≤ x := fun x hx => by
                    rcases hloc with h | h
                    · exact hob x (h.symm.trans hx)
                    · right
                      have := h.symm.trans hx
                      have h8 := K8.size
                      simp at this h8
                      omega
                  clear hown' hgrow hloc P8 P8a K8 hob y0 y1 y2 y3 y4 y5 y6 y7
                  go_wp2
                  go_roundg (L' - (q + 1))
                  case measure => have := HGq.out; omega
                  case rel => exact ⟨q + 1, td' ++ [tn], _, by omega, rfl, by go_num, P9, Ly, hatx, by simp; omega, by have := HM.out; simp; omega, K9, hob9⟩
                · have hc0 : ¬ cmpC (s + stS dk) (d + stD dk) t u < 0 := by rw [hcm]; unfold cmpI; rw [if_neg hlv]; split <;> decide
                  generalize cmpC (s + stS dk) (d + stD dk) t u = cr at *
                  clear hcm
                  have hne : ∀ {y}, Edge W H bl a dk y → y = (tn : Int) := fun e => hed.one e rfl
                  have Lx := Lab.asfar (pend := fun x => pend td' (i + 1) x) (dn := fun j => j ∈ l.take q) L3 hFa3 hF (by omega) hne
                  have Ly : Lab (Edge W H bl) c N F' (fun x j => (¬ pend td' (i + 1) x ∧ x ≠ a) ∨ (x = a ∧ j ∈ l.take (q + 1))) := by
                    refine Lx.widen fun {x k y s d} _ _ h => ?_
                    rcases h with h1 | ⟨h1, h2⟩
                    · exact Or.inl h1
                    · exact Or.inr ⟨h1, mem_take hql HDK.out h2⟩
                  go_wp2
                  go_region_held3 (fun w' => w'.cell? ⟨w.heap.size + 1 + 1 + 1, tn, none⟩ = some (.bool true) ∧ w'.cell? ⟨w.heap.size + 1 + 1, tn * 2, none⟩ = some (.int .i64 t) ∧ w'.cell? ⟨w.heap.size + 1 + 1, tn * 2 + 1, none⟩ = some (.int .i64 u) ∧ w'.cell? ⟨DB, 0, none⟩ = some (.int .i64 (s + stS dk)) ∧ w'.cell? ⟨DB, 1, none⟩ = some (.int .i64 (d + stD dk))) (first | (exact CC _ HB7)) (first | (go_at_call 52; refine (hcv _).mono ?_; rintro e W7 ⟨rfl, hb7'⟩; have HB7 := HB7.trans (hb7'.mono HB7.size)))
                  have HBa := HB67.trans (HB7.mono (by exact Nat.le_refl _))
                  have S7 := S6.below HBa
                  have K7 := K6.below HBa
                  clear S6 K6 Sl hI g0 g1 g2 g4 CC HB7 HB67 HBa hcv
                  go_wp2
                  go_roundg (L' - (q + 1))
                  case measure => have := HGq.out; omega
                  case rel => exact ⟨q + 1, td', F', by omega, rfl, by go_num, S7, Ly, hFa3, hi3, HM.out, K7, hob⟩
          · have hqL : q = L' := by omega
            subst hqL
            have Lz : Lab (Edge W H bl) c N F' (fun x _ => ¬ pend td' (i + 1) x) := by
              refine L3.widen fun {x k y s d} _ e h => ?_
              by_cases hx : x = a
              · refine Or.inr ⟨hx, ?_⟩
                rw [List.take_of_length_le (by rw [HL.out]; exact Nat.le_refl _), ← hl.eq, mem_mvs]
                obtain ⟨e1, _, e3, _⟩ := e
                rw [hx] at e3
                exact ⟨e1, e3⟩
              · exact Or.inl ⟨h, hx⟩
            go_wp2
            go_roundg ((pot F' N).toNat + (td'.length - (i + 1)))
            case measure => have := HG.out; have := HM.out; omega
            case rel => exact ⟨td', i + 1, F', by omega, rfl, by go_num, S3, Lz⟩
    · have hil : i = td.length := by omega
      subst hil
      have B : Best (Edge W H bl) c F := Lab.done hN256 (L.widen fun {x k y s d} _ _ _ => by rintro ⟨j, j1, j2, _⟩; omega)
      clear L HG hlt hlen hpot
      rcases S.own.2 with ⟨rfl, h0⟩ | ⟨gt, cap, cur, rfl, hbase, hg, _⟩
      all_goals
        have q0 := S.lab.rangeC
        have q4 := S.lab.rangeI
        have q5 := S.r0
        have q6 := S.r1
        have hB := S.bel
        have o1 := costL_one F
        have o2 := isL_one F
        have hcl := costL_len F
        have hil := isL_len F
        have hFin : ∀ w', Best (Edge W H bl) c F → Below w.heap.size w w' → RFlooded w w' (.returned (.tuple #[.agg (costL F).toArray, .agg (isL F).toArray])) W H bl c := fun w' b h => ⟨F, rfl, b, h⟩
        generalize costL F = cs at *
        generalize isL F = is' at *
        have hu54 := und54
        have hu55 := und55
        have hi54 : (Tryd.prog.info? 45).map (·.size) = some cs.length := by rw [hcl]; exact info54
        have hi55 : (Tryd.prog.info? 46).map (·.size) = some is'.length := by rw [hil]; exact info55
        have SS : wr.drew.rangeAt (w.heap.size + 1 + 1) 0 cs ∧ wr.drew.rangeAt (w.heap.size + 1 + 1 + 1) 0 is' ∧ wr.drew.there w.heap.size 0 512 ∧ wr.drew.there (w.heap.size + 1) 0 256 := ⟨q0, q4, q5, q6⟩
        have e5 : wr.drew.there w.heap.size 0 512 := q5
        have e6 : wr.drew.there (w.heap.size + 1) 0 256 := q6
        have e7 : (wr.drew.setCells w.heap.size 0 cs).there (w.heap.size + 1) 0 256 := World.there_setCells e6 _ _ _
        have SS2 : (wr.drew.setCells w.heap.size 0 cs).rangeAt (w.heap.size + 1 + 1) 0 cs ∧ (wr.drew.setCells w.heap.size 0 cs).rangeAt (w.heap.size + 1 + 1 + 1) 0 is' ∧ (wr.drew.setCells w.heap.size 0 cs).there w.heap.size 0 512 ∧ (wr.drew.setCells w.heap.size 0 cs).there (w.heap.size + 1) 0 256 :=
          ⟨World.rangeAt_setCells_apart SS.1 _ _ _ (Or.inl (by omega)), World.rangeAt_setCells_apart SS.2.1 _ _ _ (Or.inl (by omega)), World.there_setCells e5 _ _ _, e7⟩
        have SS3 : ((wr.drew.setCells w.heap.size 0 cs).setCells (w.heap.size + 1) 0 is').rangeAt (w.heap.size + 1 + 1) 0 cs ∧ ((wr.drew.setCells w.heap.size 0 cs).setCells (w.heap.size + 1) 0 is').rangeAt (w.heap.size + 1 + 1 + 1) 0 is' ∧ ((wr.drew.setCells w.heap.size 0 cs).setCells (w.heap.size + 1) 0 is').there w.heap.size 0 512 ∧ ((wr.drew.setCells w.heap.size 0 cs).setCells (w.heap.size + 1) 0 is').there (w.heap.size + 1) 0 256 :=
          ⟨World.rangeAt_setCells_apart SS2.1 _ _ _ (Or.inl (by omega)), World.rangeAt_setCells_apart SS2.2.1 _ _ _ (Or.inl (by omega)), World.there_setCells SS2.2.2.1 _ _ _, World.there_setCells SS2.2.2.2 _ _ _⟩
        have RC : ((wr.drew.setCells w.heap.size 0 cs).setCells (w.heap.size + 1) 0 is').rangeAt w.heap.size 0 cs := World.rangeAt_setCells_apart (World.rangeAt_setCells_same _ _ _ _ (by rw [hcl]; exact e5)) _ _ _ (Or.inl (by omega))
        have RI : ((wr.drew.setCells w.heap.size 0 cs).setCells (w.heap.size + 1) 0 is').rangeAt (w.heap.size + 1) 0 is' := World.rangeAt_setCells_same _ _ _ _ (by rw [hil]; exact e7)
        have RW54 := run_loadVar_mid (P := Tryd.prog) _ _ 0 45 cs _ RC und54 rfl hi54
        have RW55 := run_loadVar_mid (P := Tryd.prog) _ _ 0 46 is' _ RI und55 rfl hi55
        have hBd : Below w.heap.size w ((wr.drew.setCells w.heap.size 0 cs).setCells (w.heap.size + 1) 0 is') := below_setCells _ (by omega) _ _ (below_setCells _ (Nat.le_refl _) _ _ hB.drew)
        clear S q0 q4 q5 q6 hB
        go_wp2
        refine wp_region_held_drew (S := fun w' => w'.rangeAt (w.heap.size + 1 + 1) 0 cs ∧ w'.rangeAt (w.heap.size + 1 + 1 + 1) 0 is' ∧ w'.there w.heap.size 0 512 ∧ w'.there (w.heap.size + 1) 0 256) (by kernel_rfl) SS (fun hHeld => ?_)
        refine wpAnyH_take (i := 0) (v := .agg cs.toArray) rfl (by kernel_rfl) (by kernel_rfl) (by kernel_rfl) (fun _ _ _ h => h) (yieldsIf_load_mid (by rfl) 45 (.tmp 6) rfl (w.heap.size + 1 + 1) 0 rfl cs _ (fun _ h => h.1) und54 rfl hi54) hHeld ?_
        simp only [Act.put]
        refine wpAnyH_take (i := 1) (v := .agg is'.toArray) rfl (by kernel_rfl) (by kernel_rfl) (by kernel_rfl) (fun _ _ _ h => h) (yieldsIf_load_mid (by rfl) 46 (.tmp 7) rfl (w.heap.size + 1 + 1 + 1) 0 rfl is' _ (fun _ h => h.2.1) und55 rfl hi55) hHeld ?_
        simp only [Act.put]
        refine wpAnyH_ready (rs := [2]) (by kernel_rfl) (by simp) ?_
        refine AllReadyH.cons rfl (fun K hK => ?_) AllReadyH.nil
        rw [if_pos (by rfl)]
        refine wp_store_mid 45 (.tmp 4) (.tmp 82) rfl w.heap.size 0 cs.toArray rfl rfl (by simpa [hcl] using e5) (by simpa [hcl] using info54) (all_oneCell_toArray o1) ?_
        refine hK.out _ _ SS2 (fun hHeld2 => ?_)
        refine wpAnyH_ready (rs := [3]) (by kernel_rfl) (by simp) ?_
        refine AllReadyH.cons rfl (fun K2 hK2 => ?_) AllReadyH.nil
        rw [if_pos (by rfl)]
        refine wp_store_mid 46 (.tmp 5) (.tmp 83) rfl (w.heap.size + 1) 0 is'.toArray rfl rfl (by simpa [hil] using e7) (by simpa [hil] using info55) (all_oneCell_toArray o2) ?_
        refine hK2.out _ _ SS3 (fun hHeld3 => ?_)
        refine wpAnyH_done (by kernel_rfl) ?_ _
        clear hK hK2 K K2
        go_wp2
        exact bodyPost_ret (v := .tuple #[.agg cs.toArray, .agg is'.toArray]) (results_two Tryd.results17 rfl rfl RW54 RW55) rfl (hFin _ B hBd)
end Go.Proofs.YtfhicijgpdpfpaaDoor
/-
  A range over a map that is read as a function; no dump of a program in sight.
-/
namespace Go.Proofs.YtfhicijgpdpfpaaDoor
open Go.Maps Go.RowKit

/-- a range over a map under way: which keys are still to come, and how many -/
def RngF (P : Program) (k : TypeId) (w : World) (b r : Nat) (f : Int → Option Value) (n : Nat) (left : Int → Bool) (cnt : Nat) : Prop :=
  ∃ (D : DataW Value) (lf : Lit → Bool), w.ranges P k asIs b r n D lf cnt ∧ Maps.size D = n ∧ (∀ a : Int, Maps.has D (.int .i64 a) = (f a).isSome ∧ ∀ v, f a = some v → ∀ z, D.atKey (.int .i64 a) z = .held v) ∧ ∀ a : Int, lf (.int .i64 a) = left a

variable {P : Program} {k e t : TypeId} {w : World} {b r n cnt : Nat} {f : Int → Option Value} {left : Int → Bool}
theorem RngF.map (h : RngF P k w b r f n left cnt) : MapF P k w b f n := by
  obtain ⟨D, lf, h1, h2, h3, _⟩ := h
  exact ⟨D, h1.owns, h2, h3⟩
theorem RngF.lt (h : RngF P k w b r f n left cnt) : r < w.heap.size := by obtain ⟨D, lf, h1, _⟩ := h; exact h1.lt
theorem RngF.ne (h : RngF P k w b r f n left cnt) : r ≠ b := by obtain ⟨D, lf, h1, _⟩ := h; exact h1.ne
theorem RngF.left_eq (h : RngF P k w b r f n left cnt) : w.rangeLeft b r = cnt := by obtain ⟨D, lf, h1, _⟩ := h; exact h1.left_eq
theorem RngF.kept {w' : World} (h : RngF P k w b r f n left cnt) (hb : w'.heap[b]? = w.heap[b]?) (hr : w'.heap[r]? = w.heap[r]?) : RngF P k w' b r f n left cnt := by
  obtain ⟨D, lf, ⟨es, clock, since, seen, c0, h1, h2, h3, h4, h5, h6⟩, h7⟩ := h
  exact ⟨D, lf, ⟨es, clock, since, seen, c0, hb.trans h1, h2, h3, h4, hr.trans h5, h6⟩, h7⟩
theorem RngF.keep {F : Nat → Prop} {w' : World} (h : RngF P k w b r f n left cnt) (hk : Keep F w w') (hb : ¬ F b) (hr : ¬ F r) : RngF P k w' b r f n left cnt :=
  h.kept (hk.block b h.map.lt hb) (hk.block r h.lt hr)
section
variable {ops : Array Oper} {rest : List Oper} {o : Oper} {a : Act} {Q : Exit → Act → World → Prop}
/-- 'range m' -/
theorem wpList_rangeF (hg : o.guard = none) (m : Operand) (t : TypeId) (hop : o.op = Op.range t m) (k e : TypeId) (hk : P.underlying k = some (.int .i64)) (ht : P.underlying t = some (.map k e)) (b n : Nat) (f : Int → Option Value)
    (hm : a.eval m = .map (some b)) (h : MapF P k w b f n)
    (hK : ∀ w', RngF P k w' b w.heap.size f n (fun x => (f x).isSome) n → w.grownBy w' none → w'.heap.size = w.heap.size + 1 → wpList P ops Q rest (a.put o.dst (.pointer (some ⟨w.heap.size, 0, none⟩))) w') :
    wpList P ops Q (o :: rest) a w := by
  obtain ⟨D, h1, h2, h3⟩ := h
  refine wpList_range_own w hg m t hop k e (int_keyed hk) ht asIs b n D hm h1 fun w' r1 r2 r3 => hK w' ⟨D, _, h2 ▸ r1, h2, h3, fun a => (h3 a).1⟩ r2 r3
/-- the next one -/
theorem wpList_nextF (hg : o.guard = none) (it : Operand) (hop : o.op = Op.next it false) (k : TypeId) (hk : P.underlying k = some (.int .i64)) (b r n : Nat) (f : Int → Option Value) (left : Int → Bool) (cnt : Nat)
    (hit : a.eval it = .pointer (some ⟨r, 0, none⟩)) (h : RngF P k w b r f n left cnt)
    (hDone : cnt = 0 → (∀ x, left x = false) → wpList P ops Q rest (a.put o.dst (.tuple #[.bool false])) w)
    (hMore : ∀ (x : Int) (v : Value) (w' : World) (cnt' : Nat), (Lit.int .i64 x).wf = true → left x = true → f x = some v → RngF P k w' b r f n (fun z => left z && !decide (z = x)) cnt' → cnt' < cnt →
      w.grownBy w' (some r) → w'.heap.size = w.heap.size → (Instr.entry (.pointer (some ⟨r, 0, none⟩))).run P w' = .ok (.tuple #[.int .i64 x, v]) w' → wpList P ops Q rest (a.put o.dst (.tuple #[.bool true, .int .i64 x, v])) w') :
    wpList P ops Q (o :: rest) a w := by
  obtain ⟨D, lf, h1, h2, h3, h4⟩ := h
  refine wpList_next_ranges w hg it hop k (int_keyed hk) asIs (Value.int .i64) id (fun key kl hkey => by obtain ⟨x, rfl, _⟩ := Maps.keyOf_int_inv hk hkey; exact ⟨x, rfl⟩) (fun v y _ => ⟨v, rfl⟩) b r n D lf cnt hit h1 (fun h0 hl => hDone h0 fun x => (h4 x).symm.trans (hl _)) ?_
  intro x v kl y w' cnt' hkey hl hv hat hrg hlt hgr hsz hen
  obtain ⟨x', ex, rfl, hwx⟩ := Maps.keyOf_int_inv hk hkey
  cases ex
  have hy : y.1 = .held v := by
    simp only [asIs, Option.some.injEq, id] at hv
    rw [← hv]
  rw [hy] at hat
  have hh : Maps.has D (.int .i64 x) = true := has_true_of_atKey hat
  obtain ⟨g1, g2⟩ := h3 x
  rw [hh] at g1
  have hf : f x = some v := by
    cases hfx : f x with
    | none => rw [hfx] at g1; cases g1
    | some u =>
      have := (g2 u hfx (.held v)).symm.trans (hat (.held v))
      cases this
      rfl
  refine hMore x v w' cnt' hwx ((h4 x).symm.trans hl) hf ⟨D, _, hrg, h2, h3, fun a => ?_⟩ hlt hgr hsz hen
  show (lf (.int .i64 a) && !(Lit.int .i64 a).sameKey (.int .i64 x)) = (left a && !decide (a = x))
  rw [h4 a]
  by_cases e : a = x
  · subst e
    rw [WideAt.sameKey_self (is_key a), decide_eq_true rfl]
  · rw [sameKey_ne (lit_ne e), decide_eq_false e]
end
end Go.Proofs.YtfhicijgpdpfpaaDoor
/-
  How shortest ways turn: the mathematics of two steps one behind the other.
-/
namespace Go.Proofs.YtfhicijgpdpfpaaDoor
open Go.RowKit

/-- a corner: free, in a diagonal direction none that is free, both between are -/
def Corn (W H : Int) (bl : Nat → Bool) (x y : Int) : Prop :=
  openB W H bl x y = true ∧ ∃ k, k < 8 ∧ k % 2 = 1 ∧ openB W H bl (x + stepX k) (y + stepY k) = false ∧ openB W H bl (x + stepX k) y = true ∧ openB W H bl x (y + stepY k) = true

theorem sx0 : stepX 0 = 0 := rfl
theorem sx1 : stepX 1 = 1 := rfl
theorem sx2 : stepX 2 = 1 := rfl
theorem sx3 : stepX 3 = 1 := rfl
theorem sx4 : stepX 4 = 0 := rfl
theorem sx5 : stepX 5 = -1 := rfl
theorem sx6 : stepX 6 = -1 := rfl
theorem sx7 : stepX 7 = -1 := rfl
theorem sy0 : stepY 0 = -1 := rfl
theorem sy1 : stepY 1 = -1 := rfl
theorem sy2 : stepY 2 = 0 := rfl
theorem sy3 : stepY 3 = 1 := rfl
theorem sy4 : stepY 4 = 1 := rfl
theorem sy5 : stepY 5 = 1 := rfl
theorem sy6 : stepY 6 = 0 := rfl
theorem sy7 : stepY 7 = -1 := rfl
theorem k8 {d : Nat} (h : d < 8) : d = 0 ∨ d = 1 ∨ d = 2 ∨ d = 3 ∨ d = 4 ∨ d = 5 ∨ d = 6 ∨ d = 7 := by omega

/-- a turn by 135 degrees: one straight step leads there too -/
theorem turn3 {W H x y : Int} {bl : Nat → Bool} {d e : Nat} (hd : d < 8) (he : e = (d + 3) % 8 ∨ e = (d + 5) % 8) (h1 : mayB W H bl x y d = true) (h2 : mayB W H bl (x + stepX d) (y + stepY d) e = true) :
    ∃ k, k < 8 ∧ k % 2 = 0 ∧ mayB W H bl x y k = true ∧ stepX k = stepX d + stepX e ∧ stepY k = stepY d + stepY e := by
  unfold mayB at *
  generalize openB W H bl = O at *
  rcases he with rfl | rfl
  · refine ⟨if d % 2 = 0 then (d + 2) % 8 else (d + 1) % 8, ?_⟩
    rcases k8 hd with rfl | rfl | rfl | rfl | rfl | rfl | rfl | rfl <;> simp [sx0, sx1, sx2, sx3, sx4, sx5, sx6, sx7, sy0, sy1, sy2, sy3, sy4, sy5, sy6, sy7, Int.add_assoc] at h1 h2 ⊢ <;> simp_all
  · refine ⟨if d % 2 = 0 then (d + 6) % 8 else (d + 7) % 8, ?_⟩
    rcases k8 hd with rfl | rfl | rfl | rfl | rfl | rfl | rfl | rfl <;> simp [sx0, sx1, sx2, sx3, sx4, sx5, sx6, sx7, sy0, sy1, sy2, sy3, sy4, sy5, sy6, sy7, Int.add_assoc] at h1 h2 ⊢ <;> simp_all

/-- a turn by 90 degrees between straight steps: a diagonal one leads there too, or it is at a corner -/
theorem turn2s {W H x y : Int} {bl : Nat → Bool} {d e : Nat} (hd : d < 8) (hp : d % 2 = 0) (he : e = (d + 2) % 8 ∨ e = (d + 6) % 8) (h1 : mayB W H bl x y d = true) (h2 : mayB W H bl (x + stepX d) (y + stepY d) e = true) :
    Corn W H bl (x + stepX d) (y + stepY d) ∨ ∃ k, k < 8 ∧ k % 2 = 1 ∧ mayB W H bl x y k = true ∧ stepX k = stepX d + stepX e ∧ stepY k = stepY d + stepY e := by
  unfold mayB Corn at *
  generalize openB W H bl = O at *
  have hk : d = 0 ∨ d = 2 ∨ d = 4 ∨ d = 6 := by omega
  rcases he with rfl | rfl
  · cases ho : O (x + stepX d + stepX ((d + 3) % 8)) (y + stepY d + stepY ((d + 3) % 8)) with
    | false =>
      left
      refine ⟨?_, (d + 3) % 8, ?_⟩ <;> rcases hk with rfl | rfl | rfl | rfl <;> simp [sx0, sx1, sx2, sx3, sx4, sx5, sx6, sx7, sy0, sy1, sy2, sy3, sy4, sy5, sy6, sy7, Int.add_assoc] at h1 h2 ho ⊢ <;> simp_all
    | true =>
      right
      refine ⟨(d + 1) % 8, ?_⟩
      rcases hk with rfl | rfl | rfl | rfl <;> simp [sx0, sx1, sx2, sx3, sx4, sx5, sx6, sx7, sy0, sy1, sy2, sy3, sy4, sy5, sy6, sy7, Int.add_assoc] at h1 h2 ho ⊢ <;> simp_all
  · cases ho : O (x + stepX d + stepX ((d + 5) % 8)) (y + stepY d + stepY ((d + 5) % 8)) with
    | false =>
      left
      refine ⟨?_, (d + 5) % 8, ?_⟩ <;> rcases hk with rfl | rfl | rfl | rfl <;> simp [sx0, sx1, sx2, sx3, sx4, sx5, sx6, sx7, sy0, sy1, sy2, sy3, sy4, sy5, sy6, sy7, Int.add_assoc] at h1 h2 ho ⊢ <;> simp_all
    | true =>
      right
      refine ⟨(d + 7) % 8, ?_⟩
      rcases hk with rfl | rfl | rfl | rfl <;> simp [sx0, sx1, sx2, sx3, sx4, sx5, sx6, sx7, sy0, sy1, sy2, sy3, sy4, sy5, sy6, sy7, Int.add_assoc] at h1 h2 ho ⊢ <;> simp_all
/-- .. between diagonal ones: two straight steps lead there too -/
theorem turn2d {W H x y : Int} {bl : Nat → Bool} {d e : Nat} (hd : d < 8) (hp : d % 2 = 1) (he : e = (d + 2) % 8 ∨ e = (d + 6) % 8) (h1 : mayB W H bl x y d = true) (h2 : mayB W H bl (x + stepX d) (y + stepY d) e = true) :
    ∃ k, k < 8 ∧ k % 2 = 0 ∧ mayB W H bl x y k = true ∧ mayB W H bl (x + stepX k) (y + stepY k) k = true ∧ stepX k + stepX k = stepX d + stepX e ∧ stepY k + stepY k = stepY d + stepY e := by
  unfold mayB at *
  generalize openB W H bl = O at *
  have hk : d = 1 ∨ d = 3 ∨ d = 5 ∨ d = 7 := by omega
  rcases he with rfl | rfl
  · refine ⟨(d + 1) % 8, ?_⟩
    rcases hk with rfl | rfl | rfl | rfl <;> simp [sx0, sx1, sx2, sx3, sx4, sx5, sx6, sx7, sy0, sy1, sy2, sy3, sy4, sy5, sy6, sy7, Int.add_assoc] at h1 h2 ⊢ <;> simp_all
  · refine ⟨(d + 7) % 8, ?_⟩
    rcases hk with rfl | rfl | rfl | rfl <;> simp [sx0, sx1, sx2, sx3, sx4, sx5, sx6, sx7, sy0, sy1, sy2, sy3, sy4, sy5, sy6, sy7, Int.add_assoc] at h1 h2 ⊢ <;> simp_all
/-- a turn by 45 degrees: the steps may be swapped, or it is at a corner -/
theorem turn1 {W H x y : Int} {bl : Nat → Bool} {d e : Nat} (hd : d < 8) (he : e = (d + 1) % 8 ∨ e = (d + 7) % 8) (h1 : mayB W H bl x y d = true) (h2 : mayB W H bl (x + stepX d) (y + stepY d) e = true) :
    Corn W H bl (x + stepX d) (y + stepY d) ∨ (mayB W H bl x y e = true ∧ mayB W H bl (x + stepX e) (y + stepY e) d = true) := by
  unfold mayB Corn at *
  generalize openB W H bl = O at *
  rcases he with rfl | rfl
  · cases ho : O (x + stepX d + stepX (if d % 2 = 0 then (d + 3) % 8 else (d + 2) % 8)) (y + stepY d + stepY (if d % 2 = 0 then (d + 3) % 8 else (d + 2) % 8)) with
    | false =>
      left
      refine ⟨?_, if d % 2 = 0 then (d + 3) % 8 else (d + 2) % 8, ?_⟩ <;> rcases k8 hd with rfl | rfl | rfl | rfl | rfl | rfl | rfl | rfl <;> simp [sx0, sx1, sx2, sx3, sx4, sx5, sx6, sx7, sy0, sy1, sy2, sy3, sy4, sy5, sy6, sy7, Int.add_assoc] at h1 h2 ho ⊢ <;> simp_all
    | true =>
      right
      rcases k8 hd with rfl | rfl | rfl | rfl | rfl | rfl | rfl | rfl <;> simp [sx0, sx1, sx2, sx3, sx4, sx5, sx6, sx7, sy0, sy1, sy2, sy3, sy4, sy5, sy6, sy7, Int.add_assoc] at h1 h2 ho ⊢ <;> simp_all
  · cases ho : O (x + stepX d + stepX (if d % 2 = 0 then (d + 5) % 8 else (d + 6) % 8)) (y + stepY d + stepY (if d % 2 = 0 then (d + 5) % 8 else (d + 6) % 8)) with
    | false =>
      left
      refine ⟨?_, if d % 2 = 0 then (d + 5) % 8 else (d + 6) % 8, ?_⟩ <;> rcases k8 hd with rfl | rfl | rfl | rfl | rfl | rfl | rfl | rfl <;> simp [sx0, sx1, sx2, sx3, sx4, sx5, sx6, sx7, sy0, sy1, sy2, sy3, sy4, sy5, sy6, sy7, Int.add_assoc] at h1 h2 ho ⊢ <;> simp_all
    | true =>
      right
      rcases k8 hd with rfl | rfl | rfl | rfl | rfl | rfl | rfl | rfl <;> simp [sx0, sx1, sx2, sx3, sx4, sx5, sx6, sx7, sy0, sy1, sy2, sy3, sy4, sy5, sy6, sy7, Int.add_assoc] at h1 h2 ho ⊢ <;> simp_all
end Go.Proofs.YtfhicijgpdpfpaaDoor
/-
  Ways turn at corners: two cells that are farther than if nothing were in the way have a corner on a shortest way.
-/
namespace Go.Proofs.YtfhicijgpdpfpaaDoor

/-- a way, told by its directions -/
def Pth (W H : Int) (bl : Nat → Bool) : Int → List Nat → Int → Prop
  | p, [], q => p = q
  | p, k :: ds, q => ∃ r, Edge W H bl p k r ∧ Pth W H bl r ds q
/-- what it costs -/
def cst : List Nat → Int
  | [] => 0
  | k :: ds => val (stS k) (stD k) + cst ds
theorem cst_nonneg : ∀ ds, 0 ≤ cst ds
  | [] => Int.le_refl _
  | k :: ds => by have := cst_nonneg ds; have := (val_st k).1; show 0 ≤ val (stS k) (stD k) + cst ds; omega
theorem Pth.snoc {W H : Int} {bl : Nat → Bool} {k : Nat} {r : Int} : ∀ {ds : List Nat} {p q : Int}, Pth W H bl p ds q → Edge W H bl q k r → Pth W H bl p (ds ++ [k]) r
  | [], _, _, h, e => ⟨r, h ▸ e, rfl⟩
  | _ :: _, _, _, ⟨y, e1, h⟩, e => ⟨y, e1, h.snoc e⟩
theorem cst_snoc (k : Nat) : ∀ ds : List Nat, cst (ds ++ [k]) = cst ds + val (stS k) (stD k)
  | [] => by show val (stS k) (stD k) + 0 = 0 + val (stS k) (stD k); omega
  | j :: ds => by show val (stS j) (stD j) + cst (ds ++ [k]) = val (stS j) (stD j) + cst ds + val (stS k) (stD k); rw [cst_snoc k ds]; omega
theorem Wk.path {W H : Int} {bl : Nat → Bool} {a b s d : Int} (h : Wk (Edge W H bl) a b s d) : ∃ ds, Pth W H bl a ds b ∧ cst ds = val s d := by
  refine h.ind (R := fun b s d => ∃ ds, Pth W H bl a ds b ∧ cst ds = val s d) ⟨[], rfl, by decide⟩ (fun p s d k q _ ih e => ?_)
  obtain ⟨ds, h1, h2⟩ := ih
  exact ⟨ds ++ [k], h1.snoc e, by rw [cst_snoc, h2, val_add]⟩

variable {W H : Int} {bl : Nat → Bool} {a b : Int} {F G : Int → Option (Int × Int)}

/-- forward: a way's end costs no more than its beginning and the way -/
theorem Best.fwd (BA : Best (Edge W H bl) a F) : ∀ {ds : List Nat} {p q s d : Int}, Pth W H bl p ds q → F p = some (s, d) → ∃ s' d', F q = some (s', d') ∧ val s' d' ≤ val s d + cst ds
  | [], p, q, s, d, h, hp => ⟨s, d, by rw [← (show p = q from h)]; exact hp, by show _ ≤ val s d + 0; omega⟩
  | k :: ds, p, q, s, d, ⟨r, e, h⟩, hp => by
    obtain ⟨s1, d1, h1, h2⟩ := BA.edge hp e
    obtain ⟨s2, d2, h3, h4⟩ := BA.fwd h h1
    exact ⟨s2, d2, h3, by show _ ≤ val s d + (val (stS k) (stD k) + cst ds); omega⟩
/-- backward -/
theorem Best.bwd (w1 : 1 ≤ W) (BB : Best (Edge W H bl) b G) : ∀ {ds : List Nat} {p q t u : Int}, Pth W H bl p ds q → G q = some (t, u) → ∃ t' u', G p = some (t', u') ∧ val t' u' ≤ val t u + cst ds
  | [], p, q, t, u, h, hq => ⟨t, u, by rw [(show p = q from h)]; exact hq, by show _ ≤ val t u + 0; omega⟩
  | k :: ds, p, q, t, u, ⟨r, e, h⟩, hq => by
    obtain ⟨t1, u1, h1, h2⟩ := BB.bwd w1 h hq
    obtain ⟨k', e', g1, g2⟩ := Edge.back w1 _ _ _ e
    obtain ⟨t2, u2, h3, h4⟩ := BB.edge h1 e'
    rw [g1, g2] at h4
    exact ⟨t2, u2, h3, by show _ ≤ val t u + (val (stS k) (stD k) + cst ds); omega⟩
theorem Wk.join {E : Int → Nat → Int → Prop} {a p q s d t u : Int} (h : Wk E a p s d) (k : Wk E p q t u) : Wk E a q (s + t) (d + u) := by
  refine k.ind (R := fun q t u => Wk E a q (s + t) (d + u)) (by simpa using h) (fun x t u k y _ ih e => ?_)
  have := ih.step e
  rw [Int.add_assoc, Int.add_assoc] at this
  exact this
/-- no cell lies on a way that is shorter -/
theorem sum_ge (w1 : 1 ≤ W) (BA : Best (Edge W H bl) a F) (BB : Best (Edge W H bl) b G) {s0 d0 : Int} (h0 : F b = some (s0, d0)) {p s d t u : Int} (hp : F p = some (s, d)) (hq : G p = some (t, u)) : val s0 d0 ≤ val s d + val t u := by
  obtain ⟨s', d', h1, h2⟩ := BA.least ((BA.sound hp).join ((BB.sound hq).back (Edge.back w1)))
  rw [h0] at h1
  cases h1
  rw [val_add] at h2
  exact h2

/-- a part of a shortest way -/
def Tgt (W H : Int) (bl : Nat → Bool) (F G : Int → Option (Int × Int)) (D : Int) (p : Int) (ds : List Nat) (q : Int) : Prop :=
  Pth W H bl p ds q ∧ ∃ s d t u, F p = some (s, d) ∧ G q = some (t, u) ∧ val s d + cst ds + val t u = D
/-- a cell on a shortest way, neither its first nor its last -/
def OnW (F G : Int → Option (Int × Int)) (D : Int) (p : Int) : Prop := ∃ s d t u, F p = some (s, d) ∧ G p = some (t, u) ∧ val s d + val t u = D ∧ 0 < val s d ∧ 0 < val t u

theorem Tgt.tail (w1 : 1 ≤ W) (BA : Best (Edge W H bl) a F) (BB : Best (Edge W H bl) b G) {s0 d0 : Int} (h0 : F b = some (s0, d0)) {p q : Int} {k : Nat} {ds : List Nat} (h : Tgt W H bl F G (val s0 d0) p (k :: ds) q) :
    ∃ r, Edge W H bl p k r ∧ Tgt W H bl F G (val s0 d0) r ds q ∧ (0 < cst ds → OnW F G (val s0 d0) r) := by
  obtain ⟨⟨r, e, hp⟩, s, d, t, u, h1, h2, h3⟩ := h
  obtain ⟨s1, d1, f1, f2⟩ := BA.edge h1 e
  obtain ⟨t1, u1, g1, g2⟩ := BB.bwd w1 hp h2
  have := sum_ge w1 BA BB h0 f1 g1
  have h3' : val s d + (val (stS k) (stD k) + cst ds) + val t u = val s0 d0 := h3
  have hk := (val_st k).1
  have z1 : 0 ≤ val s d := by obtain ⟨n1, n2, _⟩ := BA.small h1; unfold val; omega
  have z2 : 0 ≤ val t u := by obtain ⟨n1, n2, _⟩ := BB.small h2; unfold val; omega
  exact ⟨r, e, ⟨hp, s1, d1, t, u, f1, h2, by omega⟩, fun hpos => ⟨s1, d1, t1, u1, f1, g1, by omega, by omega, by omega⟩⟩
theorem Tgt.least (w1 : 1 ≤ W) (BA : Best (Edge W H bl) a F) (BB : Best (Edge W H bl) b G) {s0 d0 : Int} (h0 : F b = some (s0, d0)) {p q : Int} {ds ds' : List Nat} (h : Tgt W H bl F G (val s0 d0) p ds q) (h' : Pth W H bl p ds' q) : cst ds ≤ cst ds' := by
  obtain ⟨_, s, d, t, u, h1, h2, h3⟩ := h
  obtain ⟨s1, d1, f1, f2⟩ := BA.fwd h' h1
  have := sum_ge w1 BA BB h0 f1 h2
  omega

theorem val_even {k : Nat} (h : k % 2 = 0) : val (stS k) (stD k) = 38613965 := by unfold val stS stD; rw [h]; decide
theorem val_odd {k : Nat} (h : k % 2 = 1) : val (stS k) (stD k) = 54608393 := by unfold val stS stD; rw [h]; decide

/-- where a step leads -/
theorem Edge.place (w1 : 1 ≤ W) {p r : Int} {k : Nat} (e : Edge W H bl p k r) : r % W = p % W + stepX k ∧ r / W = p / W + stepY k := by
  obtain ⟨_, _, h3, h4⟩ := e
  obtain ⟨_, o2, _, _⟩ := may_parts h3
  obtain ⟨a1, a2, a3, a4⟩ := open_in o2
  have e : p + (stepY k * W + stepX k) = (p / W + stepY k) * W + (p % W + stepX k) := by
    have := cell_eq W p
    rw [Int.add_mul]
    omega
  obtain ⟨p1, p2, p3⟩ := place_to (H := H) w1 a1 a2 a3 a4
  rw [h4, e, p2, p3]
  exact ⟨rfl, rfl⟩

/-- two steps one behind the other on a shortest way that meets no corner: at most half a right angle, and they may be swapped -/
theorem Tgt.two (w1 : 1 ≤ W) (BA : Best (Edge W H bl) a F) (BB : Best (Edge W H bl) b G) {s0 d0 : Int} (h0 : F b = some (s0, d0)) (hC : ∀ p, OnW F G (val s0 d0) p → ¬ Corn W H bl (p % W) (p / W))
    {p q : Int} {d e : Nat} {ds : List Nat} (h : Tgt W H bl F G (val s0 d0) p (d :: e :: ds) q) : e = d ∨ ((e = (d + 1) % 8 ∨ e = (d + 7) % 8) ∧ Tgt W H bl F G (val s0 d0) p (e :: d :: ds) q) := by
  obtain ⟨r, e1, hr, onr⟩ := h.tail w1 BA BB h0
  obtain ⟨z, e2, hz, _⟩ := hr.tail w1 BA BB h0
  have hnc := hC r (onr (by have := (val_st e).1; have := cst_nonneg ds; show 0 < val (stS e) (stD e) + cst ds; omega))
  obtain ⟨x1, y1⟩ := e1.place w1
  have hd := e1.1
  have he := e2.1
  have m1 := e1.2.2.1
  have m2 := e2.2.2.1
  have ip := e1.2.1
  have zr := e1.2.2.2
  have zz := e2.2.2.2
  rw [x1, y1] at hnc m2
  have vd := val_st d
  have ve := val_st e
  have hcs : cst (d :: e :: ds) = val (stS d) (stD d) + (val (stS e) (stD e) + cst ds) := rfl
  have oneStep : ∀ k, k < 8 → mayB W H bl (p % W) (p / W) k = true → stepX k = stepX d + stepX e → stepY k = stepY d + stepY e → Edge W H bl p k z := fun k hk hm hx hy => ⟨hk, ip, hm, by rw [zz, zr, hx, hy, Int.add_mul]; omega⟩
  have hcase : e = d ∨ (e = (d + 1) % 8 ∨ e = (d + 7) % 8) ∨ (e = (d + 2) % 8 ∨ e = (d + 6) % 8) ∨ (e = (d + 3) % 8 ∨ e = (d + 5) % 8) ∨ e = (d + 4) % 8 := by omega
  rcases hcase with h1 | h1 | h1 | h1 | h1
  · exact Or.inl h1
  · right
    refine ⟨h1, ?_⟩
    rcases turn1 hd h1 m1 m2 with hc | ⟨n1, n2⟩
    · exact absurd hc hnc
    · have e3 : Edge W H bl p e (p + (stepY e * W + stepX e)) := ⟨he, ip, n1, rfl⟩
      have e4 : Edge W H bl (p + (stepY e * W + stepX e)) d z := by
        obtain ⟨x3, y3⟩ := e3.place w1
        exact ⟨hd, e3.in' w1, by rw [x3, y3]; exact n2, by rw [zz, zr]; omega⟩
      obtain ⟨_, s, d', t, u, f1, f2, f3⟩ := h
      refine ⟨⟨_, e3, z, e4, hz.1⟩, s, d', t, u, f1, f2, ?_⟩
      rw [hcs] at f3
      show val s d' + (val (stS e) (stD e) + (val (stS d) (stD d) + cst ds)) + val t u = _
      omega
  · exfalso
    by_cases hp : d % 2 = 0
    · rcases turn2s hd hp h1 m1 m2 with hc | ⟨k, k1, k2, k3, k4, k5⟩
      · exact hnc hc
      · have := h.least w1 BA BB h0 (ds' := k :: ds) ⟨z, oneStep k k1 k3 k4 k5, hz.1⟩
        have c1 := val_odd k2
        have c2 := val_even hp
        have c3 : val (stS e) (stD e) = 38613965 := val_even (by omega)
        have : cst (k :: ds) = val (stS k) (stD k) + cst ds := rfl
        omega
    · have hp1 : d % 2 = 1 := by omega
      obtain ⟨k, k1, k2, k3, k4, k5, k6⟩ := turn2d hd hp1 h1 m1 m2
      have e3 : Edge W H bl p k (p + (stepY k * W + stepX k)) := ⟨k1, ip, k3, rfl⟩
      have e4 : Edge W H bl (p + (stepY k * W + stepX k)) k z := by
        obtain ⟨x3, y3⟩ := e3.place w1
        refine ⟨k1, e3.in' w1, by rw [x3, y3]; exact k4, ?_⟩
        have hW : stepY k * W + stepY k * W = stepY d * W + stepY e * W := by rw [← Int.add_mul, ← Int.add_mul, k6]
        rw [zz, zr]; omega
      have := h.least w1 BA BB h0 (ds' := k :: k :: ds) ⟨_, e3, z, e4, hz.1⟩
      have c1 := val_even k2
      have c2 := val_odd hp1
      have c3 : val (stS e) (stD e) = 54608393 := val_odd (by omega)
      have : cst (k :: k :: ds) = val (stS k) (stD k) + (val (stS k) (stD k) + cst ds) := rfl
      omega
  · exfalso
    obtain ⟨k, k1, k2, k3, k4, k5⟩ := turn3 hd h1 m1 m2
    have := h.least w1 BA BB h0 (ds' := k :: ds) ⟨z, oneStep k k1 k3 k4 k5, hz.1⟩
    have c1 := val_even k2
    have : cst (k :: ds) = val (stS k) (stD k) + cst ds := rfl
    have c2 : 38613965 ≤ val (stS d) (stD d) := by
      by_cases hp : d % 2 = 0
      · rw [val_even hp]; decide
      · rw [val_odd (by omega)]; decide
    omega
  · exfalso
    have ho : e = opp d := by unfold opp; exact h1
    obtain ⟨g1, g2⟩ := opp_step d hd
    have hzp : z = p := by rw [zz, zr, ho, g1, g2, Int.neg_mul]; omega
    have := h.least w1 BA BB h0 (ds' := ds) (by rw [← hzp]; exact hz.1)
    omega

theorem split_run (f : Nat) : ∀ l : List Nat, (∀ x ∈ l, x = f) ∨ ∃ j g rest, l = List.replicate j f ++ g :: rest ∧ g ≠ f
  | [] => Or.inl (fun _ h => by cases h)
  | x :: l => by
    by_cases e : x = f
    · rcases split_run f l with h | ⟨j, g, rest, h1, h2⟩
      · exact Or.inl (fun y hy => (List.mem_cons.1 hy).elim (fun q => by rw [q]; exact e) (fun hy => h y hy))
      · exact Or.inr ⟨j + 1, g, rest, by rw [h1, e]; rfl, h2⟩
    · exact Or.inr ⟨0, x, l, rfl, e⟩

/-- a step is carried past a run of steps beside it -/
theorem Tgt.slide (w1 : 1 ≤ W) (BA : Best (Edge W H bl) a F) (BB : Best (Edge W H bl) b G) {s0 d0 : Int} (h0 : F b = some (s0, d0)) (hC : ∀ p, OnW F G (val s0 d0) p → ¬ Corn W H bl (p % W) (p / W)) {c m : Nat} (hcm : c ≠ m) :
    ∀ (j : Nat) {p q : Int} {rest : List Nat}, Tgt W H bl F G (val s0 d0) p (c :: (List.replicate j m ++ rest)) q → ∃ p', Tgt W H bl F G (val s0 d0) p' (c :: rest) q
  | 0, p, _, _, h => ⟨p, h⟩
  | j + 1, p, q, rest, h => by
    have h' : Tgt W H bl F G (val s0 d0) p (c :: m :: (List.replicate j m ++ rest)) q := h
    rcases h'.two w1 BA BB h0 hC with e | ⟨_, h2⟩
    · exact absurd e.symm hcm
    · obtain ⟨r, _, hr, _⟩ := h2.tail w1 BA BB h0
      exact Tgt.slide w1 BA BB h0 hC hcm j hr

/-- a shortest way that meets no corner keeps to two directions beside each other -/
theorem Tgt.within (w1 : 1 ≤ W) (BA : Best (Edge W H bl) a F) (BB : Best (Edge W H bl) b G) {s0 d0 : Int} (h0 : F b = some (s0, d0)) (hC : ∀ p, OnW F G (val s0 d0) p → ¬ Corn W H bl (p % W) (p / W)) :
    ∀ {ds : List Nat} {p q : Int}, Tgt W H bl F G (val s0 d0) p ds q → ∃ k, k < 8 ∧ ∀ d ∈ ds, d = k ∨ d = (k + 1) % 8
  | [], _, _, _ => ⟨0, by decide, fun _ h => by cases h⟩
  | [d], p, q, h => by
    obtain ⟨r, e, _⟩ := h.tail w1 BA BB h0
    exact ⟨d, e.1, fun x hx => Or.inl (by simpa using hx)⟩
  | d :: f :: ds, p, q, h => by
    obtain ⟨r, e, hr, _⟩ := h.tail w1 BA BB h0
    obtain ⟨k, k1, k2⟩ := Tgt.within w1 BA BB h0 hC hr
    have hd := e.1
    have hf := k2 f (by simp)
    by_cases hdk : d = k ∨ d = (k + 1) % 8
    · exact ⟨k, k1, fun x hx => (List.mem_cons.1 hx).elim (fun q => by rw [q]; exact hdk) (fun hx => k2 x hx)⟩
    · have adj : f = d ∨ (f = (d + 1) % 8 ∨ f = (d + 7) % 8) := by
        rcases h.two w1 BA BB h0 hC with h1 | ⟨h1, _⟩
        · exact Or.inl h1
        · exact Or.inr h1
      have hfd : f ≠ d := fun q => hdk (q ▸ hf)
      rcases split_run f (f :: ds) with hall | ⟨j, g, rest, hl, hg⟩
      · rcases adj with h1 | h1 | h1
        · exact absurd h1 hfd
        · exact ⟨d, hd, fun x hx => (List.mem_cons.1 hx).elim (fun q => by rw [q]; exact Or.inl rfl) (fun hx => Or.inr ((hall x hx).trans h1))⟩
        · refine ⟨f, by omega, fun x hx => ?_⟩
          rcases List.mem_cons.1 hx with rfl | hx
          · exact Or.inr (by omega)
          · exact Or.inl (hall x hx)
      · rw [hl] at h
        obtain ⟨p', h2⟩ := Tgt.slide w1 BA BB h0 hC (fun q => hfd q.symm) j h
        have hgk := k2 g (by rw [hl]; simp)
        have adj2 : g = d ∨ (g = (d + 1) % 8 ∨ g = (d + 7) % 8) := by
          rcases h2.two w1 BA BB h0 hC with h1 | ⟨h1, _⟩
          · exact Or.inl h1
          · exact Or.inr h1
        exfalso
        omega

/-- how many steps are k, how many k + 1 -/
theorem Pth.count (w1 : 1 ≤ W) {k : Nat} : ∀ {ds : List Nat} {p q : Int}, Pth W H bl p ds q → (∀ d ∈ ds, d = k ∨ d = (k + 1) % 8) →
    ∃ m n : Nat, q % W = p % W + m * stepX k + n * stepX ((k + 1) % 8) ∧ q / W = p / W + m * stepY k + n * stepY ((k + 1) % 8) ∧ cst ds = m * val (stS k) (stD k) + n * val (stS ((k + 1) % 8)) (stD ((k + 1) % 8))
  | [], p, q, h, _ => ⟨0, 0, by rw [← (show p = q from h)]; simp, by rw [← (show p = q from h)]; simp, by show (0 : Int) = _; simp⟩
  | d :: ds, p, q, ⟨r, e, h⟩, hd => by
    obtain ⟨m, n, h1, h2, h3⟩ := Pth.count w1 h (fun x hx => hd x (List.mem_cons_of_mem _ hx))
    obtain ⟨x1, y1⟩ := e.place w1
    have hc : cst (d :: ds) = val (stS d) (stD d) + cst ds := rfl
    rcases hd d (by simp) with rfl | rfl
    · refine ⟨m + 1, n, ?_, ?_, ?_⟩
      · rw [h1, x1, Int.natCast_add, Int.add_mul]; omega
      · rw [h2, y1, Int.natCast_add, Int.add_mul]; omega
      · rw [hc, h3, Int.natCast_add, Int.add_mul]; omega
    · refine ⟨m, n + 1, ?_, ?_, ?_⟩
      · rw [h1, x1, Int.natCast_add, Int.add_mul]; omega
      · rw [h2, y1, Int.natCast_add, Int.add_mul]; omega
      · rw [hc, h3, Int.natCast_add, Int.add_mul]; omega

/-- such a way costs as if nothing were in the way -/
theorem Pth.octile (w1 : 1 ≤ W) {k : Nat} (hk : k < 8) {ds : List Nat} {p q : Int} (h : Pth W H bl p ds q) (hd : ∀ d ∈ ds, d = k ∨ d = (k + 1) % 8) :
    cst ds = val (dst (dst (p % W) (q % W)) (dst (p / W) (q / W))) (les (dst (p % W) (q % W)) (dst (p / W) (q / W))) := by
  obtain ⟨m, n, h1, h2, h3⟩ := h.count w1 hd
  rw [h3, h1, h2]
  generalize p % W = x
  generalize p / W = y
  have v0 : ∀ j : Nat, j % 2 = 0 → val (stS j) (stD j) = 38613965 := fun j hj => val_even hj
  have v1 : ∀ j : Nat, j % 2 = 1 → val (stS j) (stD j) = 54608393 := fun j hj => val_odd hj
  rcases k8 hk with rfl | rfl | rfl | rfl | rfl | rfl | rfl | rfl <;> simp [sx0, sx1, sx2, sx3, sx4, sx5, sx6, sx7, sy0, sy1, sy2, sy3, sy4, sy5, sy6, sy7, v0, v1] <;> unfold val dst les <;> (repeat' split) <;> omega

/-- WAYS TURN AT CORNERS: there is one between the two, neither of them -/
theorem corner_on (w1 : 1 ≤ W) (BA : Best (Edge W H bl) a F) (BB : Best (Edge W H bl) b G) {s0 d0 : Int} (h0 : F b = some (s0, d0))
    (hn : val s0 d0 ≠ val (dst (dst (a % W) (b % W)) (dst (a / W) (b / W))) (les (dst (a % W) (b % W)) (dst (a / W) (b / W)))) :
    ∃ p s d t u, F p = some (s, d) ∧ G p = some (t, u) ∧ s + t = s0 ∧ d + u = d0 ∧ 0 < val s d ∧ 0 < val t u ∧ Corn W H bl (p % W) (p / W) := by
  apply Classical.byContradiction
  intro hno
  have hC : ∀ p, OnW F G (val s0 d0) p → ¬ Corn W H bl (p % W) (p / W) := by
    rintro p ⟨s, d, t, u, h1, h2, h3, h4, h5⟩ hc
    obtain ⟨a1, a2, a3⟩ := BA.small h1
    obtain ⟨b1, b2, b3⟩ := BB.small h2
    obtain ⟨c1, c2, c3⟩ := BA.small h0
    have sa := val_small a1 a2 a3
    have sb := val_small b1 b2 b3
    have sc := val_small c1 c2 c3
    rw [← val_add] at h3
    obtain ⟨q1, q2⟩ := val_inj (s + t) (d + u) s0 d0 (by omega) (by omega) h3
    exact hno ⟨p, s, d, t, u, h1, h2, q1, q2, h4, h5, hc⟩
  obtain ⟨ds, hp, hc⟩ := (BA.sound h0).path
  have hT : Tgt W H bl F G (val s0 d0) a ds b := ⟨hp, 0, 0, 0, 0, BA.home, BB.home, by rw [hc]; have : val 0 0 = 0 := (by decide); omega⟩
  obtain ⟨k, k1, k2⟩ := hT.within w1 BA BB h0 hC
  exact hn (by rw [← hc]; exact hp.octile w1 k1 k2)
end Go.Proofs.YtfhicijgpdpfpaaDoor
