/-
  Texts laid together: LvPrc, Lv9, SdA.
-/
import Derived.Test.YtmnpplkjhnoglaaGreatDoorP32
import Derived.Deep.RegionHeld3
import Derived.BigQuiet
/-
  A way over edges of the graph, and what it costs: the statement's 'priced'.
-/
namespace Go.Proofs.YtmnpplkjhnoglaaGreatDoor
open Go.RowKit Go.Maps Go.Lib

theorem Prc.next {es : Nat → List LE} {way : List Nat} {k x y : Nat} {s d : Int} (h : Prc es (way.drop k) s d) (hx : way[k]? = some x) (hy : way[k + 1]? = some y) : ∃ e ∈ es x, e.to = y ∧ Prc es (way.drop (k + 1)) (s - e.s) (d - e.d) := by
  obtain ⟨h1, e1⟩ := List.getElem?_eq_some_iff.1 hx
  obtain ⟨h2, e2⟩ := List.getElem?_eq_some_iff.1 hy
  rw [List.drop_eq_getElem_cons h1, List.drop_eq_getElem_cons h2, e1, e2] at h
  obtain ⟨e, k1, k2, k3⟩ := h
  refine ⟨e, k1, k2, ?_⟩
  rw [List.drop_eq_getElem_cons h2, e2]
  exact k3
theorem Prc.last {es : Nat → List LE} {way : List Nat} {k : Nat} {s d : Int} (h : Prc es (way.drop k) s d) (hk : k + 1 = way.length) : s = 0 ∧ d = 0 := by
  rw [List.drop_eq_getElem_cons (show k < way.length by omega), List.drop_eq_nil_of_le (show way.length ≤ k + 1 by omega)] at h
  exact h
theorem Rsg.at {l : List LE} (h : Rsg l) {i j : Nat} {e f : LE} (he : l[i]? = some e) (hf : l[j]? = some f) (ht : e.to = f.to) : i = j := by
  obtain ⟨h1, e1⟩ := List.getElem?_eq_some_iff.1 he
  obtain ⟨h2, e2⟩ := List.getElem?_eq_some_iff.1 hf
  have hp := List.pairwise_iff_getElem.1 h
  by_cases hij : i = j
  · exact hij
  · rcases Nat.lt_or_gt_of_ne hij with h3 | h3
    · have := hp i j h1 h2 h3; rw [e1, e2] at this; omega
    · have := hp j i h2 h1 h3; rw [e1, e2] at this; omega
theorem RowN.cell {w : World} {a o : Nat} {l : List Nat} (h : RowN w a o l) {j x : Nat} (hj : l[j]? = some x) : w.cell? ⟨a, o + j, none⟩ = some (.int .i64 (x : Int)) := by
  have := h j (.int .i64 (x : Int)) (by unfold vals; rw [List.getElem?_map, hj]; rfl)
  rw [Addr.add_lit] at this
  exact this
theorem RowN.cell0 {w : World} {a : Nat} {l : List Nat} (h : RowN w a 0 l) {j x : Nat} (hj : l[j]? = some x) : w.cell? ⟨a, j, none⟩ = some (.int .i64 (x : Int)) := by
  have := h.cell hj
  rwa [Nat.zero_add] at this

end Go.Proofs.YtmnpplkjhnoglaaGreatDoor
/-
  Closed facts of nine cells, the middle one blocked; what 'TopLevels' asks of levels.
-/
namespace Go.Proofs.YtmnpplkjhnoglaaGreatDoor
open Go.RowKit

/-- the middle of nine cells is blocked -/
def mid9 : Nat → Bool := upd (fun _ => false) 4 true
theorem corn9 : crs 3 3 mid9 (3 * 3 : Int).toNat = [0, 2, 6, 8] := by decide
end Go.Proofs.YtmnpplkjhnoglaaGreatDoor
/-
  A side of a search as it lies in memory; what a corner costs is lowered: package search's 'lower'.
-/
namespace Go.Proofs.YtmnpplkjhnoglaaGreatDoor
open Go.RowKit

/-- what a map of corners ahead holds -/
def av (A : Int → Option Int) : Int → Option Value := fun a => (A a).map fun n => .int .i64 n
theorem av_some {A : Int → Option Int} {a n : Int} (h : A a = some n) : av A a = some (.int .i64 n) := by unfold av; rw [h]; rfl
theorem av_none {A : Int → Option Int} {a : Int} (h : A a = none) : av A a = none := by unfold av; rw [h]; rfl
theorem av_put (A : Int → Option Int) (a n : Int) : putF (av A) a (.int .i64 n) = av (putA A a n) := by
  funext i
  unfold putF av putA
  by_cases e : i = a
  · rw [if_pos e, if_pos e]; rfl
  · rw [if_neg e, if_neg e]
/-- the blocks of a side: itself, its costs, those ahead, its heap and that one's map -/
structure SBk where
  sb : Nat
  cb : Nat
  ab : Nat
  hb : Nat
  mb : Nat
/-- a side in memory; all its blocks from N on -/
structure SideAt (w : World) (N : Nat) (k : SBk) (lb r : Nat) (gv v : Value) (nh na : Nat) (x : SS) : Prop where
  c0 : w.cell? ⟨k.sb, 0, none⟩ = some (.pointer (some ⟨lb, 0, none⟩))
  c1 : w.cell? ⟨k.sb, 1, none⟩ = some (.int .i64 (r : Int))
  c2 : w.cell? ⟨k.sb, 2, none⟩ = some gv
  c3 : w.cell? ⟨k.sb, 3, none⟩ = some (.map (some k.cb))
  c4 : w.cell? ⟨k.sb, 4, none⟩ = some (.map (some k.ab))
  c5 : w.cell? ⟨k.sb, 5, none⟩ = some (.pointer (some ⟨k.hb, 0, none⟩))
  fm : MapF Tryz.prog 3 w k.cb (fv x.F) (cnt x.F 256)
  am : MapF Tryz.prog 3 w k.ab (av x.A) na
  hp : HeapAt w k.hb k.mb v nh x.H
  nb : N ≤ k.sb ∧ N ≤ k.cb ∧ N ≤ k.ab ∧ N ≤ k.hb ∧ N ≤ k.mb
  n1 : k.sb ≠ k.cb ∧ k.sb ≠ k.ab ∧ k.sb ≠ k.hb ∧ k.sb ≠ k.mb
  n2 : k.cb ≠ k.ab ∧ k.cb ≠ k.hb ∧ k.cb ≠ k.mb
  n3 : k.ab ≠ k.hb ∧ k.ab ≠ k.mb
  vo : ∀ g, v.ownBlock = some g → N ≤ g ∧ g ≠ k.sb ∧ g ≠ k.cb ∧ g ≠ k.ab
/-- the blocks that a side's functions write -/
def sb5 (k : SBk) (v : Value) (g : Nat) : Prop := g = k.cb ∨ g = k.ab ∨ hb3 k.hb k.mb v g
section
variable {w w' : World} {N : Nat} {k : SBk} {lb r : Nat} {gv v v' : Value} {nh nh' na : Nat} {x : SS}
theorem SideAt.keep {F : Nat → Prop} (S : SideAt w N k lb r gv v nh na x) (K : Keep F w w') (h0 : ¬ F k.sb) (h1 : ∀ g, sb5 k v g → ¬ F g) : SideAt w' N k lb r gv v nh na x :=
  ⟨K.cellOf S.c0 h0, K.cellOf S.c1 h0, K.cellOf S.c2 h0, K.cellOf S.c3 h0, K.cellOf S.c4 h0, K.cellOf S.c5 h0, S.fm.keep K (h1 _ (Or.inl rfl)), S.am.keep K (h1 _ (Or.inr (Or.inl rfl))), S.hp.keep K (h1 _ (Or.inr (Or.inr (Or.inl rfl)))) (h1 _ (Or.inr (Or.inr (Or.inr (Or.inl rfl))))) (fun g hg => h1 g (Or.inr (Or.inr (Or.inr (Or.inr hg))))), S.nb, S.n1, S.n2, S.n3, S.vo⟩
theorem SideAt.below (S : SideAt w N k lb r gv v nh na x) (hb : Below w.heap.size w w') : SideAt w' N k lb r gv v nh na x := S.keep (F := fun _ => False) (Keep.of_below hb) id (fun _ _ => id)
theorem SideAt.from (S : SideAt w N k lb r gv v nh na x) : ∀ g, sb5 k v g → N ≤ g ∧ g ≠ k.sb := by
  obtain ⟨a1, a2, a3, a4, a5⟩ := S.nb
  obtain ⟨b1, b2, b3, b4⟩ := S.n1
  rintro g (rfl | rfl | rfl | rfl | h)
  · exact ⟨a2, fun e => b1 e.symm⟩
  · exact ⟨a3, fun e => b2 e.symm⟩
  · exact ⟨a4, fun e => b3 e.symm⟩
  · exact ⟨a5, fun e => b4 e.symm⟩
  · exact ⟨(S.vo g h).1, (S.vo g h).2.1⟩
theorem SideAt.to_below (S : SideAt w N k lb r gv v nh na x) (K : Keep (sb5 k v) w w') : Below N w w' := K.to_below (by have := S.nb.1; have : k.sb < w.heap.size := World.block_lt_of_cell? _ _ S.c0; omega) (fun g hg => (S.from g hg).1)
/-- costs were written -/
theorem SideAt.cost (S : SideAt w N k lb r gv v nh na x) {F' : Int → Option (Int × Int)} (K : Keep (fun g => g = k.cb) w w') (fm : MapF Tryz.prog 3 w' k.cb (fv F') (cnt F' 256)) : SideAt w' N k lb r gv v nh na ⟨F', x.A, x.H⟩ := by
  obtain ⟨b1, b2, b3, b4⟩ := S.n1
  obtain ⟨d1, d2, d3⟩ := S.n2
  exact ⟨K.cellOf S.c0 b1, K.cellOf S.c1 b1, K.cellOf S.c2 b1, K.cellOf S.c3 b1, K.cellOf S.c4 b1, K.cellOf S.c5 b1, fm, S.am.keep K (fun e => d1 e.symm), S.hp.keep K (fun e => d2 e.symm) (fun e => d3 e.symm) (fun g hg => (S.vo g hg).2.2.1), S.nb, S.n1, S.n2, S.n3, S.vo⟩
/-- those ahead were written -/
theorem SideAt.ahead (S : SideAt w N k lb r gv v nh na x) {A' : Int → Option Int} {na' : Nat} (K : Keep (fun g => g = k.ab) w w') (am : MapF Tryz.prog 3 w' k.ab (av A') na') : SideAt w' N k lb r gv v nh na' ⟨x.F, A', x.H⟩ := by
  obtain ⟨b1, b2, b3, b4⟩ := S.n1
  obtain ⟨d1, d2, d3⟩ := S.n2
  obtain ⟨e1, e2⟩ := S.n3
  exact ⟨K.cellOf S.c0 b2, K.cellOf S.c1 b2, K.cellOf S.c2 b2, K.cellOf S.c3 b2, K.cellOf S.c4 b2, K.cellOf S.c5 b2, S.fm.keep K d1, am, S.hp.keep K (fun e => e1 e.symm) (fun e => e2 e.symm) (fun g hg => (S.vo g hg).2.2.2), S.nb, S.n1, S.n2, S.n3, S.vo⟩
/-- the heap was written -/
theorem SideAt.heap (S : SideAt w N k lb r gv v nh na x) {H' : Int → Option (Int × Int)} (K : Keep (hb3 k.hb k.mb v) w w') (hp : HeapAt w' k.hb k.mb v' nh' H') (ho : ∀ g, v'.ownBlock = some g → v.ownBlock = some g ∨ w.heap.size ≤ g) (hN : N ≤ w.heap.size) : SideAt w' N k lb r gv v' nh' na ⟨x.F, x.A, H'⟩ := by
  obtain ⟨b1, b2, b3, b4⟩ := S.n1
  obtain ⟨d1, d2, d3⟩ := S.n2
  obtain ⟨e1, e2⟩ := S.n3
  have ls : k.sb < w.heap.size := World.block_lt_of_cell? _ _ S.c0
  have lc := S.fm.lt
  have la := S.am.lt
  have hs : ¬ hb3 k.hb k.mb v k.sb := by
    rintro (h | h | h)
    · exact b3 h
    · exact b4 h
    · exact (S.vo _ h).2.1 rfl
  have hc : ¬ hb3 k.hb k.mb v k.cb := by
    rintro (h | h | h)
    · exact d2 h
    · exact d3 h
    · exact (S.vo _ h).2.2.1 rfl
  have ha : ¬ hb3 k.hb k.mb v k.ab := by
    rintro (h | h | h)
    · exact e1 h
    · exact e2 h
    · exact (S.vo _ h).2.2.2 rfl
  refine ⟨K.cellOf S.c0 hs, K.cellOf S.c1 hs, K.cellOf S.c2 hs, K.cellOf S.c3 hs, K.cellOf S.c4 hs, K.cellOf S.c5 hs, S.fm.keep K hc, S.am.keep K ha, hp, S.nb, S.n1, S.n2, S.n3, fun g hg => ?_⟩
  rcases ho g hg with h | h
  · exact S.vo g h
  · exact ⟨by omega, by omega, by omega, by omega⟩
end
/-- what a guess answers, whatever else has been written from N on -/
def GsOk (w0 : World) (N gf : Nat) (cs : List Value) (g : Int → Int × Int) : Prop := (∀ (args : Array Value) (w : World), (callFunc gf args).run Tryz.prog w = .ok (.enter gf args) w) ∧ ∀ (w : World) (n : Nat), Below N w0 w → n < 256 → Calls Tryz.prog gf (.int .i64 (n : Int) :: cs).toArray w fun e w' => e = .returned (.agg #[.int .i64 (g n).1, .int .i64 (g n).2]) ∧ Below w.heap.size w w'

set_option maxHeartbeats 2000000 in
set_option maxRecDepth 1000000 in
theorem lower_any {N Ng gf : Nat} {k : SBk} {lb r nh na n : Nat} {v : Value} {cs : List Value} {g : Int → Int × Int} {x : SS} {s d : Int} (w0 w : World) (S : SideAt w N k lb r (.func (.func gf) #[] cs.toArray) v nh na x) (hg : GsOk w0 Ng gf cs g) (hNN : Ng ≤ N) (hB : Below Ng w0 w) (hn : n < 256) (hc : okC s d) (hF : ∀ {p q}, x.F (n : Int) = some (p, q) → okC p q) (hgn : okC (g n).1 (g n).2) (hk : okC (s + (g n).1) (d + (g n).2)) (hnh : nh < 1000000) :
    Calls Tryz.prog 103 #[.pointer (some ⟨k.sb, 0, none⟩), .int .i64 (n : Int), .agg #[.int .i64 s, .int .i64 d]] w fun e w' => e = .returned (.bool (pushB x.F (n : Int) s d)) ∧ ∃ v' nh', SideAt w' N k lb r (.func (.func gf) #[] cs.toArray) v' nh' na (lowS g x (n : Int) s d) ∧ nh' ≤ nh + 1 ∧ Keep (sb5 k v) w w' ∧ ∀ g, v'.ownBlock = some g → v.ownBlock = some g ∨ w.heap.size ≤ g := by
  have hwn := wf_small (a := (n : Int)) (by omega) (by omega)
  have b0 : Below w.heap.size w (w.alloc (.cells #[.int .i64 s, .int .i64 d] 65)) := (Below.refl _ _).alloc (Nat.le_refl _) _
  have S0 := S.below b0
  have sl0 := Slot.new w s d
  have q3 := S0.c3
  have l0 := sl0.c0
  have l1 := sl0.c1
  have hcn := cnt_le x.F 256
  have hNw : N ≤ w.heap.size := by have := S.nb.1; have : k.sb < w.heap.size := World.block_lt_of_cell? _ _ S.c0; omega
  obtain ⟨gs, gd, hgq⟩ : ∃ gs gd, g (n : Int) = (gs, gd) := ⟨_, _, rfl⟩
  have hlow : pushB x.F (n : Int) s d = true → lowS g x (n : Int) s d = ⟨putH x.F (n : Int) s d, x.A, pushH x.H (n : Int) (s + gs) (d + gd)⟩ := fun h => by
    unfold lowS; rw [if_pos h, hgq]
  rw [hgq] at hgn hk
  have hnsb : ¬ hb3 k.hb k.mb v k.sb := fun h => (S.from _ (Or.inr (Or.inr h))).2 rfl
  have hnw : ¬ hb3 k.hb k.mb v w.heap.size := fun h => absurd (hb3_lt S.hp h) (Nat.lt_irrefl _)
  cases hx : x.F (n : Int) with
  | none =>
    have hl : (Instr.lookup 125 (.map (some k.cb)) (.int .i64 (n : Int)) true).run Tryz.prog (w.alloc (.cells #[.int .i64 s, .int .i64 d] 65)) = .ok (.tuple #[.agg #[.int .i64 0, .int .i64 0], .bool false]) (w.alloc (.cells #[.int .i64 s, .int .i64 d] 65)) := S0.fm.look_none law3 Tryz.underK (zeroK _) hwn (fv_none hx) true
    have e1 : pushB x.F (n : Int) s d = true := pushB_iff.2 (fun p q h => by rw [hx] at h; cases h)
    rw [hlow e1, e1]
    have hcq : ∀ {ww : World} {f : Int → Option Value}, MapF Tryz.prog 3 ww k.cb f (if (fv x.F (n : Int)).isSome then cnt x.F 256 else cnt x.F 256 + 1) → MapF Tryz.prog 3 ww k.cb f (cnt (putH x.F (n : Int) s d) 256) := fun h => by
      rw [fv_none hx] at h
      rw [cnt_put x.F (n : Int) s d 256 (by omega) (by omega) hx]; exact h
    have bA := b0.alloc b0.size (.cells #[.int .i64 0, .int .i64 0] 65)
    have slA : Slot ((w.alloc (.cells #[.int .i64 s, .int .i64 d] 65)).alloc (.cells #[.int .i64 0, .int .i64 0] 65)) w.heap.size s d := sl0.below ((Below.refl _ _).alloc (Nat.le_refl _) _)
    clear hlow e1 hF
    go_enter Tryz.func103, Tryz.ntmps103
    go_wp2_with fail
    clear hl S0 q3 l0 l1
    generalize (w.alloc (.cells #[.int .i64 s, .int .i64 d] 65)).alloc (.cells #[.int .i64 0, .int .i64 0] 65) = wA at *
    have S1 := (S.below bA).below (w' := wA.drew) ((Below.refl _ _).drew)
    have sl1 : Slot wA.drew w.heap.size s d := slA.below ((Below.refl _ _).drew)
    obtain ⟨w2, hrun2, hm2, ht2⟩ := S1.fm.store law3 Tryz.underK (by unfold maxLen; omega) hwn (.agg #[.int .i64 s, .int .i64 d])
    have BN1 : Below N w wA.drew := (bA.mono hNw).drew
    have q3 := S1.c3
    have l0 := sl1.c0
    have l1 := sl1.c1
    go_region
    go_wp2_with fail
    have K2 := turned_keep ht2
    have S2 := S1.cost (F' := putH x.F (n : Int) s d) K2 (by rw [← fv_put]; exact hcq hm2)
    have B2 : Below N w w2 := BN1.trans (K2.to_below (Nat.le_trans hNw BN1.size) (fun g hg => by rw [hg]; exact S.nb.2.1))
    have sl2 := sl1.keep K2 (by have := S.fm.lt; omega)
    have K03 : Keep (sb5 k v) w w2.drew := ((((Keep.of_below bA).drew : Keep (sb5 k v) w wA.drew).trans K2 (fun _ _ h => Or.inl h))).drew
    have S3 := S2.below (w' := w2.drew) ((Below.refl _ _).drew)
    have B3 : Below N w w2.drew := B2.drew
    have sl3 : Slot w2.drew w.heap.size s d := sl2.below ((Below.refl _ _).drew)
    have t0 := S3.c2
    have t1 := S3.c5
    have t2 := sl3.c0
    have t3 := sl3.c1
    have hgs := hg.2 w2.drew n (hB.trans (B3.mono hNN)) hn
    rw [hgq] at hgs
    have hcf := hg.1 (.int .i64 (n : Int) :: cs).toArray w2.drew
    have hadd : Hid (∀ w10, _) := fun w10 => add_any s d gs gd w10 hc hgn
    have hpush : Hid (∀ w11, HeapAt w11 k.hb k.mb v nh x.H → _) := fun w11 h => push_all (n : Int) (s + gs) (d + gd) w11 h hk hwn hnh
    have HS3 : Hid _ := S3
    have hNz : N ≤ w2.drew.heap.size := Nat.le_trans hNw B3.size
    clear S3 S2 S1 S sl3 sl2 sl1 sl0 slA K2 ht2 hm2 hrun2 BN1 B2 bA b0 hcq q3 l0 l1
    go_region_held3 (fun w' => w'.cell? ⟨k.sb, 2, none⟩ = some (.func (.func gf) #[] cs.toArray) ∧ w'.cell? ⟨k.sb, 5, none⟩ = some (.pointer (some ⟨k.hb, 0, none⟩)) ∧ w'.cell? ⟨w.heap.size, 0, none⟩ = some (.int .i64 s) ∧ w'.cell? ⟨w.heap.size, 1, none⟩ = some (.int .i64 d)) (first | exact ⟨t0, t1, t2, t3⟩ | exact ⟨u0, u1, u2, u3⟩ | exact ⟨x0, x1, x2, x3⟩ | exact ⟨z0, z1, z2, z3⟩)
      (first
        | (go_at_call 106; refine (hadd.out w10).mono ?_; rintro r w11 ⟨rfl, hb11⟩; have x0 := (hb11.cell (World.block_lt_of_cell? _ _ u0)).trans u0; have x1 := (hb11.cell (World.block_lt_of_cell? _ _ u1)).trans u1; have x2 := (hb11.cell (World.block_lt_of_cell? _ _ u2)).trans u2; have x3 := (hb11.cell (World.block_lt_of_cell? _ _ u3)).trans u3; have b11 := hb10.trans (hb11.mono hb10.size))
        | (go_at_call 129; refine (hpush.out w11 (HS3.out.hp.below b11)).mono ?_; rintro r w12 ⟨rfl, HT12, K12⟩; have z0 := K12.cellOf x0 hnsb; have z1 := K12.cellOf x1 hnsb; have z2 := K12.cellOf x2 hnw; have z3 := K12.cellOf x3 hnw)
        | (refine hgs.mono ?_; rintro r w10 ⟨rfl, hb10⟩; have u0 := (hb10.cell (World.block_lt_of_cell? _ _ t0)).trans t0; have u1 := (hb10.cell (World.block_lt_of_cell? _ _ t1)).trans t1; have u2 := (hb10.cell (World.block_lt_of_cell? _ _ t2)).trans t2; have u3 := (hb10.cell (World.block_lt_of_cell? _ _ t3)).trans t3))
    obtain ⟨v12, n12, hp12, hle12, ho12⟩ := HT12
    have S12 := (HS3.out.below b11).heap K12 hp12 ho12 (Nat.le_trans hNz b11.size)
    have K04 := K03.below b11
    have K05 := K04.trans K12 (fun _ _ h => Or.inr (Or.inr h))
    have HO : Hid (∀ g, v12.ownBlock = some g → v.ownBlock = some g ∨ w.heap.size ≤ g) := fun g hg => by
      rcases ho12 g hg with h | h
      · exact Or.inl h
      · exact Or.inr (Nat.le_trans K04.size h)
    clear t0 t1 t2 t3 u0 u1 u2 u3 x0 x1 x2 x3 z0 z1 z2 z3 K12 hp12 ho12 HS3 hgs hcf hadd hpush hb10 hb11 b11 B3 K03 K04
    go_wp2
    go_ret
    exact ⟨rfl, v12, n12, S12, hle12, K05, HO.out⟩
  | some c =>
    obtain ⟨p, q⟩ := c
    have hl : (Instr.lookup 125 (.map (some k.cb)) (.int .i64 (n : Int)) true).run Tryz.prog (w.alloc (.cells #[.int .i64 s, .int .i64 d] 65)) = .ok (.tuple #[.agg #[.int .i64 p, .int .i64 q], .bool true]) (w.alloc (.cells #[.int .i64 s, .int .i64 d] 65)) := S0.fm.look_some law3 Tryz.underK (zeroK _) hwn (fv_some hx) true
    have okp := hF hx
    have b1 := b0.alloc b0.size (.cells #[.int .i64 p, .int .i64 q] 65)
    have sl2 : Slot ((w.alloc (.cells #[.int .i64 s, .int .i64 d] 65)).alloc (.cells #[.int .i64 p, .int .i64 q] 65)) w.heap.size s d := sl0.below ((Below.refl _ _).alloc (Nat.le_refl _) _)
    have sl3 : Slot ((w.alloc (.cells #[.int .i64 s, .int .i64 d] 65)).alloc (.cells #[.int .i64 p, .int .i64 q] 65)) (w.heap.size + 1) p q := by
      have h := Slot.new (w.alloc (.cells #[.int .i64 s, .int .i64 d] 65)) p q
      have e : (w.alloc (.cells #[.int .i64 s, .int .i64 d] 65)).heap.size = w.heap.size + 1 := by simp
      rw [e] at h; exact h
    have m0 := sl2.c0
    have m1 := sl2.c1
    have m2 := sl3.c0
    have m3 := sl3.c1
    have hlt := less_v (r := pushB x.F (n : Int) s d) (s := s) (d := d) (t := p) (u := q) (by
      unfold pushB
      rw [hx]
      show ltB s d p q = decide (val s d < val p q)
      cases hb : ltB s d p q with
      | true => exact (decide_eq_true ((ltB_val hc okp).1 hb)).symm
      | false => exact (decide_eq_false (fun h => by rw [(ltB_val hc okp).2 h] at hb; cases hb)).symm) ((w.alloc (.cells #[.int .i64 s, .int .i64 d] 65)).alloc (.cells #[.int .i64 p, .int .i64 q] 65)) hc okp
    cases e1 : pushB x.F (n : Int) s d with
    | false =>
      have hlx : lowS g x (n : Int) s d = x := by unfold lowS; rw [e1]; rfl
      rw [hlx]
      rw [e1] at hlt
      clear hlow hx hF hlx
      go_enter Tryz.func103, Tryz.ntmps103
      go_wp2_with fail
      refine hlt.mono ?_
      rintro e w3 ⟨rfl, hb3'⟩
      have b3 := b1.trans (hb3'.mono b1.size)
      have S3 := S.below b3
      clear hlt hl S0 q3 l0 l1 m0 m1 m2 m3 sl2 sl3 hb3' b1
      go_wp2
      go_ret
      exact ⟨rfl, v, nh, S3, by omega, Keep.of_below b3, fun _ h => Or.inl h⟩
    | true =>
    rw [hlow e1]
    rw [e1] at hlt
    have hcq : ∀ {ww : World} {f : Int → Option Value}, MapF Tryz.prog 3 ww k.cb f (if (fv x.F (n : Int)).isSome then cnt x.F 256 else cnt x.F 256 + 1) → MapF Tryz.prog 3 ww k.cb f (cnt (putH x.F (n : Int) s d) 256) := fun h => by
      rw [fv_some hx] at h
      rw [cntG_again x.F (n : Int) s d 256 (by rw [hx]; rfl)]; exact h
    clear hlow hx hF e1
    go_enter Tryz.func103, Tryz.ntmps103
    go_wp2_with fail
    refine hlt.mono ?_
    rintro e wA ⟨rfl, hbA⟩
    have bA := b1.trans (hbA.mono b1.size)
    have slA := sl2.below hbA
    clear hlt hl S0 q3 l0 l1 m0 m1 m2 m3 sl2 sl3 hbA b1
    go_wp2_with fail
    have S1 := (S.below bA).below (w' := wA.drew) ((Below.refl _ _).drew)
    have sl1 : Slot wA.drew w.heap.size s d := slA.below ((Below.refl _ _).drew)
    obtain ⟨w2, hrun2, hm2, ht2⟩ := S1.fm.store law3 Tryz.underK (by unfold maxLen; omega) hwn (.agg #[.int .i64 s, .int .i64 d])
    have BN1 : Below N w wA.drew := (bA.mono hNw).drew
    have q3 := S1.c3
    have l0 := sl1.c0
    have l1 := sl1.c1
    go_region
    go_wp2_with fail
    have K2 := turned_keep ht2
    have S2 := S1.cost (F' := putH x.F (n : Int) s d) K2 (by rw [← fv_put]; exact hcq hm2)
    have B2 : Below N w w2 := BN1.trans (K2.to_below (Nat.le_trans hNw BN1.size) (fun g hg => by rw [hg]; exact S.nb.2.1))
    have sl2 := sl1.keep K2 (by have := S.fm.lt; omega)
    have K03 : Keep (sb5 k v) w w2.drew := ((((Keep.of_below bA).drew : Keep (sb5 k v) w wA.drew).trans K2 (fun _ _ h => Or.inl h))).drew
    have S3 := S2.below (w' := w2.drew) ((Below.refl _ _).drew)
    have B3 : Below N w w2.drew := B2.drew
    have sl3 : Slot w2.drew w.heap.size s d := sl2.below ((Below.refl _ _).drew)
    have t0 := S3.c2
    have t1 := S3.c5
    have t2 := sl3.c0
    have t3 := sl3.c1
    have hgs := hg.2 w2.drew n (hB.trans (B3.mono hNN)) hn
    rw [hgq] at hgs
    have hcf := hg.1 (.int .i64 (n : Int) :: cs).toArray w2.drew
    have hadd : Hid (∀ w10, _) := fun w10 => add_any s d gs gd w10 hc hgn
    have hpush : Hid (∀ w11, HeapAt w11 k.hb k.mb v nh x.H → _) := fun w11 h => push_all (n : Int) (s + gs) (d + gd) w11 h hk hwn hnh
    have HS3 : Hid _ := S3
    have hNz : N ≤ w2.drew.heap.size := Nat.le_trans hNw B3.size
    clear S3 S2 S1 S sl3 sl2 sl1 sl0 slA K2 ht2 hm2 hrun2 BN1 B2 bA b0 hcq q3 l0 l1
    go_region_held3 (fun w' => w'.cell? ⟨k.sb, 2, none⟩ = some (.func (.func gf) #[] cs.toArray) ∧ w'.cell? ⟨k.sb, 5, none⟩ = some (.pointer (some ⟨k.hb, 0, none⟩)) ∧ w'.cell? ⟨w.heap.size, 0, none⟩ = some (.int .i64 s) ∧ w'.cell? ⟨w.heap.size, 1, none⟩ = some (.int .i64 d)) (first | exact ⟨t0, t1, t2, t3⟩ | exact ⟨u0, u1, u2, u3⟩ | exact ⟨x0, x1, x2, x3⟩ | exact ⟨z0, z1, z2, z3⟩)
      (first
        | (go_at_call 106; refine (hadd.out w10).mono ?_; rintro r w11 ⟨rfl, hb11⟩; have x0 := (hb11.cell (World.block_lt_of_cell? _ _ u0)).trans u0; have x1 := (hb11.cell (World.block_lt_of_cell? _ _ u1)).trans u1; have x2 := (hb11.cell (World.block_lt_of_cell? _ _ u2)).trans u2; have x3 := (hb11.cell (World.block_lt_of_cell? _ _ u3)).trans u3; have b11 := hb10.trans (hb11.mono hb10.size))
        | (go_at_call 129; refine (hpush.out w11 (HS3.out.hp.below b11)).mono ?_; rintro r w12 ⟨rfl, HT12, K12⟩; have z0 := K12.cellOf x0 hnsb; have z1 := K12.cellOf x1 hnsb; have z2 := K12.cellOf x2 hnw; have z3 := K12.cellOf x3 hnw)
        | (refine hgs.mono ?_; rintro r w10 ⟨rfl, hb10⟩; have u0 := (hb10.cell (World.block_lt_of_cell? _ _ t0)).trans t0; have u1 := (hb10.cell (World.block_lt_of_cell? _ _ t1)).trans t1; have u2 := (hb10.cell (World.block_lt_of_cell? _ _ t2)).trans t2; have u3 := (hb10.cell (World.block_lt_of_cell? _ _ t3)).trans t3))
    obtain ⟨v12, n12, hp12, hle12, ho12⟩ := HT12
    have S12 := (HS3.out.below b11).heap K12 hp12 ho12 (Nat.le_trans hNz b11.size)
    have K04 := K03.below b11
    have K05 := K04.trans K12 (fun _ _ h => Or.inr (Or.inr h))
    have HO : Hid (∀ g, v12.ownBlock = some g → v.ownBlock = some g ∨ w.heap.size ≤ g) := fun g hg => by
      rcases ho12 g hg with h | h
      · exact Or.inl h
      · exact Or.inr (Nat.le_trans K04.size h)
    clear t0 t1 t2 t3 u0 u1 u2 u3 x0 x1 x2 x3 z0 z1 z2 z3 K12 hp12 ho12 HS3 hgs hcf hadd hpush hb10 hb11 b11 B3 K03 K04
    go_wp2
    go_ret
    exact ⟨rfl, v12, n12, S12, hle12, K05, HO.out⟩
end Go.Proofs.YtmnpplkjhnoglaaGreatDoor
