/-
  A step back from a cell that was come to.
-/
import Derived.Test.YtfhicijgpdpfpaaDoorBackF
namespace Go.Proofs.YtfhicijgpdpfpaaDoor
open Go.RowKit

/-- was a cell come to by this direction's cell? -/
def byB (F : Int → Option (Int × Int)) (W c s d : Int) (k : Nat) : Bool := match F (c + (stepY k * W + stepX k)) with | some q => q.1 + stS k == s && q.2 + stD k == d | none => false

set_option maxHeartbeats 1000000 in
theorem back_any {fb gb cb n : Nat} {W H V x y s d o : Int} {bl : Nat → Bool} {F : Int → Option (Int × Int)} (c : Nat) (hx : (c : Int) % W = x) (hy : (c : Int) / W = y) (w : World) (f : FloodAt w fb gb cb W H V bl F n) (B : Best (Edge W H bl) o F) (hr : inB W H c = true) (hF : F c = some (s, d)) :
    Calls Tryd.prog 54 #[.pointer (some ⟨fb, 0, none⟩), .int .i64 c] w fun e w' => FoundAt w w' e (fun k => mayB W H bl x y k && byB F W c s d k) := by
  have hcc : 0 ≤ (c : Int) ∧ (c : Int) < W * H := of_decide_eq_true hr
  have w1 := f.ga.w1
  obtain ⟨k1, k2⟩ := wh_bd f.ga.w1 f.ga.w2 f.ga.h1 f.ga.h2
  obtain ⟨hfb, hgb, hcb, h00⟩ := f.blocks
  have p0 := f.p0
  have HB : Below w.heap.size w ((w.alloc (.cells #[.pointer (some ⟨fb, 0, none⟩)] 39)).alloc (.cells #[.int .i64 (c : Int)] 3)) := ((Below.refl _ _).alloc (Nat.le_refl _) _).alloc (by simp) _
  have q1 : ((w.alloc (.cells #[.pointer (some ⟨fb, 0, none⟩)] 39)).alloc (.cells #[.int .i64 (c : Int)] 3)).cell? ⟨w.heap.size, 0, none⟩ = some (.pointer (some ⟨fb, 0, none⟩)) := by
    rw [World.cell?_alloc_old _ _ _ (by simp), World.cell?_alloc_new]; rfl
  have q2 : ((w.alloc (.cells #[.pointer (some ⟨fb, 0, none⟩)] 39)).alloc (.cells #[.int .i64 (c : Int)] 3)).cell? ⟨w.heap.size + 1, 0, none⟩ = some (.int .i64 (c : Int)) :=
    World.cell?_alloc_at #[.int .i64 (c : Int)] 3 (w.heap.size + 1) 0 (by simp)
  go_enter Tryd.func54, Tryd.ntmps54
  go_wp2_with fail
  generalize (w.alloc (.cells #[.pointer (some ⟨fb, 0, none⟩)] 39)).alloc (.cells #[.int .i64 (c : Int)] 3) = W0 at *
  have HB : Below w.heap.size w W0.drew := ⟨HB.os, HB.tape, HB.output, HB.size, HB.block⟩
  have q1 : W0.drew.cell? ⟨w.heap.size, 0, none⟩ = some (.pointer (some ⟨fb, 0, none⟩)) := q1
  have q2 : W0.drew.cell? ⟨w.heap.size + 1, 0, none⟩ = some (.int .i64 (c : Int)) := q2
  have f0 := f.below HB
  have p0 := f0.p0
  have hz := HB.size
  have hfind := find_back (c1 := .pointer (some ⟨w.heap.size, 0, none⟩)) (c2 := .pointer (some ⟨w.heap.size + 1, 0, none⟩)) c hx hy (fun k => byB F W c s d k) W0.drew f0.ga f0.st (by omega) hr (fun k hk hm w' hb' => by
    have kk : ∀ {a : Addr} {v : Value}, W0.drew.cell? a = some v → w'.cell? a = some v := fun {a v} h => (hb'.cell (World.block_lt_of_cell? W0.drew a h)).trans h
    have hed : Edge W H bl c k ((c : Int) + (stepY k * W + stepX k)) := ⟨hk, hr, by rw [hx, hy]; exact hm, rfl⟩
    have hti := hed.in' w1
    obtain ⟨s', d', hG, _⟩ := B.edge hF hed
    obtain ⟨b1, b2, b3⟩ := B.small hG
    have hsm := val_small b1 b2 b3
    have hok : okC s' d' := by unfold okC; omega
    have := back_fits (C1 := w.heap.size) (C2 := w.heap.size + 1) k w' (f0.below hb') hk hr hti rfl hF hG hok (kk q1) (kk q2)
    have e : byB F W c s d k = (s' + stS k == s && d' + stD k == d) := by unfold byB; rw [hG]
    show Calls _ _ _ _ (fun e w'' => e = .returned (.bool (byB F W c s d k)) ∧ _)
    rw [e]
    exact this)
  go_region_held3 (fun w' => w'.cell? ⟨w.heap.size, 0, none⟩ = some (.pointer (some ⟨fb, 0, none⟩)) ∧ w'.cell? ⟨fb, 0, none⟩ = some (.pointer (some ⟨gb, 0, none⟩)) ∧ w'.cell? ⟨w.heap.size + 1, 0, none⟩ = some (.int .i64 (c : Int))) (first | (exact ⟨q1, p0, q2⟩)) (first | (go_at_call 75; refine hfind.mono ?_; rintro e w5 ⟨r, ok, rfl, hFo, hb5⟩; have q1 := (hb5.cell (World.block_lt_of_cell? _ _ q1)).trans q1; have p0 := (hb5.cell (World.block_lt_of_cell? _ _ p0)).trans p0; have q2 := (hb5.cell (World.block_lt_of_cell? _ _ q2)).trans q2))
  all_goals (try go_wp2)
  all_goals (go_ret2; exact ⟨r, ok, rfl, hFo, HB.trans (hb5.mono hz)⟩)

/-- what 'back' comes to: a cell one step nearer, or there is none: it is the first one -/
theorem back_step {W H x y s d o r : Int} {bl : Nat → Bool} {F : Int → Option (Int × Int)} {c : Nat} {ok : Bool} (hx : (c : Int) % W = x) (hy : (c : Int) / W = y) (w1 : 1 ≤ W) (B : Best (Edge W H bl) o F) (hr : inB W H c = true) (hF : F c = some (s, d)) (h : Found (fun k => mayB W H bl x y k && byB F W c s d k) r ok) :
    (ok = true ∧ ∃ (k : Nat) (s' d' : Int), k < 8 ∧ r = k ∧ Edge W H bl c k ((c : Int) + (stepY k * W + stepX k)) ∧ F ((c : Int) + (stepY k * W + stepX k)) = some (s', d') ∧ s' + stS k = s ∧ d' + stD k = d) ∨ (ok = false ∧ (c : Int) = o) := by
  rcases h with ⟨h1, k, hk, hrk, hq, _⟩ | ⟨h1, _, hno⟩
  · left
    rw [Bool.and_eq_true] at hq
    obtain ⟨hm, hby⟩ := hq
    have hed : Edge W H bl c k ((c : Int) + (stepY k * W + stepX k)) := ⟨hk, hr, by rw [hx, hy]; exact hm, rfl⟩
    unfold byB at hby
    cases hG : F ((c : Int) + (stepY k * W + stepX k)) with
    | none => rw [hG] at hby; cases hby
    | some q =>
      obtain ⟨s', d'⟩ := q
      rw [hG] at hby
      simp only [Bool.and_eq_true, beq_iff_eq] at hby
      exact ⟨h1, k, s', d', hk, hrk, hed, hG, hby.1, hby.2⟩
  · right
    refine ⟨h1, ?_⟩
    by_cases e : (c : Int) = o
    · exact e
    · exfalso
      obtain ⟨a, k, s', d', he, hG, e1, e2⟩ := B.prev hF e
      obtain ⟨k', he', g1, g2⟩ := Edge.back w1 a k c he
      obtain ⟨j1, j2, j3, j4⟩ := he'
      have hn : (mayB W H bl x y k' && byB F W c s d k') = false := hno k' j1
      rw [hx, hy] at j3
      rw [j3] at hn
      unfold byB at hn
      rw [← j4, hG, g1, g2, e1, e2] at hn
      simp at hn
end Go.Proofs.YtfhicijgpdpfpaaDoor
