/-
  Texts laid together: Between, Reach, Sr9.
-/
import Derived.Test.YtmnpplkjhnoglaaGreatDoorP40
/-
  What is between: package reach's 'between'.
-/
namespace Go.Proofs.YtmnpplkjhnoglaaGreatDoor
open Go.RowKit

end Go.Proofs.YtmnpplkjhnoglaaGreatDoor
/-
  Near or not: package reach's 'Near'.
-/
namespace Go.Proofs.YtmnpplkjhnoglaaGreatDoor
open Go.RowKit

end Go.Proofs.YtmnpplkjhnoglaaGreatDoor
/-
  Searches over levels in memory: their answers; a closed fact of nine cells.
-/
namespace Go.Proofs.YtmnpplkjhnoglaaGreatDoor
open Go.RowKit

theorem tw_in {t a p : Int} (Rr : List Int) (ha : a ∈ Rr) (hs : ∀ p ∈ Rr, ∀ k, k < 8 → mayB 3 3 mid9 (p % 3) (p / 3) k = true → Good (p % 3) (p / 3) (t % 3) (t / 3) k → p + (stepY k * 3 + stepX k) ∈ Rr) (h : Tw 3 3 mid9 a t p) : p ∈ Rr :=
  h (fun p => p ∈ Rr) ha (fun p k r hp e hg => by rw [e.2.2.2]; exact hs p hp k e.1 e.2.2.1 hg)
theorem tw02 {p : Int} (h : Tw 3 3 mid9 0 2 p) : p ∈ ([0, 1, 2] : List Int) := tw_in _ (by decide) (by unfold Good; decide) h
theorem tw28 {p : Int} (h : Tw 3 3 mid9 2 8 p) : p ∈ ([2, 5, 8] : List Int) := tw_in _ (by decide) (by unfold Good; decide) h
theorem on02 : On 3 3 mid9 0 2 2 := ⟨(Tw.nil.step (k := 2) (r := 1) (by unfold Edge; decide) (by unfold Good; decide)).step (k := 2) (r := 2) (by unfold Edge; decide) (by unfold Good; decide), Tw.nil⟩
theorem on28 : On 3 3 mid9 2 8 8 := ⟨(Tw.nil.step (k := 4) (r := 5) (by unfold Edge; decide) (by unfold Good; decide)).step (k := 4) (r := 8) (by unfold Edge; decide) (by unfold Good; decide), Tw.nil⟩
theorem dir02 : Dir 3 3 mid9 0 2 := ⟨⟨2, on02⟩, fun k hk hc => by
  have h := tw02 hk.1
  simp only [List.mem_cons, List.not_mem_nil, or_false] at h
  rcases h with rfl | rfl | rfl
  · exact Or.inl rfl
  · exact absurd (cornB_iff.2 hc) (by decide)
  · exact Or.inr rfl⟩
theorem dir28 : Dir 3 3 mid9 2 8 := ⟨⟨8, on28⟩, fun k hk hc => by
  have h := tw28 hk.1
  simp only [List.mem_cons, List.not_mem_nil, or_false] at h
  rcases h with rfl | rfl | rfl
  · exact Or.inl rfl
  · exact absurd (cornB_iff.2 hc) (by decide)
  · exact Or.inr rfl⟩
theorem src9 (n : Nat) (h : n ∈ [0, 2, 6, 8]) : srcE (crs 3 3 mid9 (3 * 3 : Int).toNat) [⟨n, 0, 0, 0⟩] n 0 0 := by
  refine ⟨_, List.mem_singleton.2 rfl, ⟨⟨by show (0 : Int) ≤ (n : Int); omega, ?_⟩, Int.le_refl _, by show (0 : Int) ≤ 1048576; decide, Int.le_refl _, by show (0 : Int) ≤ 1048576; decide⟩, rfl, rfl, rfl⟩
  show (n : Int).toNat ∈ _
  rw [corn9, Int.toNat_natCast]
  exact h
theorem Lvd.below {w w' : World} {N lb most : Nat} {W H : Int} {bl : Nat → Bool} {es : Nat → List LE} (h : Lvd w N lb most W H bl es) (hb : Below w.heap.size w w') : Lvd w' N lb most W H bl es := by
  obtain ⟨vb, eb, k, st, f, h1, h2, V⟩ := h
  exact ⟨vb, eb, k, st, f, h1, h2, V.below hb⟩
theorem srch_any {N lb most gf cap cap2 : Nat} {W H : Int} {bl : Nat → Bool} {es : Nat → List LE} {cs : List Value} {g : Int → Int × Int} {A A2 : Option Addr} {out inn : List IE} (w : World) (hL : Lvd w N lb most W H bl es) (G : GEs W H bl es) (w1 : 1 ≤ W) (w2 : W ≤ 16) (h1 : 1 ≤ H) (h2 : H ≤ 16) (m6 : most ≤ 6) (m1 : 1 ≤ most)
    (hg : GsOk w w.heap.size gf cs g) (hgb : ∀ n : Nat, 0 ≤ (g n).1 ∧ (g n).1 ≤ 1024 ∧ 0 ≤ (g n).2 ∧ (g n).2 ≤ 1024) (hA : ∀ {k st}, Rds most (crs W H bl (W * H).toNat) ⟨fun _ => 0, es⟩ k st → Adm (crs W H bl (W * H).toNat) st.es g (srcE (crs W H bl (W * H).toNat) inn))
    (ho : RowI w A out) (hi : RowI w A2 inn) (hol : out.length ≤ 1000) (hil : inn.length ≤ 1000) :
    Calls Tryz.prog 29 #[.pointer (some ⟨lb, 0, none⟩), .slice A out.length cap, .slice A2 inn.length cap2, .func (.func gf) #[] cs.toArray] w fun e w' => ∃ s d b v, e = .returned (.tuple #[v, .agg #[.int .i64 s, .int .i64 d], .bool b]) ∧ Srch W H bl es out inn s d b ∧ Below w.heap.size w w' := by
  obtain ⟨vb, eb, k, st, f, hR, _, V⟩ := hL
  obtain ⟨O, hlv, hU⟩ := lvOk G w1 w2 h1 h2 m6 m1 hR
  refine (best_any w V O hlv hU hg hgb ho hi hol hil).mono ?_
  rintro e w' ⟨way, s, d, b, v, rfl, hB, _, hwl, hb⟩
  exact ⟨s, d, b, v, rfl, srch G w1 w2 h1 h2 m6 m1 hR (hA hR) hB hwl, hb⟩
end Go.Proofs.YtmnpplkjhnoglaaGreatDoor
