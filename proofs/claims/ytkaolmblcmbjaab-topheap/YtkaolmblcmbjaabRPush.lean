/-
  What the reference's heap does: pushing.
-/
import Derived.Test.YtkaolmblcmbjaabRPop
import Derived.Test.YtkaolmblcmbjaabPush3
namespace Go.Proofs.Ytkaolmblcmbjaab
open Go.RowKit

theorem rcmp_v {s d t u r : Int} (hr : cmpC s d t u = r) (w : World) (h : okC s d) (k : okC t u) :
    Calls Try.prog 14 #[.agg #[.int .i64 s, .int .i64 d], .agg #[.int .i64 t, .int .i64 u]] w fun e w' => e = .returned (.int .i64 r) ∧ Below w.heap.size w w' := hr ▸ rcmp_any s d t u w h k

theorem Try.info38 : (Try.prog.info? 38).map (fun i => (i.zero, i.size, i.bytes)) = some (some (.agg #[.int .i64 0, .int .i64 0, .int .i64 0]), 3, 24) := by kernel_rfl
theorem Try.under27 : Try.prog.underlying 27 = some (.slice 38) := by kernel_rfl

/-- the box in which the cost lies, and the heap's cells, in all worlds that have grown -/
theorem box_since (w : World) (s d : Int) : (∀ x : Since (w.alloc (.cells #[.int .i64 s, .int .i64 d] 31)), x.u.cell? ⟨w.heap.size, 0, none⟩ = some (.int .i64 s)) ∧ (∀ x : Since (w.alloc (.cells #[.int .i64 s, .int .i64 d] 31)), x.u.cell? ⟨w.heap.size, 1, none⟩ = some (.int .i64 d)) :=
  ⟨fun x => (x.cell _ _ (by simp)).trans (World.cell?_alloc_at #[.int .i64 s, .int .i64 d] 31 w.heap.size 0 rfl), fun x => (x.cell _ _ (by simp)).trans (World.cell?_alloc_at #[.int .i64 s, .int .i64 d] 31 w.heap.size 1 rfl)⟩

set_option maxHeartbeats 1000000 in
theorem rpush_no {q cap : Nat} {A : Option Addr} {L : List Item} {H : Int → Option (Int × Int)} (a s d t u : Int) (w : World) (h : RH w q A cap L) (hL : InOrder L H) (ha : H a = some (t, u)) (hc : okC s d) (hn : ¬ val s d < val t u) :
    Calls Try.prog 11 #[.pointer (some ⟨q, 0, none⟩), .int .i64 a, .agg #[.int .i64 s, .int .i64 d]] w fun e w' => e = .returned (.bool false) ∧ Below w.heap.size w w' := by
  have HB0 : Below w.heap.size w (w.alloc (.cells #[.int .i64 s, .int .i64 d] 31)) := (Below.refl _ w).alloc (Nat.le_refl _) _
  have hq := h.lt
  have h1 := h.below HB0
  have hne := since_ne (w.alloc (.cells #[.int .i64 s, .int .i64 d] 31))
  obtain ⟨s0, s1⟩ := box_since w s d
  go_enter Try.func11, Try.ntmps11
  go_wp2_with fail
  refine (place_any a _ h1).mono ?_
  rintro e w1 ⟨⟨r, rfl, hf⟩, rfl⟩
  rcases hf with ⟨i, x, rfl, hx, hxa⟩ | ⟨rfl, hno⟩
  · have hin : x ∈ L := List.mem_of_getElem? hx
    have hxx : H x.id = some (x.s, x.d) := (hL.mem _ _ _).mpr hin
    rw [hxa, ha] at hxx
    simp only [Option.some.injEq, Prod.mk.injEq] at hxx
    obtain ⟨rfl, rfl⟩ := hxx
    have hk := h.ok x hin
    obtain ⟨g, o, rfl, hg, q1, q2, q3⟩ := h.row i x hx
    have hi : i < L.length := (List.getElem?_eq_some_iff.1 hx).1
    have hi' : (i : Int) < (L.length : Int) := by omega
    have hcmp : cmpC s d x.s x.d = 0 ∨ cmpC s d x.s x.d = 1 := by
      rw [cmpC_val' s d x.s x.d hc hk]
      rcases cmpI_cases (val s d) (val x.s x.d) with e | e | e
      · have := (cmpI_neg (val s d) (val x.s x.d)).mp (by rw [e]; decide)
        omega
      · exact Or.inl e
      · exact Or.inr e
    have s2 : ∀ y : Since (w.alloc (.cells #[.int .i64 s, .int .i64 d] 31)), y.u.cell? ⟨q, 0, none⟩ = some (.slice (some ⟨g, o, none⟩) L.length cap) := fun y => (y.cell _ _ (by simp; omega)).trans h1.c0
    have s3 : ∀ y : Since (w.alloc (.cells #[.int .i64 s, .int .i64 d] 31)), y.u.cell? ⟨g, o + i * 3 + 1, none⟩ = some (.int .i64 x.s) := fun y => (y.cell _ _ (by simp; omega)).trans ((HB0.cell (p := ⟨g, _, none⟩) hg).trans q2)
    have s4 : ∀ y : Since (w.alloc (.cells #[.int .i64 s, .int .i64 d] 31)), y.u.cell? ⟨g, o + i * 3 + 2, none⟩ = some (.int .i64 x.d) := fun y => (y.cell _ _ (by simp; omega)).trans ((HB0.cell (p := ⟨g, _, none⟩) hg).trans q3)
    have hi0 : (0 : Int) ≤ (i : Int) := by omega
    have hd : decide ((0 : Int) ≤ (i : Int)) = true := decide_eq_true hi0
    clear hL ha h h1
    rcases hcmp with hr | hr
    all_goals
      go_wp2
      refine wp_region_since (by kernel_rfl) (by kernel_rfl) ?_
      repeat (go_big_quiet_step ((go_at_call 14; exact Calls.since_of (rcmp_v hr _ hc hk))))
      refine wpQuiet_nil ?_
      rintro _ ⟨y, rfl⟩
      go_wp2
      go_ret
      exact ⟨rfl, HB0.trans (y.h.mono (by simp))⟩
  · exact absurd rfl (hno ⟨a, t, u⟩ ((hL.mem a t u).mp ha))
end Go.Proofs.Ytkaolmblcmbjaab
