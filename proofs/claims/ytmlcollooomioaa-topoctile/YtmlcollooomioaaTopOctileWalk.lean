/-
  The walk of 'TopOctile': it returns true for every three places.
-/
import Derived.Test.YtmlcollooomioaaOct
namespace Go.Proofs.Ytmlcollooomioaa
open Go.RowKit

theorem oct_v {x y t u S D : Int} (hS : dst (dst x t) (dst y u) = S) (hD : les (dst x t) (dst y u) = D) (w : World) (hx : nearB x) (hy : nearB y) (ht : nearB t) (hu : nearB u) :
    Calls Try.prog 15 #[.int .i64 x, .int .i64 y, .int .i64 t, .int .i64 u] w fun e w' => e = .returned (.agg #[.int .i64 S, .int .i64 D]) ∧ Below w.heap.size w w' := hS ▸ hD ▸ oct_any x y t u w hx hy ht hu
/-- within 100000 -/
def inR (n : Int) : Prop := -100000 ≤ n ∧ n ≤ 100000
theorem inR_near {n : Int} (h : inR n) : nearB n := by unfold inR at h; unfold nearB; omega

theorem dst_comm (a b : Int) : dst a b = dst b a := by unfold dst; split <;> split <;> omega
theorem dst_tri (a b c : Int) : dst a b ≤ dst a c + dst c b := by unfold dst; split <;> split <;> split <;> omega
theorem dst_nonneg (a b : Int) : 0 ≤ dst a b := by unfold dst; split <;> omega
theorem val_oct (A B : Int) : 38613965 * A + 15994428 * B ≤ val (dst A B) (les A B) ∧ 15994428 * A + 38613965 * B ≤ val (dst A B) (les A B) ∧ (val (dst A B) (les A B) = 38613965 * A + 15994428 * B ∨ val (dst A B) (les A B) = 15994428 * A + 38613965 * B) := by
  unfold val dst les
  split <;> omega
theorem inC_ok2 {s d : Int} (h : inC s d) : okC s d := by
  unfold inC at h; unfold okC; omega
theorem oct_bd (A B : Int) (h0 : 0 ≤ A) (h1 : A ≤ 200000) (k0 : 0 ≤ B) (k1 : B ≤ 200000) : 0 ≤ dst A B ∧ dst A B ≤ 200000 ∧ 0 ≤ les A B ∧ les A B ≤ 200000 := by
  unfold dst les; split <;> omega
theorem dst_bd2 (a b : Int) (h : inR a) (k : inR b) : dst a b ≤ 200000 := by
  unfold inR at h k; unfold dst; split <;> omega
theorem le_cmp (a b : Int) (h : a ≤ b) : cmpI a b = -1 ∨ cmpI a b = 0 := by
  unfold cmpI; split
  · left; rfl
  · right; rw [if_neg (by omega)]

theorem octFacts (x y u v s t : Int) (rx : inR x) (ry : inR y) (ru : inR u) (rv : inR v) (rs : inR s) (rt : inR t) :
    ∃ S1 D1 S2 D2 S3 D3, dst (dst x u) (dst y v) = S1 ∧ les (dst x u) (dst y v) = D1 ∧ dst (dst u x) (dst v y) = S1 ∧ les (dst u x) (dst v y) = D1
      ∧ dst (dst x s) (dst y t) = S2 ∧ les (dst x s) (dst y t) = D2 ∧ dst (dst s u) (dst t v) = S3 ∧ les (dst s u) (dst t v) = D3
      ∧ inC S1 D1 ∧ okC S2 D2 ∧ okC S3 D3 ∧ okC (S2 + S3) (D2 + D3) ∧ (cmpC S1 D1 (S2 + S3) (D2 + D3) = -1 ∨ cmpC S1 D1 (S2 + S3) (D2 + D3) = 0) := by
  have b1 := oct_bd (dst x u) (dst y v) (dst_nonneg _ _) (dst_bd2 _ _ rx ru) (dst_nonneg _ _) (dst_bd2 _ _ ry rv)
  have b2 := oct_bd (dst x s) (dst y t) (dst_nonneg _ _) (dst_bd2 _ _ rx rs) (dst_nonneg _ _) (dst_bd2 _ _ ry rt)
  have b3 := oct_bd (dst s u) (dst t v) (dst_nonneg _ _) (dst_bd2 _ _ rs ru) (dst_nonneg _ _) (dst_bd2 _ _ rt rv)
  have v1 := val_oct (dst x u) (dst y v)
  have v2 := val_oct (dst x s) (dst y t)
  have v3 := val_oct (dst s u) (dst t v)
  have t1 := dst_tri x u s
  have t2 := dst_tri y v t
  have ob : okC (dst (dst x s) (dst y t) + dst (dst s u) (dst t v)) (les (dst x s) (dst y t) + les (dst s u) (dst t v)) := by unfold okC; omega
  have oa : okC (dst (dst x u) (dst y v)) (les (dst x u) (dst y v)) := by unfold okC; omega
  refine ⟨_, _, _, _, _, _, rfl, rfl, ?_, ?_, rfl, rfl, rfl, rfl, ?_, ?_, ?_, ?_, ?_⟩
  · rw [dst_comm u x, dst_comm v y]
  · rw [dst_comm u x, dst_comm v y]
  · unfold inC; omega
  · unfold okC; omega
  · unfold okC; omega
  · exact ob
  · rw [cmpC_val' _ _ _ _ oa ob]
    refine le_cmp _ _ ?_
    have e : ∀ a b c d : Int, val (a + b) (c + d) = val a c + val b d := by intro a b c d; unfold val; omega
    rw [e]
    clear e oa ob b1 b2 b3
    generalize val (dst (dst x u) (dst y v)) (les (dst x u) (dst y v)) = V1 at *
    generalize val (dst (dst x s) (dst y t)) (les (dst x s) (dst y t)) = V2 at *
    generalize val (dst (dst s u) (dst t v)) (les (dst s u) (dst t v)) = V3 at *
    generalize dst x u = A1 at *
    generalize dst y v = B1 at *
    generalize dst x s = A2 at *
    generalize dst y t = B2 at *
    generalize dst s u = A3 at *
    generalize dst t v = B3 at *
    obtain ⟨_, _, v1⟩ := v1
    obtain ⟨a2, a3, _⟩ := v2
    obtain ⟨a4, a5, _⟩ := v3
    rcases v1 with v1 | v1
    · have h1 := Int.mul_le_mul_of_nonneg_left t1 (show (0 : Int) ≤ 38613965 by decide)
      have h2 := Int.mul_le_mul_of_nonneg_left t2 (show (0 : Int) ≤ 15994428 by decide)
      rw [Int.mul_add] at h1 h2
      rw [v1]; clear v1
      omega
    · have h1 := Int.mul_le_mul_of_nonneg_left t1 (show (0 : Int) ≤ 15994428 by decide)
      have h2 := Int.mul_le_mul_of_nonneg_left t2 (show (0 : Int) ≤ 38613965 by decide)
      rw [Int.mul_add] at h1 h2
      rw [v1]; clear v1
      omega

set_option maxHeartbeats 1000000 in
theorem topOctile_any (x y u v s t : Int) (w : World) :
    Calls Try.prog 5 #[.int .i64 x, .int .i64 y, .int .i64 u, .int .i64 v, .int .i64 s, .int .i64 t] w fun e w' => e = .returned (.bool true) ∧ Below w.heap.size w w' := by
  have o1 : dst (dst 0 1) (dst 0 1) = 0 := by decide
  have o2 : les (dst 0 1) (dst 0 1) = 1 := by decide
  have n0 : nearB 0 := by unfold nearB; omega
  have n1 : nearB 1 := by unfold nearB; omega
  go_enter Try.func5, Try.ntmps5
  go_wp2_with (go_at_call 15; refine (oct_v o1 o2 _ n0 n0 n1 n1).mono ?_; rintro e w1 ⟨rfl, hb1⟩)
  have hz1 := hb1.size
  go_loop [28] (fun i => ∃ k : Nat, k ≤ 6 ∧ i = .int .i64 k ∧ ∀ j, j < k → inR ([x, y, u, v, s, t].getD j 0)) (fun i => 6 - (intOf i).toNat)
  case atStart => exact ⟨0, by omega, rfl, fun j hj => absurd hj (Nat.not_lt_zero j)⟩
  case round =>
    obtain ⟨k, hk, rfl, hr⟩ := hrel
    have HB : Below w.heap.size w (w1.alloc (.cells #[.int .i64 x, .int .i64 y, .int .i64 u, .int .i64 v, .int .i64 s, .int .i64 t] 3)) := hb1.alloc hz1 _
    have hcs : k = 0 ∨ k = 1 ∨ k = 2 ∨ k = 3 ∨ k = 4 ∨ k = 5 ∨ k = 6 := by omega
    rcases hcs with rfl | rfl | rfl | rfl | rfl | rfl | rfl
    rotate_left 6
    · have rx : inR x := hr 0 (by omega)
      have ry : inR y := hr 1 (by omega)
      have ru : inR u := hr 2 (by omega)
      have rv : inR v := hr 3 (by omega)
      have rs : inR s := hr 4 (by omega)
      have rt : inR t := hr 5 (by omega)
      clear hr hk o1 o2 n0 n1
      have nx := inR_near rx
      have ny := inR_near ry
      have nu := inR_near ru
      have nv := inR_near rv
      have ns := inR_near rs
      have nt := inR_near rt
      obtain ⟨S1, D1, S2, D2, S3, D3, h1, h2, h3, h4, h5, h6, h7, h8, ic, ok2, ok3, okb, kc⟩ := octFacts x y u v s t rx ry ru rv rs rt
      have ok1 := inC_ok2 ic
      rcases kc with kc | kc
      all_goals
        go_wp2_with (first | (go_at_call 15; (fail_if_success have := m1); refine (oct_v (by assumption) (by assumption) _ (by assumption) (by assumption) (by assumption) (by assumption)).mono ?_; rintro e wa ⟨rfl, hba⟩; have m1 := trivial; have hza := hba.size; simp at hza; have HBa := HB.trans (hba.mono (by simp; omega))) | (go_at_call 15; (fail_if_success have := m2); refine (oct_v (by assumption) (by assumption) _ (by assumption) (by assumption) (by assumption) (by assumption)).mono ?_; rintro e wb ⟨rfl, hbb⟩; have m2 := trivial; have hzb := hbb.size; simp at hzb; have HBb := (HBa.alloc (by omega) _).trans (hbb.mono (by simp; omega)); have cb := fun o => hbb.cell (p := ⟨wa.heap.size, o, none⟩) (by simp)) | (go_at_call 15; refine (oct_v (by assumption) (by assumption) _ (by assumption) (by assumption) (by assumption) (by assumption)).mono ?_; rintro e wc ⟨rfl, hbc⟩; have hzc := hbc.size; have HBc := HBb.trans (hbc.mono (by omega)); have cc := fun o => hbc.cell (p := ⟨wa.heap.size, o, none⟩) (by show wa.heap.size < wb.heap.size; omega)) | (go_at_call 13; refine (add_any _ _ _ _ _ (by assumption) (by assumption)).mono ?_; rintro e wd ⟨rfl, hbd⟩; have hzd := hbd.size; have HBd := HBc.trans (hbd.mono (by omega)); have cd := fun o => hbd.cell (p := ⟨wa.heap.size, o, none⟩) (by show wa.heap.size < wc.heap.size; omega)))
        have hne : wa.heap.size ≠ wd.heap.size := by omega
        have T0 : wd.cell? ⟨wa.heap.size, 0, none⟩ = some (.int .i64 S1) := by rw [cd, cc, cb]; simp [go_sem]
        have T1 : wd.cell? ⟨wa.heap.size, 1, none⟩ = some (.int .i64 D1) := by rw [cd, cc, cb]; simp [go_sem]
        have hne9 := since_ne (wd.alloc (.cells #[.int .i64 (S2 + S3), .int .i64 (D2 + D3)] 23))
        have T2 : ∀ x : Since (wd.alloc (.cells #[.int .i64 (S2 + S3), .int .i64 (D2 + D3)] 23)), x.u.cell? ⟨wa.heap.size, 0, none⟩ = some (.int .i64 S1) := fun x => by rw [x.cell _ _ (by simp; omega), World.cell?_alloc_old _ _ _ hne]; exact T0
        have T3 : ∀ x : Since (wd.alloc (.cells #[.int .i64 (S2 + S3), .int .i64 (D2 + D3)] 23)), x.u.cell? ⟨wa.heap.size, 1, none⟩ = some (.int .i64 D1) := fun x => by rw [x.cell _ _ (by simp; omega), World.cell?_alloc_old _ _ _ hne]; exact T1
        have T4 : ∀ x : Since (wd.alloc (.cells #[.int .i64 (S2 + S3), .int .i64 (D2 + D3)] 23)), x.u.cell? ⟨wd.heap.size, 0, none⟩ = some (.int .i64 (S2 + S3)) := fun x => by rw [x.cell _ _ (by simp)]; simp [go_sem]
        have T5 : ∀ x : Since (wd.alloc (.cells #[.int .i64 (S2 + S3), .int .i64 (D2 + D3)] 23)), x.u.cell? ⟨wd.heap.size, 1, none⟩ = some (.int .i64 (D2 + D3)) := fun x => by rw [x.cell _ _ (by simp)]; simp [go_sem]
        refine wp_region_since (by kernel_rfl) (by kernel_rfl) ?_
        repeat (go_big_quiet_step (first | (go_at_call 15; exact Calls.since_of (oct_v (by assumption) (by assumption) _ (by assumption) (by assumption) (by assumption) (by assumption))) | (go_at_call 8; exact Calls.since_of (check_ok _ _ _ (by assumption))) | (go_at_call 11; exact Calls.since_of (compare_v (by assumption) _ (by assumption) (by assumption)))))
        refine wpQuiet_nil ?_
        rintro _ ⟨z, rfl⟩
        go_wp2
        go_ret
        exact ⟨rfl, (HBd.alloc (by omega) _).trans (z.h.mono (by simp; omega))⟩
    all_goals
      go_wp2
      all_goals first | (go_ret; exact ⟨rfl, HB⟩) | skip
      go_round
      case rel =>
        refine ⟨_, ?_, rfl, ?_⟩
        · decide
        · intro j hj
          rcases Nat.lt_succ_iff_lt_or_eq.mp hj with h | rfl
          · exact hr j h
          · simp only [List.getD_cons_zero, List.getD_cons_succ]; unfold inR; constructor <;> omega
      case measure => simp [intOf]
end Go.Proofs.Ytmlcollooomioaa
