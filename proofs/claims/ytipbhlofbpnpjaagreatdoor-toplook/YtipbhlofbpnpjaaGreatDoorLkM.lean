/- -/
import Derived.Test.YtipbhlofbpnpjaaGreatDoorNv8
namespace Go.Proofs.YtipbhlofbpnpjaaGreatDoor
open Go.RowKit Go.Lib
theorem Eqv.may {W H : Int} {bl bl' : Nat → Bool} (h : Eqv W H bl bl') : mayB W H bl = mayB W H bl' := by
  funext x y k
  unfold mayB
  rw [h.opn]
section
variable {W H : Int} {bl : Nat → Bool}
structure LkAt (W H : Int) (bl : Nat → Bool) (c : Int) (d n j : Nat) (p : Int) : Prop where
  i : inB W H p = true
  x : p % W = c % W + j * stepX d
  y : p / W = c / W + j * stepY d
  l : clr W H bl (p % W) (p / W) d + j = n
  k : Wk (Edge W H bl) c p (j * stS d) (j * stD d)
  f : j = 0 ∨ bl c.toNat = false
theorem LkAt.start {c : Int} {d : Nat} (hc : inB W H c = true) : LkAt W H bl c d (clr W H bl (c % W) (c / W) d) 0 c :=
  ⟨hc, by simp, by simp, rfl, by simpa using Wk.nil, Or.inl rfl⟩
theorem src_free (w1 : 1 ≤ W) {p : Int} {d : Nat} (hi : inB W H p = true) (h : mayB W H bl (p % W) (p / W) d = true) : bl p.toNat = false := by
  obtain ⟨h1, h2⟩ := at_place w1 hi
  obtain ⟨o1, _⟩ := may_parts h
  unfold openB at o1
  rw [h1, Bool.true_and] at o1
  have e : (p / W * W + p % W).toNat = p.toNat := by
    unfold idx at h2
    have q : 0 ≤ p ∧ p < W * H := of_decide_eq_true hi
    omega
  rw [e] at o1
  simpa using o1
theorem LkAt.next (w1 : 1 ≤ W) (w2 : W ≤ 16) (h2 : H ≤ 16) {c p : Int} {d n j : Nat} (hd : d < 8) (h : LkAt W H bl c d n j p) (hj : j < n) : LkAt W H bl c d n (j + 1) (p + (stepY d * W + stepX d)) := by
  have hm : mayB W H bl (p % W) (p / W) d = true := by
    cases hq : mayB W H bl (p % W) (p / W) d with
    | true => rfl
    | false =>
      have := clr_not hq
      have := h.l
      omega
  have e : Edge W H bl p d (p + (stepY d * W + stepX d)) := ⟨hd, h.i, hm, rfl⟩
  obtain ⟨e1, e2⟩ := e.place w1
  have hs := clr_may w2 h2 hd hm
  have hk := h.k.step e
  have a1 : ((j + 1 : Nat) : Int) * stepX d = j * stepX d + stepX d := by rw [Int.natCast_add, Int.add_mul]; simp
  have a2 : ((j + 1 : Nat) : Int) * stepY d = j * stepY d + stepY d := by rw [Int.natCast_add, Int.add_mul]; simp
  have a3 : ((j + 1 : Nat) : Int) * stS d = j * stS d + stS d := by rw [Int.natCast_add, Int.add_mul]; simp
  have a4 : ((j + 1 : Nat) : Int) * stD d = j * stD d + stD d := by rw [Int.natCast_add, Int.add_mul]; simp
  refine ⟨e.in' w1, by rw [e1, h.x, a1]; omega, by rw [e2, h.y, a2]; omega, ?_, by rw [a3, a4]; exact hk, Or.inr ?_⟩
  · have := h.l
    rw [e1, e2]
    omega
  · rcases h.f with q | q
    · subst q
      have e0 : p % W = c % W := by have := h.x; simpa using this
      have e3 : p / W = c / W := by have := h.y; simpa using this
      have : p = c := by rw [← Int.mul_ediv_add_emod p W, ← Int.mul_ediv_add_emod c W, e0, e3]
      rw [← this]
      exact src_free w1 h.i hm
    · exact q
theorem LkAt.last {c p : Int} {d n : Nat} (h : LkAt W H bl c d n n p) (w2 : W ≤ 16) (h2 : H ≤ 16) (hd : d < 8) : mayB W H bl (p % W) (p / W) d = false := by
  cases hq : mayB W H bl (p % W) (p / W) d with
  | false => rfl
  | true =>
    have := clr_may w2 h2 hd hq
    have := h.l
    omega
theorem LkAt.oct {c p : Int} {d n j : Nat} (hd : d < 8) (h : LkAt W H bl c d n j p) : octS W c p = j * stS d ∧ octD W c p = j * stD d := by
  have hx := h.x
  have hy := h.y
  unfold octS octD
  rw [hx, hy]
  generalize c % W = X
  generalize c / W = Y
  have hks : d = 0 ∨ d = 1 ∨ d = 2 ∨ d = 3 ∨ d = 4 ∨ d = 5 ∨ d = 6 ∨ d = 7 := by omega
  rcases hks with rfl | rfl | rfl | rfl | rfl | rfl | rfl | rfl <;> simp only [stepX, stepY, stS, stD, List.getD_cons_zero, List.getD_cons_succ] <;> unfold dst les <;> constructor <;> (repeat' split) <;> omega
theorem LkAt.cost (w1 : 1 ≤ W) {c p s dd err : Int} {d n j : Nat} {way : List Nat} (hc : inB W H c = true) (hd : d < 8) (h : LkAt W H bl c d n j p) (hn : n ≤ 16) (hj : 0 < j) (R : Rt W H bl c p way s dd err) : err = 0 ∧ s = j * stS d ∧ dd = j * stD d := by
  have hf : bl c.toNat = false := h.f.resolve_left (by omega)
  have hff := ff2_of hc hf h.i (wk_free hf h.k)
  obtain ⟨z, hv⟩ := R.yes hff h.k
  obtain ⟨l, _, hcp, b1, b2, b3, b4⟩ := R.path hff z
  have hlow := oct_low' w1 hcp.walk
  obtain ⟨o1, o2⟩ := h.oct hd
  unfold octV at hlow
  rw [o1, o2] at hlow
  have hst := st_bd d
  have hl := h.l
  have q1 : 0 ≤ (j : Int) * stD d ∧ (j : Int) * stD d ≤ 256 := by
    rcases hst with ⟨_, e⟩ | ⟨_, e⟩ <;> rw [e] <;> omega
  obtain ⟨r1, r2⟩ := two_same b2 b4 q1.1 q1.2 hv hlow
  exact ⟨z, r1, r2⟩
end
theorem st_kind {k j : Nat} {s d : Int} (h1 : s = ((j + 1 : Nat) : Int) * stS k) (h2 : d = ((j + 1 : Nat) : Int) * stD k) : (k % 2 = 0 ∧ s = (j : Int) + 1 ∧ d = 0) ∨ (k % 2 = 1 ∧ s = 0 ∧ d = (j : Int) + 1) := by
  unfold stS at h1
  unfold stD at h2
  rcases Nat.mod_two_eq_zero_or_one k with q | q
  · left
    rw [q] at h1 h2
    exact ⟨q, by rw [h1]; simp, by rw [h2]; simp⟩
  · right
    rw [q] at h1 h2
    exact ⟨q, by rw [h1]; simp, by rw [h2]; simp⟩
set_option maxHeartbeats 400000 in
theorem nlook_any {lo hi sb most : Nat} {W H V c d : Int} {bl : Nat → Bool} (w : World) (S : Sv w lo hi sb W H V bl most) :
    Calls Tryz.prog 34 #[.pointer (some ⟨sb, 0, none⟩), .int .i64 c, .int .i64 d] w fun e w' => Below w.heap.size w w' ∧ (((inB W H c = false ∨ (inB W H c = true ∧ (d < 0 ∨ 8 ≤ d))) ∧ e = .returned (.tuple #[.int .i64 0, .iface 39 (.int .i64 1)])) ∨ (inB W H c = true ∧ ∃ k : Nat, d = (k : Int) ∧ k < 8 ∧ e = .returned (.tuple #[.int .i64 (clr W H bl (c % W) (c / W) k : Nat), .nilIface]))) := by
  obtain ⟨rb, pb, mb, lb, tb, gb, N, x, V2, S⟩ := S
  have q3 := S.c3
  cases hi : inB W H c with
  | false =>
    have h := steps_out c d w S.ta hi
    go_enter Tryz.func34, Tryz.ntmps34
    go_wp2_with fail
    refine h.mono ?_
    rintro e w1 ⟨rfl, m, rfl⟩
    go_wp2
    go_ret2
    exact ⟨below_drewN (Below.refl _ _) _, Or.inl ⟨Or.inl trivial, rfl⟩⟩
  | true =>
    have q : 0 ≤ c ∧ c < W * H := of_decide_eq_true hi
    obtain ⟨cN, rfl⟩ : ∃ cN : Nat, c = (cN : Int) := ⟨c.toNat, by omega⟩
    by_cases hd : d < 0 ∨ 8 ≤ d
    · have h := steps_dir cN d w S.ta hi hd
      have HD : Hid (d < 0 ∨ 8 ≤ d) := hd
      clear hd
      go_enter Tryz.func34, Tryz.ntmps34
      go_wp2_with fail
      refine h.mono ?_
      rintro e w1 ⟨rfl, m, rfl⟩
      go_wp2
      go_ret2
      exact ⟨below_drewN (Below.refl _ _) _, Or.inl ⟨Or.inr ⟨trivial, HD.out⟩, rfl⟩⟩
    · obtain ⟨k, rfl⟩ : ∃ k : Nat, d = (k : Int) := ⟨d.toNat, by omega⟩
      have hk : k < 8 := by omega
      have h := steps_in cN k w S.ta hi hk
      clear hd
      go_enter Tryz.func34, Tryz.ntmps34
      go_wp2_with fail
      refine h.mono ?_
      rintro e w1 ⟨rfl, m, rfl⟩
      go_wp2
      go_ret2
      exact ⟨below_drewN (Below.refl _ _) _, Or.inr ⟨trivial, k, rfl, hk, rfl⟩⟩
end Go.Proofs.YtipbhlofbpnpjaaGreatDoor
