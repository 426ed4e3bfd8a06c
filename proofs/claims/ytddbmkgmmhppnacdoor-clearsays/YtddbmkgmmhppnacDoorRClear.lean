/-
  How far one may go: the reference's.
-/
import Derived.Test.YtddbmkgmmhppnacDoorCount
namespace Go.Proofs.YtddbmkgmmhppnacDoor
open Go.RowKit

theorem rto_v {b : Nat} {W H V c r : Int} {bl : Nat → Bool} {d : Nat} (hr : c + (stepY d * W + stepX d) = r) (w : World) (g : RefAt w b W H V bl) (hd : d < 8) (c1 : -1000 ≤ c) (c2 : c ≤ 1000) :
    Calls Tryd.prog 16 #[.pointer (some ⟨b, 0, none⟩), .int .i64 c, .int .i64 d] w fun e w' => e = .returned (.int .i64 r) ∧ w' = w := by
  have e : c + stepX d + stepY d * W = r := by omega
  exact e ▸ rto_any c d w g hd c1 c2

theorem drewN_two (w : World) (m k : Nat) : (w.drewN m).drewN k = w.drewN (m + k) := by simp

set_option maxHeartbeats 1600000 in
set_option maxRecDepth 1000000 in
theorem rclear_any {b : Nat} {W H V : Int} {bl : Nat → Bool} (c d : Nat) (w : World) (g : RefAt w b W H V bl) (hr : inB W H c = true) (hd : d < 8) :
    Calls Tryd.prog 13 #[.pointer (some ⟨b, 0, none⟩), .int .i64 c, .int .i64 d] w fun e w' => e = .returned (.int .i64 (clr W H bl ((c : Int) % W) ((c : Int) / W) d : Nat)) ∧ ∃ m, w' = w.drewN m := by
  obtain ⟨k1, k2⟩ := wh_bd g.w1 g.w2 g.h1 g.h2
  have gw1 := g.w1
  have gw := g.w2
  have gh1 := g.h1
  have gh := g.h2
  have hle := clr_le W H bl ((c : Int) % W) ((c : Int) / W) d
  go_enter Tryd.func13, Tryd.ntmps13
  go_wp2
  go_loopg [1, 7] (clr W H bl ((c : Int) % W) ((c : Int) / W) d) (fun gk cv nv wr => ∃ (a : Int) (n : Nat), gk = clr W H bl (a % W) (a / W) d ∧ cv = .int .i64 a ∧ nv = .int .i64 n ∧ inB W H a = true ∧ n + clr W H bl (a % W) (a / W) d = clr W H bl ((c : Int) % W) ((c : Int) / W) d ∧ ∃ m, wr = w.drewN m)
  case atStart => exact ⟨c, 0, rfl, rfl, rfl, hr, by omega, 0, rfl⟩
  case round =>
    obtain ⟨a, n, hgk, rfl, rfl, hin, hsum, hwr⟩ := hrel
    have gr : RefAt wr b W H V bl := by obtain ⟨m, hm⟩ := hwr; rw [hm]; exact g.drewN m
    have HW : ∀ k, Hid (∃ m, wr.drewN k = w.drewN m) := fun k => by obtain ⟨m, hm⟩ := hwr; rw [hm]; exact ⟨m + k, drewN_two w m k⟩
    clear hwr
    have c0 := gr.c0
    obtain ⟨hat, hai⟩ := at_place gw1 hin
    have hq : 0 ≤ a ∧ a < W * H := of_decide_eq_true hin
    obtain ⟨x1, x2, y1, y2⟩ := at_iff.1 hat
    obtain ⟨q1, q2⟩ := hq
    have HG : Hid (gk = clr W H bl (a % W) (a / W) d) := hgk
    have HS : Hid (n + clr W H bl (a % W) (a / W) d = clr W H bl ((c : Int) % W) ((c : Int) / W) d) := hsum
    clear hgk
    have hn : n ≤ 16 := by omega
    clear hsum
    cases hM : mayB W H bl (a % W) (a / W) d with
    | false =>
      have hz := clr_not hM
      go_wp2
      go_quiet ((go_at_call 15; exact Calls.quiet_of (rmay_v hM _ (gr.drewN _) hd (by omega) (by omega) (by omega) (by omega))))
      go_wp2
      go_ret
      refine ⟨?_, (HW _).out⟩
      have := HS.out
      rw [hz] at this
      rw [← this]; rfl
    | true =>
      have hcm := clr_may gw gh hd hM
      have hto := to_idx hM
      have hat2 := (may_at hM).2
      obtain ⟨p1, p2, p3⟩ := idx_parts hat2
      have hlt := (idx_lt gw1 gw gh1 gh hat2).2
      rw [hai] at hto
      generalize idx W (a % W + stepX d) (a / W + stepY d) = r at *
      rw [← p2, ← p3] at hcm
      have HC : Hid (clr W H bl (a % W) (a / W) d = clr W H bl ((r : Int) % W) ((r : Int) / W) d + 1) := hcm
      have hrin : inB W H r = true := decide_eq_true ⟨by omega, hlt⟩
      have hto' := fun w g => rto_v (b := b) (H := H) (V := V) (bl := bl) hto w g hd (by omega) (by omega)
      clear p1 p2 p3 hat2 hcm hto hai hle
      go_wp2
      go_quiet ((go_at_call 15; exact Calls.quiet_of (rmay_v hM _ (gr.drewN _) hd (by omega) (by omega) (by omega) (by omega))))
      go_wp2_with (go_at_call 16; refine (hto' _ ((gr.drewN _))).mono ?_; rintro e w' ⟨rfl, rfl⟩)
      go_roundg (clr W H bl ((r : Int) % W) ((r : Int) / W) d)
      case measure => have := HG.out; have := HC.out; omega
      case rel => exact ⟨r, n + 1, rfl, rfl, by go_num, hrin, by have := HS.out; have := HC.out; omega, (HW _).out⟩
end Go.Proofs.YtddbmkgmmhppnacDoor
