/- -/
import Derived.Test.YtipbhlofbpnpjaaGreatDoorQ40
import Derived.Test.YtipbhlofbpnpjaaGreatDoorQ41
namespace Go.Proofs.YtipbhlofbpnpjaaGreatDoor
open Go.RowKit Go.Lib
theorem ask_rt {lo hi sb most : Nat} {W H V : Int} {bl : Nat → Bool} (a t : Int) (w : World) (S : Sv w lo hi sb W H V bl most) (d : DiagAt w) :
    Calls Tryz.prog 18 #[.pointer (some ⟨sb, 0, none⟩), .int .i64 a, .int .i64 t] w fun e w' => ∃ A cap way s d err, e = .returned (.agg #[.slice A way.length cap, .int .i64 s, .int .i64 d, .int .i64 err]) ∧ w'.ownsRow w.heap.size 3 1 (.slice A way.length cap) way.length (vals way) ∧ OldRow w' A way.length (fun i => ((way.getD i 0 : Nat) : Int)) ∧ AnsR W H bl most a t way s d err ∧ Rt W H bl a t way s d err ∧ Below w.heap.size w w' := by
  obtain ⟨w1, w2, h1, h2⟩ := S.side
  obtain ⟨m1, m6⟩ := S.mst
  refine (ask_any a t w S d).mono ?_
  rintro e w' ⟨v, way, s, dd, err, rfl, ho, hA, hb⟩
  obtain ⟨A, cap, rfl, hold, _⟩ := oldRow_of ho
  exact ⟨A, cap, way, s, dd, err, rfl, ho, hold, hA, hA.right w w1 w2 h1 h2 m1 m6, hb⟩
theorem Rt.okC {W H : Int} {bl : Nat → Bool} {a t s d err : Int} {way : List Nat} (h : Rt W H bl a t way s d err) : okC s d := by
  have := h.bd
  unfold Go.Proofs.YtipbhlofbpnpjaaGreatDoor.okC
  omega
theorem okC_two {s d t u : Int} (h1 : 0 ≤ s ∧ 0 ≤ d ∧ s ≤ 400 ∧ d ≤ 256) (h2 : 0 ≤ t ∧ 0 ≤ u ∧ t ≤ 400 ∧ u ≤ 256) : okC (s + t) (d + u) := by
  unfold okC
  omega
end Go.Proofs.YtipbhlofbpnpjaaGreatDoor
