/-
  Texts laid together: FF, ToSr, SyH.
-/
import Derived.Test.YtmnpplkjhnoglaaGreatDoorP51
import Derived.Deep.CutRange
/-
  Is a cell free, by the reference.
-/
namespace Go.Proofs.YtmnpplkjhnoglaaGreatDoor
open Go.RowKit

end Go.Proofs.YtmnpplkjhnoglaaGreatDoor
/-
  What 'TopSearch' does at every plot: it answers true.
-/
namespace Go.Proofs.YtmnpplkjhnoglaaGreatDoor
open Go.RowKit

theorem fl_ex {b : Nat} {W H V : Int} {bl : Nat → Bool} (w : World) (g : RefAt w b W H V bl) : ∃ Fl : Int → Int → Option (Int × Int), ∀ c, inB W H c = true → Best (Edge W H bl) c (Fl c) := by
  have h : ∀ c, ∃ F, inB W H c = true → Best (Edge W H bl) c F := fun c => by
    by_cases hc : inB W H c = true
    · obtain ⟨F, hF⟩ := best_ex w g hc
      exact ⟨F, fun _ => hF⟩
    · exact ⟨fun _ => none, fun h => absurd h hc⟩
  exact ⟨fun c => Classical.choose (h c), fun c hc => Classical.choose_spec (h c) hc⟩
end Go.Proofs.YtmnpplkjhnoglaaGreatDoor
/-
  What 'SearchSays' does at every plot, number of levels and lists of edges: it answers true.
-/
namespace Go.Proofs.YtmnpplkjhnoglaaGreatDoor
open Go.RowKit

theorem rgraph_any {M : Nat} {W H V : Int} {bl : Nat → Bool} (w : World) (g : RefAt w M W H V bl) (hml : M < w.heap.size) :
    Calls Tryz.prog 12 #[.pointer (some ⟨M, 0, none⟩)] w fun e w' => ∃ rb mb A AR cap R f, e = .returned (.pointer (some ⟨rb, 0, none⟩)) ∧ RGt w' M rb mb W H V bl A AR cap R (crs W H bl (W * H).toNat) f ∧ Eds w' W H bl (crs W H bl (W * H).toNat) f (crs W H bl (W * H).toNat).length ∧ Below w.heap.size w w' := by
  have gw1 := g.w1
  obtain ⟨Fl, hFl0⟩ := fl_ex w g
  have hFl : ∀ c, CornC W H bl c → Best (Edge W H bl) c (Fl c) := fun c hc => hFl0 c (cornC_in gw1 hc)
  refine (rgraph' (R := fun n => rayL n (Fl n)) w g hml (fun n => rayL_len _ _) (fun n => rayL_one _ _) (fun n => ray_new n (Fl n)) hFl rfl (fun n w' hn g' h' => from_c n w' g' h' (cornC_in gw1 hn) (hFl _ hn))).mono ?_
  rintro e w' ⟨rb, mb, A, AR, cap, f, h⟩
  exact ⟨rb, mb, A, AR, cap, _, f, h⟩
end Go.Proofs.YtmnpplkjhnoglaaGreatDoor
