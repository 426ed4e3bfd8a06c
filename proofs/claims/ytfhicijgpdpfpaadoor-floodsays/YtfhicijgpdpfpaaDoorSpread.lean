/-
  A flood spreads: what each cell costs at least.
-/
import Derived.Test.YtfhicijgpdpfpaaDoorBeside
namespace Go.Proofs.YtfhicijgpdpfpaaDoor
open Go.RowKit

theorem wk_in {W H : Int} {bl : Nat → Bool} {o a s d : Int} (w1 : 1 ≤ W) (ho : inB W H o = true) (h : Wk (Edge W H bl) o a s d) : inB W H a = true :=
  h.ind (R := fun a _ _ => inB W H a = true) ho (fun _ _ _ _ _ _ _ e => e.in' w1)

theorem FloodAt.ne {w : World} {fb gb cb : Nat} {W H V : Int} {bl : Nat → Bool} {F : Int → Option (Int × Int)} {n : Nat} (f : FloodAt w fb gb cb W H V bl F n) : ¬ fb = cb ∧ ¬ gb = cb ∧ ¬ 0 = cb := by
  refine ⟨fun e => ?_, fun e => ?_, fun e => ?_⟩
  · have h := f.mp.cell 0
    rw [← e, f.p0] at h; cases h
  · have h := f.mp.cell 0
    rw [← e, f.ga.c0] at h; cases h
  · have h := f.mp.cell 0
    have g := (f.st 0 (by decide)).1
    rw [← e, g] at h; cases h

/-- a flood that has spread -/
def Spread (w w' : World) (fb gb cb : Nat) (W H V : Int) (bl : Nat → Bool) (o : Int) : Prop :=
  ∃ F, FloodAt w' fb gb cb W H V bl F (cnt F (W * H).toNat) ∧ Best (Edge W H bl) o F ∧ Keep (fun k => k = cb) w w'

/-- .. under way -/
def Spr (w wr : World) (fb gb cb : Nat) (W H V : Int) (bl : Nat → Bool) (o : Int) (n : Nat) : Prop :=
  ∃ F Hh v nh, FloodAt wr fb gb cb W H V bl F n ∧ HeapAt wr (w.heap.size + 1) w.heap.size v nh Hh ∧ Dij (Edge W H bl) o F Hh (fun _ _ => True) n ∧ cnt F (W * H).toNat = n ∧ nh ≤ 1 + 8 * n ∧ (∀ g, v.ownBlock = some g → w.heap.size ≤ g) ∧ Keep (fun k => k = cb) w wr

set_option maxHeartbeats 2000000 in
set_option maxRecDepth 1000000 in
theorem spread_any {fb gb cb : Nat} {W H V : Int} {bl : Nat → Bool} (o : Int) (w : World) (FA : FloodAt w fb gb cb W H V bl (fun _ => none) 0) (hin : inB W H o = true) :
    Calls Tryd.prog 50 #[.pointer (some ⟨fb, 0, none⟩), .int .i64 o] w fun e w' => e = .returned (.tuple #[]) ∧ Spread w w' fb gb cb W H V bl o := by
  obtain ⟨hfb, hgb, hcb, h00⟩ := FA.blocks
  have w1 := FA.ga.w1
  have w2 := FA.ga.w2
  have h1 := FA.ga.h1
  have h2 := FA.ga.h2
  have hWH := wh_bd w1 w2 h1 h2
  have hwo := wf_cell w1 w2 h1 h2 hin
  have hok0 : okC 0 0 := by unfold okC; omega
  have hapart : ∀ (v : Value), (∀ g, v.ownBlock = some g → w.heap.size ≤ g) → ∀ k, hb3 (w.heap.size + 1) w.heap.size v k → w.heap.size ≤ k := by
    intro v hv k hk
    rcases hk with rfl | rfl | hk
    · omega
    · omega
    · exact hv k hk
  go_enter Tryd.func50, Tryd.ntmps50
  go_wp2_with fail
  refine (new_any _).mono ?_
  rintro e wa ⟨rfl, HA, hba, hsa⟩
  go_wp2_with fail
  refine (push_new o 0 0 _ HA rfl hok0 hwo (by omega)).mono ?_
  rintro e wb ⟨rfl, ⟨vb, HB, hob⟩, Kb⟩
  have hst : Spr w wb fb gb cb W H V bl o 0 := by
    have KA : Keep (fun k => k = cb) w wa := Keep.of_below hba
    refine ⟨fun _ => none, _, vb, 1, (FA.below hba).keep Kb ?_ ?_ ?_ ?_, HB, Dij.start _ o, cnt_none _, by omega, fun g hg => ?_, KA.trans Kb (fun i hi h => ?_)⟩
    · intro h; have := hapart _ (fun g hg => by cases hg) _ h; omega
    · intro h; have := hapart _ (fun g hg => by cases hg) _ h; omega
    · intro h; have := hapart _ (fun g hg => by cases hg) _ h; omega
    · intro h; have := hapart _ (fun g hg => by cases hg) _ h; omega
    · rcases hob with h | ⟨g', h, hg'⟩
      · rw [h] at hg; cases hg
      · rw [h] at hg; cases hg; omega
    · have := hapart _ (fun g hg => by cases hg) _ h; omega
  clear HA HB Kb hob hba FA
  go_wp2
  go_loopg [5] 257 (fun q _ wr => ∃ n : Nat, n ≤ 256 ∧ q = 257 - n ∧ Spr w wr fb gb cb W H V bl o n)
  case atStart => exact ⟨0, by omega, rfl, hst⟩
  case round =>
    clear hst
    obtain ⟨n, hn, hq, F, Hh, v, nh, FA, HA, DJ, hcnt, hnh, hown, K⟩ := hrel
    have HQ : Hid (gk = 257 - n) := hq
    clear hq
    cases nh with
    | zero =>
      have HS : Spread w wr fb gb cb W H V bl o := ⟨F, by rw [hcnt]; exact FA, DJ.done (fun a => HA.empty a) hn, K⟩
      go_wp2_with (go_at_call 81; refine (len_any _ HA).mono ?_; rintro e w' ⟨rfl, rfl⟩)
      go_end0
      exact ⟨rfl, HS⟩
    | succ m =>
      have hm1 : (0 : Int) < ((m + 1 : Nat) : Int) := by omega
      go_wp2_with (go_at_call 81; refine (len_any _ HA).mono ?_; rintro e w' ⟨rfl, rfl⟩)
      refine (pop_one _ HA).mono ?_
      rintro e w5 ⟨a, s, d, rfl, hHa, hmin, ⟨v5, HA5, ho5⟩, K5⟩
      have hle : ∀ {b t u}, Hh b = some (t, u) → val s d ≤ val t u := fun {b t u} hb => by
        have := hmin b t u hb
        unfold bef Item.v at this
        simp only at this
        omega
      obtain ⟨DJ2, hFa, hmx⟩ := DJ.pop hHa hle
      obtain ⟨hwk, hva⟩ := DJ.sH hHa
      have hina := wk_in w1 hin hwk
      have hca : 0 ≤ a ∧ a < W * H := of_decide_eq_true hina
      have hwa := wf_cell w1 w2 h1 h2 hina
      have hcnt2 : cnt (putH F a s d) (W * H).toNat = n + 1 := by rw [cnt_put F a s d _ hca.1 (by omega) hFa, hcnt]
      have hn1 : n + 1 ≤ 256 := by have := cnt_le (putH F a s d) (W * H).toNat; omega
      obtain ⟨hne1, hne2, hne3⟩ := FA.ne
      have hz := K.size
      have hfar := hapart v hown
      have hown5 : ∀ g, v5.ownBlock = some g → w.heap.size ≤ g := fun g hg => hown g (by rw [← ho5]; exact hg)
      have hfar5 := hapart v5 hown5
      have FA5 := FA.keep K5 (fun h => by have := hfar _ h; omega) (fun h => by have := hfar _ h; omega) (fun h => by have := hfar _ h; omega) (fun h => by have := hfar _ h; omega)
      have KB : Keep (fun k => k = cb) w w5 := K.trans K5 (fun i hi h => by have := hfar _ h; omega)
      have HB6 : Below w5.heap.size w5 (w5.alloc (.cells #[.int .i64 s, .int .i64 d] 31)) := (Below.refl _ _).alloc (Nat.le_refl _) _
      have FA6 := FA5.below HB6
      have HA6 := HA5.below HB6
      have K6 := KB.below HB6
      have b0 := World.cell?_alloc_at (w := w5) #[.int .i64 s, .int .i64 d] 31 w5.heap.size 0 rfl
      have b1 := World.cell?_alloc_at (w := w5) #[.int .i64 s, .int .i64 d] 31 w5.heap.size 1 rfl
      clear FA HA K5 FA5 HA5 KB HB6 hmin hle DJ K
      go_wp2
      generalize w5.alloc (.cells #[.int .i64 s, .int .i64 d] 31) = W6 at *
      have q1 := FA6.p1
      obtain ⟨w7, hrun, M7, T7⟩ := (FA6.mp.kept (w' := W6.drew) rfl).store law3 Tryd.under113 (by unfold maxLen; omega) hwa (.agg #[.int .i64 s, .int .i64 d])
      have em : (if (fv F a).isSome then n else n + 1) = n + 1 := by rw [fv_none hFa]; rfl
      rw [fv_put, em] at M7
      have K7 : Keep (fun k => k = cb) W6 w7 := (Keep.refl (fun k => k = cb) W6).drew.trans (turned_keep T7) (fun _ _ h => h)
      have FA7 : FloodAt w7 fb gb cb W H V bl (putH F a s d) (n + 1) := by
        obtain ⟨j1, j2, j3, j4⟩ := FA6.blocks
        exact ⟨(K7.cell (p := ⟨fb, 0, none⟩) j1 hne1).trans FA6.p0, (K7.cell (p := ⟨fb, 1, none⟩) j1 hne1).trans FA6.p1, FA6.ga.keep K7 hne2, M7, FA6.st.keep K7 hne3⟩
      have HA7 := HA6.keep K7 (by omega) (by omega) (fun g hg => by have := hown5 g hg; omega)
      have KC := K6.trans K7 (fun _ _ h => h)
      clear M7 T7 K7 FA6 HA6 K6
      go_region
      clear hrun b0 b1 q1
      go_wp2_with fail
      refine (pushBeside_any a s d _ FA7 HA7 hina (if_pos rfl) (fun k h => by have := hfar5 k h; omega) DJ2 hmx hva (by omega) (by omega)).mono ?_
      rintro e w8 ⟨rfl, v8, nh8, H8, HA8, hn8, DJ8, ho8, K8⟩
      have HS : Spr w w8 fb gb cb W H V bl o (n + 1) := by
        refine ⟨_, H8, v8, nh8, FA7.keep K8 (fun h => by have := hfar5 _ h; omega) (fun h => by have := hfar5 _ h; omega) (fun h => by have := hfar5 _ h; omega) (fun h => by have := hfar5 _ h; omega), HA8, DJ8, hcnt2, by omega, fun g hg => ?_, KC.trans K8 (fun i hi h => by have := hfar5 _ h; omega)⟩
        rcases ho8 g hg with h | h
        · exact hown5 g h
        · have := KC.size; omega
      clear FA7 HA7 HA8 DJ8 DJ2 K8 KC
      go_wp2
      go_roundg (257 - (n + 1))
      case measure => have := HQ.out; omega
      case rel => exact ⟨n + 1, hn1, rfl, HS⟩
end Go.Proofs.YtfhicijgpdpfpaaDoor
