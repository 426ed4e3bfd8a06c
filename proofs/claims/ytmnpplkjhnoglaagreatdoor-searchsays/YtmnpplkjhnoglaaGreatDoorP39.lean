/-
  Texts laid together: SrU, Conn, Onward.
-/
import Derived.Test.YtmnpplkjhnoglaaGreatDoorP38
import Derived.Deep.RegionHeld3
/-
  What searches answer over levels of a grid's graph: the same whatever the levels and the guess, and the flood's answer where the ends are not near.
-/
namespace Go.Proofs.YtmnpplkjhnoglaaGreatDoor
section
variable {W H : Int} {bl : Nat → Bool} {es : Nat → List LE}
theorem GEs.pos (G : GEs W H bl es) (w1 : 1 ≤ W) (w2 : W ≤ 16) (h1 : 1 ≤ H) (h2 : H ≤ 16) {a : Nat} {e : LE} (h : e ∈ es a) : 0 ≤ e.s ∧ 0 ≤ e.d ∧ e.s ≤ 16 ∧ e.d ≤ 16 ∧ 0 < e.s + e.d := by
  obtain ⟨m1, m2, m3, m4, m5, m6, _⟩ := G.mem h
  have i1 := cornC_in w1 (cornB_iff.1 m1)
  have i2 := cornC_in w1 (cornB_iff.1 m2)
  have hs := oct_small w1 w2 h1 h2 i1 i2
  have hw := m3.walk w1 (by omega) (by omega)
  have n1 := octS_nonneg W a e.to
  have n2 := octD_nonneg W a e.to
  rw [m5, m6]
  refine ⟨n1, n2, hs.1, hs.2, ?_⟩
  apply Classical.byContradiction
  intro q
  have e1 : octS W a e.to = 0 := by omega
  have e2 : octD W a e.to = 0 := by omega
  have := val_zero hw (by rw [e1, e2]; decide)
  exact m4 (by omega)
theorem prc_bd (G : GEs W H bl es) (w1 : 1 ≤ W) (w2 : W ≤ 16) (h1 : 1 ≤ H) (h2 : H ≤ 16) : ∀ {l : List Nat} {x : Nat} {s d : Int}, Prc es (x :: l) s d → 0 ≤ s ∧ 0 ≤ d ∧ s ≤ 16 * l.length ∧ d ≤ 16 * l.length ∧ (l ≠ [] → 0 < s + d)
  | [], x, s, d, ⟨e1, e2⟩ => by
    subst e1 e2
    exact ⟨Int.le_refl _, Int.le_refl _, by simp, by simp, fun h => absurd rfl h⟩
  | y :: l, x, s, d, ⟨e, he, e1, h⟩ => by
    obtain ⟨k1, k2, k3, k4, k5⟩ := G.pos w1 w2 h1 h2 he
    obtain ⟨j1, j2, j3, j4, _⟩ := prc_bd G w1 w2 h1 h2 h
    have hl : (((y :: l).length : Nat) : Int) = (l.length : Int) + 1 := rfl
    rw [hl]
    exact ⟨by omega, by omega, by omega, by omega, fun _ => by omega⟩
/-- levels of a grid's graph serve searches -/
theorem lvOk (G : GEs W H bl es) (w1 : 1 ≤ W) (w2 : W ≤ 16) (h1 : 1 ≤ H) (h2 : H ≤ 16) {most k : Nat} {st : LSt} (m6 : most ≤ 6) (m1 : 1 ≤ most) (h : Rds most (crs W H bl (W * H).toNat) ⟨fun _ => 0, es⟩ k st) :
    LvOk (crs W H bl (W * H).toNat) ⟨endL (k + 1) st, st.es⟩ ∧ (∀ n, 1 ≤ endL (k + 1) st n ∧ endL (k + 1) st n ≤ 7) ∧ ∀ {a e}, e ∈ st.es a → ∃ way l, Unp st.es 6 a e.to way ∧ way = a :: l ∧ l ≠ [] ∧ way.getLast? = some e.to ∧ Prc es way e.s e.d := by
  have B0 := G.btw w1 w2 h1 h2
  have B := Btw.rds (show (0 : Int) ≤ 16 by omega) B0 h
  have hk : k + 1 ≤ most := by
    cases k with
    | zero => omega
    | succ k =>
      obtain ⟨_, _, _, h2, _⟩ := h
      omega
  have hwh := wh_bd w1 w2 h1 h2
  have hU : ∀ {a e}, e ∈ st.es a → ∃ way l, Unp st.es 6 a e.to way ∧ way = a :: l ∧ l ≠ [] ∧ way.getLast? = some e.to ∧ Prc es way e.s e.d := fun {a e} he =>
    unpack B.lrd (fun he hm => Rds.own B0.lrd h he hm) 6 a e he (by have := (B.lrd.end_le a).2; omega)
  have hd : dbl 16 k ≤ 512 := by
    have : k ≤ 5 := by omega
    rcases (by omega : k = 0 ∨ k = 1 ∨ k = 2 ∨ k = 3 ∨ k = 4 ∨ k = 5) with rfl | rfl | rfl | rfl | rfl | rfl <;> decide
  refine ⟨⟨B.lrd.esy, B.cor.ends, fun {a e} he => ?_, fun n hn => ?_⟩, fun n => ?_, hU⟩
  · obtain ⟨b1, b2, b3, b4⟩ := B.bd he
    obtain ⟨way, l, u1, u2, u3, u4, u5⟩ := hU he
    subst u2
    have := (prc_bd G w1 w2 h1 h2 u5).2.2.2.2 u3
    exact ⟨b1, b2, by omega, by omega, this⟩
  · have := (crs_mem.1 hn).1
    omega
  · have := B.lrd.end_le n
    omega
end
/-- a search over levels of a grid's graph: its answer -/
structure Srch (W H : Int) (bl : Nat → Bool) (es : Nat → List LE) (out inn : List IE) (s d : Int) (f : Bool) : Prop where
  opt : ∀ {o i s0 d0 s1 d1 p q : Int}, srcE (crs W H bl (W * H).toNat) out o s0 d0 → srcE (crs W H bl (W * H).toNat) inn i s1 d1 → Wg (GrE es) o i p q → f = true ∧ val s d ≤ val (s0 + p + s1) (d0 + q + d1)
  snd : f = true → ∃ (o i : Nat) (s0 d0 s1 d1 p q : Int), srcE (crs W H bl (W * H).toNat) out (o : Int) s0 d0 ∧ srcE (crs W H bl (W * H).toNat) inn (i : Int) s1 d1 ∧ Wg (GrE es) (o : Int) (i : Int) p q ∧ s = s0 + p + s1 ∧ d = d0 + q + d1 ∧ 0 ≤ q ∧ q ≤ 640000
  no : f = false → s = 0 ∧ d = 0
section
variable {W H : Int} {bl : Nat → Bool} {es : Nat → List LE} {out inn : List IE}
theorem srch (G : GEs W H bl es) (w1 : 1 ≤ W) (w2 : W ≤ 16) (h1 : 1 ≤ H) (h2 : H ≤ 16) {most k : Nat} {st : LSt} (m6 : most ≤ 6) (m1 : 1 ≤ most) (h : Rds most (crs W H bl (W * H).toNat) ⟨fun _ => 0, es⟩ k st)
    {g : Int → Int × Int} (hA : Adm (crs W H bl (W * H).toNat) st.es g (srcE (crs W H bl (W * H).toNat) inn)) {way : List Nat} {s d : Int} {f : Bool} (hB : BestR (crs W H bl (W * H).toNat) ⟨endL (k + 1) st, st.es⟩ g out inn way s d f) (hwl : way.length ≤ 40000) : Srch W H bl es out inn s d f := by
  obtain ⟨O, _, hU⟩ := lvOk G w1 w2 h1 h2 m6 m1 h
  have hno : f = false → s = 0 ∧ d = 0 := by
    obtain ⟨_, _, _, _, _, _, _, _, h4, _⟩ := hB
    exact fun q => (h4 q).2
  obtain ⟨b1, b2⟩ := BestR.best (G.btw w1 w2 h1 h2) (fun _ => rfl) h O hU hA hB
  refine ⟨b1, fun q => ?_, hno⟩
  obtain ⟨o, i, t, s0, d0, s1, d1, p, q', c1, c2, c3, c4, c5, c6, c7⟩ := b2 q
  subst c3
  obtain ⟨_, j2, _, j4, _⟩ := prc_bd G w1 w2 h1 h2 c5
  have hl : (o :: t).length = t.length + 1 := rfl
  exact ⟨o, i, s0, d0, s1, d1, p, q', c1, c2, c5.way c4, c6, c7, j2, by omega⟩
theorem srcE_bd {L : List Nat} {l : List IE} {o s d : Int} (h : srcE L l o s d) : 0 ≤ s ∧ 0 ≤ d ∧ d ≤ 1048576 := by
  obtain ⟨e, _, ⟨_, h1, h2, h3, h4⟩, _, rfl, rfl⟩ := h
  exact ⟨h1, h3, h4⟩
theorem wg_nn {e2 : Nat → List LE} (hb : ∀ {a e}, e ∈ e2 a → 0 ≤ e.s ∧ 0 ≤ e.d) {o i p q : Int} (h : Wg (GrE e2) o i p q) : 0 ≤ p ∧ 0 ≤ q :=
  h (fun _ p q => 0 ≤ p ∧ 0 ≤ q) ⟨Int.le_refl _, Int.le_refl _⟩ (fun a s d b t u ⟨h1, h2⟩ ⟨e, k1, _, k3, k4⟩ => by
    have := hb k1
    exact ⟨by omega, by omega⟩)
theorem adm_none {L : List Nat} {lv : LSt} (O : LvOk L lv) : Adm L lv.es (fun _ => (0, 0)) (srcE L inn) := fun {b i s d p q} _ _ h2 h3 => by
  have h4 := wg_nn (fun he => ⟨(O.bd he).1, (O.bd he).2.1⟩) h3
  have h5 := srcE_bd h2
  have h6 := val_nonneg h4.1 h4.2
  have h7 := val_nonneg h5.1 h5.2.1
  show val 0 0 ≤ _
  have : val 0 0 = 0 := by decide
  omega
end
end Go.Proofs.YtmnpplkjhnoglaaGreatDoor
/-
  What connects a cell: package graph's 'Connect'.
-/
namespace Go.Proofs.YtmnpplkjhnoglaaGreatDoor
open Go.RowKit Go.Maps

end Go.Proofs.YtmnpplkjhnoglaaGreatDoor
/-
  Where one comes nearer: package reach's 'onward'.
-/
namespace Go.Proofs.YtmnpplkjhnoglaaGreatDoor
open Go.RowKit

end Go.Proofs.YtmnpplkjhnoglaaGreatDoor
