/-
  Texts laid together: SyC, SyD, Ray.
-/
import Derived.Test.YtmnpplkjhnoglaaGreatDoorP42
/-
  The second guess of 'SearchSays': the cost as if nothing were in the way.
-/
namespace Go.Proofs.YtmnpplkjhnoglaaGreatDoor
open Go.RowKit Go.Lib

end Go.Proofs.YtmnpplkjhnoglaaGreatDoor
/-
  The mathematics of the reference's search: labels that are lowered till nothing is lowered; and what it answers. (For SearchSays.)
-/
namespace Go.Proofs.YtmnpplkjhnoglaaGreatDoor
section
variable {L : List Nat} {es : Nat → List LE} {l : List IE} {B : Int → Option (Int × Int)}
/-- edges among L, each of them small -/
structure EsOk (L : List Nat) (es : Nat → List LE) : Prop where
  ends : ∀ {a e}, e ∈ es a → a ∈ L ∧ e.to ∈ L
  bd : ∀ {a e}, e ∈ es a → 0 ≤ e.s ∧ 0 ≤ e.d ∧ e.s ≤ 512 ∧ e.d ≤ 512
  small : ∀ n ∈ L, n < 256
/-- what holds of the labels -/
structure RB (L : List Nat) (es : Nat → List LE) (l : List IE) (B : Int → Option (Int × Int)) : Prop where
  lab : ∀ {a s d}, B a = some (s, d) → 0 ≤ a ∧ a.toNat ∈ L ∧ 0 ≤ s ∧ 0 ≤ d ∧ val s d ≤ 97750727262208 + (cnt B 256 : Int) * 47729847296
  snd : ∀ {a s d}, B a = some (s, d) → ∃ o s0 d0 p q, srcE L l o s0 d0 ∧ Wg (GrE es) o a p q ∧ s = s0 + p ∧ d = d0 + q
  hom : ∀ {o s d}, srcE L l o s d → ∃ s' d', B o = some (s', d') ∧ val s' d' ≤ val s d
theorem RB.big (h : RB L es l B) {a s d : Int} (hB : B a = some (s, d)) : 0 ≤ s ∧ 0 ≤ d ∧ s ≤ 2847923 ∧ d ≤ 2847923 ∧ val s d ≤ 109969568169984 := by
  obtain ⟨_, _, h1, h2, h3⟩ := h.lab hB
  have hc := cnt_le B 256
  have h4 : val s d ≤ 109969568169984 := by omega
  unfold val at h4 ⊢
  omega
theorem RB.start (L : List Nat) (es : Nat → List LE) : RB L es [] (fun _ => none) :=
  ⟨fun h => (by cases h), fun h => (by cases h), fun ⟨e, h, _⟩ => absurd h List.not_mem_nil⟩
/-- what the reference takes in of an edge from the beginning -/
def inR (L : List Nat) (B : Int → Option (Int × Int)) (e : IE) : Int → Option (Int × Int) := if decide (0 ≤ e.to ∧ e.to.toNat ∈ L) = true ∧ pushB B e.to e.s e.d = true then putH B e.to e.s e.d else B
theorem RB.in (O : EsOk L es) (h : RB L es l B) {e : IE} (hc : 0 ≤ e.s ∧ e.s ≤ 1048576 ∧ 0 ≤ e.d ∧ e.d ≤ 1048576) : RB L es (l ++ [e]) (inR L B e) := by
  have more : ∀ {o s d}, srcE L l o s d → srcE L (l ++ [e]) o s d := fun ⟨e', h1, h2⟩ => ⟨e', List.mem_append.2 (Or.inl h1), h2⟩
  have less : ∀ {o s d}, srcE L (l ++ [e]) o s d → srcE L l o s d ∨ (okE L e ∧ o = e.to ∧ s = e.s ∧ d = e.d) := fun ⟨e', h1, h2⟩ => by
    rcases List.mem_append.1 h1 with h1 | h1
    · exact Or.inl ⟨e', h1, h2⟩
    · rw [List.mem_singleton.1 h1] at h2; exact Or.inr h2
  unfold inR
  by_cases hin : 0 ≤ e.to ∧ e.to.toNat ∈ L
  · have ok : okE L e := ⟨hin, hc⟩
    cases hb : pushB B e.to e.s e.d with
    | false =>
      rw [if_neg (fun q => by cases q.2)]
      refine ⟨h.lab, fun ha => ?_, fun {o s d} ho => ?_⟩
      · obtain ⟨o, s0, d0, p, q, k1, k2⟩ := h.snd ha
        exact ⟨o, s0, d0, p, q, more k1, k2⟩
      · rcases less ho with ho | ⟨_, rfl, rfl, rfl⟩
        · exact h.hom ho
        · exact pushB_no hb
    | true =>
      rw [if_pos ⟨decide_eq_true hin, rfl⟩]
      have hlt := pushB_iff.1 hb
      have hsm := O.small _ hin.2
      obtain ⟨c1, c2⟩ := cnt_grow B (b := e.to) (s := e.s) (d := e.d) hin.1 (by omega)
      have hme : srcE L (l ++ [e]) e.to e.s e.d := ⟨e, List.mem_append.2 (Or.inr (List.mem_singleton.2 rfl)), ok, rfl, rfl, rfl⟩
      refine ⟨fun {a p q} ha => ?_, fun {a p q} ha => ?_, fun {o p q} ho => ?_⟩
      · by_cases ea : a = e.to
        · subst ea
          rw [putH_at] at ha
          cases ha
          exact ⟨hin.1, hin.2, hc.1, hc.2.2.1, by unfold val; omega⟩
        · rw [putH_off _ _ _ ea] at ha
          obtain ⟨k1, k2, k3, k4, k5⟩ := h.lab ha
          exact ⟨k1, k2, k3, k4, by omega⟩
      · by_cases ea : a = e.to
        · subst ea
          rw [putH_at] at ha
          cases ha
          exact ⟨e.to, e.s, e.d, 0, 0, hme, Wg.nil, by omega, by omega⟩
        · rw [putH_off _ _ _ ea] at ha
          obtain ⟨o, s0, d0, p, q, k1, k2⟩ := h.snd ha
          exact ⟨o, s0, d0, p, q, more k1, k2⟩
      · have key : ∀ {x y}, B o = some (x, y) → ∃ p' q', putH B e.to e.s e.d o = some (p', q') ∧ val p' q' ≤ val x y := fun {x y} hx => by
          by_cases ea : o = e.to
          · subst ea
            exact ⟨_, _, putH_at _ _ _ _, by have := hlt _ _ hx; omega⟩
          · exact ⟨x, y, by rw [putH_off _ _ _ ea]; exact hx, Int.le_refl _⟩
        rcases less ho with ho | ⟨_, rfl, rfl, rfl⟩
        · obtain ⟨x, y, k1, k2⟩ := h.hom ho
          obtain ⟨p', q', k3, k4⟩ := key k1
          exact ⟨p', q', k3, by omega⟩
        · exact ⟨_, _, putH_at _ _ _ _, Int.le_refl _⟩
  · rw [if_neg (fun q => hin (of_decide_eq_true q.1))]
    refine ⟨h.lab, fun ha => ?_, fun {o s d} ho => ?_⟩
    · obtain ⟨o, s0, d0, p, q, k1, k2⟩ := h.snd ha
      exact ⟨o, s0, d0, p, q, more k1, k2⟩
    · rcases less ho with ho | ⟨ok, _⟩
      · exact h.hom ho
      · exact absurd ok.1 hin
/-- lowered by an edge -/
theorem RB.low (O : EsOk L es) (h : RB L es l B) {n : Nat} {s d : Int} (hn : B (n : Int) = some (s, d)) {e : LE} (he : e ∈ es n) (hb : pushB B (e.to : Int) (s + e.s) (d + e.d) = true) :
    RB L es l (putH B (e.to : Int) (s + e.s) (d + e.d)) ∧ potG 109969568169985 (putH B (e.to : Int) (s + e.s) (d + e.d)) 256 < potG 109969568169985 B 256 := by
  have hlt := pushB_iff.1 hb
  obtain ⟨_, hnL, n1, n2, n3⟩ := h.lab hn
  obtain ⟨b1, b2, b3, b4⟩ := O.bd he
  have hto := (O.ends he).2
  have hsm := O.small _ hto
  obtain ⟨c1, c2⟩ := cnt_grow B (b := (e.to : Int)) (s := s + e.s) (d := d + e.d) (by omega) (by omega)
  have ed : GrE es (n : Int) (e.to : Int) e.s e.d := ⟨e, by rw [Int.toNat_natCast]; exact he, rfl, rfl, rfl⟩
  have hval : val (s + e.s) (d + e.d) = val s d + val e.s e.d := val_both ..
  have hve : 0 ≤ val e.s e.d ∧ val e.s e.d ≤ 47729847296 := by unfold val; omega
  have hvs := val_nonneg n1 n2
  have hnew : val (s + e.s) (d + e.d) ≤ 97750727262208 + (cnt (putH B (e.to : Int) (s + e.s) (d + e.d)) 256 : Int) * 47729847296 := by
    cases hq : B (e.to : Int) with
    | none =>
      rw [c2 hq]
      omega
    | some c =>
      have k1 := hlt c.1 c.2 hq
      obtain ⟨_, _, _, _, k2⟩ := h.lab (s := c.1) (d := c.2) hq
      omega
  refine ⟨⟨fun {a p q} ha => ?_, fun {a p q} ha => ?_, fun {o p q} ho => ?_⟩, ?_⟩
  · by_cases ea : a = (e.to : Int)
    · subst ea
      rw [putH_at] at ha
      cases ha
      exact ⟨by omega, by rw [Int.toNat_natCast]; exact hto, by omega, by omega, hnew⟩
    · rw [putH_off _ _ _ ea] at ha
      obtain ⟨k1, k2, k3, k4, k5⟩ := h.lab ha
      exact ⟨k1, k2, k3, k4, by omega⟩
  · by_cases ea : a = (e.to : Int)
    · subst ea
      rw [putH_at] at ha
      cases ha
      obtain ⟨o, s0, d0, p, q, k1, k2, k3, k4⟩ := h.snd hn
      exact ⟨o, s0, d0, p + e.s, q + e.d, k1, k2.step ed, by omega, by omega⟩
    · rw [putH_off _ _ _ ea] at ha
      exact h.snd ha
  · obtain ⟨x, y, k1, k2⟩ := h.hom ho
    by_cases ea : o = (e.to : Int)
    · subst ea
      exact ⟨_, _, putH_at _ _ _ _, by have := hlt _ _ k1; omega⟩
    · exact ⟨x, y, by rw [putH_off _ _ _ ea]; exact k1, k2⟩
  · have hc := cnt_le (putH B (e.to : Int) (s + e.s) (d + e.d)) 256
    refine potG_put _ _ _ 256 (by omega) (by omega) (by omega) (fun _ => by omega) (fun s' d' hq => hlt s' d' hq)
/-- of n nothing is left to be lowered -/
def Rlxd (es : Nat → List LE) (B : Int → Option (Int × Int)) (n : Nat) : Prop := ∀ {s d e}, B (n : Int) = some (s, d) → e ∈ es n → ∃ s' d', B (e.to : Int) = some (s', d') ∧ val s' d' ≤ val s d + val e.s e.d
theorem RB.least (h : RB L es l B) (hr : ∀ n ∈ L, Rlxd es B n) {o a s0 d0 p q : Int} (ho : srcE L l o s0 d0) (hw : Wg (GrE es) o a p q) : ∃ s d, B a = some (s, d) ∧ val s d ≤ val s0 d0 + val p q :=
  hw (fun a p q => ∃ s d, B a = some (s, d) ∧ val s d ≤ val s0 d0 + val p q) (by
    obtain ⟨s, d, h1, h2⟩ := h.hom ho
    exact ⟨s, d, h1, by have : val 0 0 = 0 := by decide
                        omega⟩) (fun a p q b t u ⟨s, d, h1, h2⟩ ⟨e, k1, k2, k3, k4⟩ => by
    obtain ⟨a0, aL, _⟩ := h.lab h1
    have ea : ((a.toNat : Nat) : Int) = a := by omega
    obtain ⟨s', d', j1, j2⟩ := hr a.toNat aL (by rw [ea]; exact h1) k1
    subst k2 k3 k4
    exact ⟨s', d', j1, by rw [val_both]; omega⟩)
end
end Go.Proofs.YtmnpplkjhnoglaaGreatDoor
/-
  What all cells cost from one, as one value: the reference's 'from'.
-/
namespace Go.Proofs.YtmnpplkjhnoglaaGreatDoor
open Go.RowKit

/-- a ray's cells -/
def rayL (c : Int) (F : Int → Option (Int × Int)) : List Value := Value.int .i64 c :: (costL F ++ isL F)
/-- .. of an empty one -/
def zR (c : Int) : List Value := Value.int .i64 c :: (List.replicate 512 (Value.int .i64 0) ++ List.replicate 256 (Value.bool false))
theorem zR_len (c : Int) : (zR c).length = 769 := by unfold zR; rw [List.length_cons, List.length_append, List.length_replicate, List.length_replicate]
theorem rayL_len (c : Int) (F : Int → Option (Int × Int)) : (rayL c F).length = 769 := by unfold rayL; rw [List.length_cons, List.length_append, costL_len, isL_len]
theorem zR_one (c : Int) : ∀ v ∈ zR c, v.oneCell' = true := by
  intro v hv
  unfold zR at hv
  rw [List.mem_cons, List.mem_append, List.mem_replicate, List.mem_replicate] at hv
  rcases hv with rfl | ⟨_, rfl⟩ | ⟨_, rfl⟩ <;> rfl
theorem rayL_one (c : Int) (F : Int → Option (Int × Int)) : ∀ v ∈ rayL c F, v.oneCell' = true := by
  intro v hv
  unfold rayL at hv
  rw [List.mem_cons, List.mem_append] at hv
  rcases hv with rfl | h | h
  · rfl
  · exact costL_one F v h
  · exact isL_one F v h
theorem run_alloc112 (w : World) : (Instr.alloc 103 true (.tuple #[])).run Tryz.prog w = .ok (.pointer (some ⟨w.heap.size, 0, none⟩)) (w.alloc (.cells (zR 0).toArray 103)) := by kernel_rfl
theorem built112 (c : Int) : Tryz.prog.built 103 [(0, .int .i64 c)] = some (zR c).toArray := by kernel_rfl
theorem info112 : (Tryz.prog.info? 103).map (·.size) = some 769 := by kernel_rfl
/-- memory of a type, by what is laid -/
theorem wpList_alloc_by {t : TypeId} {z : Array Value} (hal : ∀ w : World, (Instr.alloc t true (.tuple #[])).run Tryz.prog w = .ok (.pointer (some ⟨w.heap.size, 0, none⟩)) (w.alloc (.cells z t))) {ops : Array Oper} {rest : List Oper} {o : Oper} {a : Act} {w : World} {Q : Exit → Act → World → Prop} (hgd : o.guard = none) (ho : o.op = .alloc t)
    (h : wpList Tryz.prog ops Q rest (a.put o.dst (.pointer (some ⟨w.heap.size, 0, none⟩))) (w.alloc (.cells z t))) : wpList Tryz.prog ops Q (o :: rest) a w :=
  wpList_plain hgd fun _ hK => by
    unfold Oper.wp execOp
    simp only [ho, Sem.run_bind, hal w, Result.andThen_ok]
    exact hK _ _ h
/-- a struct whose first field is said -/
theorem wpList_build_by {t : TypeId} {z : Array Value} {v : Value} (hbu : Tryz.prog.built t [(0, v)] = some z) {ops : Array Oper} {rest : List Oper} {o : Oper} {a : Act} {w : World} {Q : Exit → Act → World → Prop} (hgd : o.guard = none) (x : Operand) (ho : o.op = .build t #[(0, x)])
    (hx : a.eval x = v) (h : wpList Tryz.prog ops Q rest (a.put o.dst (.agg z)) w) : wpList Tryz.prog ops Q (o :: rest) a w :=
  wpList_plain hgd fun _ hK => by
    have e : Tryz.prog.built t ((#[(0, x)] : Array (Nat × Operand)).map fun (i, x) => (i, a.eval x)).toList = some z := by
      have e0 : ((#[(0, x)] : Array (Nat × Operand)).map fun (i, x) => (i, a.eval x)).toList = [(0, a.eval x)] := by simp
      rw [e0, hx]
      exact hbu
    refine wp_build t #[(0, x)] ho (by rw [e]; rfl) ?_
    rw [e]
    exact hK _ _ h

theorem rayL_at {c : Int} {F : Int → Option (Int × Int)} (i : Nat) : (rayL c F)[1 + i]? = (costL F ++ isL F)[i]? := by
  unfold rayL
  rw [Nat.add_comm, List.getElem?_cons_succ]

/-- a ray lies in block b -/
structure RayAt (w : World) (b : Nat) (c : Int) (F : Int → Option (Int × Int)) : Prop where
  a0 : w.cell? ⟨b, 0, none⟩ = some (.int .i64 c)
  s0 : ∀ p : Nat, p < 256 → w.cell? ⟨b, 1 + p * 2, none⟩ = some (.int .i64 (labS F p))
  d0 : ∀ p : Nat, p < 256 → w.cell? ⟨b, 1 + p * 2 + 1, none⟩ = some (.int .i64 (labD F p))
  i0 : ∀ p : Nat, p < 256 → w.cell? ⟨b, 513 + p, none⟩ = some (.bool (F p).isSome)
theorem RayAt.below {w w' : World} {b : Nat} {c : Int} {F : Int → Option (Int × Int)} (h : RayAt w b c F) (hb : Below w.heap.size w w') : RayAt w' b c F := by
  have k : ∀ {a : Addr} {v : Value}, w.cell? a = some v → w'.cell? a = some v := fun {a v} h => (hb.cell (World.block_lt_of_cell? w a h)).trans h
  exact ⟨k h.a0, fun p hp => k (h.s0 p hp), fun p hp => k (h.d0 p hp), fun p hp => k (h.i0 p hp)⟩
theorem costL_at (F : Int → Option (Int × Int)) (i : Nat) (hi : i < 512) : (costL F)[i]? = some (Value.int .i64 (if i % 2 = 0 then labS F (i / 2 : Nat) else labD F (i / 2 : Nat))) := by
  unfold costL
  rw [List.getElem?_map, List.getElem?_range hi]
  rfl
theorem isL_at (F : Int → Option (Int × Int)) (i : Nat) (hi : i < 256) : (isL F)[i]? = some (Value.bool (F (i : Int)).isSome) := by
  unfold isL
  rw [List.getElem?_map, List.getElem?_range hi]
  rfl
theorem rayAt_range {w : World} {b : Nat} {c : Int} {F : Int → Option (Int × Int)} (h : w.rangeAt b 0 (rayL c F)) : RayAt w b c F := by
  have at_ : ∀ j v, (rayL c F)[j]? = some v → w.cell? ⟨b, j, none⟩ = some v := fun j v hj => by have := h j v hj; rw [Nat.zero_add] at this; exact this
  refine ⟨at_ 0 _ rfl, fun p hp => at_ _ _ ?_, fun p hp => at_ _ _ ?_, fun p hp => at_ _ _ ?_⟩
  · rw [rayL_at, List.getElem?_append_left (by rw [costL_len]; omega), costL_at F _ (by omega)]
    rw [if_pos (by omega), show p * 2 / 2 = p by omega]
  · rw [show 1 + p * 2 + 1 = 1 + (p * 2 + 1) by omega, rayL_at, List.getElem?_append_left (by rw [costL_len]; omega), costL_at F _ (by omega)]
    rw [if_neg (by omega), show (p * 2 + 1) / 2 = p by omega]
  · rw [show 513 + p = 1 + (512 + p) by omega, rayL_at, List.getElem?_append_right (by rw [costL_len]; omega), costL_len, show 512 + p - 512 = p by omega]
    exact isL_at F p hp
theorem range_ray {w : World} {b : Nat} {c : Int} {F : Int → Option (Int × Int)} (h0 : w.cell? ⟨b, 0, none⟩ = some (.int .i64 c)) (h1 : w.rangeAt b 1 (costL F)) (h2 : w.rangeAt b 513 (isL F)) : w.rangeAt b 0 (rayL c F) := by
  intro j v hj
  rw [Nat.zero_add]
  cases j with
  | zero =>
    have : v = .int .i64 c := (Option.some.inj hj).symm
    rw [this]; exact h0
  | succ j =>
    rw [Nat.add_comm, rayL_at] at hj
    by_cases q : j < 512
    · rw [List.getElem?_append_left (by rw [costL_len]; exact q)] at hj
      rw [Nat.add_comm]
      exact h1 j v hj
    · rw [List.getElem?_append_right (by rw [costL_len]; omega), costL_len] at hj
      have := h2 (j - 512) v hj
      rw [show 513 + (j - 512) = j + 1 by omega] at this
      exact this
theorem there_sub {w : World} {b o n o' n' : Nat} (h : w.there b o n) (h1 : o ≤ o') (h2 : o' + n' ≤ o + n) : w.there b o' n' := fun j hj => by
  have := h (o' - o + j) (by omega)
  rw [show o + (o' - o + j) = o' + j by omega] at this
  exact this
theorem there_below {w w' : World} {b o n : Nat} (h : w.there b o n) (hl : b < w.heap.size) (hb : Below w.heap.size w w') : w'.there b o n := fun j hj => by
  rw [hb.cell (p := ⟨b, o + j, none⟩) hl, hb.frozen (p := ⟨b, o + j, none⟩) hl]
  exact h j hj

def Rayed (w w' : World) (e : Ending) (W H : Int) (bl : Nat → Bool) (o : Int) : Prop :=
  ∃ F, e = .returned (.agg (rayL o F).toArray) ∧ Best (Edge W H bl) o F ∧ Below w.heap.size w w'

theorem fz_of {w : World} {b o n : Nat} (h : w.there b o n) (j : Nat) (hj : j < n) : w.frozen? ⟨b, o + 0 + j, none⟩ = false := (h j hj).2
theorem is_of {w : World} {b o n : Nat} (h : w.there b o n) (j : Nat) (hj : j < n) : (w.cell? ⟨b, o + 0 + j, none⟩).isSome = true := (h j hj).1
theorem stored {w : World} {b o n : Nat} {l : List Value} (hl : l.length = n) (h : w.there b o n) (ho : ∀ v ∈ l, v.oneCell' = true) : (storeCells ⟨b, o, none⟩ l).run Tryz.prog w = .ok () (w.setCells b o l) :=
  run_storeCells_cells (P := Tryz.prog) b o l 0 w (fun j hj => is_of h j (by omega)) (fun j hj => fz_of h j (by omega)) ho

theorem results_one {P : Program} {fn : Func} {tmps : Array Value} {w : World} {i : Nat} {s : TypeId} {A : Addr} {u : Value} (hr : fn.results = #[.cell i s]) (a : tmps.getD i undef = .pointer (some A))
    (h : (loadVar s A).run P w = .ok u w) : (results fn tmps).run P w = .ok u w := by
  unfold results
  rw [hr]
  rw [Array.getD_eq_getD_getElem?] at a
  simp [a, h, asAddr]

set_option maxHeartbeats 1000000 in
set_option maxRecDepth 1000000 in
theorem from' {M : Nat} {W H V : Int} {bl : Nat → Bool} {z0 zc : List Value} (c : Nat) (w : World) (g : RefAt w M W H V bl) (hml : M < w.heap.size) (hr : inB W H c = true)
    (hal : ∀ w : World, (Instr.alloc 103 true (.tuple #[])).run Tryz.prog w = .ok (.pointer (some ⟨w.heap.size, 0, none⟩)) (w.alloc (.cells z0.toArray 103)))
    (hbu : Tryz.prog.built 103 [(0, .int .i64 (c : Int))] = some zc.toArray) (l0 : z0.length = 769) (lc : zc.length = 769) (oc : ∀ v ∈ zc, v.oneCell' = true) (a0 : zc[0]? = some (.int .i64 (c : Int))) :
    Calls Tryz.prog 50 #[.pointer (some ⟨M, 0, none⟩), .int .i64 (c : Int)] w fun e w' => Rayed w w' e W H bl c := by
  have th0 := new_there w z0 103 769 l0
  have th1 := new_there (w.alloc (.cells z0.toArray 103)) z0 103 769 l0
  have hz1 : (w.alloc (.cells z0.toArray 103)).heap.size = w.heap.size + 1 := by simp
  rw [hz1] at th1
  have th0 := World.there_alloc th0 (.cells z0.toArray 103)
  have B1 : Below w.heap.size w ((w.alloc (.cells z0.toArray 103)).alloc (.cells z0.toArray 103)) := ((Below.refl _ _).alloc (Nat.le_refl _) _).alloc (by simp) _
  have hst := stored lc th1 oc
  have B2 : Below w.heap.size w (((w.alloc (.cells z0.toArray 103)).alloc (.cells z0.toArray 103)).setCells (w.heap.size + 1) 0 zc) := below_setCells _ (by omega) _ _ B1
  have hr1 := World.rangeAt_setCells_same ((w.alloc (.cells z0.toArray 103)).alloc (.cells z0.toArray 103)) (w.heap.size + 1) 0 zc (by rw [lc]; exact th1)
  have ha1 := hr1 0 _ a0
  have th0 := World.there_setCells th0 (w.heap.size + 1) 0 zc
  have th1 := World.there_setCells th1 (w.heap.size + 1) 0 zc
  go_enter Tryz.func50, Tryz.ntmps50
  go_wp2_with (first | (refine wpList_alloc_by hal rfl rfl ?_) | (refine wpList_build_by hbu rfl _ rfl rfl ?_))
  clear hst hr1 B1 oc a0
  generalize ((w.alloc (.cells z0.toArray 103)).alloc (.cells z0.toArray 103)).setCells (w.heap.size + 1) 0 zc = W2 at *
  have hl1 : w.heap.size + 1 < W2.heap.size := World.block_lt_of_cell? _ _ ha1
  have hfl := rflood_any c W2 (g.below B2 hml) (Nat.lt_of_lt_of_le hml B2.size) hr
  refine hfl.mono ?_
  rintro e w3 ⟨F, rfl, BF, hb3⟩
  have B3 := B2.trans (hb3.mono B2.size)
  have ha3 := (hb3.cell (p := ⟨w.heap.size + 1, 0 + 0, none⟩) hl1).trans ha1
  have th0 := there_below th0 (by omega) hb3
  have th1 := there_below th1 hl1 hb3
  have lC := costL_len F
  have lI := isL_len F
  have oC := costL_one F
  have oI := isL_one F
  have oR := rayL_one (c : Int) F
  have lR := rayL_len (c : Int) F
  have tC : w3.there (w.heap.size + 1) 1 512 := there_sub th1 (by omega) (by omega)
  have tI : (w3.setCells (w.heap.size + 1) 1 (costL F)).there (w.heap.size + 1) 513 256 := World.there_setCells (there_sub th1 (by omega) (by omega)) _ _ _
  have s1 := stored lC tC oC
  have s2 := stored lI tI oI
  have rC : ((w3.setCells (w.heap.size + 1) 1 (costL F)).setCells (w.heap.size + 1) 513 (isL F)).rangeAt (w.heap.size + 1) 1 (costL F) := World.rangeAt_setCells_apart (World.rangeAt_setCells_same _ _ _ _ (by rw [lC]; exact tC)) _ _ _ (Or.inr (Or.inl (by omega)))
  have rI : ((w3.setCells (w.heap.size + 1) 1 (costL F)).setCells (w.heap.size + 1) 513 (isL F)).rangeAt (w.heap.size + 1) 513 (isL F) := World.rangeAt_setCells_same _ _ _ _ (by rw [lI]; exact tI)
  have rA : ((w3.setCells (w.heap.size + 1) 1 (costL F)).setCells (w.heap.size + 1) 513 (isL F)).cell? ⟨w.heap.size + 1, 0, none⟩ = some (.int .i64 (c : Int)) := by
    have k1 : w3.rangeAt (w.heap.size + 1) 0 [.int .i64 (c : Int)] := fun j v hj => by
      cases j with
      | zero => cases hj; exact ha3
      | succ j => cases hj
    have k2 := World.rangeAt_setCells_apart (World.rangeAt_setCells_apart k1 (w.heap.size + 1) 1 (costL F) (Or.inr (Or.inl (by simp)))) (w.heap.size + 1) 513 (isL F) (Or.inr (Or.inl (by simp)))
    exact k2 0 _ rfl
  have rR := range_ray rA rC rI
  have B4 : Below w.heap.size w ((w3.setCells (w.heap.size + 1) 1 (costL F)).setCells (w.heap.size + 1) 513 (isL F)) := below_setCells _ (by omega) _ _ (below_setCells _ (by omega) _ _ B3)
  have th0 := World.there_setCells (World.there_setCells th0 (w.heap.size + 1) 1 (costL F)) (w.heap.size + 1) 513 (isL F)
  have s3 := stored lR th0 oR
  have rF : (((w3.setCells (w.heap.size + 1) 1 (costL F)).setCells (w.heap.size + 1) 513 (isL F)).setCells w.heap.size 0 (rayL (c : Int) F)).rangeAt w.heap.size 0 (rayL (c : Int) F) := World.rangeAt_setCells_same _ _ _ _ (by rw [lR]; exact th0)
  have B5 : Below w.heap.size w (((w3.setCells (w.heap.size + 1) 1 (costL F)).setCells (w.heap.size + 1) 513 (isL F)).setCells w.heap.size 0 (rayL (c : Int) F)) := below_setCells _ (Nat.le_refl _) _ _ B4
  clear rC rI rA oC oI tC tI ha3 ha1 B3 B2 hfl hb3 B4
  generalize hRL : rayL (c : Int) F = RL at *
  have HRL : Hid (rayL (c : Int) F = RL) := hRL
  clear hRL
  generalize costL F = CL at *
  generalize isL F = IL at *
  go_wp2_with (refine wpList_load_mid rfl 103 _ rfl (w.heap.size + 1) 0 rfl RL _ rR Tryz.underlying103 rfl (by rw [info112, lR]) ?_)
  refine bodyPost_ret (v := .agg RL.toArray) (results_one Tryz.results50 rfl (run_loadVar_mid _ w.heap.size 0 103 RL _ rF Tryz.underlying103 rfl (by rw [info112, lR]))) rfl ⟨F, by rw [HRL.out], BF, B5⟩

theorem from_any {M : Nat} {W H V : Int} {bl : Nat → Bool} (c : Nat) (w : World) (g : RefAt w M W H V bl) (hml : M < w.heap.size) (hr : inB W H c = true) :
    Calls Tryz.prog 50 #[.pointer (some ⟨M, 0, none⟩), .int .i64 (c : Int)] w fun e w' => Rayed w w' e W H bl c :=
  from' c w g hml hr run_alloc112 (built112 c) (zR_len 0) (zR_len c) (zR_one c) rfl
end Go.Proofs.YtmnpplkjhnoglaaGreatDoor
