/-
  Texts laid together: LevB, SrM, MapF.
-/
import Derived.Test.YtmnpplkjhnoglaaGreatDoorP4
import Derived.WalkKit
import Derived.WalkSpells
import Derived.Maps.OwnSet
import Derived.Maps.OwnOps
import Derived.Deep.QuietTactic
import Derived.BigQuiet
/-
  What levels' edges cost at most, and where they lead. (For levels.)
-/
namespace Go.Proofs.YtmnpplkjhnoglaaGreatDoor

/-- edges lead from corners to corners; what has a level is one -/
structure Cor (L : List Nat) (st : LSt) : Prop where
  ends : ∀ {a e}, e ∈ st.es a → a ∈ L ∧ e.to ∈ L
  lev : ∀ {n}, 0 < st.lev n → n ∈ L
/-- while the round of level t goes on: what was there before it costs no more than K, what it adds twice that -/
structure Bdd (t : Nat) (K : Int) (st : LSt) : Prop where
  pos : ∀ {a e}, e ∈ st.es a → 0 ≤ e.s ∧ 0 ≤ e.d
  old : ∀ {a e}, e ∈ st.es a → (e.mid < 0 ∨ st.lev e.mid.toNat ≠ t) → e.s ≤ K ∧ e.d ≤ K
  new : ∀ {a e}, e ∈ st.es a → e.s ≤ 2 * K ∧ e.d ≤ 2 * K
section
variable {t n : Nat} {K : Int} {L : List Nat} {st st' : LSt} {nr nr' : Nat → Bool} {g : Bool}
/-- what a turn's edges are -/
theorem Turn.split (hE : Esy st.es) (h : Turn t n st nr st' nr' g) {k : Nat} {e : LE} (he : e ∈ st'.es k) :
    e ∈ st.es k ∨ (st.lev n = 0 ∧ nr n = false ∧ st'.lev n = t ∧ e.mid = n ∧ ∃ e1 ∈ st.es n, e1.to = k ∧ ∃ e2 ∈ st.es n, e2.to = e.to ∧ e.s = e1.s + e2.s ∧ e.d = e1.d + e2.d) := by
  rcases h with ⟨_, rfl, _⟩ | ⟨hn, p, _, ⟨_, rfl, _⟩ | ⟨_, rfl, _⟩⟩
  · exact Or.inl he
  · exact Or.inl he
  · have hfe := fun {x : Nat × LE} (hx : x ∈ moreF p n (feF st n)) => moreF_mem (feF_ord (hE.ord n)) hx
    have hne : ∀ x ∈ moreF p n (feF st n), x.1 ≠ x.2.to := fun x hx => by
      obtain ⟨a, _, b, _, h3, _, rfl⟩ := hfe hx
      exact Nat.ne_of_lt h3
    have hn0 : st.lev n = 0 := by
      rcases Nat.eq_zero_or_pos (st.lev n) with h | h
      · exact h
      · exact absurd (Or.inl h) hn
    have hnn : nr n = false := by
      cases h : nr n with
      | false => rfl
      | true => exact absurd (Or.inr h) hn
    rcases (layAll_mem hE hne).2 k e he with h | ⟨x, hx, h⟩
    · exact Or.inl h
    · obtain ⟨a, ha, b, hb, _, _, rfl⟩ := hfe hx
      have ha' := (feF_mem.1 ha).1
      have hb' := (feF_mem.1 hb).1
      right
      rcases h with ⟨rfl, rfl⟩ | ⟨rfl, rfl⟩
      · exact ⟨hn0, hnn, if_pos rfl, rfl, a, ha', rfl, b, hb', rfl, rfl, rfl⟩
      · exact ⟨hn0, hnn, if_pos rfl, rfl, b, hb', rfl, a, ha', rfl, Int.add_comm _ _, Int.add_comm _ _⟩
theorem Turn.lev (h : Turn t n st nr st' nr' g) (k : Nat) : st'.lev k = st.lev k ∨ (k = n ∧ st'.lev k = t) := by
  rcases h with ⟨_, rfl, _⟩ | ⟨hn, p, _, ⟨_, rfl, _⟩ | ⟨_, rfl, _⟩⟩
  · exact Or.inl rfl
  · exact Or.inl rfl
  · by_cases e : k = n
    · exact Or.inr ⟨e, if_pos e⟩
    · exact Or.inl (if_neg e)
theorem Cor.turn (hE : Esy st.es) (C : Cor L st) (hn : n ∈ L) (h : Turn t n st nr st' nr' g) : Cor L st' := by
  refine ⟨fun {a e} he => ?_, fun {k} hk => ?_⟩
  · rcases h.split hE he with h1 | ⟨_, _, _, _, e1, f1, f2, e2, f3, f4, _⟩
    · exact C.ends h1
    · exact ⟨by rw [← f2]; exact (C.ends f1).2, by rw [← f4]; exact (C.ends f3).2⟩
  · rcases h.lev k with h1 | ⟨rfl, _⟩
    · rw [h1] at hk; exact C.lev hk
    · exact hn
theorem Bdd.turn (I : Lin t st nr) (_h0 : 0 ≤ K) (B : Bdd t K st) (h : Turn t n st nr st' nr' g) : Bdd t K st' := by
  have hsum : ∀ {k e}, e ∈ st'.es k → e ∈ st.es k ∨ (st'.lev n = t ∧ e.mid = n ∧ 0 ≤ e.s ∧ 0 ≤ e.d ∧ e.s ≤ 2 * K ∧ e.d ≤ 2 * K) := fun {k e} he => by
    rcases h.split I.esy he with h1 | ⟨h2, h3, h4, h5, e1, f1, _, e2, f3, _, f5, f6⟩
    · exact Or.inl h1
    · have key : ∀ {x : LE}, x ∈ st.es n → 0 ≤ x.s ∧ 0 ≤ x.d ∧ x.s ≤ K ∧ x.d ≤ K := fun {x} hx => by
        obtain ⟨p1, p2⟩ := B.pos hx
        have hold : x.mid < 0 ∨ st.lev x.mid.toNat ≠ t := by
          by_cases hm : x.mid < 0
          · exact Or.inl hm
          · right; intro hl
            have := I.new hx (by omega) hl
            rw [h3] at this; cases this
        obtain ⟨q1, q2⟩ := B.old hx hold
        exact ⟨p1, p2, q1, q2⟩
      have k1 := key f1
      have k2 := key f3
      exact Or.inr ⟨h4, h5, by omega, by omega, by omega, by omega⟩
  refine ⟨fun {a e} he => ?_, fun {a e} he hm => ?_, fun {a e} he => ?_⟩
  · rcases hsum he with h1 | ⟨_, _, h2, h3, _⟩
    · exact B.pos h1
    · exact ⟨h2, h3⟩
  · rcases hsum he with h1 | ⟨h2, h3, _⟩
    · refine B.old h1 ?_
      rcases hm with hm | hm
      · exact Or.inl hm
      · by_cases h0 : e.mid < 0
        · exact Or.inl h0
        · right
          rcases h.lev e.mid.toNat with h4 | ⟨h4, h5⟩
          · rw [← h4]; exact hm
          · exact absurd h5 hm
    · rcases hm with hm | hm
      · omega
      · have e1 : e.mid.toNat = n := by omega
        rw [e1] at hm
        exact absurd h2 hm
  · rcases hsum he with h1 | ⟨_, _, _, _, h2, h3⟩
    · exact B.new h1
    · exact ⟨h2, h3⟩
end
/-- all that the turns of a round keep -/
structure All (L : List Nat) (t : Nat) (K : Int) (st : LSt) (nr : Nat → Bool) : Prop where
  lin : Lin t st nr
  cor : Cor L st
  bdd : Bdd t K st
theorem All.turn {L : List Nat} {t n : Nat} {K : Int} {st st' : LSt} {nr nr' : Nat → Bool} {g : Bool} (A : All L t K st nr) (h0 : 0 ≤ K) (hn : n ∈ L) (h : Turn t n st nr st' nr' g) : All L t K st' nr' :=
  ⟨A.lin.turn h, A.cor.turn A.lin.esy hn h, A.bdd.turn A.lin h0 h⟩
theorem All.rnd {L : List Nat} {t : Nat} {K : Int} (h0 : 0 ≤ K) : ∀ {M : List Nat} {st st' : LSt} {nr nr' : Nat → Bool} {g : Bool}, (∀ n ∈ M, n ∈ L) → All L t K st nr → Rnd t M st nr st' nr' g → All L t K st' nr'
  | [], _, _, _, _, _, _, A, ⟨h1, h2, _⟩ => by rw [h1, h2]; exact A
  | n :: _, _, _, _, _, _, hM, A, ⟨_, _, _, _, h1, h2, _⟩ => (A.turn h0 (hM n (List.mem_cons_self ..)) h1).rnd h0 (fun m hm => hM m (List.mem_cons_of_mem _ hm)) h2
/-- between rounds -/
structure Btw (L : List Nat) (k : Nat) (K : Int) (st : LSt) : Prop where
  lrd : Lrd k st
  cor : Cor L st
  bd : ∀ {a e}, e ∈ st.es a → 0 ≤ e.s ∧ 0 ≤ e.d ∧ e.s ≤ K ∧ e.d ≤ K
theorem Btw.all {L : List Nat} {k : Nat} {K : Int} {st : LSt} (_h0 : 0 ≤ K) (B : Btw L k K st) : All L (k + 1) K st (fun _ => false) :=
  ⟨B.lrd.lin, B.cor, fun he => ⟨(B.bd he).1, (B.bd he).2.1⟩, fun he _ => ⟨(B.bd he).2.2.1, (B.bd he).2.2.2⟩, fun he => by have := B.bd he; omega⟩
theorem All.btw {L : List Nat} {t : Nat} {K : Int} {st : LSt} {nr : Nat → Bool} (A : All L t K st nr) : Btw L t (2 * K) st :=
  ⟨A.lin.lrd, A.cor, fun he => ⟨(A.bdd.pos he).1, (A.bdd.pos he).2, A.bdd.new he⟩⟩
def dbl (K : Int) : Nat → Int
  | 0 => K
  | k + 1 => 2 * dbl K k
theorem dbl_nonneg {K : Int} (h : 0 ≤ K) : ∀ k, 0 ≤ dbl K k
  | 0 => h
  | k + 1 => by have := dbl_nonneg h k; show 0 ≤ 2 * dbl K k; omega
theorem Btw.rds {most : Nat} {L : List Nat} {K : Int} {st0 : LSt} (hK : 0 ≤ K) (h0 : Btw L 0 K st0) : ∀ {k : Nat} {st : LSt}, Rds most L st0 k st → Btw L k (dbl K k) st
  | 0, st, h => by
    have e : st = st0 := h
    rw [e]; exact h0
  | k + 1, _, ⟨_, _, h1, _, h2⟩ => (((Btw.rds hK h0 h1).all (dbl_nonneg hK k)).rnd (dbl_nonneg hK k) (fun _ h => h) h2).btw
end Go.Proofs.YtmnpplkjhnoglaaGreatDoor
/-
  Up, along and down: over levels there is a way that costs no more than one over the graph's own edges. (For search.)
-/
namespace Go.Proofs.YtmnpplkjhnoglaaGreatDoor

section
variable {Ed Ed' : Int → Int → Int → Int → Prop} {o a b s d t u : Int}
end
section
variable {t n : Nat} {st st' : LSt} {nr nr' : Nat → Bool}
end
/-- an edge -/
def GrE (es : Nat → List LE) (a b t u : Int) : Prop := ∃ e ∈ es a.toNat, b = (e.to : Int) ∧ t = e.s ∧ u = e.d
end Go.Proofs.YtmnpplkjhnoglaaGreatDoor
/-
  A map with whole numbers as keys that lies in a block, told as a function of the key; and worlds that differ but in some blocks.
-/
namespace Go.Proofs.YtmnpplkjhnoglaaGreatDoor
open Go.RowKit Go.Maps

/-- what old blocks may have turned -/
structure Keep (F : Nat → Prop) (w w' : World) : Prop where
  os : w'.os = w.os
  tape : w'.tape = w.tape
  output : w'.output = w.output
  size : w.heap.size ≤ w'.heap.size
  block : ∀ k, k < w.heap.size → ¬ F k → w'.heap[k]? = w.heap[k]?

theorem Keep.refl (F : Nat → Prop) (w : World) : Keep F w w := ⟨rfl, rfl, rfl, Nat.le_refl _, fun _ _ _ => rfl⟩
theorem Keep.trans {F G : Nat → Prop} {a b c : World} (h : Keep F a b) (k : Keep G b c) (hs : ∀ i, i < a.heap.size → G i → F i) : Keep F a c :=
  ⟨k.os.trans h.os, k.tape.trans h.tape, k.output.trans h.output, Nat.le_trans h.size k.size, fun i hi hn => (k.block i (Nat.lt_of_lt_of_le hi h.size) (fun g => hn (hs i hi g))).trans (h.block i hi hn)⟩
theorem Keep.mono {F G : Nat → Prop} {a b : World} (h : Keep F a b) (hs : ∀ i, i < a.heap.size → F i → G i) : Keep G a b :=
  ⟨h.os, h.tape, h.output, h.size, fun i hi hn => h.block i hi (fun g => hn (hs i hi g))⟩
theorem Keep.grown {F : Nat → Prop} {a b c : World} {row : Option Nat} (h : Keep F a b) (hg : b.grownBy c row) (hr : ∀ k, row = some k → k < a.heap.size → F k) : Keep F a c :=
  ⟨hg.os.trans h.os, hg.tape.trans h.tape, hg.output.trans h.output, Nat.le_trans h.size hg.size, fun i hi hn => (hg.block i (Nat.lt_of_lt_of_le hi h.size) (fun e => hn (hr i e.symm hi))).trans (h.block i hi hn)⟩
theorem Keep.alloc {F : Nat → Prop} {a b : World} (h : Keep F a b) (o : Obj) : Keep F a (b.alloc o) := h.grown (World.grownBy_alloc b o none) (by simp)
theorem Keep.setCell {F : Nat → Prop} {a b : World} (h : Keep F a b) {p : Addr} (hp : p.block < a.heap.size → F p.block) (u : Value) : Keep F a (b.setCell p u) :=
  ⟨h.os, h.tape, h.output, by simpa using h.size, fun i hi hn => (Below.heap_setCell b p u i (fun e => hn (by rw [e] at hi ⊢; exact hp hi))).trans (h.block i hi hn)⟩
theorem Keep.drewN {F : Nat → Prop} {a b : World} (h : Keep F a b) (m : Nat) : Keep F a (b.drewN m) := ⟨h.os, h.tape, h.output, h.size, h.block⟩
theorem Keep.drew {F : Nat → Prop} {a b : World} (h : Keep F a b) : Keep F a b.drew := ⟨h.os, h.tape, h.output, h.size, h.block⟩
theorem Keep.below {F : Nat → Prop} {a b c : World} (h : Keep F a b) (hb : Below b.heap.size b c) : Keep F a c :=
  ⟨hb.os.trans h.os, hb.tape.trans h.tape, hb.output.trans h.output, Nat.le_trans h.size hb.size, fun i hi hn => (hb.block i (Nat.lt_of_lt_of_le hi h.size)).trans (h.block i hi hn)⟩
theorem Keep.of_below {F : Nat → Prop} {b c : World} (hb : Below b.heap.size b c) : Keep F b c := (Keep.refl F b).below hb
theorem Keep.to_below {F : Nat → Prop} {B : Nat} {a b : World} (h : Keep F a b) (hB : B ≤ a.heap.size) (hF : ∀ k, F k → B ≤ k) : Below B a b :=
  ⟨h.os, h.tape, h.output, h.size, fun i hi => h.block i (by omega) (fun g => by have := hF i g; omega)⟩
theorem Keep.cell {F : Nat → Prop} {w w' : World} (h : Keep F w w') {p : Addr} (hp : p.block < w.heap.size) (hn : ¬ F p.block) : w'.cell? p = w.cell? p := World.cell?_of_block (w := w) (h.block p.block hp hn)
theorem Keep.frozen {F : Nat → Prop} {w w' : World} (h : Keep F w w') {p : Addr} (hp : p.block < w.heap.size) (hn : ¬ F p.block) : w'.frozen? p = w.frozen? p := World.frozen?_of_block (w := w) (h.block p.block hp hn)
theorem Keep.cellOf {F : Nat → Prop} {w w' : World} (h : Keep F w w') {p : Addr} {v : Value} (hc : w.cell? p = some v) (hn : ¬ F p.block) : w'.cell? p = some v := (h.cell (World.block_lt_of_cell? w p hc) hn).trans hc

/-- how an element reads: as itself -/
def asIs (v : Value) : Option (DataW Value × List MemPlace) := some (.held v, [])

/-- block b is a map of n entries; f says what lies at each key -/
def MapF (P : Program) (k : TypeId) (w : World) (b : Nat) (f : Int → Option Value) (n : Nat) : Prop :=
  ∃ D : DataW Value, w.ownsMap P k asIs b n D ∧ Maps.size D = n ∧ ∀ a : Int, Maps.has D (.int .i64 a) = (f a).isSome ∧ ∀ v, f a = some v → ∀ z, D.atKey (.int .i64 a) z = .held v

/-- one key's value laid -/
def putF (f : Int → Option Value) (a : Int) (v : Value) : Int → Option Value := fun i => if i = a then some v else f i
/-- one key struck -/
def delF (f : Int → Option Value) (a : Int) : Int → Option Value := fun i => if i = a then none else f i
theorem putF_same (f : Int → Option Value) (a : Int) (v : Value) : putF f a v a = some v := if_pos rfl
theorem putF_other (f : Int → Option Value) {a i : Int} (v : Value) (h : i ≠ a) : putF f a v i = f i := if_neg h
theorem delF_same (f : Int → Option Value) (a : Int) : delF f a a = none := if_pos rfl
theorem delF_other (f : Int → Option Value) {a i : Int} (h : i ≠ a) : delF f a i = f i := if_neg h

variable {P : Program} {k e t : TypeId} {w : World} {b n : Nat} {f : Int → Option Value}

theorem tight {D : DataW Value} {R : Value → Option (DataW Value × List MemPlace)} {m : Nat} (h : w.ownsMap P k R b m D) : w.ownsMap P k R b (Maps.size D) D := by
  obtain ⟨es, clock, hb, F, _, rfl⟩ := h
  exact ⟨es, clock, hb, F, by simp [Maps.size, length_sorted], rfl⟩

theorem MapF.made (w : World) (P : Program) (k : TypeId) : MapF P k (w.alloc (.map #[] 0)) w.heap.size (fun _ => none) 0 :=
  ⟨_, World.ownsMap_made w P k asIs, rfl, fun a => ⟨rfl, fun v h => by cases h⟩⟩

theorem MapF.lt (h : MapF P k w b f n) : b < w.heap.size := by obtain ⟨D, h, _⟩ := h; exact h.lt
theorem MapF.kept {w' : World} (h : MapF P k w b f n) (hb : w'.heap[b]? = w.heap[b]?) : MapF P k w' b f n := by
  obtain ⟨D, ⟨es, clock, h1, h2⟩, h3⟩ := h
  exact ⟨D, ⟨es, clock, hb.trans h1, h2⟩, h3⟩
theorem MapF.keep {F : Nat → Prop} {w' : World} (h : MapF P k w b f n) (hk : Keep F w w') (hn : ¬ F b) : MapF P k w' b f n := h.kept (hk.block b h.lt hn)
theorem MapF.cell (h : MapF P k w b f n) (o : Nat) : w.cell? ⟨b, o, none⟩ = none := by
  obtain ⟨D, ⟨es, clock, h1, _⟩, _⟩ := h
  simp [World.cell?, h1]

theorem key_of (hk : P.underlying k = some (.int .i64)) {a : Int} (ha : (Lit.int .i64 a).wf = true) : keyOf P k (.int .i64 a) = some (.int .i64 a) := keyOf_int_mk hk ha

theorem MapF.look_some (h : MapF P k w b f n) (hk : P.underlying k = some (.int .i64)) (ht : P.underlying t = some (.map k e)) {z : Value} (hz : (zeroValue e).run P w = .ok z w) {a : Int} (ha : (Lit.int .i64 a).wf = true) {v : Value} (hv : f a = some v) (c : Bool) :
    (Instr.lookup t (.map (some b)) (.int .i64 a) c).run P w = .ok (if c then .tuple #[v, .bool true] else v) w := by
  obtain ⟨D, h1, _, h3⟩ := h
  obtain ⟨h4, h5⟩ := h3 a
  rw [hv] at h4
  cases c with
  | true =>
    obtain ⟨v', ps, hrun, hR⟩ := h1.look_ok (int_keyed hk) ht hz (zd := .held z) (zp := []) rfl (key_of hk ha)
    rw [h5 v hv] at hR
    simp only [asIs, Option.some.injEq, Prod.mk.injEq, DataW.held.injEq] at hR
    rw [h4, hR.1] at hrun
    exact hrun
  | false =>
    obtain ⟨v', ps, hrun, hR⟩ := h1.lookup (int_keyed hk) ht hz (zd := .held z) (zp := []) rfl (key_of hk ha)
    rw [h5 v hv] at hR
    simp only [asIs, Option.some.injEq, Prod.mk.injEq, DataW.held.injEq] at hR
    rw [hR.1] at hrun
    exact hrun

theorem MapF.look_none (h : MapF P k w b f n) (hk : P.underlying k = some (.int .i64)) (ht : P.underlying t = some (.map k e)) {z : Value} (hz : (zeroValue e).run P w = .ok z w) {a : Int} (ha : (Lit.int .i64 a).wf = true) (hv : f a = none) (c : Bool) :
    (Instr.lookup t (.map (some b)) (.int .i64 a) c).run P w = .ok (if c then .tuple #[z, .bool false] else z) w := by
  obtain ⟨D, h1, _, h3⟩ := h
  obtain ⟨h4, _⟩ := h3 a
  rw [hv] at h4
  have h5 : D.atKey (.int .i64 a) (.held z) = .held z := atKey_of_not_has h4 _
  cases c with
  | true =>
    obtain ⟨v', ps, hrun, hR⟩ := h1.look_ok (int_keyed hk) ht hz (zd := .held z) (zp := []) rfl (key_of hk ha)
    rw [h5] at hR
    simp only [asIs, Option.some.injEq, Prod.mk.injEq, DataW.held.injEq] at hR
    rw [h4, hR.1] at hrun
    exact hrun
  | false =>
    obtain ⟨v', ps, hrun, hR⟩ := h1.lookup (int_keyed hk) ht hz (zd := .held z) (zp := []) rfl (key_of hk ha)
    rw [h5] at hR
    simp only [asIs, Option.some.injEq, Prod.mk.injEq, DataW.held.injEq] at hR
    rw [hR.1] at hrun
    exact hrun

theorem MapF.len (h : MapF P k w b f n) (ht : P.underlying t = some (.map k e)) (ty : TypeId) : (Builtin.len_ #[t] ty #[.map (some b)]).run P w = .ok (.int .i64 n) w := by
  obtain ⟨D, h1, h2, _⟩ := h
  rw [← h2]
  exact h1.len ht ty

theorem lit_ne {a i : Int} (h : i ≠ a) : (Lit.int .i64 i) ≠ .int .i64 a := fun e => h (by cases e; rfl)

theorem is_key (a : Int) : WideAt.IsKeyLit (.int .i64 a) := trivial

theorem MapF.store (h : MapF P k w b f n) (hk : P.underlying k = some (.int .i64)) (ht : P.underlying t = some (.map k e)) (hn : n < maxLen) {a : Int} (ha : (Lit.int .i64 a).wf = true) (v : Value) :
    ∃ w', (Instr.mapUpdate t (.map (some b)) (.int .i64 a) v).run P w = .ok () w' ∧ MapF P k w' b (putF f a v) (if (f a).isSome then n else n + 1) ∧ w.mapTurned w' b := by
  obtain ⟨D, h1, h2, h3⟩ := h
  obtain ⟨w', hrun, ho, hg⟩ := h1.store (int_keyed hk) ht hn (key_of hk ha) (val := v) (d := .held v) (ps := []) rfl
  refine ⟨w', hrun, ⟨D.put (.int .i64 a) (.held v), ?_, ?_, fun i => ?_⟩, hg⟩
  · have := tight ho
    rw [size_put (h1.tidy (int_keyed hk)), (h3 a).1, h2] at this
    exact this
  · rw [size_put (h1.tidy (int_keyed hk)), (h3 a).1, h2]
  · by_cases hi : i = a
    · subst hi
      rw [putF_same]
      exact ⟨has_put_same h1.isMap (is_key i) _, fun u hu z => by cases hu; exact atKey_put_same h1.isMap (is_key i) _ _⟩
    · rw [putF_other _ _ hi, has_put_other (lit_ne hi)]
      exact ⟨(h3 i).1, fun u hu z => by rw [atKey_put_other (lit_ne hi)]; exact (h3 i).2 u hu z⟩

theorem MapF.drop (h : MapF P k w b f n) (hk : P.underlying k = some (.int .i64)) (ht : P.underlying t = some (.map k e)) {a : Int} (ha : (Lit.int .i64 a).wf = true) (ty : TypeId) :
    ∃ w', (Builtin.delete_ #[t, k] ty #[.map (some b), .int .i64 a]).run P w = .ok (.tuple #[]) w' ∧ MapF P k w' b (delF f a) (if (f a).isSome then n - 1 else n) ∧ w.mapTurned w' b := by
  obtain ⟨D, h1, h2, h3⟩ := h
  obtain ⟨w', hrun, ho, hg⟩ := h1.drop (int_keyed hk) ht (key_of hk ha) ty
  have hs := size_del (k := .int .i64 a) (h1.tidy (int_keyed hk))
  rw [(h3 a).1, h2] at hs
  have hs2 : Maps.size (D.del (.int .i64 a)) = if (f a).isSome then n - 1 else n := by
    cases hx : (f a).isSome <;> simp [hx] at hs ⊢ <;> omega
  refine ⟨w', hrun, ⟨D.del (.int .i64 a), ?_, hs2, fun i => ?_⟩, hg⟩
  · rw [← hs2]; exact tight ho
  · by_cases hi : i = a
    · subst hi
      rw [delF_same]
      exact ⟨has_del_same, fun u hu => by cases hu⟩
    · rw [delF_other _ hi, has_del_other (lit_ne hi)]
      exact ⟨(h3 i).1, fun u hu z => by rw [atKey_del_other (lit_ne hi)]; exact (h3 i).2 u hu z⟩

section
variable {ops : Array Oper} {rest : List Oper} {o : Oper} {a : Act} {Q : Exit → Act → World → Prop}

/-- a store, at the operation -/
theorem wpList_put (hg : o.guard = none) (m x v : Operand) (t : TypeId) (hop : o.op = Op.mapUpdate t m x v) (k e : TypeId) (hk : P.underlying k = some (.int .i64)) (ht : P.underlying t = some (.map k e)) (b n : Nat) (f : Int → Option Value)
    (hm : a.eval m = .map (some b)) (h : MapF P k w b f n) (hn : n < maxLen) (i : Int) (val : Value) (hx : a.eval x = .int .i64 i) (hv : a.eval v = val) (hi : (Lit.int .i64 i).wf = true)
    (hK : ∀ w', MapF P k w' b (putF f i val) (if (f i).isSome then n else n + 1) → w.mapTurned w' b → wpList P ops Q rest (a.put o.dst undef) w') :
    wpList P ops Q (o :: rest) a w := by
  refine wpList_plain hg fun K' hK' => ?_
  obtain ⟨w', hrun, r1, r2⟩ := h.store hk ht hn hi val
  unfold Oper.wp
  simp [execOp, hop, hm, hx, hv, hrun, Result.andThen]
  exact hK' _ _ (hK w' r1 r2)

end
end Go.Proofs.YtmnpplkjhnoglaaGreatDoor
