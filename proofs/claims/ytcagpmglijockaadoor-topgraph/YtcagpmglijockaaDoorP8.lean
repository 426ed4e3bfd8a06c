/-
  Texts laid together: Labs, SpanM, RangeF, Towards, Sets.
-/
import Derived.Test.YtcagpmglijockaaDoorP7
import Derived.Maps.Ext
import Derived.Maps.RangeWalk
import Derived.Laws.IdiomRangeMap
/-
  What the reference's flood gives back, laid in memory.
-/
namespace Go.Proofs.YtcagpmglijockaaDoor
open Go.RowKit

/-- the two arrays that come back, laid in memory -/
theorem lab_laid (w : World) (F : Int → Option (Int × Int)) :
    ((w.alloc (.cells zC 70)).alloc (.cells zB 38)).there w.heap.size 0 512 ∧ (((w.alloc (.cells zC 70)).alloc (.cells zB 38)).setCells w.heap.size 0 (costL F)).there (w.heap.size + 1) 0 256 ∧
      LabAt ((((w.alloc (.cells zC 70)).alloc (.cells zB 38)).setCells w.heap.size 0 (costL F)).setCells (w.heap.size + 1) 0 (isL F)) w.heap.size (w.heap.size + 1) F ∧
      Below w.heap.size w ((((w.alloc (.cells zC 70)).alloc (.cells zB 38)).setCells w.heap.size 0 (costL F)).setCells (w.heap.size + 1) 0 (isL F)) := by
  have L := LabAt.new w
  have hB : Below w.heap.size w ((w.alloc (.cells zC 70)).alloc (.cells zB 38)) := ((Below.refl _ _).alloc (Nat.le_refl _) _).alloc (by simp) _
  have t0 : ((w.alloc (.cells zC 70)).alloc (.cells zB 38)).there w.heap.size 0 512 := World.there_alloc (new_there w (List.replicate 512 (Value.int .i64 0)) 70 512 List.length_replicate) _
  have t1 : ((w.alloc (.cells zC 70)).alloc (.cells zB 38)).there (w.heap.size + 1) 0 256 := by
    have := new_there (w.alloc (.cells zC 70)) (List.replicate 256 (Value.bool false)) 38 256 List.length_replicate
    rw [show (w.alloc (.cells zC 70)).heap.size = w.heap.size + 1 by simp] at this
    exact this
  have t2 : (((w.alloc (.cells zC 70)).alloc (.cells zB 38)).setCells w.heap.size 0 (costL F)).there (w.heap.size + 1) 0 256 := World.there_setCells t1 _ _ _
  refine ⟨t0, t2, ?_, below_setCells _ (by omega) _ _ (below_setCells _ (Nat.le_refl _) _ _ hB)⟩
  refine labAt_range ?_ ?_ (fun o => ?_) (fun o => ?_) (by omega)
  · exact World.rangeAt_setCells_apart (World.rangeAt_setCells_same _ _ _ _ (by rw [costL_len]; exact t0)) _ _ _ (Or.inl (by omega))
  · exact World.rangeAt_setCells_same _ _ _ _ (by rw [isL_len]; exact t2)
  · rw [World.frozen?_setCells, World.frozen?_setCells]; exact L.zc o
  · rw [World.frozen?_setCells, World.frozen?_setCells]; exact L.zi o

theorem th_of {w : World} {b o n : Nat} {l : List Value} (hl : l.length = n) (h : w.there b o n) : w.there b o l.toArray.size := by rw [List.size_toArray, hl]; exact h
theorem in_of {P : Program} {t : TypeId} {n : Nat} {l : List Value} (hl : l.length = n) (h : (P.info? t).map (·.size) = some n) : (P.info? t).map (·.size) = some l.toArray.size := by rw [List.size_toArray, hl]; exact h


theorem lab_ok {E : Int → Nat → Int → Prop} {o : Int} {F : Int → Option (Int × Int)} (h : Best E o F) (a : Int) : okC (labS F a) (labD F a) := by
  unfold labS labD okC
  cases hF : F a with
  | none => simp
  | some c =>
    obtain ⟨s, d⟩ := c
    obtain ⟨h1, h2, h3⟩ := h.small hF
    have := val_small h1 h2 h3
    show 0 ≤ s ∧ s ≤ 2097152 ∧ 0 ≤ d ∧ d ≤ 2097152
    omega

end Go.Proofs.YtcagpmglijockaaDoor
/-
  What corners cost over edges, bettered as long as it can be: the mathematics of 'TopGraph'; no Go in sight.
-/
namespace Go.Proofs.YtcagpmglijockaaDoor

variable {W H : Int} {bl : Nat → Bool} {o : Int} {B : Int → Option (Int × Int)} {Fl : Int → Int → Option (Int × Int)}

theorem cnt_again (F : Int → Option (Int × Int)) (a s d : Int) (N : Nat) (h : (F a).isSome = true) : cnt (putH F a s d) N = cnt F N := by
  induction N with
  | zero => rfl
  | succ N ih =>
    unfold cnt
    rw [ih]
    by_cases e : (N : Int) = a
    · have h1 : putH F a s d N = some (s, d) := if_pos e
      rw [h1, e, h]
      rfl
    · have h1 : putH F a s d N = F N := if_neg e
      rw [h1]

/-- what is left to better -/
def pot2 (B : Int → Option (Int × Int)) : Nat → Nat
  | 0 => 0
  | N + 1 => pot2 B N + match B N with | some c => (val c.1 c.2).toNat | none => 223675977729
theorem pot2_same (a s d : Int) (N : Nat) (h : (N : Int) ≤ a) : pot2 (putH B a s d) N = pot2 B N := by
  induction N with
  | zero => rfl
  | succ N ih =>
    unfold pot2
    rw [ih (by omega)]
    have : putH B a s d N = B N := if_neg (by omega)
    rw [this]
theorem pot2_put (a s d : Int) (N : Nat) (h0 : 0 ≤ a) (h : a < N) (hv : 0 ≤ val s d) (hn : B a = none → val s d < 223675977729) (hs : ∀ s' d', B a = some (s', d') → val s d < val s' d') : pot2 (putH B a s d) N < pot2 B N := by
  induction N with
  | zero => omega
  | succ N ih =>
    unfold pot2
    by_cases e : a = N
    · rw [pot2_same a s d N (by omega)]
      have h1 : putH B a s d N = some (s, d) := if_pos e.symm
      rw [h1, ← e]
      cases hB : B a with
      | none =>
        have := hn hB
        show pot2 B N + (val s d).toNat < pot2 B N + 223675977729
        omega
      | some c =>
        have := hs c.1 c.2 hB
        show pot2 B N + (val s d).toNat < pot2 B N + (val c.1 c.2).toNat
        omega
    · have h1 : putH B a s d N = B N := if_neg (fun q => e q.symm)
      rw [h1]
      have := ih (by omega)
      omega

/-- costs of corners under way -/
structure Span (W H : Int) (bl : Nat → Bool) (o : Int) (B : Int → Option (Int × Int)) : Prop where
  snd : ∀ {x s d}, B x = some (s, d) → Wk (Edge W H bl) o x s d ∧ CornC W H bl x ∧ val s d ≤ cnt B 256 * 873734288
  home : ∃ s d, B o = some (s, d) ∧ val s d ≤ 0
theorem Span.start (ho : CornC W H bl o) : Span W H bl o (putH (fun _ => none) o 0 0) := by
  refine ⟨fun {x s d} h => ?_, 0, 0, if_pos rfl, by decide⟩
  unfold putH at h
  by_cases e : x = o
  · rw [if_pos e] at h
    cases h
    subst e
    exact ⟨Wk.nil, ho, by have h0 : val 0 0 = 0 := rfl; rw [h0]; omega⟩
  · rw [if_neg e] at h
    cases h
theorem Span.small (h : Span W H bl o B) {x s d : Int} (hx : B x = some (s, d)) : 0 ≤ s ∧ 0 ≤ d ∧ val s d ≤ 223675977728 := by
  obtain ⟨h1, _, h3⟩ := h.snd hx
  have h4 := cnt_le B 256
  obtain ⟨n1, n2⟩ := h1.nonneg
  exact ⟨n1, n2, by omega⟩
theorem Span.ok (h : Span W H bl o B) {x s d : Int} (hx : B x = some (s, d)) : s ≤ 10000 ∧ d ≤ 10000 := by
  obtain ⟨h1, h2, h3⟩ := h.small hx
  unfold val at h3
  omega
/-- an edge betters one -/
theorem Span.better (h : Span W H bl o B) {a c s d : Int} (ha : B a = some (s, d)) (hw : Wk (Edge W H bl) a c (octS W a c) (octD W a c)) (hc : CornC W H bl c) (hin : 0 ≤ c ∧ c < 256) (hm : octV W a c ≤ 873734288)
    (hb : ∀ s' d', B c = some (s', d') → val (s + octS W a c) (d + octD W a c) < val s' d') : Span W H bl o (putH B c (s + octS W a c) (d + octD W a c)) ∧ pot2 (putH B c (s + octS W a c) (d + octD W a c)) 256 < pot2 B 256 := by
  obtain ⟨a1, _, a3⟩ := h.snd ha
  have hv : val (s + octS W a c) (d + octD W a c) = val s d + octV W a c := val_add _ _ _ _
  have hj := Wk.join a1 hw
  obtain ⟨n1, n2⟩ := hj.nonneg
  have hn0 := val_nonneg n1 n2
  have hcl := cnt_le B 256
  have hce : B c = none → cnt (putH B c (s + octS W a c) (d + octD W a c)) 256 = cnt B 256 + 1 := fun e => cnt_put B c _ _ 256 hin.1 hin.2 e
  have hcs : (B c).isSome = true → cnt (putH B c (s + octS W a c) (d + octD W a c)) 256 = cnt B 256 := fun e => cnt_again B c _ _ 256 e
  have hge : cnt B 256 ≤ cnt (putH B c (s + octS W a c) (d + octD W a c)) 256 := by
    cases hB : B c with
    | none => rw [hce hB]; omega
    | some p => rw [hcs (by rw [hB]; rfl)]; exact Nat.le_refl _
  refine ⟨⟨fun {x s' d'} hx => ?_, ?_⟩, pot2_put c _ _ 256 hin.1 hin.2 hn0 (fun e => ?_) hb⟩
  · unfold putH at hx
    by_cases e : x = c
    · rw [if_pos e] at hx
      cases hx
      subst e
      refine ⟨hj, hc, ?_⟩
      cases hB : B x with
      | none =>
        rw [hce hB, hv]
        omega
      | some p =>
        obtain ⟨b1, b2, b3⟩ := h.snd (s := p.1) (d := p.2) hB
        have := hb p.1 p.2 hB
        rw [hcs (by rw [hB]; rfl)]
        omega
    · rw [if_neg e] at hx
      obtain ⟨b1, b2, b3⟩ := h.snd hx
      exact ⟨b1, b2, by omega⟩
  · obtain ⟨s0, d0, h0, hv0⟩ := h.home
    by_cases e : o = c
    · exfalso
      rw [e] at h0
      have := hb s0 d0 h0
      omega
    · exact ⟨s0, d0, by unfold putH; rw [if_neg e]; exact h0, hv0⟩
  · rw [hv]
    have := hce e
    have h5 := cnt_le (putH B c (s + octS W a c) (d + octD W a c)) 256
    omega

/-- nothing can be bettered -/
def Done (W H : Int) (bl : Nat → Bool) (Fl : Int → Int → Option (Int × Int)) (B : Int → Option (Int × Int)) : Prop :=
  ∀ a c s d, CornC W H bl a → CornC W H bl c → a ≠ c → DirF W H bl Fl a c → B a = some (s, d) → ∃ s' d', B c = some (s', d') ∧ val s' d' ≤ val (s + octS W a c) (d + octD W a c)

theorem Done.chain (hD : Done W H bl Fl B) : ∀ {l : List Int} {a b s d : Int}, (∀ c ∈ l, CornC W H bl c) → CornC W H bl a → Chn (DirF W H bl Fl) a l b → B a = some (s, d) → ∃ s' d', B b = some (s', d') ∧ val s' d' ≤ val (s + sumS W a l) (d + sumD W a l)
  | [], a, b, s, d, _, _, h, ha => by
    have e : a = b := h
    subst e
    exact ⟨s, d, ha, by show val s d ≤ val (s + 0) (d + 0); rw [Int.add_zero, Int.add_zero]; exact Int.le_refl _⟩
  | c :: l, a, b, s, d, hl, hca, ⟨h1, h2⟩, ha => by
    have hcc := hl c (List.mem_cons_self ..)
    have step : ∃ s' d', B c = some (s', d') ∧ val s' d' ≤ val (s + octS W a c) (d + octD W a c) := by
      by_cases e : a = c
      · subst e
        exact ⟨s, d, ha, by rw [octS_self, octD_self, Int.add_zero, Int.add_zero]; exact Int.le_refl _⟩
      · exact hD a c s d hca hcc e h1 ha
    obtain ⟨s', d', g1, g2⟩ := step
    obtain ⟨s2, d2, k1, k2⟩ := Done.chain hD (fun x hx => hl x (List.mem_cons_of_mem _ hx)) hcc h2 g1
    refine ⟨s2, d2, k1, Int.le_trans k2 ?_⟩
    show val (s' + sumS W c l) (d' + sumD W c l) ≤ val (s + (octS W a c + sumS W c l)) (d + (octD W a c + sumD W c l))
    rw [val_add, ← Int.add_assoc, ← Int.add_assoc, val_add (s + octS W a c)]
    omega

/-- then the costs are those over cells -/
theorem Span.eq (w1 : 1 ≤ W) (hB : ∀ c, CornC W H bl c → Best (Edge W H bl) c (Fl c)) (h : Span W H bl o B) (hD : Done W H bl Fl B) (ho : CornC W H bl o) {x : Int} (hx : CornC W H bl x) : B x = Fl o x := by
  have BO := hB o ho
  have up : ∀ s d, Fl o x = some (s, d) → ∃ s' d', B x = some (s', d') ∧ val s' d' ≤ val s d := fun s d hF => by
    obtain ⟨n1, n2, n3⟩ := BO.small hF
    obtain ⟨l, l1, l2, l3, l4⟩ := corners_enough w1 hB (val s d).toNat o x s d ho hx hF (by have := val_nonneg n1 n2; omega)
    obtain ⟨s0, d0, h0, hv0⟩ := h.home
    obtain ⟨s', d', k1, k2⟩ := hD.chain l1 ho l2 h0
    rw [l3, l4, val_add] at k2
    exact ⟨s', d', k1, by omega⟩
  cases hF : Fl o x with
  | none =>
    cases hBx : B x with
    | none => rfl
    | some p =>
      obtain ⟨s, d⟩ := p
      obtain ⟨s', d', k1, _⟩ := BO.least (h.snd hBx).1
      rw [hF] at k1
      cases k1
  | some p =>
    obtain ⟨s, d⟩ := p
    obtain ⟨s', d', k1, k2⟩ := up s d hF
    obtain ⟨s2, d2, m1, m2⟩ := BO.least (h.snd k1).1
    rw [hF] at m1
    cases m1
    obtain ⟨n1, n2, n3⟩ := BO.small hF
    have sm := val_small n1 n2 n3
    have sb := h.small k1
    have e := pair_eq sb.2.1 sb.1 n2 (by omega) (show val s' d' = val s d by omega) (by omega)
    rw [k1, e.1, e.2]

/-- as many as corners at most -/
theorem cnt_crs (h : ∀ x : Nat, (B x).isSome = true → cornB W H bl x = true) : ∀ N, cnt B N ≤ (crs W H bl N).length
  | 0 => Nat.zero_le _
  | N + 1 => by
    have ih := cnt_crs h N
    unfold cnt
    rw [crs_succ, List.length_append]
    cases hB : (B (N : Int)).isSome with
    | false => simp; omega
    | true => rw [h N hB]; simp; omega
end Go.Proofs.YtcagpmglijockaaDoor
/-
  A range over a map that is read as a function; no dump of a program in sight.
-/
namespace Go.Proofs.YtcagpmglijockaaDoor
open Go.Maps Go.RowKit

/-- a range over a map under way: which keys are still to come, and how many -/
def RngF (P : Program) (k : TypeId) (w : World) (b r : Nat) (f : Int → Option Value) (n : Nat) (left : Int → Bool) (cnt : Nat) : Prop :=
  ∃ (D : DataW Value) (lf : Lit → Bool), w.ranges P k asIs b r n D lf cnt ∧ Maps.size D = n ∧ (∀ a : Int, Maps.has D (.int .i64 a) = (f a).isSome ∧ ∀ v, f a = some v → ∀ z, D.atKey (.int .i64 a) z = .held v) ∧ ∀ a : Int, lf (.int .i64 a) = left a

variable {P : Program} {k e t : TypeId} {w : World} {b r n cnt : Nat} {f : Int → Option Value} {left : Int → Bool}
theorem RngF.map (h : RngF P k w b r f n left cnt) : MapF P k w b f n := by
  obtain ⟨D, lf, h1, h2, h3, _⟩ := h
  exact ⟨D, h1.owns, h2, h3⟩
theorem RngF.lt (h : RngF P k w b r f n left cnt) : r < w.heap.size := by obtain ⟨D, lf, h1, _⟩ := h; exact h1.lt
theorem RngF.ne (h : RngF P k w b r f n left cnt) : r ≠ b := by obtain ⟨D, lf, h1, _⟩ := h; exact h1.ne
theorem RngF.left_eq (h : RngF P k w b r f n left cnt) : w.rangeLeft b r = cnt := by obtain ⟨D, lf, h1, _⟩ := h; exact h1.left_eq
theorem RngF.kept {w' : World} (h : RngF P k w b r f n left cnt) (hb : w'.heap[b]? = w.heap[b]?) (hr : w'.heap[r]? = w.heap[r]?) : RngF P k w' b r f n left cnt := by
  obtain ⟨D, lf, ⟨es, clock, since, seen, c0, h1, h2, h3, h4, h5, h6⟩, h7⟩ := h
  exact ⟨D, lf, ⟨es, clock, since, seen, c0, hb.trans h1, h2, h3, h4, hr.trans h5, h6⟩, h7⟩
theorem RngF.keep {F : Nat → Prop} {w' : World} (h : RngF P k w b r f n left cnt) (hk : Keep F w w') (hb : ¬ F b) (hr : ¬ F r) : RngF P k w' b r f n left cnt :=
  h.kept (hk.block b h.map.lt hb) (hk.block r h.lt hr)
section
variable {ops : Array Oper} {rest : List Oper} {o : Oper} {a : Act} {Q : Exit → Act → World → Prop}
/-- 'range m' -/
theorem wpList_rangeF (hg : o.guard = none) (m : Operand) (t : TypeId) (hop : o.op = Op.range t m) (k e : TypeId) (hk : P.underlying k = some (.int .i64)) (ht : P.underlying t = some (.map k e)) (b n : Nat) (f : Int → Option Value)
    (hm : a.eval m = .map (some b)) (h : MapF P k w b f n)
    (hK : ∀ w', RngF P k w' b w.heap.size f n (fun x => (f x).isSome) n → w.grownBy w' none → w'.heap.size = w.heap.size + 1 → wpList P ops Q rest (a.put o.dst (.pointer (some ⟨w.heap.size, 0, none⟩))) w') :
    wpList P ops Q (o :: rest) a w := by
  obtain ⟨D, h1, h2, h3⟩ := h
  refine wpList_range_own w hg m t hop k e (int_keyed hk) ht asIs b n D hm h1 fun w' r1 r2 r3 => hK w' ⟨D, _, h2 ▸ r1, h2, h3, fun a => (h3 a).1⟩ r2 r3
/-- the next one -/
theorem wpList_nextF (hg : o.guard = none) (it : Operand) (hop : o.op = Op.next it false) (k : TypeId) (hk : P.underlying k = some (.int .i64)) (b r n : Nat) (f : Int → Option Value) (left : Int → Bool) (cnt : Nat)
    (hit : a.eval it = .pointer (some ⟨r, 0, none⟩)) (h : RngF P k w b r f n left cnt)
    (hDone : cnt = 0 → (∀ x, left x = false) → wpList P ops Q rest (a.put o.dst (.tuple #[.bool false])) w)
    (hMore : ∀ (x : Int) (v : Value) (w' : World) (cnt' : Nat), (Lit.int .i64 x).wf = true → left x = true → f x = some v → RngF P k w' b r f n (fun z => left z && !decide (z = x)) cnt' → cnt' < cnt →
      w.grownBy w' (some r) → w'.heap.size = w.heap.size → (Instr.entry (.pointer (some ⟨r, 0, none⟩))).run P w' = .ok (.tuple #[.int .i64 x, v]) w' → wpList P ops Q rest (a.put o.dst (.tuple #[.bool true, .int .i64 x, v])) w') :
    wpList P ops Q (o :: rest) a w := by
  obtain ⟨D, lf, h1, h2, h3, h4⟩ := h
  refine wpList_next_ranges w hg it hop k (int_keyed hk) asIs (Value.int .i64) id (fun key kl hkey => by obtain ⟨x, rfl, _⟩ := Maps.keyOf_int_inv hk hkey; exact ⟨x, rfl⟩) (fun v y _ => ⟨v, rfl⟩) b r n D lf cnt hit h1 (fun h0 hl => hDone h0 fun x => (h4 x).symm.trans (hl _)) ?_
  intro x v kl y w' cnt' hkey hl hv hat hrg hlt hgr hsz hen
  obtain ⟨x', ex, rfl, hwx⟩ := Maps.keyOf_int_inv hk hkey
  cases ex
  have hy : y.1 = .held v := by
    simp only [asIs, Option.some.injEq, id] at hv
    rw [← hv]
  rw [hy] at hat
  have hh : Maps.has D (.int .i64 x) = true := has_true_of_atKey hat
  obtain ⟨g1, g2⟩ := h3 x
  rw [hh] at g1
  have hf : f x = some v := by
    cases hfx : f x with
    | none => rw [hfx] at g1; cases g1
    | some u =>
      have := (g2 u hfx (.held v)).symm.trans (hat (.held v))
      cases this
      rfl
  refine hMore x v w' cnt' hwx ((h4 x).symm.trans hl) hf ⟨D, _, hrg, h2, h3, fun a => ?_⟩ hlt hgr hsz hen
  show (lf (.int .i64 a) && !(Lit.int .i64 a).sameKey (.int .i64 x)) = (left a && !decide (a = x))
  rw [h4 a]
  by_cases e : a = x
  · subst e
    rw [WideAt.sameKey_self (is_key a), decide_eq_true rfl]
  · rw [sameKey_ne (lit_ne e), decide_eq_false e]
end
end Go.Proofs.YtcagpmglijockaaDoor
/-
  Steps towards a cell: what 'isTowards' and 'onward' of package reach say.
-/
namespace Go.Proofs.YtcagpmglijockaaDoor
open Go.RowKit

/-- does a step bring one nearer by what it costs? -/
def goodB (x y u v : Int) (k : Nat) : Bool := decide (dst (dst (x + stepX k) u) (dst (y + stepY k) v) + stS k = dst (dst x u) (dst y v)) && decide (les (dst (x + stepX k) u) (dst (y + stepY k) v) + stD k = les (dst x u) (dst y v))
theorem goodB_iff {x y u v : Int} {k : Nat} : goodB x y u v k = true ↔ Good x y u v k := by
  unfold goodB Good
  rw [Bool.and_eq_true, decide_eq_true_eq, decide_eq_true_eq]
theorem oct_step (k : Nat) (h : k < 8) : dst (dst 0 (stepX k)) (dst 0 (stepY k)) = stS k ∧ les (dst 0 (stepX k)) (dst 0 (stepY k)) = stD k := by
  rcases k8 h with rfl | rfl | rfl | rfl | rfl | rfl | rfl | rfl <;> decide

set_option maxHeartbeats 2000000 in
set_option maxRecDepth 1000000 in
theorem isTowards' {x y u v dx dy s1 d1 s2 d2 s3 d3 : Int} {k : Nat} {r : Bool} (w : World)
    (x1 : -100 ≤ x) (x2 : x ≤ 100) (y1 : -100 ≤ y) (y2 : y ≤ 100) (e1 : -1 ≤ dx) (e2 : dx ≤ 1) (e3 : -1 ≤ dy) (e4 : dy ≤ 1)
    (hs : Calls Tryd.prog 54 #[.int .i64 k] w fun e w' => e = .returned (.tuple #[.int .i64 dx, .int .i64 dy]) ∧ ∃ m, w' = w.drewN m)
    (ho1 : ∀ w, Calls Tryd.prog 57 #[.int .i64 0, .int .i64 0, .int .i64 dx, .int .i64 dy] w fun e w' => e = .returned (.agg #[.int .i64 s1, .int .i64 d1]) ∧ Below w.heap.size w w')
    (ho2 : ∀ w, Calls Tryd.prog 57 #[.int .i64 (x + dx), .int .i64 (y + dy), .int .i64 u, .int .i64 v] w fun e w' => e = .returned (.agg #[.int .i64 s2, .int .i64 d2]) ∧ Below w.heap.size w w')
    (ho3 : ∀ w, Calls Tryd.prog 57 #[.int .i64 x, .int .i64 y, .int .i64 u, .int .i64 v] w fun e w' => e = .returned (.agg #[.int .i64 s3, .int .i64 d3]) ∧ Below w.heap.size w w')
    (ha : ∀ w, Calls Tryd.prog 84 #[.agg #[.int .i64 s1, .int .i64 d1], .agg #[.int .i64 s2, .int .i64 d2]] w fun e w' => e = .returned (.agg #[.int .i64 (s1 + s2), .int .i64 (d1 + d2)]) ∧ Below w.heap.size w w')
    (hr : (decide (s1 + s2 = s3) && decide (d1 + d2 = d3)) = r) :
    Calls Tryd.prog 80 #[.int .i64 x, .int .i64 y, .int .i64 k, .int .i64 u, .int .i64 v] w fun e w' => e = .returned (.bool r) ∧ Below w.heap.size w w' := by
  go_enter Tryd.func80, Tryd.ntmps80
  go_wp2_with (go_at_call 54; refine hs.mono ?_; rintro e w' ⟨rfl, m, rfl⟩)
  refine (ho1 _).mono ?_
  rintro e w1 ⟨rfl, hb1⟩
  have B1 : Below w.heap.size w w1 := (below_drewN (Below.refl _ _) m).trans hb1
  clear hb1 ho1 hs
  go_wp2_with fail
  refine (ho2 _).mono ?_
  rintro e w2 ⟨rfl, hb2⟩
  have B2 : Below w.heap.size w w2 := B1.trans (hb2.mono B1.size)
  clear hb2 ho2 B1
  go_wp2_with fail
  refine (ha _).mono ?_
  rintro e w3 ⟨rfl, hb3⟩
  have B2' : Below w.heap.size w ((w2.alloc (.cells #[.int .i64 s1, .int .i64 d1] 69)).alloc (.cells #[.int .i64 s2, .int .i64 d2] 69)) := (B2.alloc B2.size _).alloc (by have := B2.size; simp; omega) _
  have B3 : Below w.heap.size w w3 := B2'.trans (hb3.mono B2'.size)
  clear hb3 ha B2 B2'
  go_wp2_with fail
  refine (ho3 _).mono ?_
  rintro e w4 ⟨rfl, hb4⟩
  have B4 : Below w.heap.size w w4 := B3.trans (hb4.mono B3.size)
  clear hb4 ho3 B3
  by_cases q1 : s1 + s2 = s3
  · by_cases q2 : d1 + d2 = d3
    · rw [decide_eq_true q1, decide_eq_true q2] at hr
      subst hr q1 q2
      go_wp2
      go_ret
      exact ⟨rfl, B4⟩
    · rw [decide_eq_true q1, decide_eq_false q2] at hr
      subst hr q1
      go_wp2
      go_ret
      exact ⟨rfl, B4⟩
  · rw [decide_eq_false q1] at hr
    subst hr
    go_wp2
    go_ret
    exact ⟨rfl, B4⟩

theorem near_place {a : Int} (h : -100 ≤ a) (k : a ≤ 100) : nearB a := by unfold nearB; omega
theorem okC_oct {x y u v : Int} (x1 : -100 ≤ x) (x2 : x ≤ 100) (y1 : -100 ≤ y) (y2 : y ≤ 100) (u1 : -100 ≤ u) (u2 : u ≤ 100) (v1 : -100 ≤ v) (v2 : v ≤ 100) : okC (dst (dst x u) (dst y v)) (les (dst x u) (dst y v)) := by
  unfold okC
  have a : 0 ≤ dst x u ∧ dst x u ≤ 200 := by unfold dst; split <;> omega
  have b : 0 ≤ dst y v ∧ dst y v ≤ 200 := by unfold dst; split <;> omega
  generalize dst x u = X at *
  generalize dst y v = Y at *
  unfold dst les
  split <;> omega
theorem okC_st (k : Nat) : okC (stS k) (stD k) := by
  have := st_bd k
  unfold okC
  omega

theorem isTowards_v {x y u v : Int} {k : Nat} {r : Bool} (hr : goodB x y u v k = r) (w : World) (s : StepsAt w) (hk : k < 8) (x1 : 0 ≤ x) (x2 : x ≤ 50) (y1 : 0 ≤ y) (y2 : y ≤ 50) (u1 : 0 ≤ u) (u2 : u ≤ 50) (v1 : 0 ≤ v) (v2 : v ≤ 50) :
    Calls Tryd.prog 80 #[.int .i64 x, .int .i64 y, .int .i64 k, .int .i64 u, .int .i64 v] w fun e w' => e = .returned (.bool r) ∧ Below w.heap.size w w' := by
  obtain ⟨e1, e2, e3, e4⟩ := step_bd k
  obtain ⟨o1, o2⟩ := oct_step k hk
  have n1 := near_place (show -100 ≤ stepX k by omega) (by omega)
  have n2 := near_place (show -100 ≤ stepY k by omega) (by omega)
  have n0 := near_place (show -100 ≤ (0 : Int) by omega) (by omega)
  have nx := near_place (show -100 ≤ x by omega) (by omega)
  have ny := near_place (show -100 ≤ y by omega) (by omega)
  have nu := near_place (show -100 ≤ u by omega) (by omega)
  have nv := near_place (show -100 ≤ v by omega) (by omega)
  have nx' := near_place (show -100 ≤ x + stepX k by omega) (by omega)
  have ny' := near_place (show -100 ≤ y + stepY k by omega) (by omega)
  refine isTowards' (s1 := stS k) (d1 := stD k) w (by omega) (by omega) (by omega) (by omega) e1 e2 e3 e4 (step_any k w s hk) (fun w => ?_) (fun w => oct_any _ _ _ _ w nx' ny' nu nv) (fun w => oct_any _ _ _ _ w nx ny nu nv) (fun w => add_any _ _ _ _ w (okC_st k) (okC_oct (by omega) (by omega) (by omega) (by omega) (by omega) (by omega) (by omega) (by omega))) ?_
  · have := oct_any 0 0 (stepX k) (stepY k) w n0 n0 n1 n2
    rw [o1, o2] at this
    exact this
  · rw [← hr]
    unfold goodB
    rw [Int.add_comm (stS k), Int.add_comm (stD k)]
end Go.Proofs.YtcagpmglijockaaDoor
/-
  Maps whose elements say nothing, as sets of cells.
-/
namespace Go.Proofs.YtcagpmglijockaaDoor
open Go.RowKit

theorem law3 : Tryd.prog.underlying 3 = some (.int .i64) := Tryd.underlying3
/-- a set, as a map reads -/
def setF (S : Int → Bool) : Int → Option Value := fun i => if S i then some (.agg #[]) else none
theorem setF_some {S : Int → Bool} {i : Int} (h : S i = true) : setF S i = some (.agg #[]) := if_pos h
theorem setF_none {S : Int → Bool} {i : Int} (h : S i = false) : setF S i = none := by unfold setF; rw [h]; rfl
theorem setF_isSome (S : Int → Bool) (i : Int) : (setF S i).isSome = S i := by
  unfold setF; cases S i <;> rfl
theorem setF_val {S : Int → Bool} {i : Int} {v : Value} (h : setF S i = some v) : S i = true ∧ v = .agg #[] := by
  unfold setF at h
  cases hs : S i with
  | false => rw [hs] at h; cases h
  | true => rw [hs] at h; cases h; exact ⟨rfl, rfl⟩
/-- one more -/
def insS (S : Int → Bool) (a : Int) : Int → Bool := fun i => decide (i = a) || S i
theorem insS_iff (S : Int → Bool) (a i : Int) : insS S a i = true ↔ i = a ∨ S i = true := by unfold insS; rw [Bool.or_eq_true, decide_eq_true_eq]
theorem setF_put (S : Int → Bool) (a : Int) : putF (setF S) a (.agg #[]) = setF (insS S a) := by
  funext i
  unfold putF setF insS
  by_cases e : i = a
  · rw [if_pos e, decide_eq_true e]; rfl
  · rw [if_neg e, decide_eq_false e]; rfl
theorem insS_same {S : Int → Bool} {a : Int} (h : S a = true) : insS S a = S := by
  funext i
  unfold insS
  by_cases e : i = a
  · rw [decide_eq_true e, e, h]; rfl
  · rw [decide_eq_false e]; rfl

/-- how many -/
def cntS (S : Int → Bool) : Nat → Nat
  | 0 => 0
  | N + 1 => cntS S N + if S N then 1 else 0
theorem cntS_le (S : Int → Bool) (N : Nat) : cntS S N ≤ N := by
  induction N with
  | zero => exact Nat.le_refl _
  | succ N ih => unfold cntS; split <;> omega
theorem cntS_same (S : Int → Bool) (a : Int) (N : Nat) (h : (N : Int) ≤ a) : cntS (insS S a) N = cntS S N := by
  induction N with
  | zero => rfl
  | succ N ih =>
    unfold cntS
    rw [ih (by omega)]
    have : insS S a N = S N := by unfold insS; rw [decide_eq_false (by omega)]; rfl
    rw [this]
theorem cntS_put (S : Int → Bool) (a : Int) (N : Nat) (h0 : 0 ≤ a) (h : a < N) (hn : S a = false) : cntS (insS S a) N = cntS S N + 1 := by
  induction N with
  | zero => omega
  | succ N ih =>
    unfold cntS
    by_cases e : a = N
    · rw [cntS_same S a N (by omega)]
      have : insS S a N = true := (insS_iff _ _ _).2 (Or.inl e.symm)
      rw [this, ← e, hn]
      simp
    · rw [ih (by omega)]
      have : insS S a N = S N := by unfold insS; rw [decide_eq_false (fun q => e q.symm)]; rfl
      rw [this]
      omega
theorem cntS_pos {S : Int → Bool} {N : Nat} : 0 < cntS S N ↔ ∃ i : Int, 0 ≤ i ∧ i < N ∧ S i = true := by
  induction N with
  | zero => exact ⟨fun h => absurd h (Nat.lt_irrefl _), fun ⟨i, h1, h2, _⟩ => by omega⟩
  | succ N ih =>
    unfold cntS
    cases hs : S N with
    | true => exact ⟨fun _ => ⟨N, by omega, by omega, hs⟩, fun _ => by simp⟩
    | false =>
      simp only [Bool.false_eq_true, if_false, Nat.add_zero]
      rw [ih]
      constructor
      · rintro ⟨i, h1, h2, h3⟩; exact ⟨i, h1, by omega, h3⟩
      · rintro ⟨i, h1, h2, h3⟩
        refine ⟨i, h1, ?_, h3⟩
        by_cases e : i = N
        · rw [e, hs] at h3; cases h3
        · omega
theorem cntS_none (N : Nat) : cntS (fun _ => false) N = 0 := by
  induction N with
  | zero => rfl
  | succ N ih => unfold cntS; rw [ih]; rfl

/-- block b is a map that holds just these cells -/
structure SetAt (w : World) (b : Nat) (S : Int → Bool) : Prop where
  mp : MapF Tryd.prog 3 w b (setF S) (cntS S 256)
  bd : ∀ i, S i = true → 0 ≤ i ∧ i < 256
theorem SetAt.lt {w : World} {b : Nat} {S : Int → Bool} (h : SetAt w b S) : b < w.heap.size := h.mp.lt
theorem SetAt.below {w w' : World} {b : Nat} {S : Int → Bool} (h : SetAt w b S) (hb : Below w.heap.size w w') : SetAt w' b S := ⟨h.mp.kept (hb.block b h.lt), h.bd⟩
theorem SetAt.kept {w w' : World} {b : Nat} {S : Int → Bool} (h : SetAt w b S) (hb : w'.heap[b]? = w.heap[b]?) : SetAt w' b S := ⟨h.mp.kept hb, h.bd⟩
theorem SetAt.grown {w w' : World} {b : Nat} {S : Int → Bool} {row : Option Nat} (h : SetAt w b S) (hg : w.grownBy w' row) (hn : some b ≠ row) : SetAt w' b S := h.kept (hg.block b h.lt hn)
theorem SetAt.made (w : World) : SetAt (w.alloc (.map #[] 0)) w.heap.size (fun _ => false) :=
  ⟨by rw [cntS_none]; exact MapF.made w Tryd.prog 3, fun i h => by cases h⟩
theorem SetAt.put {w w' : World} {b : Nat} {S : Int → Bool} {a : Int} (h : SetAt w b S) (h0 : 0 ≤ a) (h1 : a < 256) (hm : MapF Tryd.prog 3 w' b (putF (setF S) a (.agg #[])) (if (setF S a).isSome then cntS S 256 else cntS S 256 + 1)) : SetAt w' b (insS S a) := by
  refine ⟨?_, fun i hi => ?_⟩
  · rw [setF_put, setF_isSome] at hm
    cases hs : S a with
    | true => rw [hs, insS_same hs] at hm; rw [insS_same hs]; exact hm
    | false => rw [hs] at hm; rw [cntS_put S a 256 h0 h1 hs]; exact hm
  · rcases (insS_iff _ _ _).1 hi with rfl | hi
    · exact ⟨h0, h1⟩
    · exact h.bd i hi
theorem SetAt.room {w : World} {b : Nat} {S : Int → Bool} (_h : SetAt w b S) : cntS S 256 < maxLen := by
  have := cntS_le S 256
  unfold maxLen
  omega
theorem SetAt.ne_nil {w : World} {b : Nat} {S : Int → Bool} (h : SetAt w b S) : 0 < cntS S 256 ↔ ∃ i, S i = true := by
  rw [cntS_pos]
  exact ⟨fun ⟨i, _, _, h3⟩ => ⟨i, h3⟩, fun ⟨i, hi⟩ => ⟨i, (h.bd i hi).1, (h.bd i hi).2, hi⟩⟩
theorem wf_small {a : Int} (h0 : 0 ≤ a) (h1 : a < 256) : (Lit.int .i64 a).wf = true := WalkArith.wf_i64 (by omega)

theorem Tryd.underS : Tryd.prog.underlying 108 = some (.map 3 94) := by kernel_rfl
theorem zeroS (w : World) : (zeroValue 94).run Tryd.prog w = .ok (.agg #[]) w := by kernel_rfl
theorem builtS : Tryd.prog.built 94 [] = some #[] := by kernel_rfl

/-- a range over a set under way -/
abbrev RngS (w : World) (b r : Nat) (S left : Int → Bool) (cnt : Nat) : Prop := RngF Tryd.prog 3 w b r (setF S) (cntS S 256) left cnt
theorem RngF.below {P : Program} {k : TypeId} {w w' : World} {b r n cnt : Nat} {f : Int → Option Value} {left : Int → Bool} (h : RngF P k w b r f n left cnt) (hb : Below w.heap.size w w') : RngF P k w' b r f n left cnt :=
  h.kept (hb.block b h.map.lt) (hb.block r h.lt)
theorem RngF.grown {P : Program} {k : TypeId} {w w' : World} {b r n cnt : Nat} {f : Int → Option Value} {left : Int → Bool} {row : Option Nat} (h : RngF P k w b r f n left cnt) (hg : w.grownBy w' row) (h1 : some b ≠ row) (h2 : some r ≠ row) : RngF P k w' b r f n left cnt :=
  h.kept (hg.block b h.map.lt h1) (hg.block r h.lt h2)

section
variable {P : Program} {w : World} {ops : Array Oper} {rest : List Oper} {o : Oper} {a : Act} {Q : Exit → Act → World → Prop}
/-- a store of a map that is written out, at the operation -/
theorem wpList_ins (hg : o.guard = none) (m x v : Operand) (t : TypeId) (hop : o.op = Op.insert t m x v) (k e : TypeId) (hk : P.underlying k = some (.int .i64)) (ht : P.underlying t = some (.map k e)) (b n : Nat) (f : Int → Option Value)
    (hm : a.eval m = .map (some b)) (h : MapF P k w b f n) (hn : n < maxLen) (i : Int) (val : Value) (hx : a.eval x = .int .i64 i) (hv : a.eval v = val) (hi : (Lit.int .i64 i).wf = true)
    (hK : ∀ w', MapF P k w' b (putF f i val) (if (f i).isSome then n else n + 1) → w.mapTurned w' b → wpList P ops Q rest (a.put o.dst undef) w') :
    wpList P ops Q (o :: rest) a w := by
  refine wpList_plain hg fun K' hK' => ?_
  obtain ⟨w', hrun, r1, r2⟩ := h.store hk ht hn hi val
  unfold Oper.wp
  simp [execOp, hop, hm, hx, hv, hrun, Result.andThen]
  exact hK' _ _ (hK w' r1 r2)
end

end Go.Proofs.YtcagpmglijockaaDoor
