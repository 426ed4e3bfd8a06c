/-
  Texts laid together: AddM, AddP, RlC.
-/
import Derived.Test.YtmnpplkjhnoglaaGreatDoorP49
/-
  How many edges stand for two, counted from either end: the mathematics. (For LevelsSays.)
-/
namespace Go.Proofs.YtmnpplkjhnoglaaGreatDoor

/-- sums over a set of small numbers -/
def sumB (h : Nat → Nat) (S : Int → Bool) : Nat → Nat
  | 0 => 0
  | N + 1 => sumB h S N + if S (N : Int) then h N else 0
theorem sumB_same (h : Nat → Nat) (S : Int → Bool) (a : Int) (N : Nat) (hN : (N : Int) ≤ a) : sumB h (insS S a) N = sumB h S N := by
  induction N with
  | zero => rfl
  | succ N ih =>
    have e : insS S a (N : Int) = S (N : Int) := by
      unfold insS
      rw [decide_eq_false (by omega), Bool.false_or]
    show sumB h (insS S a) N + (if insS S a (N : Int) then h N else 0) = _
    rw [e, ih (by omega)]
    rfl
theorem sumB_put (h : Nat → Nat) (S : Int → Bool) (a : Nat) (N : Nat) (hl : a < N) (hn : S (a : Int) = false) : sumB h (insS S (a : Int)) N = sumB h S N + h a := by
  induction N with
  | zero => omega
  | succ N ih =>
    show sumB h (insS S (a : Int)) N + (if insS S (a : Int) (N : Int) then h N else 0) = sumB h S N + (if S (N : Int) then h N else 0) + h a
    by_cases e : a = N
    · subst e
      have e1 : insS S (a : Int) (a : Int) = true := by unfold insS; rw [decide_eq_true rfl, Bool.true_or]
      rw [sumB_same h S (a : Int) a (Int.le_refl _), e1, hn]
      simp
    · have e1 : insS S (a : Int) (N : Int) = S (N : Int) := by
        unfold insS
        rw [decide_eq_false (by omega), Bool.false_or]
      rw [ih (by omega), e1]
      omega
theorem sumB_none (h : Nat → Nat) (N : Nat) : sumB h (fun _ => false) N = 0 := by
  induction N with
  | zero => rfl
  | succ N ih =>
    show sumB h (fun _ => false) N + (if false then h N else 0) = 0
    rw [ih]; rfl
theorem sumB_le (h : Nat → Nat) (S : Int → Bool) (K : Nat) (hK : ∀ n, h n ≤ K) (N : Nat) : sumB h S N ≤ N * K := by
  induction N with
  | zero => exact Nat.zero_le _
  | succ N ih =>
    show sumB h S N + (if S (N : Int) then h N else 0) ≤ (N + 1) * K
    rw [Nat.succ_mul]
    have h2 := hK N
    split <;> omega
theorem sumB_congr {h g : Nat → Nat} {S : Int → Bool} : ∀ {N : Nat}, (∀ n, n < N → S (n : Int) = true → h n = g n) → sumB h S N = sumB g S N
  | 0, _ => rfl
  | N + 1, e => by
    show sumB h S N + (if S (N : Int) then h N else 0) = sumB g S N + (if S (N : Int) then g N else 0)
    rw [sumB_congr (fun n hn hs => e n (by omega) hs)]
    cases hS : S (N : Int) with
    | true => rw [e N (by omega) hS]
    | false => rfl
/-- how many of the first -/
def cntN (p : Nat → Bool) : Nat → Nat
  | 0 => 0
  | N + 1 => cntN p N + if p N then 1 else 0
/-- the sum over all of how many -/
def sumN (h : Nat → Nat) : Nat → Nat
  | 0 => 0
  | N + 1 => sumN h N + h N
theorem sumN_add (h g : Nat → Nat) (N : Nat) : sumN (fun n => h n + g n) N = sumN h N + sumN g N := by
  induction N with
  | zero => rfl
  | succ N ih =>
    show sumN (fun n => h n + g n) N + (h N + g N) = sumN h N + h N + (sumN g N + g N)
    rw [ih]; omega
theorem sumN_congr {h g : Nat → Nat} : ∀ {N : Nat}, (∀ n, n < N → h n = g n) → sumN h N = sumN g N
  | 0, _ => rfl
  | N + 1, e => by
    show sumN h N + h N = sumN g N + g N
    rw [sumN_congr (fun n hn => e n (by omega)), e N (by omega)]
theorem sumN_zero (N : Nat) : sumN (fun _ => 0) N = 0 := by
  induction N with
  | zero => rfl
  | succ N ih => show sumN (fun _ => 0) N + 0 = 0; rw [ih]
theorem sumN_cnt (p : Nat → Bool) (N : Nat) : sumN (fun n => if p n then 1 else 0) N = cntN p N := by
  induction N with
  | zero => rfl
  | succ N ih => show sumN _ N + _ = cntN p N + _; rw [ih]
/-- the other way round -/
theorem sumN_swap (R : Nat → Nat → Bool) (M : Nat) : ∀ N, sumN (fun m => cntN (fun n => R m n) M) N = sumN (fun n => cntN (fun m => R m n) N) M
  | 0 => (sumN_zero M).symm
  | N + 1 => by
    show sumN (fun m => cntN (fun n => R m n) M) N + cntN (fun n => R N n) M = sumN (fun n => cntN (fun m => R m n) N + if R N n then 1 else 0) M
    rw [sumN_swap R M N, sumN_add, sumN_cnt]
theorem sumB_all {h : Nat → Nat} {S : Int → Bool} : ∀ {N : Nat}, (∀ n, n < N → S (n : Int) = false → h n = 0) → sumB h S N = sumN h N
  | 0, _ => rfl
  | N + 1, e => by
    show sumB h S N + (if S (N : Int) then h N else 0) = sumN h N + h N
    rw [sumB_all (fun n hn hs => e n (by omega) hs)]
    cases hS : S (N : Int) with
    | true => rfl
    | false => rw [e N (by omega) hS]; rfl
theorem cntN_none {p : Nat → Bool} (h : ∀ n, p n = false) (N : Nat) : cntN p N = 0 := by
  induction N with
  | zero => rfl
  | succ N ih => show cntN p N + _ = 0; rw [ih, h N]; rfl
theorem cntN_congr {p q : Nat → Bool} (h : ∀ n, p n = q n) (N : Nat) : cntN p N = cntN q N := by rw [show p = q from funext h]
theorem cntN_ins {p q : Nat → Bool} {a : Nat} (hq : ∀ n, q n = (p n || n == a)) (ha : p a = false) : ∀ {N : Nat}, a < N → cntN q N = cntN p N + 1
  | 0, h => absurd h (Nat.not_lt_zero a)
  | N + 1, h => by
    show cntN q N + (if q N then 1 else 0) = cntN p N + (if p N then 1 else 0) + 1
    by_cases e : a = N
    · subst e
      have low : ∀ M, M ≤ a → cntN q M = cntN p M := fun M => by
        induction M with
        | zero => intro _; rfl
        | succ M ih =>
          intro hM
          show cntN q M + (if q M then 1 else 0) = cntN p M + (if p M then 1 else 0)
          have e1 : q M = p M := by
            rw [hq M, beq_eq_false_iff_ne.2 (show M ≠ a by omega), Bool.or_false]
          rw [ih (by omega), e1]
      rw [low a (Nat.le_refl _), ha, hq a, ha]
      simp
    · have e1 : q N = p N := by rw [hq N, beq_eq_false_iff_ne.2 (show N ≠ a by omega), Bool.or_false]
      rw [cntN_ins hq ha (show a < N by omega), e1]
      omega
/-- a list's edges, one each, counted by where they lead -/
theorem filter_cnt {P : LE → Bool} : ∀ {l : List LE}, Rsg l → (∀ e ∈ l, e.to < 256) → (l.filter P).length = cntN (fun k => l.any (fun e => e.to == k && P e)) 256
  | [], _, _ => (cntN_none (fun _ => rfl) 256).symm
  | y :: l, h, hb => by
    have ih := filter_cnt (P := P) h.tail (fun e he => hb e (List.mem_cons_of_mem _ he))
    have hy := hb y (List.mem_cons_self ..)
    cases hp : P y with
    | false =>
      rw [List.filter_cons_of_neg (by rw [hp]; decide), ih]
      exact cntN_congr (fun k => by rw [List.any_cons, hp, Bool.and_false, Bool.false_or]) 256
    | true =>
      rw [List.filter_cons_of_pos hp, List.length_cons, ih]
      refine (cntN_ins (a := y.to) (fun k => ?_) ?_ hy).symm
      · rw [List.any_cons, hp, Bool.and_true, Bool.or_comm]
        congr 1
        by_cases e : y.to = k
        · subst e; rfl
        · rw [beq_eq_false_iff_ne.2 e, beq_eq_false_iff_ne.2 (fun q => e q.symm)]
      · rw [List.any_eq_false]
        intro e he
        have := h.head e he
        rw [beq_eq_false_iff_ne.2 (show e.to ≠ y.to by omega)]
        simp
/-- those that stand for two, of one end; those of them that lead up -/
def addA (es : Nat → List LE) (n : Nat) : Nat := ((es n).filter (fun e => decide (0 ≤ e.mid))).length
def addU (es : Nat → List LE) (n : Nat) : Nat := ((es n).filter (fun e => decide (0 ≤ e.mid) && decide (n < e.to))).length
theorem added_two {L : List Nat} {es : Nat → List LE} (hE : Esy es) (hC : ∀ {a e}, e ∈ es a → a ∈ L ∧ e.to ∈ L) (hb : ∀ n ∈ L, n < 256) (hne : ∀ {a e}, e ∈ es a → e.to ≠ a) : sumB (addA es) (memS L) 256 = 2 * sumB (addU es) (memS L) 256 := by
  have hto : ∀ n, ∀ e ∈ es n, e.to < 256 := fun n e he => hb _ (hC he).2
  have hnil : ∀ n : Nat, memS L (n : Int) = false → es n = [] := fun n hn => by
    cases h : es n with
    | nil => rfl
    | cons y l =>
      have hm : y ∈ es n := by rw [h]; exact List.mem_cons_self ..
      have := memS_at.2 (hC hm).1
      rw [hn] at this
      cases this
  have hA : sumB (addA es) (memS L) 256 = sumN (addA es) 256 := sumB_all (fun n _ hn => by unfold addA; rw [hnil n hn]; rfl)
  have hU : sumB (addU es) (memS L) 256 = sumN (addU es) 256 := sumB_all (fun n _ hn => by unfold addU; rw [hnil n hn]; rfl)
  have up : ∀ n, addU es n = cntN (fun k => (es n).any (fun e => e.to == k && (decide (0 ≤ e.mid) && decide (n < e.to)))) 256 := fun n => filter_cnt (hE.ord n) (hto n)
  have dn : ∀ n, ((es n).filter (fun e => decide (0 ≤ e.mid) && decide (e.to < n))).length = cntN (fun k => (es n).any (fun e => e.to == k && (decide (0 ≤ e.mid) && decide (e.to < n)))) 256 := fun n => filter_cnt (hE.ord n) (hto n)
  have sp : ∀ n, addA es n = addU es n + ((es n).filter (fun e => decide (0 ≤ e.mid) && decide (e.to < n))).length := fun n => by
    unfold addA addU
    have key : ∀ l : List LE, (∀ e ∈ l, e.to ≠ n) → (l.filter (fun e => decide (0 ≤ e.mid))).length = (l.filter (fun e => decide (0 ≤ e.mid) && decide (n < e.to))).length + (l.filter (fun e => decide (0 ≤ e.mid) && decide (e.to < n))).length := fun l => by
      induction l with
      | nil => intro _; rfl
      | cons y l ih =>
        intro hl
        have h1 := ih (fun e he => hl e (List.mem_cons_of_mem _ he))
        have h2 := hl y (List.mem_cons_self ..)
        by_cases c1 : 0 ≤ y.mid
        · by_cases c2 : n < y.to
          · have c3 : ¬ y.to < n := by omega
            simp only [List.filter_cons, decide_eq_true c1, decide_eq_true c2, decide_eq_false c3, Bool.and_true, Bool.and_false, if_true, List.length_cons, Bool.false_eq_true, if_false]
            omega
          · have c3 : y.to < n := by omega
            simp only [List.filter_cons, decide_eq_true c1, decide_eq_false c2, decide_eq_true c3, Bool.and_true, Bool.and_false, if_true, List.length_cons, Bool.false_eq_true, if_false]
            omega
        · simp only [List.filter_cons, decide_eq_false c1, Bool.false_and, Bool.false_eq_true, if_false]
          exact h1
    exact key (es n) (fun e he => hne he)
  have sw : sumN (addU es) 256 = sumN (fun n => ((es n).filter (fun e => decide (0 ≤ e.mid) && decide (e.to < n))).length) 256 := by
    rw [sumN_congr (fun n _ => up n), sumN_congr (fun n _ => dn n), sumN_swap]
    refine sumN_congr (fun n _ => cntN_congr (fun k => ?_) 256)
    have key : ∀ a b : Nat, ∀ P : Nat → Nat → Bool, (es a).any (fun e => e.to == b && (decide (0 ≤ e.mid) && P a e.to)) = true → (es b).any (fun e => e.to == a && (decide (0 ≤ e.mid) && P e.to b)) = true := fun a b P h => by
      obtain ⟨e, he, h1⟩ := List.any_eq_true.1 h
      rw [Bool.and_eq_true, Bool.and_eq_true, beq_iff_eq] at h1
      obtain ⟨h1, h2, h3⟩ := h1
      have hbk := hE.back he
      rw [h1] at hbk h3
      refine List.any_eq_true.2 ⟨_, hbk, ?_⟩
      show (a == a && (decide (0 ≤ e.mid) && P a b)) = true
      rw [beq_self_eq_true, h2, h3]
      rfl
    have k1 := key k n (fun a b => decide (a < b))
    have k2 := key n k (fun a b => decide (b < a))
    cases h1 : (es k).any (fun e => e.to == n && (decide (0 ≤ e.mid) && decide (k < e.to))) with
    | true => exact (k1 h1).symm
    | false =>
      cases h2 : (es n).any (fun e => e.to == k && (decide (0 ≤ e.mid) && decide (e.to < n))) with
      | false => rfl
      | true => rw [k2 h2] at h1; cases h1
  rw [hA, hU, sumN_congr (fun n _ => sp n), sumN_add, ← sw]
  omega
end Go.Proofs.YtmnpplkjhnoglaaGreatDoor
/-
  How many edges stand for two: package levels' 'Added', and the reference's. (For LevelsSays.)
-/
namespace Go.Proofs.YtmnpplkjhnoglaaGreatDoor
open Go.RowKit Go.Maps

theorem sum_next {h : Nat → Nat} {L : List Nat} {left : Int → Bool} {n : Nat} (hn : n < 256) (hnL : n ∈ L) (hl : left (n : Int) = true) :
    sumB h (fun z => memS L z && !(left z && !decide (z = (n : Int)))) 256 = sumB h (fun z => memS L z && !left z) 256 + h n := by
  have e : (fun z => memS L z && !(left z && !decide (z = (n : Int)))) = insS (fun z => memS L z && !left z) (n : Int) := by
    funext z
    unfold insS
    by_cases q : z = (n : Int)
    · subst q
      rw [memS_at.2 hnL, decide_eq_true rfl]
      simp
    · rw [decide_eq_false q]
      simp
  rw [e, sumB_put h _ n 256 hn (by rw [hl]; simp)]
set_option maxHeartbeats 4000000 in
set_option maxRecDepth 1000000 in
theorem added_any {N lb vb eb top : Nat} {L : List Nat} {st : LSt} {f : Int → Option Value} (w : World) (V : LvAt w N lb vb eb top L st f) (hel : ∀ n, (st.es n).length ≤ 256) :
    Calls Tryz.prog 15 #[.pointer (some ⟨lb, 0, none⟩)] w fun e w' => e = .returned (.int .i64 ((sumB (addA st.es) (memS L) 256 : Nat) / 2 : Int)) ∧ Below w.heap.size w w' := by
  have c2 := V.c2
  have hel2 := V.lts.2.2
  have em := V.em
  have HV : Hid (LvAt w N lb vb eb top L st f) := V
  have HBD : Hid (∀ n ∈ L, n < 256) := V.bd
  have HEL : Hid (∀ n, (st.es n).length ≤ 256) := hel
  have HFS : Hid (∀ (x : Int) (v : Value), f x = some v → ∃ n : Nat, x = (n : Int) ∧ n ∈ L) := fun x v h => by
    obtain ⟨h1, h2⟩ := V.no x v h
    exact ⟨x.toNat, by omega, h2⟩
  have HST : Hid (sumB (addA st.es) (fun z => memS L z && !(fun i => (f i).isSome) z) 256 = 0) := by
    have e : (fun z => memS L z && !(fun i => (f i).isSome) z) = fun _ => false := by
      funext z
      cases hm : memS L z with
      | false => rfl
      | true =>
        have h3 : 0 ≤ z ∧ z.toNat ∈ L := of_decide_eq_true hm
        obtain ⟨v, e1, _⟩ := V.row z.toNat h3.2
        rw [Int.toNat_of_nonneg h3.1] at e1
        show (true && !(f z).isSome) = false
        rw [e1]; rfl
    unfold Hid
    rw [e]
    exact sumB_none _ _
  clear V hel
  go_enter Tryz.func15, Tryz.ntmps15
  go_wp2_with (first | (at_range; refine wpList_rangeF rfl _ 47 rfl 3 52 law3 Tryz.underM eb _ _ rfl em ?_; intro w3 hrg3 hg3 hs3) | go_in)
  have B3 : Below w.heap.size w w3 := (Below.refl _ _).grown hg3 (Nat.le_refl _) (by simp)
  clear hg3 em c2
  go_loopg [3] L.length (fun gj sv wq => ∃ (left : Int → Bool) (cnt : Nat), gj = cnt ∧ RngF Tryz.prog 3 wq eb w.heap.size f L.length left cnt ∧ sv = .int .i64 ((sumB (addA st.es) (fun z => memS L z && !left z) 256 : Nat) : Int) ∧ Below w.heap.size w wq ∧ w.heap.size < wq.heap.size)
  case atStart => exact ⟨_, _, rfl, hrg3, by rw [HST.out]; rfl, B3, by omega⟩
  case round =>
    clear hrg3 B3 HST
    obtain ⟨left, cnt, hgj, hrg, rfl, hBw, hrq⟩ := hrel
    have hsl := sumB_le (addA st.es) (fun z => memS L z && !left z) 256 (fun n => Nat.le_trans (List.length_filter_le _ _) (HEL.out n)) 256
    go_wp2_with (first | (at_next; refine wpList_nextF rfl _ rfl 3 law3 eb w.heap.size _ _ _ _ rfl hrg ?_ ?_) | go_in)
    · intro hc0 hl0
      have e : (fun z => memS L z && !left z) = memS L := by
        funext z
        rw [hl0 z]; simp
      rw [e] at hsl ⊢
      clear hrg hl0 e
      obtain ⟨zi, hzi⟩ : ∃ zi : Int, zi = ((sumB (addA st.es) (memS L) 256 : Nat) : Int) := ⟨_, rfl⟩
      have hz : (0 : Int) ≤ zi := by omega
      have hz2 : zi ≤ 65536 := by omega
      rw [← hzi]
      have HZI : Hid _ := hzi
      clear hzi
      have t1 : Int.tdiv zi 2 = zi / 2 := Int.tdiv_eq_ediv_of_nonneg hz
      have t2 : IntKind.i64.wrap (zi / 2) = zi / 2 := wrap_small' (by omega) (by omega)
      have t3 : IntKind.i64.wrap (Int.tdiv zi 2) = zi / 2 := by rw [t1]; exact t2
      clear hsl
      go_wp2
      go_ret
      exact ⟨by rw [← HZI.out]; rfl, hBw⟩
    · intro x v w4 cnt1 hwx hlx hfx hrg1 hlt hg1 hs1 hen
      obtain ⟨n, hxn, hnL⟩ := HFS.out x v hfx
      subst hxn
      have B4 : Below w.heap.size w w4 := hBw.grown hg1 hBw.size (fun k e => by cases e; omega)
      have hr4 : w.heap.size < w4.heap.size := by omega
      have V4 := HV.out.below B4
      obtain ⟨v', e1, e2⟩ := V4.row n hnL
      rw [hfx] at e1
      cases e1
      obtain ⟨A4, cap4, rfl, row4, _⟩ := rowL_of e2
      have hfind := find_added (cap := cap4) (p := fun e => decide (0 ≤ e.mid)) w4 row4 (HEL.out n) (fun w' e _ _ => isAdded_any w' _ _ _ _)
      have HSN : Hid (sumB (addA st.es) (fun z => memS L z && !(left z && !decide (z = (n : Int)))) 256 = sumB (addA st.es) (fun z => memS L z && !left z) 256 + addA st.es n) := sum_next (HBD.out n hnL) hnL hlx
      have HAN : Hid (addA st.es n = ((st.es n).filter (fun e => decide (0 ≤ e.mid))).length) := rfl
      have hfl : ((st.es n).filter (fun e => decide (0 ≤ e.mid))).length ≤ 256 := Nat.le_trans (List.length_filter_le _ _) (HEL.out n)
      clear hrg hBw hg1 hs1 V4 e2 row4 hfx hlx hnL
      go_wp2_with fail
      refine hfind.mono ?_
      rintro r w5 ⟨v5, rfl, own5, hb5⟩
      obtain ⟨A5, cap5, rfl, _⟩ := rowL_of own5
      have hrg5 := hrg1.keep (F := fun _ => False) (Keep.of_below hb5) id id
      have B5 := B4.trans (hb5.mono B4.size)
      have hr5 := Nat.lt_of_lt_of_le hr4 hb5.size
      clear hfind own5 hb5 hrg1 B4 hen
      go_wp2
      go_roundg cnt1
      case measure => omega
      case rel => exact ⟨_, cnt1, rfl, hrg5, by rw [HSN.out, HAN.out]; push_cast; rfl, B5, hr5⟩
theorem addU_yes {es : Nat → List LE} {n i : Nat} {e : LE} (he : (es n)[i]? = some e) (h : 0 ≤ e.mid ∧ n < e.to) : (((es n).take (i + 1)).filter (fun e => decide (0 ≤ e.mid) && decide (n < e.to))).length = (((es n).take i).filter (fun e => decide (0 ≤ e.mid) && decide (n < e.to))).length + 1 := by
  rw [List.take_add_one, he, List.filter_append, List.length_append]
  have e1 : ([e].filter (fun e => decide (0 ≤ e.mid) && decide (n < e.to))) = [e] := by
    rw [List.filter_cons_of_pos (by rw [decide_eq_true h.1, decide_eq_true h.2]; rfl)]; rfl
  show _ + ([e].filter _).length = _
  rw [e1]; rfl
theorem addU_no {es : Nat → List LE} {n i : Nat} {e : LE} (he : (es n)[i]? = some e) (h : ¬ (0 ≤ e.mid ∧ n < e.to)) : (((es n).take (i + 1)).filter (fun e => decide (0 ≤ e.mid) && decide (n < e.to))).length = (((es n).take i).filter (fun e => decide (0 ≤ e.mid) && decide (n < e.to))).length := by
  rw [List.take_add_one, he, List.filter_append, List.length_append]
  have e1 : ([e].filter (fun e => decide (0 ≤ e.mid) && decide (n < e.to))) = [] := by
    rw [List.filter_cons_of_neg (fun q => h (by rw [Bool.and_eq_true] at q; exact ⟨of_decide_eq_true q.1, of_decide_eq_true q.2⟩))]; rfl
  show _ + ([e].filter _).length = _
  rw [e1]; rfl
set_option maxHeartbeats 4000000 in
set_option maxRecDepth 1000000 in
theorem radded_any {lb vb eb top : Nat} {L : List Nat} {st : LSt} {f : Int → Option Value} (w : World) (V : RLv w lb vb eb top L st f) (hel : ∀ n, (st.es n).length ≤ 256) :
    Calls Tryz.prog 16 #[.pointer (some ⟨lb, 0, none⟩)] w fun e w' => e = .returned (.int .i64 ((sumB (addU st.es) (memS L) 256 : Nat) : Int)) ∧ Below w.heap.size w w' := by
  have c1 := V.c1
  have hel2 := V.lts.2.2
  have em := V.em.mp
  have HV : Hid (RLv w lb vb eb top L st f) := V
  have HBD : Hid (∀ n ∈ L, n < 256) := V.bd
  have HEL : Hid (∀ n, (st.es n).length ≤ 256) := hel
  have HFS : Hid (∀ (x : Int) (v : Value), f x = some v → ∃ n : Nat, x = (n : Int) ∧ n ∈ L) := fun x v h => by
    by_cases q : 0 ≤ x ∧ x.toNat ∈ L
    · exact ⟨x.toNat, by omega, q.2⟩
    · rw [V.no x q] at h; cases h
  have HST : Hid (sumB (addU st.es) (fun z => memS L z && !(fun i => (f i).isSome) z) 256 = 0) := by
    have e : (fun z => memS L z && !(fun i => (f i).isSome) z) = fun _ => false := by
      funext z
      cases hm : memS L z with
      | false => rfl
      | true =>
        have h3 : 0 ≤ z ∧ z.toNat ∈ L := of_decide_eq_true hm
        obtain ⟨A, cap, e1, _⟩ := V.yes z.toNat h3.2
        rw [Int.toNat_of_nonneg h3.1] at e1
        show (true && !(f z).isSome) = false
        rw [e1]; rfl
    unfold Hid
    rw [e]
    exact sumB_none _ _
  clear V hel
  generalize cntS (keyB f) 256 = nk at *
  go_enter Tryz.func16, Tryz.ntmps16
  go_wp2_with (first | (at_range; refine wpList_rangeF rfl _ 47 rfl 3 52 law3 Tryz.underM eb _ _ rfl em ?_; intro w3 hrg3 hg3 hs3) | go_in)
  have B3 : Below w.heap.size w w3 := (Below.refl _ _).grown hg3 (Nat.le_refl _) (by simp)
  clear hg3 em c1
  go_loopg [3] nk (fun gj sv wq => ∃ (left : Int → Bool) (cnt : Nat), gj = cnt ∧ RngF Tryz.prog 3 wq eb w.heap.size f nk left cnt ∧ sv = .int .i64 ((sumB (addU st.es) (fun z => memS L z && !left z) 256 : Nat) : Int) ∧ Below w.heap.size w wq ∧ w.heap.size < wq.heap.size)
  case atStart => exact ⟨_, _, rfl, hrg3, by rw [HST.out]; rfl, B3, by omega⟩
  case round =>
    clear hrg3 B3 HST
    obtain ⟨left, cnt, hgj, hrg, rfl, hBw, hrq⟩ := hrel
    have hsl := sumB_le (addU st.es) (fun z => memS L z && !left z) 256 (fun n => Nat.le_trans (List.length_filter_le _ _) (HEL.out n)) 256
    go_wp2_with (first | (at_next; refine wpList_nextF rfl _ rfl 3 law3 eb w.heap.size _ _ _ _ rfl hrg ?_ ?_) | go_in)
    · intro hc0 hl0
      have HE : Hid ((fun z => memS L z && !left z) = memS L) := by
        unfold Hid
        funext z
        rw [hl0 z]; simp
      clear hrg hl0
      go_wp2
      go_ret
      exact ⟨by rw [HE.out]; rfl, hBw⟩
    · intro x v w4 cnt1 hwx hlx hfx hrg1 hlt hg1 hs1 hen
      obtain ⟨n, hxn, hnL⟩ := HFS.out x v hfx
      subst hxn
      have B4 : Below w.heap.size w w4 := hBw.grown hg1 hBw.size (fun k e => by cases e; omega)
      have hr4 : w.heap.size < w4.heap.size := by omega
      have V4 := HV.out.below B4
      obtain ⟨A4, cap4, h47, row4, _⟩ := V4.edges hnL
      have c14 := V4.c1
      have HSN : Hid (sumB (addU st.es) (fun z => memS L z && !(left z && !decide (z = (n : Int)))) 256 = sumB (addU st.es) (fun z => memS L z && !left z) 256 + addU st.es n) := sum_next (HBD.out n hnL) hnL hlx
      have hel4 := HEL.out n
      clear hrg hBw hg1 hs1 V4 hfx hlx
      generalize sumB (addU st.es) (fun z => memS L z && !left z) 256 = S0 at *
      go_wp2
      go_loopw [3, 5] (fun kv iv wr => ∃ i : Nat, i ≤ (st.es n).length ∧ iv = .int .i64 i ∧ kv = .int .i64 ((S0 : Int) + ((((st.es n).take i).filter (fun e => decide (0 ≤ e.mid) && decide (n < e.to))).length : Nat)) ∧ wr = w4)
        (fun _ i _ => (st.es n).length - (intOf i).toNat)
      case atStart => exact ⟨0, Nat.zero_le _, rfl, by simp, rfl⟩
      case round =>
        obtain ⟨i, hi, rfl, rfl, rfl⟩ := hrel
        have hfl : (((st.es n).take i).filter (fun e => decide (0 ≤ e.mid) && decide (n < e.to))).length ≤ 256 := Nat.le_trans (List.length_filter_le _ _) (by rw [List.length_take]; omega)
        by_cases hil : i < (st.es n).length
        · obtain ⟨e, he⟩ : ∃ e, (st.es n)[i]? = some e := ⟨(st.es n)[i], List.getElem?_eq_getElem hil⟩
          obtain ⟨bb, oo, rfl, q0, q1, q2, q3⟩ := row4 i e he
          have i1 : (0 : Int) ≤ (i : Int) := by omega
          have i2 : (i : Int) < ((st.es n).length : Int) := by omega
          by_cases hc : 0 ≤ e.mid ∧ n < e.to
          · have HY : Hid _ := addU_yes he hc
            have d1 : decide (0 ≤ e.mid) = true := decide_eq_true hc.1
            have d2 : decide ((n : Int) < (e.to : Int)) = true := decide_eq_true (by omega)
            clear hc he
            generalize (((st.es n).take i).filter (fun e => decide (0 ≤ e.mid) && decide (n < e.to))).length = c0 at *
            generalize (e.to : Int) = et at *
            generalize e.mid = em at *
            go_wp2
            go_roundw
            case rel => exact ⟨i + 1, by omega, by go_num, by rw [HY.out]; push_cast; rw [Int.add_assoc], trivial⟩
            case measure => simp [intOf]; omega
          · have HY : Hid _ := addU_no he hc
            clear he
            by_cases hm : 0 ≤ e.mid
            · have d1 : decide (0 ≤ e.mid) = true := decide_eq_true hm
              have d2 : decide ((n : Int) < (e.to : Int)) = false := decide_eq_false (fun q => hc ⟨hm, by omega⟩)
              clear hc hm
              generalize (((st.es n).take i).filter (fun e => decide (0 ≤ e.mid) && decide (n < e.to))).length = c0 at *
              generalize (e.to : Int) = et at *
              generalize e.mid = em at *
              go_wp2
              go_roundw
              case rel => exact ⟨i + 1, by omega, by go_num, by rw [HY.out], trivial⟩
              case measure => simp [intOf]; omega
            · have d1 : decide (0 ≤ e.mid) = false := decide_eq_false hm
              clear hc hm
              generalize (((st.es n).take i).filter (fun e => decide (0 ≤ e.mid) && decide (n < e.to))).length = c0 at *
              generalize (e.to : Int) = et at *
              generalize e.mid = em at *
              go_wp2
              go_roundw
              case rel => exact ⟨i + 1, by omega, by go_num, by rw [HY.out], trivial⟩
              case measure => simp [intOf]; omega
        · have ei : i = (st.es n).length := by omega
          subst ei
          have HAN : Hid (((((st.es n).take (st.es n).length).filter (fun e => decide (0 ≤ e.mid) && decide (n < e.to))).length : Nat) = addU st.es n) := by
            unfold Hid
            rw [List.take_length]
            rfl
          go_wp2
          go_roundg cnt1
          case measure => omega
          case rel => exact ⟨_, cnt1, rfl, hrg1, by rw [HSN.out, HAN.out]; push_cast; rfl, B4, hr4⟩
end Go.Proofs.YtmnpplkjhnoglaaGreatDoor
/-
  What each corner that is left costs from one, without another: the reference's 'apart'. (For LevelsSays.)
-/
namespace Go.Proofs.YtmnpplkjhnoglaaGreatDoor
open Go.RowKit

theorem rlxd_ap {st : LSt} {n : Nat} {B : Int → Option (Int × Int)} {x : Nat} (h : ∀ m e s d, m < (st.es x).length → (st.es x)[m]? = some e → (st.lev e.to = 0 ∧ e.to ≠ n) → B (x : Int) = some (s, d) → ∃ s' d', B (e.to : Int) = some (s', d') ∧ val s' d' ≤ val s d + val e.s e.d) : Rlxd (apE st n) B x := fun {s d e} hs he => by
  obtain ⟨k1, k2⟩ := apE_mem.1 he
  obtain ⟨m, hm, hme⟩ := List.getElem_of_mem k1
  exact h m e s d hm (by rw [List.getElem?_eq_getElem hm, hme]) k2 hs
theorem pushB_none (a s d : Int) : pushB (fun _ => none) a s d = true := rfl
set_option maxHeartbeats 8000000 in
set_option maxRecDepth 1000000 in
theorem rapart_any {lb vb eb top capN n o : Nat} {A : Option Addr} {L : List Nat} {st : LSt} {f : Int → Option Value} (w : World) (G : RLv w lb vb eb top L st f) (O : Okl L 512 st) (hrow : OldRow w A L.length (fun i => (L.getD i 0 : Nat))) (hLL : L.length ≤ 256) (ho : o ∈ L) :
    Calls Tryz.prog 91 #[.pointer (some ⟨lb, 0, none⟩), .slice A L.length capN, .int .i64 (o : Int), .int .i64 (n : Int)] w fun e w' => ∃ cb ib B, e = .returned (.tuple #[.map (some cb), .map (some ib)]) ∧ Lbs w' w.heap.size cb ib B ∧ Apt L st n o B ∧ Below w.heap.size w w' := by
  have hmk := @run_makeMap Tryz.prog
  have hob := G.bd o ho
  have hwo := wf_small (a := (o : Int)) (by omega) (by omega)
  have EO := apE_ok O G.bd n
  have HEO : Hid (EsOk L (apE st n)) := EO
  have HEL : Hid (∀ a, (st.es a).length ≤ 256) := fun a => O.len G.bd a
  have HBD : Hid (∀ {a e}, e ∈ st.es a → 0 ≤ e.s ∧ 0 ≤ e.d ∧ e.s ≤ 512 ∧ e.d ≤ 512) := fun he => O.bd he
  have HEN : Hid (∀ {a e}, e ∈ st.es a → e.to ∈ L) := fun he => (O.cor.ends he).2
  have HLB : Hid (∀ x ∈ L, x < 256) := G.bd
  have b1 : Below w.heap.size w (w.alloc (.map #[] 0)) := (Below.refl _ _).alloc (Nat.le_refl _) _
  have m1 := MapF.made w Tryz.prog 3
  obtain ⟨w1, hrun1, hm1, ht1⟩ := m1.store law3 Tryz.underK (by unfold maxLen; omega) hwo (.agg #[.int .i64 0, .int .i64 0])
  have K1 := turned_keep ht1
  have B1 : Below w.heap.size w w1 := b1.trans (K1.to_below b1.size (fun g hg => by omega))
  have m2 := MapF.made w1 Tryz.prog 3
  obtain ⟨w2, hrun2, hm2, ht2⟩ := m2.store law3 Tryz.underBb (by unfold maxLen; omega) hwo (.bool true)
  have K2 := turned_keep ht2
  have b2 : Below w1.heap.size w1 (w1.alloc (.map #[] 0)) := (Below.refl _ _).alloc (Nat.le_refl _) _
  have B2 : Below w.heap.size w w2 := (B1.trans (b2.mono B1.size)).trans (K2.to_below (B1.trans (b2.mono B1.size)).size (fun g hg => by have := B1.size; omega))
  have hlt1 : w.heap.size < w1.heap.size := hm1.lt
  have l0 : Lbs w2 w.heap.size w.heap.size w1.heap.size (putH (fun _ => none) (o : Int) 0 0) := by
    refine ⟨?_, ?_, Nat.le_refl _, by omega, by omega⟩
    · have h := (hm1.keep (F := fun _ => False) (Keep.of_below b2) id).keep K2 (by omega)
      have e := cnt_after (a := (o : Int)) (fun _ => none) (by omega) (by omega) 0 0
      rw [cnt_none] at e
      rw [← e, ← fv_put]
      exact h
    · have e := cnt_after (a := (o : Int)) (fun _ => none) (by omega) (by omega) 0 0
      rw [cnt_none] at e
      rw [← e, ← bv_put]
      exact hm2
  have HR0 : Hid (RB L (apE st n) [⟨(o : Int), 0, 0, 0⟩] (putH (fun _ => none) (o : Int) 0 0)) := by
    have h := (RB.start L (apE st n)).in EO (e := ⟨(o : Int), 0, 0, 0⟩) ⟨Int.le_refl 0, (by show (0 : Int) ≤ 1048576; decide), Int.le_refl 0, (by show (0 : Int) ≤ 1048576; decide)⟩
    have e : inR L (fun _ => none) ⟨(o : Int), 0, 0, 0⟩ = putH (fun _ => none) (o : Int) 0 0 := by
      unfold inR
      rw [if_pos ⟨decide_eq_true ⟨by show (0 : Int) ≤ (o : Int); omega, by show ((o : Int)).toNat ∈ L; rw [Int.toNat_natCast]; exact ho⟩, pushB_none _ _ _⟩]
    rw [e] at h
    exact h
  have HG : Hid (RLv w lb vb eb top L st f) := G
  have HRW : Hid (OldRow w A L.length (fun i => (L.getD i 0 : Nat))) := hrow
  have HLL : Hid (L.length ≤ 256) := hLL
  generalize putH (fun _ => none) (o : Int) 0 0 = B0 at *
  clear m1 hm1 ht1 K1 B1 m2 hm2 ht2 K2 b2 b1 EO O G hrow hLL hob
  go_enter Tryz.func91, Tryz.ntmps91
  go_wp2
  generalize w1.heap.size = ib at *
  clear hmk hrun1 hrun2 hwo
  clear w1
  go_loopg [12] (potG 109969568169985 B0 256 + 1) (fun gk av wr => ∃ (ag : Bool) (B : Int → Option (Int × Int)), av = .bool ag ∧ gk = potG 109969568169985 B 256 + (if ag then 1 else 0) ∧ Lbs wr w.heap.size w.heap.size ib B ∧ Hid (RB L (apE st n) [⟨(o : Int), 0, 0, 0⟩] B) ∧ Hid (ag = false → ∀ x ∈ L, Rlxd (apE st n) B x) ∧ Below w.heap.size w wr)
  case atStart => exact ⟨true, B0, rfl, rfl, l0, HR0, fun q => (by cases q), B2⟩
  case round =>
    clear l0 HR0 B2 B0
    obtain ⟨ag, B, rfl, hgk, lb0, HR1, hdone, hB⟩ := hrel
    have HGK : Hid _ := hgk
    clear hgk
    cases ag with
    | true =>
      clear hdone
      go_wp2
      go_loopw [12, 13] (fun av iv wr => ∃ (ag : Bool) (i : Nat) (B' : Int → Option (Int × Int)), av = .bool ag ∧ iv = .int .i64 i ∧ i ≤ L.length ∧ Lbs wr w.heap.size w.heap.size ib B' ∧ Hid (RB L (apE st n) [⟨(o : Int), 0, 0, 0⟩] B') ∧ Hid (ag = true → potG 109969568169985 B' 256 < potG 109969568169985 B 256) ∧ Hid (ag = false → B' = B ∧ ∀ j, j < i → Rlxd (apE st n) B (L.getD j 0)) ∧ Below w.heap.size w wr)
        (fun _ i _ => L.length - (intOf i).toNat)
      case atStart => exact ⟨false, 0, B, rfl, rfl, Nat.zero_le _, lb0, HR1, fun q => (by cases q), fun _ => ⟨rfl, fun j hj => absurd hj (Nat.not_lt_zero j)⟩, hB⟩
      case round =>
        clear lb0 HR1 hB
        obtain ⟨ag, i, B1, rfl, rfl, hi1, lb1, HR1, hpot, hfal, hB⟩ := hrel
        have hLL : L.length ≤ 256 := HLL.out
        by_cases hlt : i < L.length
        · obtain ⟨ba, oa, hA, hba, hcell0⟩ := (HRW.out.below hB) i hlt
          subst hA
          have i1 : (0 : Int) ≤ (i : Int) := by omega
          have i2 : (i : Int) < (L.length : Int) := by omega
          obtain ⟨x, hx⟩ : ∃ x, L.getD i 0 = x := ⟨_, rfl⟩
          have hcell : wr.cell? ⟨ba, oa + i, none⟩ = some (.int .i64 (x : Int)) := by rw [← hx]; exact hcell0
          have hxL : x ∈ L := by rw [← hx, getD_at _ _ hlt]; exact List.getElem_mem hlt
          have HNI : Hid (L.getD i 0 = x ∧ x ∈ L) := ⟨hx, hxL⟩
          have hsm := HLB.out x hxL
          have hwx := wf_small (a := (x : Int)) (by omega) (by omega)
          have h126 := lb1.is hwx
          have HW1 : Hid (Below w.heap.size w wr) := hB
          clear hx hxL hcell0
          cases hBx : B1 (x : Int) with
          | none =>
            rw [hBx] at h126
            have h126 : (Instr.lookup 126 (.map (some ib)) (.int .i64 (x : Int)) false).run Tryz.prog wr = .ok (.bool false) wr := h126
            have HRX : Hid (ag = false → B1 = B ∧ ∀ j, j < i + 1 → Rlxd (apE st n) B (L.getD j 0)) := fun q => by
              obtain ⟨e1, e2⟩ := hfal.out q
              refine ⟨e1, fun j hj => ?_⟩
              by_cases ej : j < i
              · exact e2 j ej
              · have : j = i := by omega
                subst this
                rw [HNI.out.1]
                exact rlxd_none (by rw [← e1]; exact hBx)
            clear hfal
            go_wp2
            go_roundw
            case rel => exact ⟨ag, i + 1, B1, rfl, by go_num, by omega, lb1, HR1, hpot, HRX.out, hB⟩
            case measure => simp [intOf]; omega
          | some c0 =>
            rw [hBx] at h126
            replace h126 : (Instr.lookup 126 (.map (some ib)) (.int .i64 (x : Int)) false).run Tryz.prog wr = .ok (.bool true) wr := h126
            have HBX : Hid (∃ s d, B1 (x : Int) = some (s, d)) := ⟨c0.1, c0.2, hBx⟩
            clear hBx c0
            go_wp2
            clear hcell h126
            obtain ⟨WB, hWB⟩ : ∃ WB, WB = wr := ⟨_, rfl⟩
            go_loopw [12, 15] (fun av kv wr => ∃ (ag : Bool) (k : Nat) (B' : Int → Option (Int × Int)), av = .bool ag ∧ kv = .int .i64 k ∧ k ≤ (st.es x).length ∧ Lbs wr w.heap.size w.heap.size ib B' ∧ Hid (RB L (apE st n) [⟨(o : Int), 0, 0, 0⟩] B') ∧ Hid (∃ s d, B' (x : Int) = some (s, d)) ∧ Hid (ag = true → potG 109969568169985 B' 256 < potG 109969568169985 B 256) ∧ Hid (ag = false → B' = B ∧ (∀ j, j < i → Rlxd (apE st n) B (L.getD j 0)) ∧ ∀ m e s d, m < k → (st.es x)[m]? = some e → (st.lev e.to = 0 ∧ e.to ≠ n) → B (x : Int) = some (s, d) → ∃ s' d', B (e.to : Int) = some (s', d') ∧ val s' d' ≤ val s d + val e.s e.d) ∧ Below w.heap.size w wr)
              (fun _ k _ => (st.es x).length - (intOf k).toNat)
            case atStart => exact ⟨ag, 0, B1, rfl, rfl, Nat.zero_le _, lb1, HR1, HBX, hpot, fun q => ⟨(hfal.out q).1, (hfal.out q).2, fun m _ _ _ hm => absurd hm (Nat.not_lt_zero m)⟩, hB⟩
            case round =>
              clear lb1 HR1 hB hpot hfal hWB WB HW1 HBX
              obtain ⟨ag, k, B2, rfl, rfl, hk, lb2, HR1, HBX, hpot, hfal, hB⟩ := hrel
              have Gr := HG.out.below hB
              have p1 := Gr.c1
              have p0 := Gr.c0
              obtain ⟨A', cap', h47, hrow, _⟩ := Gr.edges HNI.out.2
              have hel : (st.es x).length ≤ 256 := HEL.out x
              by_cases hkl : k < (st.es x).length
              · obtain ⟨e, he⟩ : ∃ e, (st.es x)[k]? = some e := ⟨(st.es x)[k], List.getElem?_eq_getElem hkl⟩
                obtain ⟨bb, oo, hA', d0, d1, d2, d3⟩ := hrow k e he
                subst hA'
                have k1 : (0 : Int) ≤ (k : Int) := by omega
                have k2 : (k : Int) < ((st.es x).length : Int) := by omega
                have heM := List.mem_of_getElem? he
                have heL := HEN.out heM
                have hst := HLB.out _ heL
                have hwt := wf_small (a := (e.to : Int)) (by omega) (by omega)
                have HE : Hid ((st.es x)[k]? = some e ∧ e ∈ st.es x ∧ e.to ∈ L) := ⟨he, heM, heL⟩
                have b5 : Below wr.heap.size wr (wr.alloc (.cells #[.int .i64 (e.to : Int), .int .i64 e.s, .int .i64 e.d, .int .i64 e.mid] 67)) := (Below.refl _ _).alloc (Nat.le_refl _) _
                have y0 : (wr.alloc (.cells #[.int .i64 (e.to : Int), .int .i64 e.s, .int .i64 e.d, .int .i64 e.mid] 67)).cell? ⟨wr.heap.size, 0, none⟩ = some (.int .i64 (e.to : Int)) := World.cell?_alloc_at #[.int .i64 (e.to : Int), .int .i64 e.s, .int .i64 e.d, .int .i64 e.mid] 67 wr.heap.size 0 rfl
                have y1 : (wr.alloc (.cells #[.int .i64 (e.to : Int), .int .i64 e.s, .int .i64 e.d, .int .i64 e.mid] 67)).cell? ⟨wr.heap.size, 1, none⟩ = some (.int .i64 e.s) := World.cell?_alloc_at #[.int .i64 (e.to : Int), .int .i64 e.s, .int .i64 e.d, .int .i64 e.mid] 67 wr.heap.size 1 rfl
                have y2 : (wr.alloc (.cells #[.int .i64 (e.to : Int), .int .i64 e.s, .int .i64 e.d, .int .i64 e.mid] 67)).cell? ⟨wr.heap.size, 2, none⟩ = some (.int .i64 e.d) := World.cell?_alloc_at #[.int .i64 (e.to : Int), .int .i64 e.s, .int .i64 e.d, .int .i64 e.mid] 67 wr.heap.size 2 rfl
                have lb5 := lb2.below b5
                have B5 := hB.trans (b5.mono hB.size)
                have Gr5 := Gr.below b5
                have h46 := fun m => (Gr5.below (below_drewN (Below.refl _ _) m)).look heL
                have g0 := Gr5.c0
                clear Gr hrow lb2 hB he heM heL p0 b5
                go_upto_region 15 with fail
                clear h47 d0 d1 d2 d3 p1
                generalize wr.alloc (.cells #[.int .i64 (e.to : Int), .int .i64 e.s, .int .i64 e.d, .int .i64 e.mid] 67) = w5 at *
                generalize wr.heap.size = Y at *
                go_cut [73] from 60 to 73 (fun b wd => b = .bool (!decide (st.lev e.to = 0 ∧ e.to ≠ n)) ∧ Below w5.heap.size w5 wd)
                case first =>
                  clear lb5 Gr5 y1 y2
                  have hlz : st.lev e.to = 0 ↔ (st.lev e.to : Int) = 0 := by omega
                  have hln : e.to = n ↔ (e.to : Int) = (n : Int) := by omega
                  have hl0 : 0 ≤ (st.lev e.to : Int) := by omega
                  generalize (st.lev e.to : Int) = lvz at *
                  generalize (e.to : Int) = et at *
                  generalize (n : Int) = nz at *
                  by_cases q1 : lvz = 0
                  · have d1 : decide (0 < lvz) = false := decide_eq_false (by omega)
                    by_cases q2 : et = nz
                    · have hr : decide (st.lev e.to = 0 ∧ e.to ≠ n) = false := decide_eq_false (fun h => h.2 (hln.2 q2))
                      have d2 : (et == nz) = true := beq_iff_eq.2 q2
                      have HHR : Hid _ := hr
                      clear hr hlz hln q1 q2 hl0
                      go_quiet (fail)
                      go_wp2_with fail
                      go_meet
                      exact ⟨by rw [HHR.out]; rfl, below_drewN (Below.refl _ _) _⟩
                    · have hr : decide (st.lev e.to = 0 ∧ e.to ≠ n) = true := decide_eq_true ⟨hlz.2 q1, fun h => q2 (hln.1 h)⟩
                      have d2 : (et == nz) = false := beq_eq_false_iff_ne.2 q2
                      have HHR : Hid _ := hr
                      clear hr hlz hln q1 q2 hl0
                      go_quiet (fail)
                      go_wp2_with fail
                      go_meet
                      exact ⟨by rw [HHR.out]; rfl, below_drewN (Below.refl _ _) _⟩
                  · have d1 : decide (0 < lvz) = true := decide_eq_true (by omega)
                    have hr : decide (st.lev e.to = 0 ∧ e.to ≠ n) = false := decide_eq_false (fun h => q1 (hlz.1 h.1))
                    have HHR : Hid _ := hr
                    clear hr hlz hln q1 hl0
                    go_quiet (fail)
                    go_wp2_with fail
                    go_meet
                    exact ⟨by rw [HHR.out]; rfl, below_drewN (Below.refl _ _) _⟩
                case rest =>
                  obtain ⟨rfl, hb6⟩ := hcut
                  have lb6 := lb5.below hb6
                  have B6 := B5.trans (hb6.mono B5.size)
                  have kc : ∀ {y : Addr} {z : Value}, w5.cell? y = some z → wc.cell? y = some z := fun {y z} h => (hb6.cell (World.block_lt_of_cell? w5 y h)).trans h
                  have y0 := kc y0
                  have y1 := kc y1
                  have y2 := kc y2
                  clear kc hb6 lb5 B5 h46 g0 Gr5
                  cases hq : decide (st.lev e.to = 0 ∧ e.to ≠ n) with
                  | false =>
                    have HF2 : Hid (ag = false → B2 = B ∧ (∀ j, j < i → Rlxd (apE st n) B (L.getD j 0)) ∧ ∀ m e s d, m < k + 1 → (st.es x)[m]? = some e → (st.lev e.to = 0 ∧ e.to ≠ n) → B (x : Int) = some (s, d) → ∃ s' d', B (e.to : Int) = some (s', d') ∧ val s' d' ≤ val s d + val e.s e.d) := fun q => by
                      obtain ⟨e1, e2, e3⟩ := hfal.out q
                      refine ⟨e1, e2, fun m e' s2 d2 hm he' hp' hs2 => ?_⟩
                      by_cases em : m < k
                      · exact e3 m e' s2 d2 em he' hp' hs2
                      · have : m = k := by omega
                        subst this
                        rw [HE.out.1] at he'
                        cases he'
                        exact absurd hp' (of_decide_eq_false hq)
                    clear hfal hq y0 y1 y2
                    go_wp2
                    go_roundw
                    case rel => exact ⟨ag, k + 1, B2, rfl, by go_num, by omega, lb6, HR1, HBX, hpot, HF2.out, B6⟩
                    case measure => simp [intOf]; omega
                  | true =>
                    have hap := of_decide_eq_true hq
                    obtain ⟨s, d, hBn⟩ := HBX.out
                    have h125 := lb6.co hwx
                    rw [hBn] at h125
                    replace h125 : (Instr.lookup 125 (.map (some w.heap.size)) (.int .i64 (x : Int)) false).run Tryz.prog wc = .ok (.agg #[.int .i64 s, .int .i64 d]) wc := h125
                    have hbig := HR1.out.big hBn
                    have hbd := HBD.out HE.out.2.1
                    have ok1 : okC s d := by unfold okC; omega
                    have ok2 : okC e.s e.d := by unfold okC; omega
                    have ok3 : okC (s + e.s) (d + e.d) := by unfold okC; omega
                    have hpl := plus_any s d e.s e.d wc ok1 ok2
                    have HLE : Hid _ := lb6
                    have HAP : Hid (e ∈ apE st n x) := apE_mem.2 ⟨HE.out.2.1, hap⟩
                    have HBN : Hid (B2 (x : Int) = some (s, d)) := hBn
                    clear hbig hbd lb6 hq hap hBn HBX
                    go_wp2_with fail
                    clear h125
                    refine hpl.mono ?_
                    rintro r w6 ⟨rfl, hb6⟩
                    have b7 := hb6.alloc hb6.size (.cells #[.int .i64 (s + e.s), .int .i64 (d + e.d)] 65)
                    have z7 := Slot.new w6 (s + e.s) (d + e.d)
                    have lb7 := HLE.out.below b7
                    have y0 := (b7.cell (World.block_lt_of_cell? _ _ y0)).trans y0
                    have B7 := B6.trans (b7.mono B6.size)
                    have t126 := lb7.is hwt
                    have t125 := lb7.co hwt
                    have x0 := z7.c0
                    have x1 := z7.c1
                    have HZ7 : Hid _ := z7
                    have HL7 : Hid _ := lb7
                    clear hpl hb6 b7 y1 y2 HLE B6 z7 lb7
                    go_upto_region 17 with fail
                    generalize w6.alloc (.cells #[.int .i64 (s + e.s), .int .i64 (d + e.d)] 65) = w7 at *
                    generalize w6.heap.size = Z at *
                    go_cut [93] from 80 to 93 (fun b wd => b = .bool (pushB B2 (e.to : Int) (s + e.s) (d + e.d)) ∧ Below w7.heap.size w7 wd)
                    case first =>
                      cases hBe : B2 (e.to : Int) with
                      | none =>
                        have hpb : pushB B2 (e.to : Int) (s + e.s) (d + e.d) = true := by unfold pushB; rw [hBe]
                        rw [hBe] at t126
                        replace t126 : (Instr.lookup 126 (.map (some ib)) (.int .i64 (e.to : Int)) false).run Tryz.prog w7 = .ok (.bool false) w7 := t126
                        clear t125
                        go_wp2_with fail
                        go_meet
                        exact ⟨by rw [hpb], Below.refl _ _⟩
                      | some c =>
                        obtain ⟨s', d'⟩ := c
                        have hbig := HR1.out.big hBe
                        have ok4 : okC s' d' := by unfold okC; omega
                        have hdec : decide (cmpC (s + e.s) (d + e.d) s' d' < 0) = pushB B2 (e.to : Int) (s + e.s) (d + e.d) := by
                          unfold pushB
                          rw [hBe, cmpC_val' _ _ _ _ ok3 ok4]
                          exact decide_eq_decide.2 (cmpI_neg _ _)
                        rw [hBe] at t126 t125
                        replace t126 : (Instr.lookup 126 (.map (some ib)) (.int .i64 (e.to : Int)) false).run Tryz.prog w7 = .ok (.bool true) w7 := t126
                        replace t125 : (Instr.lookup 125 (.map (some w.heap.size)) (.int .i64 (e.to : Int)) false).run Tryz.prog w7 = .ok (.agg #[.int .i64 s', .int .i64 d']) w7 := t125
                        have hcmp := rcmp_any (s + e.s) (d + e.d) s' d' w7 ok3 ok4
                        clear hbig
                        go_wp2_with (first | (go_at_call 66; refine hcmp.mono ?_; rintro r w8 ⟨rfl, hb8⟩))
                        go_meet
                        exact ⟨by rw [← hdec], hb8⟩
                    case rest =>
                      obtain ⟨rfl, hb8⟩ := hcut
                      have lb8 := HL7.out.below hb8
                      have z8 := HZ7.out.below hb8
                      have B8 := B7.trans (hb8.mono B7.size)
                      have y0 := (hb8.cell (World.block_lt_of_cell? _ _ y0)).trans y0
                      have x0 := z8.c0
                      have x1 := z8.c1
                      clear t126 t125 hb8 HL7 HZ7 B7
                      cases hq : pushB B2 (e.to : Int) (s + e.s) (d + e.d) with
                      | false =>
                        have HF2 : Hid (ag = false → B2 = B ∧ (∀ j, j < i → Rlxd (apE st n) B (L.getD j 0)) ∧ ∀ m e s d, m < k + 1 → (st.es x)[m]? = some e → (st.lev e.to = 0 ∧ e.to ≠ n) → B (x : Int) = some (s, d) → ∃ s' d', B (e.to : Int) = some (s', d') ∧ val s' d' ≤ val s d + val e.s e.d) := fun q => by
                          obtain ⟨e1, e2, e3⟩ := hfal.out q
                          refine ⟨e1, e2, fun m e' s2 d2 hm he' hp' hs2 => ?_⟩
                          by_cases em : m < k
                          · exact e3 m e' s2 d2 em he' hp' hs2
                          · have : m = k := by omega
                            subst this
                            rw [HE.out.1] at he'
                            cases he'
                            rw [← e1, HBN.out] at hs2
                            cases hs2
                            obtain ⟨s', d', j1, j2⟩ := pushB_no hq
                            rw [val_both] at j2
                            exact ⟨s', d', by rw [← e1]; exact j1, j2⟩
                        have HBX : Hid (∃ s d, B2 (x : Int) = some (s, d)) := ⟨s, d, HBN.out⟩
                        clear hfal x0 x1 y0 z8 hq
                        go_wp2
                        go_roundw
                        case rel => exact ⟨ag, k + 1, B2, rfl, by go_num, by omega, lb8, HR1, HBX, hpot, HF2.out, B8⟩
                        case measure => simp [intOf]; omega
                      | true =>
                        obtain ⟨r1, r2⟩ := HR1.out.low HEO.out HBN.out HAP.out hq
                        have HR2 : Hid (RB L (apE st n) [⟨(o : Int), 0, 0, 0⟩] (putH B2 (e.to : Int) (s + e.s) (d + e.d))) := r1
                        have HP2 : Hid (true = true → potG 109969568169985 (putH B2 (e.to : Int) (s + e.s) (d + e.d)) 256 < potG 109969568169985 B 256) := fun _ => by
                          cases ag with
                          | true => have := hpot.out rfl; omega
                          | false => have := (hfal.out rfl).1; subst this; exact r2
                        have HBX : Hid (∃ s' d', putH B2 (e.to : Int) (s + e.s) (d + e.d) (x : Int) = some (s', d')) := by
                          by_cases ex : (x : Int) = (e.to : Int)
                          · rw [ex]; exact ⟨_, _, putH_at _ _ _ _⟩
                          · exact ⟨s, d, by rw [putH_off _ _ _ ex]; exact HBN.out⟩
                        obtain ⟨w9, hrun9, K9, m9, m9'⟩ := lb8.put1 hwt (by omega) (by omega) (s + e.s) (d + e.d)
                        obtain ⟨w10, hrun10, K10, lb10⟩ := Lbs.put2 lb8.nb m9 m9' hwt (by omega) (by omega)
                        have B9 := B8.trans (K9.to_below B8.size (fun g hg => by rw [hg]; exact lb8.nb.1))
                        have B10 := B9.trans (K10.to_below B9.size (fun g hg => by rw [hg]; exact lb8.nb.2.1))
                        have y9 : w9.cell? ⟨Y, 0, none⟩ = some (.int .i64 (e.to : Int)) := K9.cellOf y0 (fun q => by
                          have h' := lb8.cm.cell 0
                          rw [← q, y0] at h'; cases h')
                        clear r1 r2 hpot hfal hq lb8 z8 B8 B9 K9 K10 m9 m9'
                        go_wp2
                        go_roundw
                        case rel => exact ⟨true, k + 1, _, rfl, by go_num, by omega, lb10, HR2.out, HBX.out, HP2.out, fun q => (by cases q), B10⟩
                        case measure => simp [intOf]; omega
              · have ek : k = (st.es x).length := by omega
                subst ek
                have HRX : Hid (ag = false → B2 = B ∧ ∀ j, j < i + 1 → Rlxd (apE st n) B (L.getD j 0)) := fun q => by
                  obtain ⟨e1, e2, e3⟩ := hfal.out q
                  refine ⟨e1, fun j hj => ?_⟩
                  by_cases ej : j < i
                  · exact e2 j ej
                  · have : j = i := by omega
                    subst this
                    rw [HNI.out.1]
                    exact rlxd_ap e3
                clear hfal Gr hrow p0
                go_wp2
                go_roundw
                case rel => exact ⟨ag, i + 1, B2, rfl, by go_num, by omega, lb2, HR1, hpot, HRX.out, hB⟩
                case measure => simp [intOf]; omega
        · have ei : i = L.length := by omega
          subst ei
          go_wp2
          go_roundg (potG 109969568169985 B1 256 + (if ag then 1 else 0))
          case measure =>
            have h1 := HGK.out
            cases ag with
            | true => have h2 := hpot.out rfl; simp at h1 ⊢; omega
            | false => have h2 := (hfal.out rfl).1; subst h2; simp at h1 ⊢; omega
          case rel =>
            exact ⟨ag, B1, rfl, rfl, lb1, HR1, fun q => rlx_all (hfal.out q), hB⟩
    | false =>
      have HAPT : Hid (Apt L st n o B) := ⟨HR1.out, hdone.out rfl⟩
      clear hdone HR1 HGK
      go_wp2
      go_ret2
      exact ⟨_, _, B, rfl, lb0, HAPT.out, hB⟩
end Go.Proofs.YtmnpplkjhnoglaaGreatDoor
