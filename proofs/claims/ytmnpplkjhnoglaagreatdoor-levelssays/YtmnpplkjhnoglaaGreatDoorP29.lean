/-
  Texts laid together: LvOpen, LvE, LvRM.
-/
import Derived.Test.YtmnpplkjhnoglaaGreatDoorP28
import Derived.WideKeyEntry
/-
  The corners that have no level yet: package levels' 'open'.
-/
namespace Go.Proofs.YtmnpplkjhnoglaaGreatDoor
open Go.RowKit Go.Maps Go.Sort Go.Shelf

/-- the corners that have none yet -/
def openL (L : List Nat) (st : LSt) : List Nat := L.filter (fun n => st.lev n == 0)
theorem sort_some {base : Nat} {v : Value} {L l : List Nat} (w : World) (h : w.ownsRow base 3 1 v L.length (vals L)) (hl : l.length = L.length) (hs : (intsN L).mergeSort (fun x y => decide (x ≤ y)) = intsN l) (hlen : L.length ≤ 256) :
    Calls Tryz.prog 95 #[v] w fun e w' => e = .returned (.tuple #[]) ∧ w'.ownsRow base 3 1 v l.length (vals l) ∧ w.grownBy w' v.ownBlock := by
  by_cases hne : L = []
  · subst hne
    have e : l = [] := List.length_eq_zero_iff.1 hl
    subst e
    obtain ⟨A, cap, rfl⟩ : ∃ A cap, v = .slice A 0 cap := by
      rcases h.2 with ⟨rfl, _⟩ | ⟨g, cap, cur, rfl, _⟩
      · exact ⟨_, _, rfl⟩
      · exact ⟨_, _, rfl⟩
    refine (AnyM.slices_Sort_int_none Tryz.sortA A cap w).mono ?_
    rintro e w' ⟨rfl, rfl⟩
    exact ⟨rfl, h, ⟨rfl, rfl, rfl, Nat.le_refl _, fun _ _ _ => rfl⟩⟩
  · exact sort_row w h hne hl hs hlen

set_option maxHeartbeats 4000000 in
set_option maxRecDepth 1000000 in
theorem opens_any {N lb vb eb top : Nat} {L : List Nat} {st : LSt} {f : Int → Option Value} (w : World) (V : LvAt w N lb vb eb top L st f) (hr : L.Pairwise (· < ·)) :
    Calls Tryz.prog 87 #[.pointer (some ⟨lb, 0, none⟩)] w fun e w' => ∃ v, e = .returned v ∧ w'.ownsRow w.heap.size 3 1 v (openL L st).length (vals (openL L st)) ∧ Below w.heap.size w w' := by
  obtain ⟨i0, hi, hz0, hz1, hz2⟩ := info_parts Tryz.info3
  have c1 := V.c1
  have HOR : Hid ((openL L st).Pairwise (· < ·)) := hr.filter _
  have HOM : Hid (∀ n, n ∈ openL L st ↔ n ∈ L ∧ st.lev n = 0) := fun n => by
    unfold openL
    rw [List.mem_filter]
    simp
  have HLV : Hid (∀ (x : Int) (v : Value), lvF L st.lev x = some v → ∃ n : Nat, x = (n : Int) ∧ n ∈ L ∧ v = .int .i64 (st.lev n : Int)) := fun x v h => by
    unfold lvF at h
    by_cases hx : 0 ≤ x ∧ x.toNat ∈ L
    · rw [if_pos hx] at h
      exact ⟨x.toNat, by omega, hx.2, (Option.some.inj h).symm⟩
    · rw [if_neg hx] at h; cases h
  have HIS : Hid (∀ n : Nat, (lvF L st.lev (n : Int)).isSome = true ↔ n ∈ L) := fun n => by
    unfold lvF
    by_cases hx : (0 : Int) ≤ (n : Int) ∧ (n : Int).toNat ∈ L
    · rw [if_pos hx]; exact ⟨fun _ => by simpa using hx.2, fun _ => rfl⟩
    · rw [if_neg hx]; exact ⟨fun h => (by cases h), fun h => absurd ⟨by omega, by simpa using h⟩ hx⟩
  have hlen := V.len
  have hvl := V.lts.2.1
  have lvm := V.lv
  have HBD : Hid (∀ n ∈ L, n < 256) := V.bd
  clear V hr
  go_enter Tryz.func87, Tryz.ntmps87
  go_wp2_with (first | (at_range; refine wpList_rangeF rfl _ 46 rfl 3 3 law3 Tryz.underV vb _ _ rfl lvm ?_; intro w3 hrg3 hg3 hs3) | go_in)
  have B3 : Below w.heap.size w w3 := (Below.refl _ _).grown hg3 (Nat.le_refl _) (by simp)
  have hvr : vb ≠ w.heap.size := by omega
  clear hg3 lvm
  go_frame
  go_loopg [3] L.length (fun gj ov wq => ∃ (left : Int → Bool) (cnt : Nat) (L' : List Nat), gj = cnt ∧ RngF Tryz.prog 3 wq vb w.heap.size (lvF L st.lev) L.length left cnt ∧ wq.ownsRow w.heap.size 3 1 ov L'.length (vals L') ∧ Hid L'.Nodup ∧ Hid (∀ n : Nat, n ∈ L' ↔ (n ∈ L ∧ left n = false) ∧ st.lev n = 0) ∧ Below w.heap.size w wq ∧ w.heap.size < wq.heap.size)
  case atStart =>
    refine ⟨_, _, [], rfl, hrg3, World.ownsRow_nil _ _ _ _, List.nodup_nil, fun n => ⟨fun h => (by cases h), ?_⟩, B3, by omega⟩
    rintro ⟨⟨h1, h2⟩, _⟩
    have := (HIS.out n).2 h1
    rw [h2] at this; cases this
  case round =>
    clear hrg3 B3
    obtain ⟨left, cnt, L', hgj, hrg, hown, hnd, hLq, hBw, hrq⟩ := hrel
    have hbq := hBw.size
    have hLL' : L'.length ≤ 256 := nodup_len 256 hnd.out (fun n hn => HBD.out n ((hLq.out n).1 hn).1.1)
    go_wp2_with (first | (at_next; refine wpList_nextF rfl _ rfl 3 law3 vb w.heap.size _ _ _ _ rfl hrg ?_ ?_) | go_in)
    · intro hc0 hl0
      obtain ⟨l, l1, l2, l3, l4⟩ := srt_ex L' hnd.out
      have el : l = openL L st := rise_eq l1 HOR.out (fun n => by
        rw [l2 n, hLq.out n, HOM.out n]
        exact ⟨fun h => ⟨h.1.1, h.2⟩, fun h => ⟨⟨h.1, hl0 n⟩, h.2⟩⟩)
      have hso := sort_some wr hown l3 l4 hLL'
      rw [el] at hso
      have hbase := fun q hq => (hown.lt q hq).1
      clear hrg hown hnd hLq l1 l2 l3 l4 el hl0
      go_wp2_with fail
      refine hso.mono ?_
      rintro e w5 ⟨rfl, hown5, hg5⟩
      have B5 : Below w.heap.size w w5 := hBw.grown hg5 hbq hbase
      clear hso hg5 hbase hBw
      go_wp2
      go_ret
      exact ⟨_, rfl, hown5, B5⟩
    · intro x v w4 cnt1 hwx hlx hfx hrg1 hlt hg1 hs1 hen
      obtain ⟨n, hxn, hnL, rfl⟩ := HLV.out x v hfx
      subst hxn
      have hown4 := own_grown hown hg1 (own_rng hown hrg)
      have B4 : Below w.heap.size w w4 := hBw.grown hg1 hbq (fun k e => by cases e; omega)
      have hr4 : w.heap.size < w4.heap.size := by omega
      clear hs1
      by_cases h0 : st.lev n = 0
      · have h0' : ((st.lev n : Nat) : Int) = 0 := by omega
        clear hrg hBw hown hg1
        have hz5 := B4.size
        go_wp2_with (at_builtin; refine wpList_append_own _ rfl _ _ 22 rfl w.heap.size 3 i0 (.int .i64 0) 1 8 Tryz.underlying22 hi hz0 hz1 hz2 rfl (by decide) _ _ _ rfl (hown4.alloc _) ⟨w4.heap.size, 0, none⟩ 1 1 [.int .i64 (n : Int)] rfl rfl ?c1 ?c2 ?c3 ?c4 ?c5 ?_)
        case c1 =>
          intro j u hj
          match j, hj with
          | 0, hj =>
            simp at hj; subst hj; simp only [Addr.add]
            exact World.cell?_alloc_at (w := w4) #[.int .i64 (n : Int)] 3 w4.heap.size 0 rfl
        case c2 => intro u hu; simp at hu; subst hu; rfl
        case c3 => unfold maxLen; omega
        case c4 => omega
        case c5 => simp; omega
        intro v' w6 hown' hgrow _
        have hbase := fun q hq => (hown4.lt q hq).1
        have B6 : Below w.heap.size w w6 := (B4.alloc hz5 _).grown hgrow (by simp; omega) hbase
        have O6 : w6.ownsRow w.heap.size 3 1 v' (L' ++ [n]).length (vals (L' ++ [n])) := by
          simpa [vals] using hown'
        have K6 : Keep (fun k => u3.ownBlock = some k) w4 w6 := ((Keep.refl _ _).alloc _).grown hgrow (fun k hk _ => hk)
        have hrg6 := hrg1.keep K6 (fun h => own_map hown4 hrg1.map _ h rfl) (fun h => own_rng hown4 hrg1 _ h rfl)
        have hr6 : w.heap.size < w6.heap.size := Nat.lt_of_lt_of_le hr4 K6.size
        have HN : Hid (L' ++ [n]).Nodup := by
          have hnm : n ∉ L' := fun hm => by
            have := ((hLq.out n).1 hm).1.2
            rw [hlx] at this; cases this
          unfold Hid List.Nodup
          rw [List.pairwise_append]
          exact ⟨hnd.out, List.pairwise_singleton _ _, fun p hp q hq e => by
            rw [List.mem_singleton] at hq
            rw [e, hq] at hp
            exact hnm hp⟩
        have HMM : Hid (∀ m : Nat, m ∈ L' ++ [n] ↔ (m ∈ L ∧ (left m && !decide ((m : Int) = (n : Int))) = false) ∧ st.lev m = 0) := fun m => by
          rw [List.mem_append, List.mem_singleton, hLq.out m]
          by_cases e : m = n
          · subst e
            simp [hnL, h0]
          · have e' : ¬ (m : Int) = (n : Int) := by omega
            simp [e, e']
        clear hown' hgrow hown4 B4 K6 hrg1 hnd hLq
        go_wp2
        go_roundg cnt1
        case measure => omega
        case rel => exact ⟨_, cnt1, L' ++ [n], rfl, hrg6, O6, HN.out, HMM.out, B6, hr6⟩
      · have h0' : ¬ ((st.lev n : Nat) : Int) = 0 := by omega
        have HMM : Hid (∀ m : Nat, m ∈ L' ↔ (m ∈ L ∧ (left m && !decide ((m : Int) = (n : Int))) = false) ∧ st.lev m = 0) := fun m => by
          rw [hLq.out m]
          by_cases e : m = n
          · subst e
            simp [h0]
          · have e' : ¬ (m : Int) = (n : Int) := by omega
            simp [e']
        clear hrg hBw hown hg1 hLq
        go_wp2
        go_roundg cnt1
        case measure => omega
        case rel => exact ⟨_, cnt1, L', rfl, hrg1, hown4, hnd.out, HMM.out, B4, hr4⟩
end Go.Proofs.YtmnpplkjhnoglaaGreatDoor
/-
  An entry of a map found, then written: 'm[k], x = v, y'. (For levels.)
-/
namespace Go.Proofs.YtmnpplkjhnoglaaGreatDoor
open Go.RowKit Go.Maps Go.ChangeMaps Go.MapKept

theorem block_set (w : World) (b : Nat) (o : Obj) (k : Nat) (h : k ≠ b) : (setBlock w b o).heap[k]? = w.heap[k]? := by
  unfold setBlock
  show (w.heap.setIfInBounds b o)[k]? = _
  rw [Array.getElem?_setIfInBounds_ne (by omega)]
theorem keep_set (w : World) (b : Nat) (o : Obj) : Keep (fun k => k = b) w (setBlock w b o) :=
  ⟨rfl, rfl, rfl, by unfold setBlock; simp, fun k _ h => block_set w b o k h⟩
/-- a key that is there: its entry found, and written -/
theorem MapF.entry {P : Program} {k e t : TypeId} {w : World} {b n : Nat} {f : Int → Option Value} (h : MapF P k w b f n) (hk : P.underlying k = some (.int .i64)) (ht : P.underlying t = some (.map k e)) {z : Value} (hz : (zeroValue e).run P w = .ok z w) (hn : n < maxLen) {a : Int} (ha : (Lit.int .i64 a).wf = true) (hf : (f a).isSome = true) (val : Value) :
    ∃ (v0 : Value) (st : Nat) (w1 w2 : World), (Instr.mapEntry t (.map (some b)) (.int .i64 a)).run P w = .ok (.tuple #[v0, goInt st]) w1 ∧ Keep (fun k => k = b) w w1 ∧ (Instr.entryStore t (.map (some b)) (goInt st) val).run P w1 = .ok () w2 ∧ MapF P k w2 b (putF f a val) n ∧ Keep (fun k => k = b) w w2 := by
  obtain ⟨w', hrun, hm, _⟩ := h.store hk ht hn ha val
  rw [hf] at hm
  have K := int_keyed hk
  have hkey := key_of hk ha
  obtain ⟨D, ⟨es, clock, hb, F, h5, h6⟩, h7, h8⟩ := h
  have hbl : b < w.heap.size := (Array.getElem?_eq_some_iff.1 hb).1
  obtain ⟨s1, s2, _⟩ := F.stamped
  rcases K.find w hkey es.toList F.keys with ⟨h1, h2⟩ | ⟨j, e0, h1, h2, h3⟩
  · exfalso
    obtain ⟨v, hv⟩ := Option.isSome_iff_exists.1 hf
    have hl := MapF.look_some ⟨D, ⟨es, clock, hb, F, h5, h6⟩, h7, h8⟩ hk ht hz ha hv true
    simp [Instr.lookup, run_underlying ht, MapKept.run_getObj_map hb, K.check w es.isEmpty hkey, h1, hz, Result.andThen] at hl
  · have hj : es[j]? = some e0 := by simpa using h2
    have hidx : es.findIdx? (fun e => ((e.born : Nat) : Int) == ((e0.born : Nat) : Int)) = some j := by
      rw [WideElems.findIdx_arr]
      exact WideElems.findIdx_born s2 h2
    have hsame : es.modify j (fun e => { e with key := .int .i64 a }) = es := by
      apply Array.ext'
      rw [Array.toList_modify, modify_eq_set _ _ _ _ h2]
      have : ({ e0 with key := .int .i64 a } : MapEntry) = e0 := by rw [← h3]
      rw [this]
      exact WideElems.set_self _ _ _ h2
    have hmod : es.modify j (fun e => { e with val := val }) = es.modify j (fun e' => { e' with key := .int .i64 a, val := val }) := by
      apply Array.ext'
      rw [Array.toList_modify, Array.toList_modify, modify_eq_set _ _ _ _ h2, modify_eq_set _ _ _ _ h2, ← h3]
    have hu : (Instr.mapUpdate t (.map (some b)) (.int .i64 a) val).run P w = .ok () (setBlock w b (.map (es.modify j (fun e' => { e' with key := .int .i64 a, val := val })) clock)) := by
      simp [Instr.mapUpdate, run_underlying ht, MapKept.run_getObj_map hb, K.check w false hkey, h1, hj, h3, K.stays w hkey, MapKept.run_setObj_map _ hb, Result.andThen, setBlock]
    rw [hrun] at hu
    cases hu
    have hb1 : (setBlock w b (.map es clock)).heap[b]? = some (.map es clock) := by
      unfold setBlock
      show (w.heap.setIfInBounds b _)[b]? = _
      simp [hbl]
    have hrE : (Instr.mapEntry t (.map (some b)) (.int .i64 a)).run P w = .ok (.tuple #[e0.val, goInt e0.born]) (setBlock w b (.map es clock)) := by
      simp [Instr.mapEntry, run_underlying ht, MapKept.run_getObj_map hb, K.check w false hkey, h1, hj, h3, K.stays w hkey, hsame, MapKept.run_setObj_map _ hb, Result.andThen, setBlock]
    have K1 := keep_set w b (.map es clock)
    generalize setBlock w b (.map es clock) = W1 at *
    refine ⟨e0.val, e0.born, W1, setBlock W1 b (.map (es.modify j (fun e' => { e' with key := .int .i64 a, val := val })) clock), hrE, K1, ?_, hm.kept ?_, K1.trans (keep_set _ _ _) (fun _ _ h => h)⟩
    · simp [Instr.entryStore, MapKept.run_getObj_map hb1, asInt, asIntOf, goInt, hidx, hmod, MapKept.run_setObj_map _ hb1, Result.andThen, setBlock]
    · unfold setBlock
      show (W1.heap.setIfInBounds b _)[b]? = (w.heap.setIfInBounds b _)[b]?
      simp [hbl, (Array.getElem?_eq_some_iff.1 hb1).1]
end Go.Proofs.YtmnpplkjhnoglaaGreatDoor
/-
  A round of levels: what its loops lean on. (For levels.)
-/
namespace Go.Proofs.YtmnpplkjhnoglaaGreatDoor
open Go.RowKit Go.Maps

/-- those that have a level are passed over -/
theorem Rnd.filter {t : Nat} (ht : 0 < t) {q : Nat → Bool} : ∀ {L : List Nat} {st st' : LSt} {nr nr' : Nat → Bool} {g : Bool}, (∀ n ∈ L, q n = false → 0 < st.lev n) → Rnd t (L.filter q) st nr st' nr' g → Rnd t L st nr st' nr' g
  | [], _, _, _, _, _, _, h => h
  | n :: L, st, st', nr, nr', g, hq, h => by
    cases hn : q n with
    | true =>
      rw [List.filter_cons_of_pos hn] at h
      obtain ⟨st1, nr1, g1, g2, h1, h2, h3⟩ := h
      refine ⟨st1, nr1, g1, g2, h1, Rnd.filter ht (fun m hm hqm => ?_) h2, h3⟩
      have := hq m (List.mem_cons_of_mem _ hm) hqm
      rcases h1.lev m with e | ⟨_, e⟩
      · rw [e]; exact this
      · rw [e]; exact ht
    | false =>
      rw [List.filter_cons_of_neg (by rw [hn]; exact Bool.false_ne_true)] at h
      have h0 := hq n (List.mem_cons_self ..) hn
      exact ⟨st, nr, false, g, Or.inl ⟨Or.inl h0, rfl, rfl, rfl⟩, Rnd.filter ht (fun m hm hqm => hq m (List.mem_cons_of_mem _ hm) hqm) h, (Bool.false_or g).symm⟩
/-- who had no turn has the level that it had -/
theorem Rnd.lev {t : Nat} : ∀ {L : List Nat} {st st' : LSt} {nr nr' : Nat → Bool} {g : Bool}, Rnd t L st nr st' nr' g → ∀ {n : Nat}, n ∉ L → st'.lev n = st.lev n
  | [], _, _, _, _, _, ⟨h, _⟩, _, _ => by rw [h]
  | m :: L, _, _, _, _, _, ⟨_, _, _, _, h1, h2, _⟩, n, hn => by
    rw [Rnd.lev h2 (fun h => hn (List.mem_cons_of_mem _ h))]
    rcases h1.lev n with e | ⟨e, _⟩
    · exact e
    · exact absurd (by rw [e]; exact List.mem_cons_self ..) hn
/-- near ones, as a map's keys -/
def nS (nr : Nat → Bool) : Int → Bool := fun i => decide (0 ≤ i) && nr i.toNat
theorem nS_at (nr : Nat → Bool) (n : Nat) : nS nr (n : Int) = nr n := by
  unfold nS
  rw [decide_eq_true (by omega), Int.toNat_natCast, Bool.true_and]
theorem nS_ins (nr : Nat → Bool) (t : Nat) : insS (nS nr) (t : Int) = nS (fun k => nr k || t == k) := by
  funext i
  unfold insS nS
  by_cases e : i = (t : Int)
  · subst e
    rw [decide_eq_true rfl, decide_eq_true (by omega), Int.toNat_natCast]
    simp
  · rw [decide_eq_false e, Bool.false_or]
    by_cases h0 : 0 ≤ i
    · rw [decide_eq_true h0]
      have : (t == i.toNat) = false := by
        simp
        omega
      show (true && nr i.toNat) = (true && (nr i.toNat || t == i.toNat))
      rw [this, Bool.or_false]
    · rw [decide_eq_false h0]; rfl
theorem nS_no : nS (fun _ => false) = fun _ => false := by
  funext i
  unfold nS
  simp
/-- lists in their order that lead to corners -/
def LayOk (L : List Nat) (es : Nat → List LE) : Prop := ∀ a, Rsg (es a) ∧ ∀ e ∈ es a, e.to ∈ L
theorem LayOk.put {L : List Nat} {es : Nat → List LE} (h : LayOk L es) {a : Nat} {x : LE} (hx : x.to ∈ L) : LayOk L (putE es a (layF x (es a))) := fun k => by
  by_cases e : k = a
  · subst e
    rw [putE_at]
    refine ⟨layF_ord (h k).1, fun y hy => ?_⟩
    rcases (layF_mem (h k).1 y).1 hy with rfl | ⟨h1, _⟩
    · exact hx
    · exact (h k).2 y h1
  · rw [putE_off _ e]; exact h k
theorem LayOk.len {L : List Nat} {es : Nat → List LE} (h : LayOk L es) (hb : ∀ n ∈ L, n < 256) (a : Nat) : (es a).length ≤ 256 := by
  have h1 : ((es a).map (·.to)).Nodup := by
    unfold List.Nodup
    rw [List.pairwise_map]
    exact (h a).1.imp (fun h => Nat.ne_of_lt h)
  have := nodup_len 256 h1 (fun n hn => by
    obtain ⟨e, he, rfl⟩ := List.mem_map.1 hn
    exact hb _ ((h a).2 e he))
  simpa using this
theorem layAll_step {es : Nat → List LE} {l : List (Nat × LE)} {j : Nat} {x : Nat × LE} (h : l[j]? = some x) : layAll es (l.take (j + 1)) = lay2 (layAll es (l.take j)) x := by
  unfold layAll
  rw [List.take_add_one, h, List.foldl_append]
  rfl
/-- where what is needed begins and ends -/
theorem moreF_ends {p : LE → LE → Bool} {n : Nat} : ∀ {l : List LE} {x : Nat × LE}, x ∈ moreF p n l → (∃ a ∈ l, x.1 = a.to) ∧ (∃ b ∈ l, x.2.to = b.to) ∧ x.2.mid = (n : Int)
  | [], _, h => by cases h
  | a :: l, x, h => by
    rcases List.mem_append.1 h with h | h
    · obtain ⟨b, hb, rfl⟩ := List.mem_map.1 h
      exact ⟨⟨a, List.mem_cons_self .., rfl⟩, ⟨b, List.mem_cons_of_mem _ (List.mem_filter.1 hb).1, rfl⟩, rfl⟩
    · obtain ⟨⟨a', h1, h2⟩, ⟨b', h3, h4⟩, h5⟩ := moreF_ends h
      exact ⟨⟨a', List.mem_cons_of_mem _ h1, h2⟩, ⟨b', List.mem_cons_of_mem _ h3, h4⟩, h5⟩
theorem lksV_at : ∀ (l : List (Nat × LE)) (i : Nat) (x : Nat × LE), l[i]? = some x → (lksV l)[i * 4]? = some (.int .i64 (x.1 : Int)) ∧ (lksV l)[i * 4 + 1]? = some (.int .i64 (x.2.to : Int)) ∧ (lksV l)[i * 4 + 2]? = some (.int .i64 x.2.s) ∧ (lksV l)[i * 4 + 3]? = some (.int .i64 x.2.d)
  | [], i, e, h => by simp at h
  | x :: l, 0, e, h => by
    simp at h; subst h
    exact ⟨rfl, rfl, rfl, rfl⟩
  | x :: l, i + 1, e, h => by
    have ih := lksV_at l i e (by simpa using h)
    have hl : (lkV x).length = 4 := rfl
    have key : ∀ k, (lksV (x :: l))[(i + 1) * 4 + k]? = (lksV l)[i * 4 + k]? := fun k => by
      show (lkV x ++ lksV l)[(i + 1) * 4 + k]? = _
      rw [List.getElem?_append_right (by rw [hl]; omega), hl]
      congr 1; omega
    exact ⟨(key 0).trans ih.1, (key 1).trans ih.2.1, (key 2).trans ih.2.2.1, (key 3).trans ih.2.2.2⟩
section
variable {w w' : World} {N lb vb eb top : Nat} {L : List Nat} {st : LSt} {f : Int → Option Value}
theorem LvAt.blt (V : LvAt w N lb vb eb top L st f) {g : Nat} (h : LvB lb vb eb f g) : g < w.heap.size := by
  rcases h with rfl | rfl | rfl | ⟨i, v, h1, h2⟩
  · exact V.lts.1
  · exact V.lts.2.1
  · exact V.lts.2.2
  · obtain ⟨i1, i2⟩ := V.no i v h1
    obtain ⟨v2, e1, e2⟩ := V.row i.toNat i2
    rw [Int.toNat_of_nonneg i1, h1] at e1; cases e1
    exact (e2.lt g h2).2
/-- a corner gets its level -/
theorem LvAt.level (V : LvAt w N lb vb eb top L st f) {n t : Nat} (hn : n ∈ L) (K : Keep (fun k => k = vb) w w') (hm : MapF Tryz.prog 3 w' vb (putF (lvF L st.lev) (n : Int) (.int .i64 (t : Int))) L.length) : LvAt w' N lb vb eb top L ⟨fun k => if k = n then t else st.lev k, st.es⟩ f := by
  rw [lvF_put hn] at hm
  have n1 := V.nes.1
  refine ⟨K.cellOf V.c0 n1, K.cellOf V.c1 n1, K.cellOf V.c2 n1, (K.frozen (p := ⟨lb, 0, none⟩) V.lts.1 n1).trans V.fz, hm, V.em.keep K (fun e => V.ne e.symm), fun m hm => ?_, V.no, V.apart, V.off, V.nb, V.ne, V.bd, V.len⟩
  obtain ⟨v, e1, e2⟩ := V.row m hm
  exact ⟨v, e1, own_keep e2 K (own_map e2 V.lv)⟩
end
theorem Tryz.underN : Tryz.prog.underlying 145 = some (.map 3 176) := by kernel_rfl
theorem zeroN (w : World) : (zeroValue 176).run Tryz.prog w = .ok (.agg #[]) w := by kernel_rfl

set_option maxHeartbeats 400000 in
/-- nothing is needed where nothing is near -/
theorem needed_none {lb : Nat} (w : World) (n : Int) : Calls Tryz.prog 121 #[.pointer (some ⟨lb, 0, none⟩), .int .i64 n, .slice none 0 0] w fun e w' => e = .returned (.slice none 0 0) ∧ w' = w := by
  go_enter Tryz.func121, Tryz.ntmps121
  go_wp2
  go_loopw [7, 19] (fun rv iv wr => rv = .slice none 0 0 ∧ iv = .int .i64 0 ∧ wr = w) (fun _ _ _ => 0)
  case atStart => exact ⟨rfl, rfl, rfl⟩
  case round =>
    obtain ⟨rfl, rfl, rfl⟩ := hrel
    go_wp2
    go_ret
    exact ⟨rfl, rfl⟩
theorem needed_all {N lb vb eb top n cap : Nat} {A : Option Addr} {L : List Nat} {st : LSt} {f : Int → Option Value} {l : List LE} {p : LE → LE → Bool} {base : Nat} (w : World) (V : LvAt w N lb vb eb top L st f) (O : Okl L 512 st) (hown : w.ownsRow base 67 4 (.slice A l.length cap) l.length (lesV l)) (hl : l.length ≤ 256) (hin : ∀ e ∈ l, e ∈ st.es n) (hp : ∀ a b, p a b = true ↔ Need st n a b) :
    Calls Tryz.prog 121 #[.pointer (some ⟨lb, 0, none⟩), .int .i64 (n : Int), .slice A l.length cap] w fun e w' => ∃ v, e = .returned v ∧ w'.ownsRow w.heap.size 185 4 v (moreF p n l).length (lksV (moreF p n l)) ∧ Below w.heap.size w w' := by
  obtain ⟨A', cap', hv, row, h⟩ := rowL_of hown
  cases hv
  rcases h with ⟨rfl, rfl⟩ | ⟨g, rfl, _⟩
  · rcases hown.2 with ⟨h, _⟩ | ⟨g, c, cur, h, _⟩
    · cases h
      refine (needed_none w (n : Int)).mono ?_
      rintro e w' ⟨rfl, rfl⟩
      exact ⟨_, rfl, World.ownsRow_nil _ _ _ _, Below.refl _ _⟩
    · cases h
  · rcases hown.2 with ⟨h, _⟩ | ⟨g', c, cur, h, _, _, h1, h2, _⟩
    · cases h
    · cases h
      exact needed_any w V O row hl h1 h2 hin hp
end Go.Proofs.YtmnpplkjhnoglaaGreatDoor
