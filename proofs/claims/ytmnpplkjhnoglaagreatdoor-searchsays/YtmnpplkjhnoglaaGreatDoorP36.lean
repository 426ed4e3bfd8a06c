/-
  Texts laid together: SdG, SdH, SdI.
-/
import Derived.Test.YtmnpplkjhnoglaaGreatDoorP35
/-
  Both sides joined: package search's 'join'.
-/
namespace Go.Proofs.YtmnpplkjhnoglaaGreatDoor
open Go.RowKit Go.Lib

set_option maxHeartbeats 4000000 in
set_option maxRecDepth 1000000 in
theorem join_any {N Ne lb n nh ne : Nat} {k ke : SBk} {L : List Nat} {lv : LSt} {gv gv2 v ve : Value} {g g2 : Int → Int × Int} {src src2 : Int → Int → Int → Prop} {P P2 : Int → Int → Prop} {x y : SS} {s d s2 d2 : Int} (w : World) (O : LvOk L lv) (S : SideAt w N k lb 0 gv v nh (ca x.A) x) (SE : SideAt w Ne ke lb 1 gv2 ve ne (ca y.A) y) (hX : SI L lv 0 g src P x) (hY : SI L lv 1 g2 src2 P2 y) (hn : x.F (n : Int) = some (s, d)) (hn2 : y.F (n : Int) = some (s2, d2)) :
    Calls Tryz.prog 73 #[.pointer (some ⟨k.sb, 0, none⟩), .pointer (some ⟨ke.sb, 0, none⟩), .int .i64 (n : Int)] w fun e w' => ∃ v t t2, e = .returned v ∧ Bk x.A (n :: t) ∧ Bk y.A (n :: t2) ∧ w'.ownsRow w.heap.size 3 1 v ((n :: t).reverse ++ t2).length (vals ((n :: t).reverse ++ t2)) ∧ (n :: t).length ≤ 256 ∧ (n :: t2).length ≤ 256 ∧ Below w.heap.size w w' := by
  obtain ⟨i0, hi, hz0, hz1, hz2⟩ := info_parts Tryz.info3
  have hb1 := back_any w O S hX hn
  go_enter Tryz.func73, Tryz.ntmps73
  go_wp2_with fail
  refine hb1.mono ?_
  rintro e w1 ⟨v1, t, rfl, hbk, own1, hl1, B1⟩
  obtain ⟨g1, cap1, rfl, _, hg1, hg1', hc1, hc1'⟩ := rowN_of own1 (by simp)
  have hrv := rev_row w1 own1 (by simp) (by omega)
  have HB1 : Hid (Bk x.A (n :: t)) := hbk
  clear hb1 hbk own1
  go_wp2_with fail
  refine hrv.mono ?_
  rintro e w2 ⟨rfl, own2, K2⟩
  have B2 : Below w.heap.size w w2 := B1.trans (K2.to_below B1.size (fun q e => by subst e; exact hg1))
  clear hrv K2
  have hb3 := back_any w2 O (SE.below B2) hY hn2
  go_wp2_with fail
  refine hb3.mono ?_
  rintro e w3 ⟨v3, t2, rfl, hbk2, own3, hl3, B3⟩
  obtain ⟨g3, cap3, rfl, row3, hg3, hg3', hc3, hc3'⟩ := rowN_of own3 (by simp)
  have HB2 : Hid (Bk y.A (n :: t2)) := hbk2
  have own4 := own_below own2 B3
  have B4 := B2.trans (B3.mono B2.size)
  have row4 := row3.tail
  have z4 := B4.size
  have HL : Hid ((n :: t).reverse.length = t.length + 1) := List.length_reverse
  rw [HL.out] at own4
  simp only [List.length_cons] at hl1 hl3 hc1 hc3 own4
  simp only [List.tail_cons, Nat.zero_add] at row4
  have HV : Hid (vals ((n :: t).reverse ++ t2) = vals (n :: t).reverse ++ vals t2) := vals_app _ _
  clear hb3 hbk2 own3 own2 row3 S SE B1 B3 B2
  rcases Nat.eq_zero_or_pos t2.length with h0 | h0
  · have e0 : t2 = [] := List.length_eq_zero_iff.1 h0
    subst e0
    simp only [List.length_nil, Nat.zero_add] at hc3
    rcases Decidable.em (cap3 = 1) with hc | hc
    · subst hc
      go_wp2
      go_ret
      exact ⟨_, t, [], rfl, HB1.out, HB2.out, by rw [List.append_nil, HL.out]; exact own4, by omega, by simp, B4⟩
    · have hc2 : 1 < cap3 := by omega
      go_wp2
      go_ret
      exact ⟨_, t, [], rfl, HB1.out, HB2.out, by rw [List.append_nil, HL.out]; exact own4, by omega, by simp, B4⟩
  · go_wp2_with (at_builtin; refine wpList_append_own _ rfl _ _ 22 rfl w.heap.size 3 i0 (.int .i64 0) 1 8 Tryz.underlying22 hi hz0 hz1 hz2 rfl (by decide) _ _ _ rfl own4 ⟨g3, 1, none⟩ t2.length (cap3 - 1) (vals t2) rfl ?c0 row4 (vals_one _) ?c3 ?c4 ?c5 ?_)
    case c0 => rw [vals_len]; omega
    case c3 => unfold maxLen; omega
    case c4 => omega
    case c5 => exact z4
    intro v' w6 hown' hgrow _
    have B6 : Below w.heap.size w w6 := B4.grown hgrow z4 (fun q hq => (own4.lt q hq).1)
    have O6 : w6.ownsRow w.heap.size 3 1 v' ((n :: t).reverse ++ t2).length (vals ((n :: t).reverse ++ t2)) := by
      rw [HV.out, List.length_append, HL.out]
      have e1 : vals (n :: t).reverse ++ vals t2 = (List.map (fun d : Nat => Value.int IntKind.i64 (d : Int)) t).reverse ++ Value.int IntKind.i64 (n : Int) :: vals t2 := by simp [vals]
      rw [e1]
      exact hown'
    clear hown' hgrow own4
    go_wp2
    go_ret
    exact ⟨_, t, t2, rfl, HB1.out, HB2.out, O6, by omega, by omega, B6⟩
end Go.Proofs.YtmnpplkjhnoglaaGreatDoor
/-
  Edges between corners taken apart: package search's 'unpack'.
-/
namespace Go.Proofs.YtmnpplkjhnoglaaGreatDoor
open Go.RowKit Go.Lib

theorem vals_at {l : List Nat} {i a : Nat} (h : l[i]? = some a) : (vals l)[i]? = some (.int .i64 (a : Int)) := by
  unfold vals
  rw [List.getElem?_map, h]
  rfl
/-- so far taken apart: the rest behind it is the whole -/
structure UnpI (es : Nat → List LE) (l : List Nat) (i : Nat) (way : List Nat) : Prop where
  cont : ∀ (a : Nat) (t : List Nat), l[i]? = some a → UnpL es (l.drop i) (a :: t) → UnpL es l (way ++ t)
theorem UnpI.start {es : Nat → List LE} {a : Nat} {l : List Nat} : UnpI es (a :: l) 0 [a] :=
  ⟨fun b t hb h => by
    have e : a = b := by simpa using hb
    subst e
    exact h⟩
theorem UnpI.step {es : Nat → List LE} {l : List Nat} {i : Nat} {way : List Nat} {a b : Nat} {pt : List Nat} (h : UnpI es l i way) (ha : l[i]? = some a) (hb : l[i + 1]? = some b) (hu : Unp es 6 a b (a :: pt)) : UnpI es l (i + 1) (way ++ pt) :=
  ⟨fun c t hc ht => by
    have e : b = c := by rw [hb] at hc; exact Option.some.inj hc
    subst e
    have h1 : l.drop i = a :: b :: l.drop (i + 2) := by
      rw [List.drop_eq_getElem?_toList_append, ha, List.drop_eq_getElem?_toList_append, hb]
      rfl
    have h2 : l.drop (i + 1) = b :: l.drop (i + 2) := by
      rw [List.drop_eq_getElem?_toList_append, hb]
      rfl
    rw [h2] at ht
    have := h.cont a (pt ++ t) ha (by
      rw [h1]
      exact ⟨a :: pt, t, hu, ht, rfl⟩)
    rw [List.append_assoc]
    exact this⟩
theorem UnpI.done {es : Nat → List LE} {l : List Nat} {i : Nat} {way : List Nat} (h : UnpI es l i way) (hi : i + 1 = l.length) : UnpL es l way := by
  have hx : l[i]? = some (l[i]'(by omega)) := List.getElem?_eq_getElem (by omega)
  have := h.cont _ [] hx (by
    rw [List.drop_eq_getElem?_toList_append, hx, List.drop_eq_nil_of_le (by omega)]
    rfl)
  rw [List.append_nil] at this
  exact this
theorem Prc.edge {es : Nat → List LE} : ∀ {l : List Nat} {i a b : Nat} {p q : Int}, Prc es l p q → l[i]? = some a → l[i + 1]? = some b → ∃ e ∈ es a, e.to = b
  | [], _, _, _, _, _, h, _, _ => h.elim
  | [_], _, _, _, _, _, _, _, hb => by simp at hb
  | x :: y :: l, 0, a, b, _, _, ⟨e, he, ht, _⟩, ha, hb => by
    have e1 : x = a := by simpa using ha
    have e2 : y = b := by simpa using hb
    subst e1 e2
    exact ⟨e, he, ht⟩
  | x :: y :: l, i + 1, a, b, _, _, ⟨_, _, _, h⟩, ha, hb => Prc.edge (i := i) h (by simpa using ha) (by simpa using hb)

set_option maxHeartbeats 4000000 in
set_option maxRecDepth 1000000 in
theorem sunpack_any {N0 lb vb eb top cap gl : Nat} {L : List Nat} {lv : LSt} {f : Int → Option Value} {es0 : Nat → List LE} {l : List Nat} {p q : Int} (w : World) (V : LvAt w N0 lb vb eb top L lv f) (O : LvOk L lv)
    (hU : ∀ {a e}, e ∈ lv.es a → ∃ way l, Unp lv.es 6 a e.to way ∧ way = a :: l ∧ l ≠ [] ∧ way.getLast? = some e.to ∧ Prc es0 way e.s e.d) (hrow : RowN w gl 0 l) (h0 : 0 < l.length) (hl : l.length ≤ 600) (hcap : l.length ≤ cap) (hcap2 : cap ≤ 9223372036854775807) (hP : Prc lv.es l p q) :
    Calls Tryz.prog 72 #[.pointer (some ⟨lb, 0, none⟩), .slice (some ⟨gl, 0, none⟩) l.length cap] w fun e w' => ∃ v way, e = .returned v ∧ UnpL lv.es l way ∧ w'.ownsRow w.heap.size 3 1 v way.length (vals way) ∧ way.length ≤ 40000 ∧ Below w.heap.size w w' := by
  obtain ⟨i0, hi, hz0, hz1, hz2⟩ := info_parts Tryz.info3
  obtain ⟨a0, l', rfl⟩ : ∃ a l', l = a :: l' := by
    cases l with
    | nil => simp at h0
    | cons a l' => exact ⟨a, l', rfl⟩
  have c0 : w.cell? ⟨gl, 0, none⟩ = some (.int .i64 (a0 : Int)) := hrow 0 _ rfl
  have b1 : Below w.heap.size w (w.alloc (.cells #[.int .i64 (a0 : Int)] 3)) := (Below.refl _ _).alloc (Nat.le_refl _) _
  have own1 := rowOne w a0
  have HI1 : Hid (UnpI lv.es (a0 :: l') 0 [a0]) := UnpI.start
  have hes : ∀ a, (lv.es a).length ≤ 256 := fun a => by
    have h1 : ((lv.es a).map (·.to)).Nodup := by
      unfold List.Nodup
      rw [List.pairwise_map]
      exact (O.esy.ord a).imp (fun h => Nat.ne_of_lt h)
    have := nodup_len 256 h1 (fun m hm => by
      obtain ⟨e, he, rfl⟩ := List.mem_map.1 hm
      exact O.small _ (O.ends he).2)
    simpa using this
  have HES : Hid (∀ a, (lv.es a).length ≤ 256) := hes
  have HU : Hid (∀ {a e}, e ∈ lv.es a → ∃ way l, Unp lv.es 6 a e.to way ∧ way = a :: l ∧ l ≠ [] ∧ way.getLast? = some e.to ∧ Prc es0 way e.s e.d) := hU
  have HP : Hid (Prc lv.es (a0 :: l') p q) := hP
  have HR : Hid (RowN w gl 0 (a0 :: l')) := hrow
  simp only [List.length_cons] at hl hcap
  clear hes hU hP hrow h0
  rcases Decidable.em (cap = 1) with hc1 | hc1
  · have e0 : l' = [] := List.length_eq_zero_iff.1 (by omega)
    subst e0
    subst hc1
    have HD : Hid (UnpL lv.es [a0] [a0]) := rfl
    go_enter Tryz.func72, Tryz.ntmps72
    go_wp2_with fail
    go_loopw [5, 17] (fun wv iv wr => wv = .slice (some ⟨w.heap.size, 0, none⟩) 1 1 ∧ iv = .int .i64 0 ∧ wr = w.alloc (.cells #[.int .i64 (a0 : Int)] 3)) (fun _ _ _ => 0)
    case atStart => exact ⟨rfl, rfl, rfl⟩
    case round =>
      obtain ⟨rfl, rfl, rfl⟩ := hrel
      go_wp2
      go_ret
      exact ⟨_, [a0], rfl, HD.out, own1, by simp, b1⟩
  · go_enter Tryz.func72, Tryz.ntmps72
    go_wp2_with fail
    go_loopw [5, 17] (fun wv iv wr => ∃ (i : Nat) (way : List Nat), i ≤ l'.length ∧ iv = .int .i64 i ∧ Hid (UnpI lv.es (a0 :: l') i way) ∧ wr.ownsRow w.heap.size 3 1 wv way.length (vals way) ∧ way.length ≤ 1 + 64 * i ∧ 0 < way.length ∧ Below w.heap.size w wr)
      (fun _ i _ => l'.length - (intOf i).toNat)
    case atStart => exact ⟨0, [a0], Nat.zero_le _, rfl, HI1, own1, by simp, by simp, b1⟩
    case round =>
      clear own1 HI1 b1 c0
      obtain ⟨i, way, hi2, rfl, HI, own, hwl, hw0, hB⟩ := hrel
      by_cases hlt : i < l'.length
      · obtain ⟨a, ha⟩ : ∃ a, (a0 :: l')[i]? = some a := ⟨(a0 :: l')[i]'(by simp; omega), List.getElem?_eq_getElem _⟩
        obtain ⟨b, hb⟩ : ∃ b, (a0 :: l')[i + 1]? = some b := ⟨(a0 :: l')[i + 1]'(by simp; omega), List.getElem?_eq_getElem _⟩
        obtain ⟨e, he, het⟩ := HP.out.edge ha hb
        obtain ⟨part, pt, u1, u2, u3, _, _⟩ := HU.out he
        rw [het] at u1
        have hu := unpack_yes O.esy.ord O.ends HES.out O.small 6 a b part wr (by omega) u1 (V.below hB)
        have hpl := u1.two
        subst u2
        have HI' : Hid (UnpI lv.es (a0 :: l') (i + 1) (way ++ pt)) := HI.out.step ha hb u1
        have ca : wr.cell? ⟨gl, i, none⟩ = some (.int .i64 (a : Int)) := by
          have h := (HR.out.below hB) i (.int .i64 (a : Int)) (vals_at ha)
          rw [Addr.add_lit, Nat.zero_add] at h
          exact h
        have cb : wr.cell? ⟨gl, 1 + i, none⟩ = some (.int .i64 (b : Int)) := by
          have h := (HR.out.below hB) (i + 1) (.int .i64 (b : Int)) (vals_at hb)
          rw [Addr.add_lit, Nat.zero_add] at h
          rw [Nat.add_comm 1 i]
          exact h
        have i1 : (0 : Int) ≤ (i : Int) := by omega
        have i2 : (i : Int) < (l'.length : Int) := by omega
        have i3 : (i : Int) < (l'.length : Int) + 1 := by omega
        clear he het u1 u3 ha hb HI
        go_wp2_with fail
        refine hu.mono ?_
        rintro r w5 ⟨v5, rfl, own5, hb5⟩
        obtain ⟨g5, cap5, rfl, rn5, h51, h52, h53, h54⟩ := rowN_of own5 (by simp)
        have own6 := own_below own hb5
        have B5 := hB.trans (hb5.mono hB.size)
        have row5 := rn5.tail
        have z5 := B5.size
        have hp64 : (2 : Nat) ^ 6 = 64 := rfl
        simp only [List.length_cons] at hpl h53
        simp only [List.tail_cons, Nat.zero_add] at row5
        have hc5 : ¬ cap5 = 1 := by omega
        clear hu own5 own hb5 hB ca cb rn5
        go_wp2_with (at_builtin; refine wpList_append_own _ rfl _ _ 22 rfl w.heap.size 3 i0 (.int .i64 0) 1 8 Tryz.underlying22 hi hz0 hz1 hz2 rfl (by decide) _ _ _ rfl own6 ⟨g5, 1, none⟩ pt.length (cap5 - 1) (vals pt) rfl ?c0 row5 (vals_one _) ?c3 ?c4 ?c5 ?_)
        case c0 => rw [vals_len]; omega
        case c3 => unfold maxLen; omega
        case c4 => omega
        case c5 => exact z5
        intro v' w6 hown' hgrow _
        have B6 : Below w.heap.size w w6 := B5.grown hgrow z5 (fun q hq => (own6.lt q hq).1)
        have O6 : w6.ownsRow w.heap.size 3 1 v' (way ++ pt).length (vals (way ++ pt)) := by
          rw [vals_app, List.length_append]
          exact hown'
        clear hown' hgrow own6 row5
        go_wp2
        go_roundw
        case rel => exact ⟨i + 1, way ++ pt, by omega, by go_num, HI', O6, by rw [List.length_append]; omega, by rw [List.length_append]; omega, B6⟩
        case measure => simp [intOf]; omega
      · have e : i = l'.length := by omega
        subst e
        have HD : Hid (UnpL lv.es (a0 :: l') way) := HI.out.done (by simp)
        go_wp2
        go_ret
        exact ⟨_, way, rfl, HD.out, own, by omega, hB⟩
end Go.Proofs.YtmnpplkjhnoglaaGreatDoor
/-
  The best way over levels: package search's 'Best'.
-/
namespace Go.Proofs.YtmnpplkjhnoglaaGreatDoor
open Go.RowKit Go.Lib

theorem nothing_any (w : World) (n : Int) : Calls Tryz.prog 67 #[.int .i64 n] w fun e w' => e = .returned (.agg #[.int .i64 0, .int .i64 0]) ∧ Below w.heap.size w w' := by
  go_enter Tryz.func67, Tryz.ntmps67
  go_wp2
  exact bodyPost_ret (v := .agg #[.int .i64 0, .int .i64 0]) (by simp [results, Tryz.results67, go_sem]) rfl ⟨rfl, (Below.refl _ _).alloc (Nat.le_refl _) _⟩
theorem eqlF (w : World) (gf : Nat) (cs : List Value) : (binOp .eql 128 (.func (.func gf) #[] cs.toArray) .nilFunc).run Tryz.prog w = .ok (.bool false) w := by
  kernel_rfl
theorem nothing_ok (w0 : World) : GsOk w0 w0.heap.size 67 [] (fun _ => (0, 0)) := ⟨fun args w => by kernel_rfl, fun w n _ _ => nothing_any w n⟩

theorem ca_none {A : Int → Option Int} (h : ∀ a, A a = none) : ca A = 0 := by
  unfold ca
  have e : (fun a => (A a).map fun n => (n, (0 : Int))) = fun _ => none := by
    funext a
    rw [h]; rfl
  rw [e, cnt_none]
theorem sb5_own {k : SBk} {v v' : Value} (h : v'.ownBlock = v.ownBlock) {g : Nat} : sb5 k v' g = sb5 k v g := by unfold sb5 hb3; rw [h]
theorem MI.endsSI {L : List Nat} {lv : LSt} {g : Int → Int × Int} {src : Int → Int → Int → Prop} {E : Int → Option (Int × Int)} {x' : SS} {m' : Mt} (O : LvOk L lv) : ∀ {k : Nat} {x : SS} {m : Mt}, MI L lv g src E x m → MeetN lv g E k x m x' m' → SI L lv 0 g src (fun _ _ => False) x'
  | 0, x, m, h, ⟨_, h2⟩ => by
    rcases h2 with ⟨_, rfl⟩ | ⟨n, s, d, h2, h3, h4, rfl⟩
    · exact h.si.mono (fun _ _ h _ => h.elim)
    · exact (h.si.pop (n : Int)).mono (fun _ _ h _ => h.elim)
  | _ + 1, x, m, h, ⟨n, s, d, h1, _, h2⟩ => by
    obtain ⟨s', d', k1, _⟩ := h.si.key h1.1
    exact MI.endsSI O (h.go O k1) h2
theorem joined {L : List Nat} {lv : LSt} {g g2 : Int → Int × Int} {src src2 : Int → Int → Int → Prop} {P P2 : Int → Int → Prop} {x y : SS} {n : Nat} {s d s2 d2 : Int} {t t2 : List Nat} (O : LvOk L lv) (hX : SI L lv 0 g src P x) (hY : SI L lv 1 g2 src2 P2 y) (hn : x.F (n : Int) = some (s, d)) (hn2 : y.F (n : Int) = some (s2, d2)) (hb : Bk x.A (n :: t)) (hb2 : Bk y.A (n :: t2)) : ∃ p q, Prc lv.es ((n :: t).reverse ++ t2) p q := by
  obtain ⟨o, s0, d0, p, q, j1, j2, j3, j4⟩ := hX.back O hb hn
  obtain ⟨i, s1, d1, p', q', l1, l2, l3, l4⟩ := hY.back O hb2 hn2
  have j5 := Prc.rev O.esy j3
  obtain ⟨z0, zs, hz0⟩ : ∃ z0 zs, (n :: t).reverse = z0 :: zs := by
    cases hq : (n :: t).reverse with
    | nil => simp at hq
    | cons z zs => exact ⟨z, zs, rfl⟩
  have hz1 : (z0 :: zs).getLast? = some n := by rw [← hz0]; simp
  rw [hz0] at j5 ⊢
  exact ⟨_, _, Prc.join l3 j5 hz1⟩
theorem join_l {N Ne lb n nh ne : Nat} {k ke : SBk} {L : List Nat} {lv : LSt} {gv gv2 v ve : Value} {g g2 : Int → Int × Int} {src src2 : Int → Int → Int → Prop} {P P2 : Int → Int → Prop} {x y : SS} {s d s2 d2 : Int} (w : World) (O : LvOk L lv) (S : SideAt w N k lb 0 gv v nh (ca x.A) x) (SE : SideAt w Ne ke lb 1 gv2 ve ne (ca y.A) y) (hX : SI L lv 0 g src P x) (hY : SI L lv 1 g2 src2 P2 y) (hn : x.F (n : Int) = some (s, d)) (hn2 : y.F (n : Int) = some (s2, d2)) :
    Calls Tryz.prog 73 #[.pointer (some ⟨k.sb, 0, none⟩), .pointer (some ⟨ke.sb, 0, none⟩), .int .i64 (n : Int)] w fun e w' => ∃ (gl cap : Nat) (l : List Nat), e = .returned (.slice (some ⟨gl, 0, none⟩) l.length cap) ∧ RowN w' gl 0 l ∧ l.length ≤ cap ∧ cap ≤ 9223372036854775807 ∧ 0 < l.length ∧ l.length ≤ 600 ∧ Hid (∃ t t2, Bk x.A (n :: t) ∧ Bk y.A (n :: t2) ∧ l = (n :: t).reverse ++ t2) ∧ Below w.heap.size w w' := by
  refine (join_any w O S SE hX hY hn hn2).mono fun e w' ⟨v, t, t2, h1, h2, h3, h4, h5, h6, h7⟩ => ?_
  have hp : 0 < ((n :: t).reverse ++ t2).length := by simp; omega
  have hq : ((n :: t).reverse ++ t2).length ≤ 600 := by
    rw [List.length_append, List.length_reverse]
    rw [List.length_cons] at h6
    omega
  obtain ⟨gl, cap, rfl, r1, _, _, r2, r3⟩ := rowN_of h4 hp
  exact ⟨gl, cap, _, h1, r1, r2, r3, hp, hq, ⟨t, t2, h2, h3, rfl⟩, h7⟩
theorem cell_off {w : World} {a b i j : Nat} {v : Value} (h : ¬ a = b) : (w.setCell ⟨b, j, none⟩ v).cell? ⟨a, i, none⟩ = w.cell? ⟨a, i, none⟩ := World.cell?_setCell_other _ _ _ _ (fun q => h (by cases q; rfl))
/-- a side's blocks are there -/
structure k5lt (w : World) (k : SBk) (v : Value) : Prop where
  a : k.cb < w.heap.size
  b : k.ab < w.heap.size
  c : k.hb < w.heap.size
  d : k.mb < w.heap.size
  e : ∀ q, v.ownBlock = some q → q < w.heap.size
theorem k5lt.lt {w : World} {k : SBk} {v : Value} (h : k5lt w k v) {g : Nat} (hg : sb5 k v g) : g < w.heap.size := by
  rcases hg with rfl | rfl | rfl | rfl | hg
  · exact h.a
  · exact h.b
  · exact h.c
  · exact h.d
  · exact h.e g hg
/-- the end goes on: one is popped, or none is left -/
structure ER (w wr : World) (k : SBk) (lb : Nat) (L : List Nat) (lv : LSt) (src : Int → Int → Int → Prop) (y0 : SS) (gk : Nat) (nv cv mv : Value) : Prop where
  ex : ∃ (y : SS) (v : Value) (nh cb : Nat) (n s d : Int) (b : Bool), nv = .int .i64 n ∧ cv = .pointer (some ⟨cb, 0, none⟩) ∧ mv = .bool b ∧ w.heap.size < cb ∧ Slot wr w.heap.size 0 0 ∧ Slot wr cb s d ∧ SI L lv 1 (fun _ => (0, 0)) src (fun _ _ => True) y ∧ (∀ j y', EndN lv 1 (fun _ => (0, 0)) j y y' → ∃ j', EndN lv 1 (fun _ => (0, 0)) j' y0 y') ∧ gk = mu y ∧ ¬ sb5 k v w.heap.size ∧ ¬ sb5 k v cb ∧
    ((b = false ∧ (∀ a, y.H a = none) ∧ SideAt wr (w.heap.size + 1) k lb 1 (.func (.func 67) #[] #[]) v nh (ca y.A) y) ∨ (b = true ∧ ∃ n' : Nat, n = (n' : Int) ∧ n' < 256 ∧ (∃ s d, PopR y.H (n' : Int) s d) ∧ SideAt wr (w.heap.size + 1) k lb 1 (.func (.func 67) #[] #[]) v nh (ca y.A) (popS y (n' : Int))))
  bl : Below w.heap.size w wr

set_option maxHeartbeats 8000000 in
set_option maxRecDepth 1000000 in
theorem best_any {N0 lb vb eb top gf cap cap2 : Nat} {L : List Nat} {lv : LSt} {f : Int → Option Value} {es0 : Nat → List LE} {cs : List Value} {g : Int → Int × Int} {A A2 : Option Addr} {out inn : List IE} (w : World) (V0 : LvAt w N0 lb vb eb top L lv f) (O : LvOk L lv) (hlv : ∀ n, 1 ≤ lv.lev n ∧ lv.lev n ≤ 7)
    (hU : ∀ {a e}, e ∈ lv.es a → ∃ way l, Unp lv.es 6 a e.to way ∧ way = a :: l ∧ l ≠ [] ∧ way.getLast? = some e.to ∧ Prc es0 way e.s e.d) (hg : GsOk w w.heap.size gf cs g) (hgb : ∀ n : Nat, 0 ≤ (g n).1 ∧ (g n).1 ≤ 1024 ∧ 0 ≤ (g n).2 ∧ (g n).2 ≤ 1024) (ho : RowI w A out) (hi : RowI w A2 inn) (hol : out.length ≤ 1000) (hil : inn.length ≤ 1000) :
    Calls Tryz.prog 29 #[.pointer (some ⟨lb, 0, none⟩), .slice A out.length cap, .slice A2 inn.length cap2, .func (.func gf) #[] cs.toArray] w fun e w' => ∃ way s d b v, e = .returned (.tuple #[v, .agg #[.int .i64 s, .int .i64 d], .bool b]) ∧ BestR L lv g out inn way s d b ∧ w'.ownsRow w.heap.size 3 1 v way.length (vals way) ∧ way.length ≤ 40000 ∧ Below w.heap.size w w' := by
  have b1 : Below w.heap.size w (w.alloc (.cells #[.int .i64 0, .int .i64 0] 65)) := (Below.refl _ _).alloc (Nat.le_refl _) _
  have hz1 : (w.alloc (.cells #[.int .i64 0, .int .i64 0] 65)).heap.size = w.heap.size + 1 := by simp
  have slR := Slot.new w 0 0
  have hef := eqlF (w.alloc (.cells #[.int .i64 0, .int .i64 0] 65)) gf cs
  have hfr := sfrom_any (cap := cap2) (r := 1) w _ V0 O (nothing_ok w) b1 (hi.below (Nat.le_refl _) b1) hil (fun _ => by simp)
  go_enter Tryz.func29, Tryz.ntmps29
  go_wp2_with fail
  refine hfr.mono ?_
  rintro e w2 ⟨ke, v2, nh2, rfl, S2, hn2, hb2⟩
  rw [hz1] at S2 hb2
  have F2 := FI.fold O (l' := inn) (FI.start L lv 1 (fun _ => (0, 0)))
  have hA0 : ca (fromS L (fun _ => (0, 0)) inn).A = 0 := ca_none F2.no
  rw [← hA0] at S2
  have SI2 := F2.all_in
  have B2 : Below w.heap.size w w2 := b1.trans (hb2.mono (by omega))
  have slR2 := slR.below (by rw [hz1]; exact hb2)
  have c5 := S2.c5
  have hpop := pop_side w2 S2 (fun ha => SI2.key256 O ha)
  have HF2 : Hid (SI L lv 1 (fun _ => (0, 0)) (srcE L inn) (fun _ _ => True) (fromS L (fun _ => (0, 0)) inn)) := SI2
  have hSZ2 : w.heap.size + 1 ≤ w2.heap.size := by rw [← hz1]; exact hb2.size
  clear hfr hef hA0 F2 SI2 slR b1 hb2
  generalize hy0 : fromS L (fun _ => (0, 0)) inn = y0 at *
  have HY0 : Hid (fromS L (fun _ => (0, 0)) inn = y0) := hy0
  clear hy0
  go_wp2_with fail
  refine hpop.mono ?_
  rintro e w3 ⟨n3, s3, d3, b3, v3, nh3, rfl, _, K3, ho3, hcase3⟩
  clear hpop c5
  have HKB : Hid (k5lt w2 ke v2) := ⟨S2.fm.lt, S2.am.lt, S2.hp.blocks.1, S2.hp.blocks.2.1, S2.hp.blocks.2.2⟩
  have hsz2 := hSZ2
  have nR : ¬ sb5 ke v2 w.heap.size := fun h => by have := (S2.from _ h).1; omega
  have slR3 := slR2.keep K3 nR
  have B3 : Below w.heap.size w w3 := B2.trans ((S2.to_below K3).mono (by omega))
  have b4 : Below w3.heap.size w3 (w3.alloc (.cells #[.int .i64 s3, .int .i64 d3] 65)) := (Below.refl _ _).alloc (Nat.le_refl _) _
  have hz3 : w2.heap.size ≤ w3.heap.size := K3.size
  have HST : Hid (ER w (w3.alloc (.cells #[.int .i64 s3, .int .i64 d3] 65)) ke lb L lv (srcE L inn) y0 (mu y0) (.int .i64 n3) (.pointer (some ⟨w3.heap.size, 0, none⟩)) (.bool b3)) := by
    refine ⟨⟨y0, v3, nh3, w3.heap.size, n3, s3, d3, b3, rfl, rfl, rfl, by omega, slR3.below b4, Slot.new w3 s3 d3, HF2.out, fun j y' h => ⟨j, h⟩, rfl, fun h => ?_, fun h => ?_, ?_⟩, B3.trans (b4.mono B3.size)⟩
    · rw [sb5_own ho3] at h; exact nR h
    · rw [sb5_own ho3] at h
      have := HKB.out.lt h
      omega
    · rcases hcase3 with ⟨h1, h2, h3⟩ | ⟨h1, n', h2, h3, h4, h5⟩
      · exact Or.inl ⟨h1, h2, h3.below b4⟩
      · exact Or.inr ⟨h1, n', h2, h3, ⟨_, _, h4⟩, h5.below b4⟩
  clear K3 slR2 slR3 S2 B2 B3 b4 hcase3 ho3 nR hn2
  go_wp2
  go_loopg [12, 13, 14] (mu y0) (fun gk nv cv mv wr => ER w wr ke lb L lv (srcE L inn) y0 gk nv cv mv)
  case atStart => exact HST.out
  case round =>
    clear HST
    obtain ⟨⟨y, v4, nh4, cb, n4, s4, d4, b4, rfl, rfl, rfl, hcb, slR, slC, hY, hcont, hgk, nR, nC, hcase⟩, hBw⟩ := hrel
    have HG : Hid (gk = mu y) := hgk
    have HC : Hid (∀ j y', EndN lv 1 (fun _ => (0, 0)) j y y' → ∃ j', EndN lv 1 (fun _ => (0, 0)) j' y0 y') := hcont
    have HY : Hid (SI L lv 1 (fun _ => (0, 0)) (srcE L inn) (fun _ _ => True) y) := hY
    have HN : Hid (¬ sb5 ke v4 w.heap.size ∧ ¬ sb5 ke v4 cb) := ⟨nR, nC⟩
    clear hgk hcont hY nR nC
    rcases hcase with ⟨rfl, hno, S4⟩ | ⟨rfl, n', rfl, hn', hpr, S4⟩
    · obtain ⟨je, hje⟩ := HC.out 0 y ⟨hno, rfl⟩
      have HE : Hid (EndN lv 1 (fun _ => (0, 0)) je y0 y ∧ ∀ a, y.H a = none) := ⟨hje, hno⟩
      clear hje hno HC
      have hfr := sfrom_any (cap := cap) (r := 0) w wr V0 O hg hBw (ho.below (Nat.le_refl _) hBw) hol hgb
      have F5 := FI.fold O (l' := out) (FI.start L lv 0 g)
      have hA5 : ca (fromS L g out).A = 0 := ca_none F5.no
      have HM0 : Hid (MI L lv g (srcE L out) y.F (fromS L g out) ⟨0, 0, 0, false⟩) := ⟨F5.all_in, fun q => (by cases q), fun ha hH _ => absurd hH (F5.all ha)⟩
      clear F5
      go_wp2_with fail
      refine hfr.mono ?_
      rintro e w5 ⟨kb, v5, nh5, rfl, S5, hn5, hb5⟩
      have S5' : SideAt w5 wr.heap.size kb lb 0 (.func (.func gf) #[] cs.toArray) v5 nh5 (ca (fromS L g out).A) (fromS L g out) := by rw [hA5]; exact S5
      have hmt := meet_any w wr w5 V0 O hlv hg hBw hgb S4 HY.out hb5 S5' HM0.out
      have HBW : Hid (Below w.heap.size w wr) := hBw
      have HS4 : Hid _ := S4
      have HLR : Hid (Slot wr w.heap.size 0 0) := slR
      clear hfr S5 S5' hb5 hA5 S4 slR slC hBw hn5
      generalize hx0 : fromS L g out = x0 at *
      have HX0 : Hid (fromS L g out = x0) := hx0
      clear hx0
      go_wp2_with fail
      refine hmt.mono ?_
      rintro e w6 ⟨jm, x6, ⟨mn, ms, md, mf⟩, hmm, rfl, ⟨v6, nh6, S6⟩, hb6⟩
      have HMM : Hid (MeetN lv g y.F jm x0 ⟨0, 0, 0, false⟩ x6 ⟨mn, ms, md, mf⟩) := hmm
      clear hmt hmm
      dsimp only
      have hNr := HBW.out.size
      have b7 : Below w6.heap.size w6 (w6.alloc (.cells #[.int .i64 ms, .int .i64 md] 65)) := (Below.refl _ _).alloc (Nat.le_refl _) _
      have B7 := hb6.trans (b7.mono hb6.size)
      have slL := Slot.new w6 ms md
      have slR7 := HLR.out.below B7
      have S7 := S6.below b7
      have SE7 := HS4.out.below B7
      have BW7 := HBW.out.trans (B7.mono hNr)
      have r0 := slR7.c0
      have r1 := slR7.c1
      have rz0 := slR7.z0
      have rz1 := slR7.z1
      have hLz : wr.heap.size ≤ w6.heap.size := hb6.size
      clear S6 hb6 b7
      cases mf with
      | false =>
        have HBR : Hid (BestR L lv g out inn [] 0 0 false) := ⟨je, y, jm, x6, ⟨mn, ms, md, false⟩, by rw [HY0.out]; exact HE.out.1, by rw [HX0.out]; exact HMM.out, rfl, fun _ => ⟨rfl, rfl, rfl⟩, fun h => by cases h⟩
        have hset := slR7.set 0 0
        have q0 := hset.c0
        have q1 := hset.c1
        have KR := set_keep (w6.alloc (.cells #[.int .i64 ms, .int .i64 md] 65)) w.heap.size 0 0
        have B8 := BW7.trans (KR.to_below BW7.size (fun q e => by subst e; exact Nat.le_refl _))
        clear S7 SE7
        go_wp2_with fail
        refine bodyPost_ret (v := .tuple #[.slice none 0 0, .agg #[.int .i64 0, .int .i64 0], .bool false]) ?_ rfl ⟨[], 0, 0, false, .slice none 0 0, rfl, HBR.out, World.ownsRow_nil _ _ _ _, by simp, B8⟩
        simp [results, Tryz.results29, go_sem, q0, q1]
      | true =>
        have SIx := HM0.out.endsSI O HMM.out
        obtain ⟨z, Z, zF, zA⟩ := HM0.out.ends O HMM.out
        obtain ⟨es, ed, fs', fd', f1, f2⟩ : ∃ es ed fs' fd', y.F mn = some (es, ed) ∧ z.F mn = some (fs', fd') := by
          obtain ⟨fs, fd, es, ed, fs', fd', f1, f2, _⟩ := Z.mi.fnd rfl
          exact ⟨es, ed, fs', fd', f1, f2⟩
        obtain ⟨nn, rfl⟩ : ∃ nn : Nat, mn = (nn : Int) := ⟨mn.toNat, by have := (HY.out.lab f1).1; omega⟩
        rw [← zF] at f2
        have d7 : Below (w6.alloc (.cells #[.int .i64 ms, .int .i64 md] 65)).heap.size (w6.alloc (.cells #[.int .i64 ms, .int .i64 md] 65)) (w6.alloc (.cells #[.int .i64 ms, .int .i64 md] 65)).drew := (Below.refl _ _).drew
        have hjn := join_l _ O (S7.below d7) (SE7.below d7) SIx HY.out f2 f1
        have HJ : Hid (∀ t t2, Bk x6.A (nn :: t) → Bk y.A (nn :: t2) → ∃ p q, Prc lv.es ((nn :: t).reverse ++ t2) p q) := fun t t2 h1 h2 => joined O SIx HY.out f2 f1 h1 h2
        have HUP : Hid (∀ (w8 : World) (g8 cap8 : Nat) (l8 : List Nat), Below w.heap.size w w8 → RowN w8 g8 0 l8 → l8.length ≤ cap8 → cap8 ≤ 9223372036854775807 → 0 < l8.length → l8.length ≤ 600 → (∃ t t2, Bk x6.A (nn :: t) ∧ Bk y.A (nn :: t2) ∧ l8 = (nn :: t).reverse ++ t2) → Calls Tryz.prog 72 #[.pointer (some ⟨lb, 0, none⟩), .slice (some ⟨g8, 0, none⟩) l8.length cap8] w8 fun e w' => ∃ v way, e = .returned v ∧ UnpL lv.es l8 way ∧ w'.ownsRow w8.heap.size 3 1 v way.length (vals way) ∧ way.length ≤ 40000 ∧ Below w8.heap.size w8 w') := fun w8 g8 cap8 l8 h1 h2 h3 h4 h5 h6 ⟨t, t2, h7, h8, h9⟩ => by
          obtain ⟨p, q, hp⟩ := HJ.out t t2 h7 h8
          rw [← h9] at hp
          exact sunpack_any w8 (V0.below h1) O hU h2 h5 h6 h3 h4 hp
        have BW8 := BW7.trans (d7.mono BW7.size)
        have slL8 := slL.below d7
        have slR8 := slR7.below d7
        have t0 := slL8.c0
        have t1 := slL8.c1
        have hLB : w.heap.size < w6.heap.size := by have := World.block_lt_of_cell? _ _ HLR.out.c0; simp only at this; omega
        have hne8 : ¬ w6.heap.size = w.heap.size := by omega
        clear SIx Z zF zA f1 f2 S7 SE7 d7 slL slR7 BW7 B7 r0 r1 rz0 rz1 HS4 HLR HBW
        go_wp2_with fail
        generalize w6.alloc (.cells #[.int .i64 ms, .int .i64 md] 65) = w7 at *
        generalize w6.heap.size = LB at *
        have HLR8 : Hid (Slot w7.drew w.heap.size 0 0) := slR8
        clear slR8 slL8
        go_region_held3 (fun w' => w'.cell? ⟨LB, 0, none⟩ = some (.int .i64 ms) ∧ w'.cell? ⟨LB, 1, none⟩ = some (.int .i64 md)) (first | exact ⟨t0, t1⟩ | exact ⟨u0, u1⟩ | exact ⟨x0, x1⟩ | (exact ⟨(cell_off hne8).trans ((cell_off hne8).trans x0), (cell_off hne8).trans ((cell_off hne8).trans x1)⟩) | (go_keep))
          (first
            | (go_at_call 73; refine hjn.mono ?_; rintro r1 w8 ⟨g8, cap8, l8, rfl, rn8, hc8, hc8', hp8, hl8, HJ8, hb8⟩; have u0 := (hb8.cell (World.block_lt_of_cell? _ _ t0)).trans t0; have u1 := (hb8.cell (World.block_lt_of_cell? _ _ t1)).trans t1; have B9 := BW8.trans (hb8.mono BW8.size))
            | (go_at_call 72; refine (HUP.out w8 g8 cap8 l8 B9 rn8 hc8 hc8' hp8 hl8 HJ8.out).mono ?_; rintro r1 w9 ⟨v9, way9, rfl, hun9, own9, hwl9, hb9⟩; have x0 := (hb9.cell (World.block_lt_of_cell? _ _ u0)).trans u0; have x1 := (hb9.cell (World.block_lt_of_cell? _ _ u1)).trans u1; have slR9 := (HLR8.out.below hb8).below hb9; have a0 := slR9.c0; have a1 := slR9.c1; have az0 := slR9.z0; have az1 := slR9.z1))
        have HBR : Hid (BestR L lv g out inn way9 ms md true) := by
          obtain ⟨t, t2, h7, h8, h9⟩ := HJ8.out
          exact ⟨je, y, jm, x6, ⟨(nn : Int), ms, md, true⟩, by rw [HY0.out]; exact HE.out.1, by rw [HX0.out]; exact HMM.out, rfl, fun h => (by cases h), fun _ => ⟨rfl, rfl, nn, t, t2, rfl, h7, h8, by rw [← h9]; exact hun9⟩⟩
        have hset := slR9.set ms md
        have q0 := hset.c0
        have q1 := hset.c1
        have KR := set_keep w9 w.heap.size ms md
        have BA := B9.trans (hb9.mono B9.size)
        have BB := BA.trans (KR.to_below BA.size (fun q e => by subst e; exact Nat.le_refl _))
        have hz8 : w.heap.size < w8.heap.size := Nat.lt_of_lt_of_le (World.block_lt_of_cell? _ _ HLR8.out.c0) hb8.size
        have OW := own_keep (own_base own9 (Nat.le_of_lt hz8)) KR (fun q hq e => by subst e; have := (own9.lt _ hq).1; omega)
        clear t0 t1 u0 u1 x0 x1 a0 a1 az0 az1 hjn HUP own9
        go_wp2_with fail
        refine bodyPost_ret (v := .tuple #[v9, .agg #[.int .i64 ms, .int .i64 md], .bool true]) ?_ rfl ⟨way9, ms, md, true, v9, rfl, HBR.out, OW, hwl9, BB⟩
        simp [results, Tryz.results29, go_sem, q0, q1]
    · obtain ⟨sp, dp, hpr⟩ := hpr
      obtain ⟨fs, fd, hF⟩ : ∃ fs fd, y.F (n' : Int) = some (fs, fd) := by
        obtain ⟨fs, fd, h, _⟩ := HY.out.key hpr.1
        exact ⟨fs, fd, h⟩
      have hgo := goOn_any w wr V0 O hlv (by omega) (nothing_ok w) rfl (by omega) hBw (fun _ => by simp) S4 (HY.out.popped n') hF (delH_at _ _)
      have HMG : Hid (SI L lv 1 (fun _ => (0, 0)) (srcE L inn) (fun _ _ => True) (goS lv 1 (fun _ => (0, 0)) n' (popS y (n' : Int)))) := (HY.out.go O hF).1
      have HMU : Hid (mu (goS lv 1 (fun _ => (0, 0)) n' (popS y (n' : Int))) < mu y) := HY.out.mu_go O hpr.1
      have HCO : Hid (∀ j y', EndN lv 1 (fun _ => (0, 0)) j (goS lv 1 (fun _ => (0, 0)) n' (popS y (n' : Int))) y' → ∃ j', EndN lv 1 (fun _ => (0, 0)) j' y0 y') := fun j y' h => HC.out (j + 1) y' ⟨n', sp, dp, hpr, h⟩
      have HS4 : Hid _ := S4
      have HKB4 : Hid (k5lt wr ke v4) := ⟨S4.fm.lt, S4.am.lt, S4.hp.blocks.1, S4.hp.blocks.2.1, S4.hp.blocks.2.2⟩
      have hzr : cb < wr.heap.size := World.block_lt_of_cell? _ _ slC.c0
      clear S4 HC HY hpr
      generalize goS lv 1 (fun _ => (0, 0)) n' (popS y (n' : Int)) = yg at *
      go_wp2_with fail
      refine hgo.mono ?_
      rintro e w9 ⟨rfl, v9, nh9, S9, K9, ho9⟩
      have slR9 := slR.keep K9 HN.out.1
      have slC9 := slC.keep K9 HN.out.2
      have B9 := hBw.trans ((HS4.out.to_below K9).mono (by omega))
      have hz9 := K9.size
      have HV9 : Hid (k5lt w9 ke v9) := ⟨S9.fm.lt, S9.am.lt, S9.hp.blocks.1, S9.hp.blocks.2.1, S9.hp.blocks.2.2⟩
      have HO9 : Hid (∀ q, sb5 ke v9 q → sb5 ke v4 q ∨ wr.heap.size ≤ q) := fun q hq => by
        rcases hq with h | h | h | h | h
        · exact Or.inl (Or.inl h)
        · exact Or.inl (Or.inr (Or.inl h))
        · exact Or.inl (Or.inr (Or.inr (Or.inl h)))
        · exact Or.inl (Or.inr (Or.inr (Or.inr (Or.inl h))))
        · rcases ho9 q h with h | h
          · exact Or.inl (Or.inr (Or.inr (Or.inr (Or.inr h))))
          · exact Or.inr h
      have b10 : Below w9.heap.size w9 (w9.alloc (.cells #[.int .i64 s4, .int .i64 d4] 65)) := (Below.refl _ _).alloc (Nat.le_refl _) _
      have S10 := S9.below b10
      have slX := Slot.new w9 s4 d4
      have hpop := pop_side _ S10 (fun ha => HMG.out.key256 O ha)
      have c5 := S10.c5
      have l0 := slC9.c0
      have l1 := slC9.c1
      have slR10 := slR9.below b10
      have B10 := B9.trans (b10.mono B9.size)
      have HS10 : Hid _ := S10
      clear hgo K9 ho9 slR slC slR9 slC9 hBw B9 S9 S10 b10 HS4
      go_wp2_with fail
      clear c5 l0 l1
      generalize w9.alloc (.cells #[.int .i64 s4, .int .i64 d4] 65) = w10 at *
      refine hpop.mono ?_
      rintro e w11 ⟨n11, s11, d11, b11, v11, nh11, rfl, _, K11, ho11, hcase11⟩
      have HN2 : Hid (¬ sb5 ke v9 w.heap.size ∧ ¬ sb5 ke v9 w9.heap.size) := by
        refine ⟨fun h => ?_, fun h => ?_⟩
        · rcases HO9.out _ h with h | h
          · exact HN.out.1 h
          · omega
        · have := HV9.out.lt h
          omega
      have slR12 := slR10.keep K11 HN2.out.1
      have slX12 := slX.keep K11 HN2.out.2
      have B12 := B10.trans ((HS10.out.to_below K11).mono (by omega))
      clear hpop K11 slR10 slX B10 HS10
      go_wp2
      go_roundg (mu yg)
      case measure => have h1 := HG.out; have h2 := HMU.out; omega
      case rel =>
        refine ⟨⟨yg, v11, nh11, w9.heap.size, n11, s4, d4, b11, rfl, rfl, rfl, by omega, slR12, slX12, HMG.out, HCO.out, rfl, fun h => ?_, fun h => ?_, ?_⟩, B12⟩
        · rw [sb5_own ho11] at h; exact HN2.out.1 h
        · rw [sb5_own ho11] at h; exact HN2.out.2 h
        · rcases hcase11 with ⟨h1, h2, h3⟩ | ⟨h1, n'', h2, h3, h4, h5⟩
          · exact Or.inl ⟨h1, h2, h3⟩
          · exact Or.inr ⟨h1, n'', h2, h3, ⟨_, _, h4⟩, h5⟩
end Go.Proofs.YtmnpplkjhnoglaaGreatDoor
