/-
  Texts laid together: OutM, Shelf, Sorts.
-/
import Derived.Test.YtmnpplkjhnoglaaGreatDoorP21
import Derived.Shelf.SlIterI.Nil
import Derived.Shelf.SortM.Plain
import Derived.Shelf.SortM.SortNone
import Derived.Test.YtmnpplkjhnoglaaGreatDoorProg
import Derived.Sort.OwnSortedInts
/-
  What is come to by steps away from a cell, layer by layer, and what of it lies behind a corner.
-/
namespace Go.Proofs.YtmnpplkjhnoglaaGreatDoor

/-- how many steps if nothing is in the way -/
def octN (W a b : Int) : Int := octS W a b + octD W a b
theorem octN_nonneg (W a b : Int) : 0 ≤ octN W a b := by
  have := octS_nonneg W a b
  have := octD_nonneg W a b
  unfold octN; omega
theorem octN_self (W a : Int) : octN W a a = 0 := by unfold octN; rw [octS_self, octD_self]; rfl
theorem opp_opp {k : Nat} (h : k < 8) : opp (opp k) = k := by unfold opp; omega

section
variable {W H : Int} {bl : Nat → Bool} {a : Int}
theorem Edge.opp {c r : Int} {k : Nat} (w1 : 1 ≤ W) (e : Edge W H bl c k r) : Edge W H bl r (opp k) c := by
  obtain ⟨p1, p2⟩ := e.place w1
  have hin := e.in' w1
  obtain ⟨h1, h2, h3, h4⟩ := e
  refine ⟨opp_lt k, hin, ?_, ?_⟩
  · rw [p1, p2]; exact may_back h1 h3
  · rw [h4]; exact (back_home h1).symm

/-- as near as if nothing were in the way -/
def Nr (W H : Int) (bl : Nat → Bool) (a b : Int) : Prop := Wk (Edge W H bl) a b (octS W a b) (octD W a b)
theorem Nr.self : Nr W H bl a a := by unfold Nr; rw [octS_self, octD_self]; exact Wk.nil
theorem Nr.of_on (w1 : 1 ≤ W) {b z : Int} (hS : octS W a b ≤ 1000) (hD : octD W a b ≤ 1000) (h : On W H bl a b z) : Nr W H bl a b := (h.ends w1 hS hD).2.2
theorem Nr.on (w1 : 1 ≤ W) {b : Int} (hS : octS W a b ≤ 1000) (hD : octD W a b ≤ 1000) (h : Nr W H bl a b) : On W H bl a b b := On.of_near w1 hS hD h

/-- a step away costs what one is farther off -/
theorem Og.far {c r : Int} {k : Nat} (w1 : 1 ≤ W) (h : Og W H bl a c k r) : octS W a c + stS k = octS W a r ∧ octD W a c + stD k = octD W a r := by
  obtain ⟨g1, g2⟩ := (good_iff w1 (h.1.opp w1)).1 h.2
  obtain ⟨s1, s2⟩ := st_opp k
  rw [s1, octS_comm W c a, octS_comm W r a] at g1
  rw [s2, octD_comm W c a, octD_comm W r a] at g2
  exact ⟨g1, g2⟩
theorem Og.next {c r : Int} {k : Nat} (w1 : 1 ≤ W) (h : Og W H bl a c k r) : octN W a c + 1 = octN W a r := by
  obtain ⟨g1, g2⟩ := h.far w1
  have := st_bd k
  unfold octN
  omega
theorem Nr.out {c r : Int} {k : Nat} (w1 : 1 ≤ W) (h : Nr W H bl a c) (o : Og W H bl a c k r) : Nr W H bl a r := by
  obtain ⟨g1, g2⟩ := o.far w1
  have := h.step o.1
  rw [g1, g2] at this
  exact this
theorem Og.on {c r : Int} {k : Nat} (w1 : 1 ≤ W) (hS : octS W a r ≤ 1000) (hD : octD W a r ≤ 1000) (h : Nr W H bl a c) (o : Og W H bl a c k r) : On W H bl a r c := by
  obtain ⟨g1, g2⟩ := o.far w1
  obtain ⟨s1, s2⟩ := st_opp k
  have hb := wk_edge (o.1.opp w1)
  rw [s1, s2] at hb
  exact On.of_walks w1 hS hD h hb g1 g2
/-- whoever is on a way and is not its end has one behind it -/
theorem Og.prev {r q : Int} (w1 : 1 ≤ W) (hS : octS W a r ≤ 1000) (hD : octD W a r ≤ 1000) (h : On W H bl a r q) (hne : q ≠ r) :
    ∃ c k, Nr W H bl a c ∧ Og W H bl a c k r ∧ On W H bl a c q := by
  have hS' : octS W r a ≤ 1000 := by rw [octS_comm]; exact hS
  have hD' : octD W r a ≤ 1000 := by rw [octD_comm]; exact hD
  obtain ⟨h1, h2, h3, h4⟩ := h.walks w1 hS hD
  have n1 := octS_nonneg W a q
  have n2 := octD_nonneg W a q
  have qS : octS W r q ≤ 1000 := by omega
  have qD : octD W r q ≤ 1000 := by omega
  -- the first step back from r towards q
  have hon : On W H bl r q r := (On.of_near w1 qS qD h2).ends w1 qS qD |>.1
  obtain ⟨j, c, ej, gj, hc⟩ := On.next w1 qS qD hon (Ne.symm hne)
  obtain ⟨g1, g2⟩ := (good_iff w1 ej).1 gj
  obtain ⟨c1, c2, c3, c4⟩ := hc.walks w1 qS qD
  rw [octS_comm W c q, octS_comm W r q] at g1
  rw [octD_comm W c q, octD_comm W r q] at g2
  rw [octS_comm W r q] at c3
  rw [octD_comm W r q] at c4
  have hra : On W H bl r a c := On.trans w1 hS' hD' h.sym hc
  obtain ⟨d1, d2, d3, d4⟩ := hra.walks w1 hS' hD'
  have hj := ej.1
  refine ⟨c, opp j, d2, ⟨ej.opp w1, ?_⟩, ?_⟩
  · rw [opp_opp hj]
    refine (good_iff w1 ej).2 ⟨?_, ?_⟩
    · rw [octS_comm W c a]; omega
    · rw [octD_comm W c a]; omega
  · rw [octS_comm W r q] at h3
    rw [octD_comm W r q] at h4
    rw [octS_comm W r a] at d3
    rw [octD_comm W r a] at d4
    have m1 := octS_nonneg W r c
    have m2 := octD_nonneg W r c
    refine On.of_walks w1 (by omega) (by omega) h1 (c2.back (Edge.back w1)) ?_ ?_
    · omega
    · omega
theorem Nr.prev {r : Int} (w1 : 1 ≤ W) (hS : octS W a r ≤ 1000) (hD : octD W a r ≤ 1000) (h : Nr W H bl a r) (hne : r ≠ a) : ∃ c k, Nr W H bl a c ∧ Og W H bl a c k r := by
  obtain ⟨c, k, h1, h2, _⟩ := Og.prev w1 hS hD ((h.on w1 hS hD).ends w1 hS hD).1 (Ne.symm hne)
  exact ⟨c, k, h1, h2⟩

/-- it lies behind a corner -/
def Bhd (W H : Int) (bl : Nat → Bool) (a r : Int) : Prop := ∃ q, On W H bl a r q ∧ CornC W H bl q ∧ q ≠ a ∧ q ≠ r
theorem Bhd.iff {r : Int} (w1 : 1 ≤ W) (hS : octS W a r ≤ 1000) (hD : octD W a r ≤ 1000) :
    Bhd W H bl a r ↔ ∃ c k, Nr W H bl a c ∧ Og W H bl a c k r ∧ (Bhd W H bl a c ∨ (CornC W H bl c ∧ c ≠ a)) := by
  constructor
  · rintro ⟨q, hq, hc, h1, h2⟩
    obtain ⟨c, k, hn, ho, hon⟩ := Og.prev w1 hS hD hq h2
    refine ⟨c, k, hn, ho, ?_⟩
    by_cases e : q = c
    · rw [e] at hc h1
      exact Or.inr ⟨hc, h1⟩
    · exact Or.inl ⟨q, hon, hc, h1, e⟩
  · rintro ⟨c, k, hn, ho, hb⟩
    have hon := ho.on w1 hS hD hn
    have hlt := ho.next w1
    rcases hb with ⟨q, hq, hc, h1, h2⟩ | ⟨hc, h1⟩
    · refine ⟨q, On.trans w1 hS hD hon hq, hc, h1, fun e => ?_⟩
      obtain ⟨g1, g2⟩ := ho.far w1
      have := st_bd k
      obtain ⟨_, _, q3, q4⟩ := hq.walks w1 (by omega) (by omega)
      have n1 := octS_nonneg W c q
      have n2 := octD_nonneg W c q
      rw [e] at q3 q4 n1 n2
      unfold octN at hlt
      omega
    · exact ⟨c, hon, hc, h1, fun e => by rw [e] at hlt; omega⟩
theorem Bhd.not_self (w1 : 1 ≤ W) : ¬ Bhd W H bl a a := by
  rintro ⟨q, hq, hc, h1, _⟩
  rcases (Dir.self (H := H) (bl := bl) w1).2 q hq hc with e | e <;> exact h1 e
theorem Dir.iff {r : Int} (w1 : 1 ≤ W) (hS : octS W a r ≤ 1000) (hD : octD W a r ≤ 1000) : Dir W H bl a r ↔ Nr W H bl a r ∧ ¬ Bhd W H bl a r := by
  constructor
  · rintro ⟨⟨z, hz⟩, h⟩
    refine ⟨Nr.of_on w1 hS hD hz, ?_⟩
    rintro ⟨q, hq, hc, h1, h2⟩
    rcases h q hq hc with e | e
    · exact h1 e
    · exact h2 e
  · rintro ⟨hn, hb⟩
    refine ⟨⟨r, hn.on w1 hS hD⟩, fun q hq hc => ?_⟩
    by_cases e1 : q = a
    · exact Or.inl e1
    · by_cases e2 : q = r
      · exact Or.inr e2
      · exact absurd ⟨q, hq, hc, e1, e2⟩ hb

theorem Nr.in (w1 : 1 ≤ W) (ha : inB W H a = true) {r : Int} (h : Nr W H bl a r) : inB W H r = true := wk_in' w1 ha h
theorem octN_zero {r : Int} (h : octN W a r = 0) : r = a := by
  have n1 := octS_nonneg W a r
  have n2 := octD_nonneg W a r
  unfold octN at h
  exact (oct_zero (W := W) (a := a) (b := r) (by omega) (by omega)).symm
/-- where one can come to there is one of each layer before -/
theorem Nr.mid (w1 : 1 ≤ W) (hbd : ∀ r, Nr W H bl a r → octS W a r ≤ 1000 ∧ octD W a r ≤ 1000) : ∀ (n : Nat) (r : Int), Nr W H bl a r → octN W a r = n → ∀ i : Nat, i ≤ n → ∃ z, Nr W H bl a z ∧ octN W a z = i := by
  intro n
  induction n with
  | zero => intro r hr hn i hi; exact ⟨r, hr, by omega⟩
  | succ n ih =>
    intro r hr hn i hi
    by_cases e : i = n + 1
    · exact ⟨r, hr, by omega⟩
    · have hne : r ≠ a := fun e => by rw [e, octN_self] at hn; omega
      obtain ⟨h1, h2⟩ := hbd r hr
      obtain ⟨c, k, hc, ho⟩ := hr.prev w1 h1 h2 hne
      have := ho.next w1
      exact ih c hc (by omega) i (by omega)
theorem Tw.in {t z : Int} (w1 : 1 ≤ W) (ha : inB W H a = true) (h : Tw W H bl a t z) : inB W H z = true :=
  h (fun z => inB W H z = true) ha (fun _ _ _ _ e _ => e.in' w1)
theorem On.in_b {b z : Int} (w1 : 1 ≤ W) (ha : inB W H a = true) (h : On W H bl a b z) : inB W H b = true := by
  have q : z = b ∨ inB W H b = true := h.2 (fun z => z = b ∨ inB W H b = true) (Or.inl rfl) (fun p k r hp e _ => by
    rcases hp with rfl | hp
    · exact Or.inr e.2.1
    · exact Or.inr hp)
  rcases q with e | e
  · rw [← e]; exact h.1.in w1 ha
  · exact e
theorem Dir.in {b : Int} (w1 : 1 ≤ W) (ha : inB W H a = true) (h : Dir W H bl a b) : inB W H b = true := by
  obtain ⟨z, hz⟩ := h.1
  exact hz.in_b w1 ha
end
end Go.Proofs.YtmnpplkjhnoglaaGreatDoor
/-
  The contracts of the Go library that this claim leans on (sorting, the keys of a map), laid at this program: each field a fact of the program or the kernel's comparison.
-/
namespace Go.Proofs.YtmnpplkjhnoglaaGreatDoor
open Go.Shelf
def Tryz.keysA_ren : Go.Shelf.Ren := ⟨fun | 7 => 61 | 10 => 96 | n => n, fun | 23 => 47 | 26 => 3 | 3 => 52 | 28 => 120 | 0 => 0 | 27 => 119 | 33 => 115 | 4 => 4 | n => n, fun | n => n⟩
theorem Tryz.keysA : Go.Proofs.SlLaysZI.n7 Tryz.prog Tryz.keysA_ren := {
  mixed := by kernel_rfl
  f7 := ⟨Tryz.f61.name, by decide, Tryz.func61.trans (congrArg some (by kernel_rfl))⟩
  f10 := ⟨Tryz.f96.name, by decide, Tryz.func96.trans (congrArg some (by kernel_rfl))⟩
  t0 := Tryz.underlying0
  a0 := Tryz.isAgg0
  z0 := Tryz.sizeOf0
  v0 := Tryz.zeroValue0
  t4 := Tryz.underlying4
  a4 := Tryz.isAgg4
  z4 := Tryz.sizeOf4
  v4 := Tryz.zeroValue4
  t23 := Tryz.underlying47
  a23 := Tryz.isAgg47
  z23 := Tryz.sizeOf47
  v23 := Tryz.zeroValue47
  t26 := Tryz.underlying3
  a26 := Tryz.isAgg3
  z26 := Tryz.sizeOf3
  v26 := Tryz.zeroValue3
  t27 := Tryz.underlying119
  a27 := Tryz.isAgg119
  z27 := Tryz.sizeOf119
  v27 := Tryz.zeroValue119
  t28 := Tryz.underlying120
  a28 := Tryz.isAgg120
  z28 := Tryz.sizeOf120
  v28 := Tryz.zeroValue120
  t33 := Tryz.underlying115
  a33 := Tryz.isAgg115
  z33 := Tryz.sizeOf115
  v33 := Tryz.zeroValue115 }
def Tryz.sortedA_ren : Go.Shelf.Ren := ⟨fun | 6 => 60 | 8 => 94 | 9 => 95 | 11 => 124 | 13 => 126 | 12 => 125 | 23 => 152 | 24 => 153 | 14 => 143 | 15 => 144 | 16 => 145 | 17 => 146 | 18 => 147 | 19 => 148 | 20 => 149 | 21 => 150 | 22 => 151 | 25 => 164 | 26 => 165 | 27 => 166 | 28 => 167 | 29 => 168 | 30 => 127 | 31 => 176 | n => n, fun | 26 => 3 | 28 => 120 | 24 => 22 | 0 => 0 | 3 => 3 | 37 => 190 | 48 => 206 | 50 => 208 | 4 => 4 | 40 => 200 | 39 => 199 | 45 => 111 | 5 => 5 | 9 => 9 | 51 => 215 | 55 => 219 | 57 => 224 | 58 => 174 | 33 => 115 | n => n, fun | n => n⟩
theorem Tryz.sortedA : Go.Proofs.SlLaysZI.n6 Tryz.prog Tryz.sortedA_ren := {
  mixed := by kernel_rfl
  f6 := ⟨Tryz.f60.name, by decide, Tryz.func60.trans (congrArg some (by kernel_rfl))⟩
  f8 := ⟨Tryz.f94.name, by decide, Tryz.func94.trans (congrArg some (by kernel_rfl))⟩
  f11 := ⟨Tryz.f124.name, by decide, Tryz.func124.trans (congrArg some (by kernel_rfl))⟩
  t0 := Tryz.underlying0
  a0 := Tryz.isAgg0
  z0 := Tryz.sizeOf0
  v0 := Tryz.zeroValue0
  t24 := Tryz.underlying22
  a24 := Tryz.isAgg22
  z24 := Tryz.sizeOf22
  v24 := Tryz.zeroValue22
  t26 := Tryz.underlying3
  a26 := Tryz.isAgg3
  z26 := Tryz.sizeOf3
  v26 := Tryz.zeroValue3
  t28 := Tryz.underlying120
  a28 := Tryz.isAgg120
  z28 := Tryz.sizeOf120
  v28 := Tryz.zeroValue120
  i26 := by kernel_rfl }
def Tryz.sortA_ren : Go.Shelf.Ren := ⟨fun | 5 => 95 | 8 => 126 | 7 => 125 | 19 => 152 | 20 => 153 | 10 => 143 | 11 => 144 | 12 => 145 | 13 => 146 | 14 => 147 | 15 => 148 | 16 => 149 | 17 => 150 | 18 => 151 | 30 => 164 | 31 => 165 | 32 => 166 | 33 => 167 | 34 => 168 | 35 => 127 | 40 => 176 | n => n, fun | 23 => 22 | 25 => 3 | 3 => 3 | 32 => 190 | 22 => 22 | 0 => 0 | 44 => 206 | 46 => 208 | 4 => 4 | 36 => 200 | 35 => 199 | 41 => 111 | 5 => 5 | 9 => 9 | 53 => 215 | 57 => 219 | 63 => 224 | 64 => 174 | n => n, fun | n => n⟩
theorem Tryz.sortA : Go.Proofs.SlLaysM.n5 Tryz.prog Tryz.sortA_ren := {
  mixed := by kernel_rfl
  f5 := ⟨Tryz.f95.name, by decide, Tryz.func95.trans (congrArg some (by kernel_rfl))⟩
  f7 := ⟨Tryz.f125.name, by decide, Tryz.func125.trans (congrArg some (by kernel_rfl))⟩
  f8 := Tryz.func126.trans (congrArg some (by kernel_rfl))
  f10 := ⟨Tryz.f143.name, by decide, Tryz.func143.trans (congrArg some (by kernel_rfl))⟩
  f11 := ⟨Tryz.f144.name, by decide, Tryz.func144.trans (congrArg some (by kernel_rfl))⟩
  f12 := ⟨Tryz.f145.name, by decide, Tryz.func145.trans (congrArg some (by kernel_rfl))⟩
  f13 := ⟨Tryz.f146.name, by decide, Tryz.func146.trans (congrArg some (by kernel_rfl))⟩
  f14 := ⟨Tryz.f147.name, by decide, Tryz.func147.trans (congrArg some (by kernel_rfl))⟩
  f15 := ⟨Tryz.f148.name, by decide, Tryz.func148.trans (congrArg some (by kernel_rfl))⟩
  f16 := ⟨Tryz.f149.name, by decide, Tryz.func149.trans (congrArg some (by kernel_rfl))⟩
  f17 := ⟨Tryz.f150.name, by decide, Tryz.func150.trans (congrArg some (by kernel_rfl))⟩
  f18 := ⟨Tryz.f151.name, by decide, Tryz.func151.trans (congrArg some (by kernel_rfl))⟩
  f19 := Tryz.func152.trans (congrArg some (by kernel_rfl))
  f20 := Tryz.func153.trans (congrArg some (by kernel_rfl))
  f30 := ⟨Tryz.f164.name, by decide, Tryz.func164.trans (congrArg some (by kernel_rfl))⟩
  f31 := Tryz.func165.trans (congrArg some (by kernel_rfl))
  f32 := Tryz.func166.trans (congrArg some (by kernel_rfl))
  f33 := ⟨Tryz.f167.name, by decide, Tryz.func167.trans (congrArg some (by kernel_rfl))⟩
  f34 := ⟨Tryz.f168.name, by decide, Tryz.func168.trans (congrArg some (by kernel_rfl))⟩
  f35 := ⟨Tryz.f127.name, by decide, Tryz.func127.trans (congrArg some (by kernel_rfl))⟩
  f40 := ⟨Tryz.f176.name, by decide, Tryz.func176.trans (congrArg some (by kernel_rfl))⟩
  t0 := Tryz.underlying0
  a0 := Tryz.isAgg0
  z0 := Tryz.sizeOf0
  v0 := Tryz.zeroValue0
  t3 := Tryz.underlying3
  a3 := Tryz.isAgg3
  z3 := Tryz.sizeOf3
  v3 := Tryz.zeroValue3
  t4 := Tryz.underlying4
  a4 := Tryz.isAgg4
  z4 := Tryz.sizeOf4
  v4 := Tryz.zeroValue4
  t5 := Tryz.underlying5
  a5 := Tryz.isAgg5
  z5 := Tryz.sizeOf5
  v5 := Tryz.zeroValue5
  t9 := Tryz.underlying9
  a9 := Tryz.isAgg9
  z9 := Tryz.sizeOf9
  v9 := Tryz.zeroValue9
  t22 := Tryz.underlying22
  a22 := Tryz.isAgg22
  z22 := Tryz.sizeOf22
  v22 := Tryz.zeroValue22
  t23 := Tryz.underlying22
  a23 := Tryz.isAgg22
  z23 := Tryz.sizeOf22
  v23 := Tryz.zeroValue22
  t25 := Tryz.underlying3
  a25 := Tryz.isAgg3
  z25 := Tryz.sizeOf3
  v25 := Tryz.zeroValue3
  t32 := Tryz.underlying190
  a32 := Tryz.isAgg190
  z32 := Tryz.sizeOf190
  v32 := Tryz.zeroValue190
  t35 := Tryz.underlying199
  a35 := Tryz.isAgg199
  z35 := Tryz.sizeOf199
  v35 := Tryz.zeroValue199
  t36 := Tryz.underlying200
  a36 := Tryz.isAgg200
  z36 := Tryz.sizeOf200
  v36 := Tryz.zeroValue200
  t41 := Tryz.underlying111
  a41 := Tryz.isAgg111
  z41 := Tryz.sizeOf111
  v41 := Tryz.zeroValue111
  t44 := Tryz.underlying206
  a44 := Tryz.isAgg206
  z44 := Tryz.sizeOf206
  v44 := Tryz.zeroValue206
  t46 := Tryz.underlying208
  a46 := Tryz.isAgg208
  z46 := Tryz.sizeOf208
  v46 := Tryz.zeroValue208
  t53 := Tryz.underlying215
  a53 := Tryz.isAgg215
  z53 := Tryz.sizeOf215
  v53 := Tryz.zeroValue215
  t57 := Tryz.underlying219
  a57 := Tryz.isAgg219
  z57 := Tryz.sizeOf219
  v57 := Tryz.zeroValue219
  t63 := Tryz.underlying224
  a63 := Tryz.isAgg224
  z63 := Tryz.sizeOf224
  v63 := Tryz.zeroValue224
  t64 := Tryz.underlying174
  a64 := Tryz.isAgg174
  z64 := Tryz.sizeOf174
  v64 := Tryz.zeroValue174 }
end Go.Proofs.YtmnpplkjhnoglaaGreatDoor
/-
  Sorting a list of one's own; lists that rise.
-/
namespace Go.Proofs.YtmnpplkjhnoglaaGreatDoor
open Go.RowKit Go.Sort

/-- two rising lists that hold the same are one -/
theorem rise_ext : ∀ {l l' : List Int}, l.Pairwise (· < ·) → l'.Pairwise (· < ·) → (∀ x, x ∈ l ↔ x ∈ l') → l = l'
  | [], [], _, _, _ => rfl
  | [], y :: l', _, _, h => absurd ((h y).2 (List.mem_cons_self ..)) (List.not_mem_nil)
  | x :: l, [], _, _, h => absurd ((h x).1 (List.mem_cons_self ..)) (List.not_mem_nil)
  | x :: l, y :: l', h1, h2, h => by
    rw [List.pairwise_cons] at h1 h2
    have e : x = y := by
      rcases List.mem_cons.1 ((h x).1 (List.mem_cons_self ..)) with e | e
      · exact e
      · rcases List.mem_cons.1 ((h y).2 (List.mem_cons_self ..)) with f | f
        · exact f.symm
        · have := h2.1 x e
          have := h1.1 y f
          omega
    subst e
    have ih := rise_ext h1.2 h2.2 (fun z => by
      constructor
      · intro hz
        rcases List.mem_cons.1 ((h z).1 (List.mem_cons_of_mem _ hz)) with e | e
        · have := h1.1 z hz; omega
        · exact e
      · intro hz
        rcases List.mem_cons.1 ((h z).2 (List.mem_cons_of_mem _ hz)) with e | e
        · have := h2.1 z hz; omega
        · exact e)
    rw [ih]
abbrev intsN (l : List Nat) : List Int := l.map fun n : Nat => (n : Int)
theorem mem_intsN {l : List Nat} {x : Int} : x ∈ intsN l ↔ ∃ n : Nat, n ∈ l ∧ x = n := by
  unfold intsN
  rw [List.mem_map]
  exact ⟨fun ⟨n, h, e⟩ => ⟨n, h, e.symm⟩, fun ⟨n, h, e⟩ => ⟨n, h, e.symm⟩⟩
theorem rise_intsN {l : List Nat} (h : l.Pairwise (· < ·)) : (intsN l).Pairwise (· < ·) := by
  unfold intsN
  rw [List.pairwise_map]
  exact h.imp (fun h => by omega)
/-- two rising lists of naturals that hold the same are one -/
theorem rise_eq {l l' : List Nat} (h1 : l.Pairwise (· < ·)) (h2 : l'.Pairwise (· < ·)) (h : ∀ n, n ∈ l ↔ n ∈ l') : l = l' := by
  have := rise_ext (rise_intsN h1) (rise_intsN h2) (fun x => by
    rw [mem_intsN, mem_intsN]
    exact ⟨fun ⟨n, a, b⟩ => ⟨n, (h n).1 a, b⟩, fun ⟨n, a, b⟩ => ⟨n, (h n).2 a, b⟩⟩)
  have q := congrArg (List.map Int.toNat) this
  simpa [intsN, List.map_map, Function.comp_def] using q
/-- a list sorted: it rises if nothing is there twice -/
theorem srt_ex (L : List Nat) (hn : L.Nodup) : ∃ l : List Nat, l.Pairwise (· < ·) ∧ (∀ n, n ∈ l ↔ n ∈ L) ∧ l.length = L.length ∧ (intsN L).mergeSort (fun x y => decide (x ≤ y)) = intsN l := by
  have hp := List.mergeSort_perm (intsN L) (fun x y => decide (x ≤ y))
  have hs : ((intsN L).mergeSort (fun x y => decide (x ≤ y))).Pairwise (fun x y => decide (x ≤ y) = true) := List.pairwise_mergeSort (fun a b c h1 h2 => by simp at *; omega) (fun a b => by simp; omega) (intsN L)
  have hnI : (intsN L).Nodup := by
    unfold intsN List.Nodup
    rw [List.pairwise_map]
    exact hn.imp (fun h e => h (by omega))
  have hnd := hp.nodup_iff.2 hnI
  generalize (intsN L).mergeSort (fun x y => decide (x ≤ y)) = Z at *
  have hlt : Z.Pairwise (· < ·) := by
    have := hs.and hnd
    refine this.imp ?_
    rintro a b ⟨h1, h2⟩
    have := of_decide_eq_true h1
    omega
  have hz : ∀ x ∈ Z, 0 ≤ x := fun x hx => by
    obtain ⟨n, _, e⟩ := mem_intsN.1 (hp.mem_iff.1 hx)
    omega
  have eZ : intsN (Z.map Int.toNat) = Z := by
    unfold intsN
    rw [List.map_map]
    conv => rhs; rw [← List.map_id Z]
    exact List.map_congr_left (fun x hx => by
      have := hz x hx
      simp
      omega)
  refine ⟨Z.map Int.toNat, ?_, fun n => ?_, ?_, eZ.symm⟩
  · rw [List.pairwise_map]
    refine List.Pairwise.imp_of_mem ?_ hlt
    intro a b ha hb h
    have := hz a ha
    omega
  · rw [List.mem_map]
    constructor
    · rintro ⟨x, hx, rfl⟩
      obtain ⟨m, hm, e⟩ := mem_intsN.1 (hp.mem_iff.1 hx)
      rw [e]; exact hm
    · intro hn
      exact ⟨n, hp.mem_iff.2 (mem_intsN.2 ⟨n, hn, rfl⟩), by simp⟩
  · rw [List.length_map, hp.length_eq]
    simp [intsN]

/-- a list without doubles below a number is not longer -/
theorem nodup_len : ∀ (N : Nat) {L : List Nat}, L.Nodup → (∀ n ∈ L, n < N) → L.length ≤ N
  | 0, [], _, _ => Nat.le_refl _
  | 0, x :: _, _, h => absurd (h x (List.mem_cons_self ..)) (Nat.not_lt_zero _)
  | N + 1, L, hn, h => by
    have h1 := nodup_len N (L := L.erase N) (hn.erase N) (fun n hm => by
      have := (hn.mem_erase_iff).1 hm
      have := h n this.2
      omega)
    have h2 : L.length ≤ (L.erase N).length + 1 := by
      rw [List.length_erase]
      split <;> omega
    omega

theorem own_grown {w w' : World} {base e n : Nat} {row : Option Nat} {k : Nat} {v : Value} {xs : List Value} (h : w.ownsRow base e k v n xs) (hg : w.grownBy w' row) (hne : ∀ g, v.ownBlock = some g → some g ≠ row) : w'.ownsRow base e k v n xs := by
  refine h.kept hg ?_
  cases hv : v.ownBlock with
  | none => exact Or.inl rfl
  | some g => exact Or.inr (hne g hv)
theorem own_keep {F : Nat → Prop} {w w' : World} {base e k n : Nat} {v : Value} {xs : List Value} (h : w.ownsRow base e k v n xs) (K : Keep F w w') (hne : ∀ g, v.ownBlock = some g → ¬ F g) : w'.ownsRow base e k v n xs := by
  refine ⟨h.1, ?_⟩
  rcases h.2 with h2 | ⟨g, cap, cur, hv, hbase, hg, h3⟩
  · exact Or.inl h2
  · refine Or.inr ⟨g, cap, cur, hv, hbase, (K.block g (Array.getElem?_eq_some_iff.1 hg).1 (hne g (by rw [hv]; rfl))).trans hg, h3⟩
theorem own_map {P : Program} {kt : TypeId} {w : World} {b m : Nat} {f : Int → Option Value} {base e k n : Nat} {v : Value} {xs : List Value} (h : w.ownsRow base e k v n xs) (M : MapF P kt w b f m) : ∀ g, v.ownBlock = some g → g ≠ b := by
  intro g hg e
  obtain ⟨D, ⟨es, clock, h1, _⟩, _⟩ := M
  rcases h.2 with ⟨rfl, _⟩ | ⟨g', cap, cur, rfl, _, hgg, _⟩
  · cases hg
  · simp only [Value.ownBlock, Option.some.injEq] at hg
    rw [hg, e, h1] at hgg
    cases hgg

/-- slices.Sort on a list of one's own -/
theorem sort_row {base : Nat} {v : Value} {L l : List Nat} (w : World) (h : w.ownsRow base 3 1 v L.length (vals L)) (hne : L ≠ []) (hl : l.length = L.length) (hs : (intsN L).mergeSort (fun x y => decide (x ≤ y)) = intsN l) (hlen : L.length ≤ 256) :
    Calls Tryz.prog 95 #[v] w fun e w' => e = .returned (.tuple #[]) ∧ w'.ownsRow base 3 1 v l.length (vals l) ∧ w.grownBy w' v.ownBlock := by
  rcases h.2 with ⟨_, h0⟩ | ⟨g, cap, cur, rfl, hbase, hg, h1, h2, h3, h4⟩
  · exact absurd (List.length_eq_zero_iff.1 h0) hne
  · have hv : vals L = (intsN L).map (Value.int .i64) := by simp [vals, intsN]
    have hv' : vals l = (intsN l).map (Value.int .i64) := by simp [vals, intsN]
    have hL : (intsN L).length = L.length := by simp [intsN]
    have hl' : (intsN l).length = (intsN L).length := by simp [intsN, hl]
    have hH : Go.Sort.Holds (Value.int .i64) w g 0 (intsN L).toArray := holds_of_blockI hg (by rw [hL, ← hv]; simpa using h4)
    have hc := AnyM.slices_Sort_int Tryz.sortA g 0 cap (intsN L) w hH (Array.getElem?_eq_some_iff.1 hg).1 (by rw [hL]; omega)
    rw [hs, hL] at hc
    refine hc.mono ?_
    rintro e w' ⟨rfl, n, os, rfl⟩
    refine ⟨rfl, ?_, grownBy_sortedI _⟩
    have := ownsRow_sortedI (base := base) (n := n) (os := os) (ss := intsN L) (ts := intsN l) hl' hbase hg (by rw [hL]; exact h1) h2 h3
    rw [hL] at this
    rw [hl, hv']
    exact this
end Go.Proofs.YtmnpplkjhnoglaaGreatDoor
