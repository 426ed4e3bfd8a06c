/-
  Texts laid together: RSpread, Between, Shelf, Sorts.
-/
import Derived.Test.YtipbhlofbpnpjaaGreatDoorQ9
import Derived.Test.YtipbhlofbpnpjaaGreatDoorQ10
import Derived.Test.YtipbhlofbpnpjaaGreatDoorQ6
import Derived.Test.YtipbhlofbpnpjaaGreatDoorQ8
import Derived.Shelf.SlIterI.Nil
import Derived.Shelf.SortM.Plain
import Derived.Shelf.SortM.SortNone
import Derived.Test.YtipbhlofbpnpjaaGreatDoorProg
import Derived.Sort.OwnSortedInts
namespace Go.Proofs.YtipbhlofbpnpjaaGreatDoor
section
open Go.RowKit
theorem octN_step {W H:Int}{bl:Nat->Bool}(w1:1<=W) {p r t:Int}{k:Nat}(e:Edge W H bl p k r) (g:Good (p % W) (p / W) (t % W) (t / W) k):octN W r t+1=octN W p t:=by
 obtain ⟨h1,h2⟩:=(good_iff w1 e).1 g
 have:=st_bd k
 unfold octN
 omega
theorem Tw.inv {W H:Int}{bl:Nat->Bool}{a t z:Int}(h:Tw W H bl a t z):z=a\/∃ p k,Tw W H bl a t p/\Edge W H bl p k z/\Good (p % W) (p / W) (t % W) (t / W) k:=by
 have:=h (fun z=>Tw W H bl a t z/\(z=a\/∃ p k,Tw W H bl a t p/\Edge W H bl p k z/\Good (p % W) (p / W) (t % W) (t / W) k)) ⟨Tw.nil,Or.inl rfl⟩ (fun p k r hp e g=>⟨hp.1.step e g,Or.inr ⟨p,k,hp.1,e,g⟩⟩)
 exact this.2
theorem Tw.top {W H:Int}{bl:Nat->Bool}{a t z:Int}(w1:1<=W) (h:Tw W H bl a t z):octN W z t<=octN W a t :=
 h (fun z=>octN W z t<=octN W a t) (Int.le_refl _) (fun p k r hp e g=>by have:=octN_step w1 e g;omega)
theorem Tw.mid {W H:Int}{bl:Nat->Bool}{a t z:Int}(w1:1<=W) (h:Tw W H bl a t z):∀ j,octN W z t<=j->j<=octN W a t->∃ z',Tw W H bl a t z'/\octN W z' t=j:=by
 have:=h (fun z=>Tw W H bl a t z/\∀ j,octN W z t<=j->j<=octN W a t->∃ z',Tw W H bl a t z'/\octN W z' t=j) ⟨Tw.nil,fun j h1 h2=>⟨a,Tw.nil,by omega⟩⟩ (fun p k r hp e g=>⟨hp.1.step e g,fun j h1 h2=>by
  have:=octN_step w1 e g
  by_cases q:octN W r t=j
  ·exact ⟨r,hp.1.step e g,q⟩
  ·exact hp.2 j (by omega) h2⟩)
 exact this.2
set_option maxHeartbeats 2000000 in
set_option maxRecDepth 1000000 in
theorem rspread_any {b:Nat}{W H V a t:Int}{bl:Nat->Bool}(w:World) (g:GridAt w b W H V bl) (s:StepsAt w) (d:DiagAt w) (hb:b < w.heap.size) (ha:inB W H a=true) (ht:inB W H t=true) :
  Calls Tryz.prog 107 #[.pointer (some ⟨b,0,none⟩),.int .i64 a,.int .i64 t] w fun e w'=>∃ nb T,e=.returned (.map (some nb))/\SetAt w' nb T/\(∀ z,T z=true↔Tw W H bl a t z)/\w.heap.size<=nb/\Below w.heap.size w w':=by
 have gw1:=g.w1
 have hwh:=wh_bd g.w1 g.w2 g.h1 g.h2
 have hia:0<=a/\a < W*H:=of_decide_eq_true ha
 have hwa:=wf_small hia.1 (show a < 256 by omega)
 have hmm:=@run_makeMap Tryz.prog
 have hM0:=(SetAt.made w).grown (World.grownBy_alloc (w.alloc (.map #[] 0)) (.map #[] 0) none) (by simp)
 have hM1:=SetAt.made (w.alloc (.map #[] 0))
 have hz0:(w.alloc (.map #[] 0)).heap.size=w.heap.size+1:=by simp
 have B0:Below w.heap.size w ((w.alloc (.map #[] 0)).alloc (.map #[] 0)):=((Below.refl _ _).alloc (Nat.le_refl _) _).alloc (by simp) _
 rw [hz0] at hM1
 go_enter Tryz.func107,Tryz.ntmps107
 go_wp2_with (first | (refine wpList_ins rfl _ _ _ 134 rfl 3 185 law3 Tryz.underS (w.heap.size+1) _ _ (by first | rfl | (rw [hz0];rfl)) hM1.mp hM1.room a (.agg #[]) rfl rfl hwa ?_;intro w1 hm1 ht1;go_frame) | go_in)
 have hF0:=hM1.put hia.1 (show a < 256 by omega) hm1
 have hg1:=ht1.grown
 have hA0:=hM0.grown hg1 (fun e=>by have:=Option.some.inj e;omega)
 have B1:Below w.heap.size w w1:=B0.grown hg1 (by simp;omega) (fun k e=>by cases e;omega)
 clear hM0 hM1 hz0 B0 hm1 ht1 hg1 hmm
 have hn0:=octN_nonneg W a t
 go_loopg [8] (octN W a t+1).toNat (fun gk fv wr=>∃ (i fb:Nat) (SF SA:Int->Bool),gk=(octN W a t+1 - i).toNat/\fv=.map (some fb)/\w.heap.size < fb/\SetAt wr fb SF/\SetAt wr w.heap.size SA/\Hid (∀ z,SF z=true↔Tw W H bl a t z/\octN W z t+i=octN W a t)/\Hid (∀ z,SA z=true↔Tw W H bl a t z/\octN W a t < octN W z t+i)/\Below w.heap.size w wr)
 case atStart =>
  refine ⟨0,_,_,_,by simp,rfl,Nat.lt_succ_self _,hF0,hA0,fun z=>?_,fun z=>⟨fun h=>(by cases h),fun ⟨h1,h2⟩=>?_⟩,B1⟩
  ·rw [insS_iff]
   constructor
   ·rintro (rfl | h)
    ·exact ⟨Tw.nil,by simp⟩
    ·cases h
   ·rintro ⟨h1,h2⟩
    rcases h1.inv with e | ⟨p,k,hp,e,hg⟩
    ·exact Or.inl e
    ·exfalso
     have h3:=octN_step gw1 e hg
     have h4:=Tw.top gw1 hp
     simp at h2
     omega
  ·exfalso
   have h4:=Tw.top gw1 h1
   simp at h2
   omega
 case round =>
  obtain ⟨i,fb,SF,SA,hgk,rfl,hfb,hF,hA,hFi,hAi,hB⟩:=hrel
  have hlen:=fun ty=>hF.mp.len (t:=134) Tryz.underS ty
  have hne:=hF.ne_nil
  by_cases hpos:0 < cntS SF 256
  ·obtain ⟨z,hz⟩:=hne.1 hpos
   have hz':=(hFi.out z).1 hz
   have hzn:=octN_nonneg W z t
   have hcp:(0:Int) < ((cntS SF 256:Nat):Int):=by omega
   have hle:(i:Int)<=octN W a t:=by omega
   clear hne hz hz' hzn
   have hmc:=mcopy_any wr hA hF (Nat.ne_of_lt hfb)
   generalize cntS SF 256=cn at *
   go_wp2_with fail
   refine hmc.mono ?_
   rintro e w2 ⟨rfl,⟨T,hT,hTi⟩,hK⟩
   have hF2:SetAt w2 fb SF:=hF.kept (hK.block fb hF.lt (by omega))
   have B2:Below w.heap.size w w2:=hB.trans (hK.to_below hB.size (fun k e=>by omega))
   have hin:∀ i,SF i=true->inB W H i=true:=fun i hi=>((hFi.out i).1 hi).1.in gw1 ha
   have had:=advance_any w2 (g.below B2 hb) (s.below B2 (by omega)) (d.below B2) (Nat.lt_of_lt_of_le hb B2.size) hF2 hin ht
   have z2:=B2.size
   clear hmc hlen hF hA hK
   go_wp2_with fail
   refine had.mono ?_
   rintro e w3 ⟨nb,T2,rfl,hT2,hT2i,hnb,hb3⟩
   have hT3:=hT.below hb3
   have B3:=B2.trans (hb3.mono B2.size)
   have hTl:=hT.lt
   clear had hb3 hT hF2
   go_wp2
   go_roundg (octN W a t+1 - ((i+1:Nat):Int)).toNat
   case measure=>omega
   case rel =>
    refine ⟨i+1,nb,T2,T,rfl,rfl,by omega,hT2,hT3,fun z=>?_,fun z=>?_,B3⟩
    ·rw [hT2i z]
     constructor
     ·rintro ⟨c,k,h1,h2,h3⟩
      obtain ⟨q1,q2⟩:=(hFi.out c).1 h1
      have:=octN_step gw1 h2 h3
      exact ⟨q1.step h2 h3,by omega⟩
     ·rintro ⟨h1,h2⟩
      rcases h1.inv with e | ⟨p,k,hp,e,hg⟩
      ·subst e;exfalso;omega
      ·have:=octN_step gw1 e hg
       exact ⟨p,k,(hFi.out p).2 ⟨hp,by omega⟩,e,hg⟩
    ·rw [hTi z,hAi.out z,hFi.out z]
     constructor
     ·rintro (⟨h1,h2⟩ | ⟨h1,h2⟩)
      ·exact ⟨h1,by omega⟩
      ·exact ⟨h1,by omega⟩
     ·rintro ⟨h1,h2⟩
      by_cases q:octN W z t+i=octN W a t
      ·exact Or.inr ⟨h1,q⟩
      ·exact Or.inl ⟨h1,by omega⟩
  ·have hno:∀ z,SF z=false:=fun z=>by
    cases hz:SF z with
    | false=>rfl
    | true=>exact absurd (hne.2 ⟨z,hz⟩) hpos
   have hc0:cntS SF 256=0:=by omega
   have hfin:∀ z,SA z=true↔Tw W H bl a t z:=fun z=>by
    rw [hAi.out z]
    refine ⟨fun h=>h.1,fun h=>⟨h,?_⟩⟩
    by_cases q:octN W a t < octN W z t+i
    ·exact q
    ·exfalso
     obtain ⟨z',h1,h2⟩:=h.mid gw1 (octN W a t - i) (by omega) (by omega)
     have:=(hFi.out z').2 ⟨h1,by omega⟩
     rw [hno z'] at this
     cases this
   have HF:Hid (∀ z,SA z=true↔Tw W H bl a t z):=hfin
   rw [hc0] at hlen
   clear hfin hno hne hpos hFi hAi
   go_wp2
   go_ret
   exact ⟨_,SA,rfl,hA,HF.out,Nat.le_refl _,hB⟩
end
section
open Go.RowKit
set_option maxHeartbeats 2000000 in
set_option maxRecDepth 1000000 in
theorem rbtw_any {b:Nat}{W H V a t:Int}{bl:Nat->Bool}(w:World) (g:GridAt w b W H V bl) (s:StepsAt w) (d:DiagAt w) (hb:b < w.heap.size) (ha:inB W H a=true) (ht:inB W H t=true) :
  Calls Tryz.prog 74 #[.pointer (some ⟨b,0,none⟩),.int .i64 a,.int .i64 t] w fun e w'=>∃ nb T,e=.returned (.map (some nb))/\SetAt w' nb T/\(∀ z,T z=true↔On W H bl a t z)/\w.heap.size<=nb/\Below w.heap.size w w':=by
 have hmm:=@run_makeMap Tryz.prog
 have hM0:=SetAt.made w
 have hz0:(w.alloc (.map #[] 0)).heap.size=w.heap.size+1:=by simp
 have B0:Below w.heap.size w (w.alloc (.map #[] 0)):=(Below.refl _ _).alloc (Nat.le_refl _) _
 have hsp:=rspread_any (w.alloc (.map #[] 0)) (g.below B0 hb) (s.below B0 (by omega)) (d.below B0) (by omega) ht ha
 go_enter Tryz.func74,Tryz.ntmps74
 go_wp2_with fail
 refine hsp.mono ?_
 rintro e w1 ⟨kb,SB,rfl,hB,hBi,hkb,hb1⟩
 have hM1:=hM0.below hb1
 have B1:Below w.heap.size w w1:=B0.trans (hb1.mono B0.size)
 have hb':b < w1.heap.size:=Nat.lt_of_lt_of_le hb B1.size
 have hsp2:=rspread_any w1 (g.below B1 hb) (s.below B1 (by omega)) (d.below B1) hb' ha ht
 rw [hz0] at hkb
 have HBi:Hid (∀ z,SB z=true↔Tw W H bl t a z):=hBi
 have hk1:=hB.lt
 clear hsp hM0 hz0 B0 hb1 hmm hBi
 go_wp2_with fail
 refine hsp2.mono ?_
 rintro e w2 ⟨fb,SF,rfl,hF,hFi,hfb,hb2⟩
 have hM2:=hM1.below hb2
 have hB2:=hB.below hb2
 have B2:Below w.heap.size w w2:=B1.trans (hb2.mono B1.size)
 have HFi:Hid (∀ z,SF z=true↔Tw W H bl a t z):=hFi
 have hk2:=Nat.lt_of_lt_of_le hk1 hb2.size
 have hf2:=hF.lt
 have z2:=B1.size
 have hm2:=hM2.lt
 clear hM1 hB hb2 hsp2 hFi
 go_wp2_with (first | (at_range;refine wpList_rangeF rfl _ 134 rfl 3 185 law3 Tryz.underS fb _ _ rfl hF.mp ?_;intro w0 hrg0 hg0 hs0) | go_in)
 have hM3:=hM2.grown hg0 (by simp)
 have hB3:=hB2.grown hg0 (by simp)
 have B3:Below w.heap.size w w0:=B2.grown hg0 B2.size (by simp)
 generalize hr:w2.heap.size=r at *
 clear hM2 hB2 B2 hg0
 go_frame
 go_loopg [] (cntS SF 256) (fun gk wr=>∃ left cnt T,gk=cnt/\RngS wr fb r SF left cnt/\SetAt wr w.heap.size T/\SetAt wr kb SB/\Hid (∀ z,T z=true↔(SF z=true/\left z=false)/\SB z=true)/\Below w.heap.size w wr)
 case atStart =>
  refine ⟨_,_,_,rfl,hrg0,hM3,hB3,fun z=>⟨fun h=>(by cases h),?_⟩,B3⟩
  rintro ⟨⟨h1,h2⟩,_⟩
  rw [setF_isSome,h1] at h2
  cases h2
 case round =>
  obtain ⟨left,cnt,T,hgk,hrg,hT,hK,hall,hBw⟩:=hrel
  have hbz:=hBw.size
  go_wp2_with (first | (at_next;refine wpList_nextF rfl _ rfl 3 law3 fb r _ _ _ _ rfl hrg ?_ ?_) | go_in)
  ·intro hc0 hl0
   go_wp2
   go_ret
   refine ⟨_,T,rfl,hT,fun z=>?_,Nat.le_refl _,hBw⟩
   rw [hall.out z,HFi.out z,HBi.out z]
   exact ⟨fun h=>⟨h.1.1,h.2⟩,fun h=>⟨⟨h.1,hl0 z⟩,h.2⟩⟩
  ·intro x v w4 cnt1 hwx hlx hfx hrg1 hlt hg1 hs1 hen
   obtain ⟨hSx,rfl⟩:=setF_val hfx
   have hx:=hF.bd x hSx
   have hT1:=hT.grown hg1 (fun e=>by have:=Option.some.inj e;omega)
   have hK1:=hK.grown hg1 (fun e=>by have:=Option.some.inj e;omega)
   have B4:Below w.heap.size w w4:=hBw.grown hg1 hbz (fun k e=>by cases e;omega)
   have hT2:=hT1.grown (World.grownBy_alloc w4 (.cells #[] 185) none) (by simp)
   have hK2:=hK1.grown (World.grownBy_alloc w4 (.cells #[] 185) none) (by simp)
   have hrg2:=hrg1.grown (World.grownBy_alloc w4 (.cells #[] 185) none) (by simp) (by simp)
   have B5:=B4.alloc B4.size (.cells #[] 185)
   cases hSB:SB x with
   | false =>
     have hlk:(Instr.lookup 134 (.map (some kb)) (.int .i64 x) true).run Tryz.prog w4=.ok (.tuple #[.agg #[],.bool false]) w4:=hK1.mp.look_none law3 Tryz.underS (zeroS _) hwx (setF_none hSB) true
     clear hT hK hrg hBw hT1 hK1 B4 hg1
     go_wp2
     go_roundg cnt1
     case measure=>omega
     case rel =>
      refine ⟨_,cnt1,T,rfl,hrg2,hT2,hK2,fun z=>?_,B5⟩
      rw [hall.out z]
      by_cases e:z=x
      ·subst e;simp [hSB]
      ·simp [e]
   | true =>
     have hlk:(Instr.lookup 134 (.map (some kb)) (.int .i64 x) true).run Tryz.prog w4=.ok (.tuple #[.agg #[],.bool true]) w4:=hK1.mp.look_some law3 Tryz.underS (zeroS _) hwx (setF_some hSB) true
     clear hT hK hrg hBw hT1 hK1 B4 hg1
     go_wp2_with (first | (at_mapUpdate;refine wpList_put rfl _ _ _ 134 rfl 3 185 law3 Tryz.underS w.heap.size _ _ rfl hT2.mp hT2.room x (.agg #[]) rfl rfl hwx ?_;intro w5 hm5 ht5;go_frame) | go_in)
     have hT3:=hT2.put hx.1 hx.2 hm5
     have hg5:=ht5.grown
     have hrg3:=hrg2.grown hg5 (fun e=>by have:=Option.some.inj e;omega) (fun e=>by have:=Option.some.inj e;omega)
     have hK3:=hK2.grown hg5 (fun e=>by have:=Option.some.inj e;omega)
     have B6:Below w.heap.size w w5:=B5.grown hg5 B5.size (fun k e=>by cases e;exact Nat.le_refl _)
     go_roundg cnt1
     case measure=>omega
     case rel =>
      refine ⟨_,cnt1,_,rfl,hrg3,hT3,hK3,fun z=>?_,B6⟩
      rw [insS_iff,hall.out z]
      by_cases e:z=x
      ·subst e;simp [hSB,hSx]
      ·simp [e]
end
section
open Go.Shelf
def Tryz.keysA_ren:Go.Shelf.Ren:=⟨fun | 7=>100 | 10=>139 | n=>n,fun | 23=>129 | 26=>3 | 3=>141 | 28=>171 | 0=>0 | 27=>170 | 33=>183 | 4=>4 | n=>n,fun | n=>n⟩
theorem Tryz.keysA:Go.Proofs.SlLaysZI.n7 Tryz.prog Tryz.keysA_ren:={
 mixed:=by kernel_rfl
 f7:=⟨Tryz.f100.name,by decide,Tryz.func100.trans (congrArg some (by kernel_rfl))⟩
 f10:=⟨Tryz.f139.name,by decide,Tryz.func139.trans (congrArg some (by kernel_rfl))⟩
 t0:=Tryz.underlying0
 a0:=Tryz.isAgg0
 z0:=Tryz.sizeOf0
 v0:=Tryz.zeroValue0
 t4:=Tryz.underlying4
 a4:=Tryz.isAgg4
 z4:=Tryz.sizeOf4
 v4:=Tryz.zeroValue4
 t23:=Tryz.underlying129
 a23:=Tryz.isAgg129
 z23:=Tryz.sizeOf129
 v23:=Tryz.zeroValue129
 t26:=Tryz.underlying3
 a26:=Tryz.isAgg3
 z26:=Tryz.sizeOf3
 v26:=Tryz.zeroValue3
 t27:=Tryz.underlying170
 a27:=Tryz.isAgg170
 z27:=Tryz.sizeOf170
 v27:=Tryz.zeroValue170
 t28:=Tryz.underlying171
 a28:=Tryz.isAgg171
 z28:=Tryz.sizeOf171
 v28:=Tryz.zeroValue171
 t33:=Tryz.underlying183
 a33:=Tryz.isAgg183
 z33:=Tryz.sizeOf183
 v33:=Tryz.zeroValue183 }
def Tryz.sortedA_ren:Go.Shelf.Ren:=⟨fun | 6=>99 | 8=>137 | 9=>138 | 11=>173 | 13=>175 | 12=>174 | 23=>204 | 24=>205 | 14=>195 | 15=>196 | 16=>197 | 17=>198 | 18=>199 | 19=>200 | 20=>201 | 21=>202 | 22=>203 | 25=>227 | 26=>228 | 27=>229 | 28=>230 | 29=>231 | 30=>232 | 31=>244 | n=>n,fun | 26=>3 | 28=>171 | 24=>22 | 0=>0 | 3=>3 | 37=>246 | 48=>274 | 50=>276 | 4=>4 | 40=>268 | 39=>267 | 45=>136 | 5=>5 | 9=>9 | 51=>294 | 55=>298 | 57=>310 | 58=>49 | 33=>183 | n=>n,fun | n=>n⟩
theorem Tryz.sortedA:Go.Proofs.SlLaysZI.n6 Tryz.prog Tryz.sortedA_ren:={
 mixed:=by kernel_rfl
 f6:=⟨Tryz.f99.name,by decide,Tryz.func99.trans (congrArg some (by kernel_rfl))⟩
 f8:=⟨Tryz.f137.name,by decide,Tryz.func137.trans (congrArg some (by kernel_rfl))⟩
 f11:=⟨Tryz.f173.name,by decide,Tryz.func173.trans (congrArg some (by kernel_rfl))⟩
 t0:=Tryz.underlying0
 a0:=Tryz.isAgg0
 z0:=Tryz.sizeOf0
 v0:=Tryz.zeroValue0
 t24:=Tryz.underlying22
 a24:=Tryz.isAgg22
 z24:=Tryz.sizeOf22
 v24:=Tryz.zeroValue22
 t26:=Tryz.underlying3
 a26:=Tryz.isAgg3
 z26:=Tryz.sizeOf3
 v26:=Tryz.zeroValue3
 t28:=Tryz.underlying171
 a28:=Tryz.isAgg171
 z28:=Tryz.sizeOf171
 v28:=Tryz.zeroValue171
 i26:=by kernel_rfl }
def Tryz.sortA_ren:Go.Shelf.Ren:=⟨fun | 5=>138 | 8=>175 | 7=>174 | 19=>204 | 20=>205 | 10=>195 | 11=>196 | 12=>197 | 13=>198 | 14=>199 | 15=>200 | 16=>201 | 17=>202 | 18=>203 | 30=>227 | 31=>228 | 32=>229 | 33=>230 | 34=>231 | 35=>232 | 40=>244 | n=>n,fun | 23=>22 | 25=>3 | 3=>3 | 32=>246 | 22=>22 | 0=>0 | 44=>274 | 46=>276 | 4=>4 | 36=>268 | 35=>267 | 41=>136 | 5=>5 | 9=>9 | 53=>294 | 57=>298 | 63=>310 | 64=>49 | n=>n,fun | n=>n⟩
theorem Tryz.sortA:Go.Proofs.SlLaysM.n5 Tryz.prog Tryz.sortA_ren:={
 mixed:=by kernel_rfl
 f5:=⟨Tryz.f138.name,by decide,Tryz.func138.trans (congrArg some (by kernel_rfl))⟩
 f7:=⟨Tryz.f174.name,by decide,Tryz.func174.trans (congrArg some (by kernel_rfl))⟩
 f8:=Tryz.func175.trans (congrArg some (by kernel_rfl))
 f10:=⟨Tryz.f195.name,by decide,Tryz.func195.trans (congrArg some (by kernel_rfl))⟩
 f11:=⟨Tryz.f196.name,by decide,Tryz.func196.trans (congrArg some (by kernel_rfl))⟩
 f12:=⟨Tryz.f197.name,by decide,Tryz.func197.trans (congrArg some (by kernel_rfl))⟩
 f13:=⟨Tryz.f198.name,by decide,Tryz.func198.trans (congrArg some (by kernel_rfl))⟩
 f14:=⟨Tryz.f199.name,by decide,Tryz.func199.trans (congrArg some (by kernel_rfl))⟩
 f15:=⟨Tryz.f200.name,by decide,Tryz.func200.trans (congrArg some (by kernel_rfl))⟩
 f16:=⟨Tryz.f201.name,by decide,Tryz.func201.trans (congrArg some (by kernel_rfl))⟩
 f17:=⟨Tryz.f202.name,by decide,Tryz.func202.trans (congrArg some (by kernel_rfl))⟩
 f18:=⟨Tryz.f203.name,by decide,Tryz.func203.trans (congrArg some (by kernel_rfl))⟩
 f19:=Tryz.func204.trans (congrArg some (by kernel_rfl))
 f20:=Tryz.func205.trans (congrArg some (by kernel_rfl))
 f30:=⟨Tryz.f227.name,by decide,Tryz.func227.trans (congrArg some (by kernel_rfl))⟩
 f31:=Tryz.func228.trans (congrArg some (by kernel_rfl))
 f32:=Tryz.func229.trans (congrArg some (by kernel_rfl))
 f33:=⟨Tryz.f230.name,by decide,Tryz.func230.trans (congrArg some (by kernel_rfl))⟩
 f34:=⟨Tryz.f231.name,by decide,Tryz.func231.trans (congrArg some (by kernel_rfl))⟩
 f35:=⟨Tryz.f232.name,by decide,Tryz.func232.trans (congrArg some (by kernel_rfl))⟩
 f40:=⟨Tryz.f244.name,by decide,Tryz.func244.trans (congrArg some (by kernel_rfl))⟩
 t0:=Tryz.underlying0
 a0:=Tryz.isAgg0
 z0:=Tryz.sizeOf0
 v0:=Tryz.zeroValue0
 t3:=Tryz.underlying3
 a3:=Tryz.isAgg3
 z3:=Tryz.sizeOf3
 v3:=Tryz.zeroValue3
 t4:=Tryz.underlying4
 a4:=Tryz.isAgg4
 z4:=Tryz.sizeOf4
 v4:=Tryz.zeroValue4
 t5:=Tryz.underlying5
 a5:=Tryz.isAgg5
 z5:=Tryz.sizeOf5
 v5:=Tryz.zeroValue5
 t9:=Tryz.underlying9
 a9:=Tryz.isAgg9
 z9:=Tryz.sizeOf9
 v9:=Tryz.zeroValue9
 t22:=Tryz.underlying22
 a22:=Tryz.isAgg22
 z22:=Tryz.sizeOf22
 v22:=Tryz.zeroValue22
 t23:=Tryz.underlying22
 a23:=Tryz.isAgg22
 z23:=Tryz.sizeOf22
 v23:=Tryz.zeroValue22
 t25:=Tryz.underlying3
 a25:=Tryz.isAgg3
 z25:=Tryz.sizeOf3
 v25:=Tryz.zeroValue3
 t32:=Tryz.underlying246
 a32:=Tryz.isAgg246
 z32:=Tryz.sizeOf246
 v32:=Tryz.zeroValue246
 t35:=Tryz.underlying267
 a35:=Tryz.isAgg267
 z35:=Tryz.sizeOf267
 v35:=Tryz.zeroValue267
 t36:=Tryz.underlying268
 a36:=Tryz.isAgg268
 z36:=Tryz.sizeOf268
 v36:=Tryz.zeroValue268
 t41:=Tryz.underlying136
 a41:=Tryz.isAgg136
 z41:=Tryz.sizeOf136
 v41:=Tryz.zeroValue136
 t44:=Tryz.underlying274
 a44:=Tryz.isAgg274
 z44:=Tryz.sizeOf274
 v44:=Tryz.zeroValue274
 t46:=Tryz.underlying276
 a46:=Tryz.isAgg276
 z46:=Tryz.sizeOf276
 v46:=Tryz.zeroValue276
 t53:=Tryz.underlying294
 a53:=Tryz.isAgg294
 z53:=Tryz.sizeOf294
 v53:=Tryz.zeroValue294
 t57:=Tryz.underlying298
 a57:=Tryz.isAgg298
 z57:=Tryz.sizeOf298
 v57:=Tryz.zeroValue298
 t63:=Tryz.underlying310
 a63:=Tryz.isAgg310
 z63:=Tryz.sizeOf310
 v63:=Tryz.zeroValue310
 t64:=Tryz.underlying49
 a64:=Tryz.isAgg49
 z64:=Tryz.sizeOf49
 v64:=Tryz.zeroValue49 }
end
section
open Go.RowKit Go.Sort
theorem rise_ext:∀ {l l':List Int},l.Pairwise (· < ·)->l'.Pairwise (· < ·)->(∀ x,x ∈ l↔x ∈ l')->l=l'
 | [],[],_,_,_=>rfl
 | [],y::l',_,_,h=>absurd ((h y).2 (List.mem_cons_self ..)) (List.not_mem_nil)
 | x::l,[],_,_,h=>absurd ((h x).1 (List.mem_cons_self ..)) (List.not_mem_nil)
 | x::l,y::l',h1,h2,h=>by
   rw [List.pairwise_cons] at h1 h2
   have e:x=y:=by
    rcases List.mem_cons.1 ((h x).1 (List.mem_cons_self ..)) with e | e
    ·exact e
    ·rcases List.mem_cons.1 ((h y).2 (List.mem_cons_self ..)) with f | f
     ·exact f.symm
     ·have:=h2.1 x e
      have:=h1.1 y f
      omega
   subst e
   have ih:=rise_ext h1.2 h2.2 (fun z=>by
    constructor
    ·intro hz
     rcases List.mem_cons.1 ((h z).1 (List.mem_cons_of_mem _ hz)) with e | e
     ·have:=h1.1 z hz;omega
     ·exact e
    ·intro hz
     rcases List.mem_cons.1 ((h z).2 (List.mem_cons_of_mem _ hz)) with e | e
     ·have:=h2.1 z hz;omega
     ·exact e)
   rw [ih]
abbrev intsN (l:List Nat):List Int:=l.map fun n:Nat=>(n:Int)
theorem mem_intsN {l:List Nat}{x:Int}:x ∈ intsN l↔∃ n:Nat,n ∈ l/\x=n:=by
 unfold intsN
 rw [List.mem_map]
 exact ⟨fun ⟨n,h,e⟩=>⟨n,h,e.symm⟩,fun ⟨n,h,e⟩=>⟨n,h,e.symm⟩⟩
theorem rise_intsN {l:List Nat}(h:l.Pairwise (· < ·)):(intsN l).Pairwise (· < ·):=by
 unfold intsN
 rw [List.pairwise_map]
 exact h.imp (fun h=>by omega)
theorem rise_eq {l l':List Nat}(h1:l.Pairwise (· < ·)) (h2:l'.Pairwise (· < ·)) (h:∀ n,n ∈ l↔n ∈ l'):l=l':=by
 have:=rise_ext (rise_intsN h1) (rise_intsN h2) (fun x=>by
  rw [mem_intsN,mem_intsN]
  exact ⟨fun ⟨n,a,b⟩=>⟨n,(h n).1 a,b⟩,fun ⟨n,a,b⟩=>⟨n,(h n).2 a,b⟩⟩)
 have q:=congrArg (List.map Int.toNat) this
 simpa [intsN,List.map_map,Function.comp_def] using q
theorem srt_ex (L:List Nat) (hn:L.Nodup):∃ l:List Nat,l.Pairwise (· < ·)/\(∀ n,n ∈ l↔n ∈ L)/\l.length=L.length/\(intsN L).mergeSort (fun x y=>decide (x<=y))=intsN l:=by
 have hp:=List.mergeSort_perm (intsN L) (fun x y=>decide (x<=y))
 have hs:((intsN L).mergeSort (fun x y=>decide (x<=y))).Pairwise (fun x y=>decide (x<=y)=true):=List.pairwise_mergeSort (fun a b c h1 h2=>by simp at *;omega) (fun a b=>by simp;omega) (intsN L)
 have hnI:(intsN L).Nodup:=by
  unfold intsN List.Nodup
  rw [List.pairwise_map]
  exact hn.imp (fun h e=>h (by omega))
 have hnd:=hp.nodup_iff.2 hnI
 generalize (intsN L).mergeSort (fun x y=>decide (x<=y))=Z at *
 have hlt:Z.Pairwise (· < ·):=by
  have:=hs.and hnd
  refine this.imp ?_
  rintro a b ⟨h1,h2⟩
  have:=of_decide_eq_true h1
  omega
 have hz:∀ x ∈ Z,0<=x:=fun x hx=>by
  obtain ⟨n,_,e⟩:=mem_intsN.1 (hp.mem_iff.1 hx)
  omega
 have eZ:intsN (Z.map Int.toNat)=Z:=by
  unfold intsN
  rw [List.map_map]
  conv=>rhs;rw [<- List.map_id Z]
  exact List.map_congr_left (fun x hx=>by
   have:=hz x hx
   simp
   omega)
 refine ⟨Z.map Int.toNat,?_,fun n=>?_,?_,eZ.symm⟩
 ·rw [List.pairwise_map]
  refine List.Pairwise.imp_of_mem ?_ hlt
  intro a b ha hb h
  have:=hz a ha
  omega
 ·rw [List.mem_map]
  constructor
  ·rintro ⟨x,hx,rfl⟩
   obtain ⟨m,hm,e⟩:=mem_intsN.1 (hp.mem_iff.1 hx)
   rw [e];exact hm
  ·intro hn
   exact ⟨n,hp.mem_iff.2 (mem_intsN.2 ⟨n,hn,rfl⟩),by simp⟩
 ·rw [List.length_map,hp.length_eq]
  simp [intsN]
theorem nodup_len:∀ (N:Nat) {L:List Nat},L.Nodup->(∀ n ∈ L,n < N)->L.length<=N
 | 0,[],_,_=>Nat.le_refl _
 | 0,x::_,_,h=>absurd (h x (List.mem_cons_self ..)) (Nat.not_lt_zero _)
 | N+1,L,hn,h=>by
   have h1:=nodup_len N (L:=L.erase N) (hn.erase N) (fun n hm=>by
    have:=(hn.mem_erase_iff).1 hm
    have:=h n this.2
    omega)
   have h2:L.length<=(L.erase N).length+1:=by
    rw [List.length_erase]
    split <;> omega
   omega
theorem own_grown {w w':World}{base e n:Nat}{row:Option Nat}{k:Nat}{v:Value}{xs:List Value}(h:w.ownsRow base e k v n xs) (hg:w.grownBy w' row) (hne:∀ g,v.ownBlock=some g->some g≠row):w'.ownsRow base e k v n xs:=by
 refine h.kept hg ?_
 cases hv:v.ownBlock with
 | none=>exact Or.inl rfl
 | some g=>exact Or.inr (hne g hv)
theorem own_keep {F:Nat->Prop}{w w':World}{base e k n:Nat}{v:Value}{xs:List Value}(h:w.ownsRow base e k v n xs) (K:Keep F w w') (hne:∀ g,v.ownBlock=some g->¬ F g):w'.ownsRow base e k v n xs:=by
 refine ⟨h.1,?_⟩
 rcases h.2 with h2 | ⟨g,cap,cur,hv,hbase,hg,h3⟩
 ·exact Or.inl h2
 ·refine Or.inr ⟨g,cap,cur,hv,hbase,(K.block g (Array.getElem?_eq_some_iff.1 hg).1 (hne g (by rw [hv];rfl))).trans hg,h3⟩
theorem own_map {P:Program}{kt:TypeId}{w:World}{b m:Nat}{f:Int->Option Value}{base e k n:Nat}{v:Value}{xs:List Value}(h:w.ownsRow base e k v n xs) (M:MapF P kt w b f m):∀ g,v.ownBlock=some g->g≠b:=by
 intro g hg e
 obtain ⟨D,⟨es,clock,h1,_⟩,_⟩:=M
 rcases h.2 with ⟨rfl,_⟩ | ⟨g',cap,cur,rfl,_,hgg,_⟩
 ·cases hg
 ·simp only [Value.ownBlock,Option.some.injEq] at hg
  rw [hg,e,h1] at hgg
  cases hgg
theorem sort_row {base:Nat}{v:Value}{L l:List Nat}(w:World) (h:w.ownsRow base 3 1 v L.length (vals L)) (hne:L≠[]) (hl:l.length=L.length) (hs:(intsN L).mergeSort (fun x y=>decide (x<=y))=intsN l) (hlen:L.length<=256) :
  Calls Tryz.prog 138 #[v] w fun e w'=>e=.returned (.tuple #[])/\w'.ownsRow base 3 1 v l.length (vals l)/\w.grownBy w' v.ownBlock:=by
 rcases h.2 with ⟨_,h0⟩ | ⟨g,cap,cur,rfl,hbase,hg,h1,h2,h3,h4⟩
 ·exact absurd (List.length_eq_zero_iff.1 h0) hne
 ·have hv:vals L=(intsN L).map (Value.int .i64):=by simp [vals,intsN]
  have hv':vals l=(intsN l).map (Value.int .i64):=by simp [vals,intsN]
  have hL:(intsN L).length=L.length:=by simp [intsN]
  have hl':(intsN l).length=(intsN L).length:=by simp [intsN,hl]
  have hH:Go.Sort.Holds (Value.int .i64) w g 0 (intsN L).toArray:=holds_of_blockI hg (by rw [hL,<- hv];simpa using h4)
  have hc:=AnyM.slices_Sort_int Tryz.sortA g 0 cap (intsN L) w hH (Array.getElem?_eq_some_iff.1 hg).1 (by rw [hL];omega)
  rw [hs,hL] at hc
  refine hc.mono ?_
  rintro e w' ⟨rfl,n,os,rfl⟩
  refine ⟨rfl,?_,grownBy_sortedI _⟩
  have:=ownsRow_sortedI (base:=base) (n:=n) (os:=os) (ss:=intsN L) (ts:=intsN l) hl' hbase hg (by rw [hL];exact h1) h2 h3
  rw [hL] at this
  rw [hl,hv']
  exact this
end
end Go.Proofs.YtipbhlofbpnpjaaGreatDoor
