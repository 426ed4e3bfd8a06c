/-
  Texts laid together: Between, Reach, RNext, RWay, WalkP, RCost.
-/
import Derived.Test.YtipbhlofbpnpjaaGreatDoorP9
import Derived.Test.YtipbhlofbpnpjaaGreatDoorP7
import Derived.Test.YtipbhlofbpnpjaaGreatDoorP6
import Derived.Test.YtipbhlofbpnpjaaGreatDoorP2
import Derived.Deep.RegionWith
namespace Go.Proofs.YtipbhlofbpnpjaaGreatDoor
section
open Go.RowKit
set_option maxHeartbeats 2000000 in
set_option maxRecDepth 1000000 in
theorem rbtw_any {b:Nat}{W H V a t:Int}{bl:Nat->Bool}(w:World)(g:GridAt w b W H V bl)(s:StepsAt w)(d:DiagAt w)(hb:b<w.heap.size)(ha:inB W H a=true)(ht:inB W H t=true) :
  Calls Tryz.prog 74 #[.pointer (some ⟨b,0,none⟩),.int .i64 a,.int .i64 t] w fun e w'=>∃ nb T,e=.returned (.map (some nb))/\SetAt w' nb T/\(∀ z,T z=true↔On W H bl a t z)/\w.heap.size<=nb/\Below w.heap.size w w':=by
 have hmm:=@run_makeMap Tryz.prog
 have hM0:=SetAt.made w
 have hz0:(w.alloc (.map #[] 0)).heap.size=w.heap.size+1:=by simp
 have B0:Below w.heap.size w (w.alloc (.map #[] 0)):=(Below.refl _ _).alloc (Nat.le_refl _) _
 have hsp:=rspread_any (w.alloc (.map #[] 0)) (g.below B0 hb) (s.below B0 (by omega)) (d.below B0) (by omega) ht ha
 go_enter Tryz.func74,Tryz.ntmps74
 go_wp2_with fail
 refine hsp.mono ?_
 rintro e w1 ⟨kb,SB,rfl,hB,hBi,hkb,hb1⟩
 have hM1:=hM0.below hb1
 have B1:Below w.heap.size w w1:=B0.trans (hb1.mono B0.size)
 have hb':b<w1.heap.size:=Nat.lt_of_lt_of_le hb B1.size
 have hsp2:=rspread_any w1 (g.below B1 hb) (s.below B1 (by omega)) (d.below B1) hb' ha ht
 rw [hz0] at hkb
 have HBi:Hid (∀ z,SB z=true↔Tw W H bl t a z):=hBi
 have hk1:=hB.lt
 clear hsp hM0 hz0 B0 hb1 hmm hBi
 go_wp2_with fail
 refine hsp2.mono ?_
 rintro e w2 ⟨fb,SF,rfl,hF,hFi,hfb,hb2⟩
 have hM2:=hM1.below hb2
 have hB2:=hB.below hb2
 have B2:Below w.heap.size w w2:=B1.trans (hb2.mono B1.size)
 have HFi:Hid (∀ z,SF z=true↔Tw W H bl a t z):=hFi
 have hk2:=Nat.lt_of_lt_of_le hk1 hb2.size
 have hf2:=hF.lt
 have z2:=B1.size
 have hm2:=hM2.lt
 clear hM1 hB hb2 hsp2 hFi
 go_wp2_with (first|(at_range;refine wpList_rangeF rfl _ 134 rfl 3 185 law3 Tryz.underS fb _ _ rfl hF.mp ?_;intro w0 hrg0 hg0 hs0)|go_in)
 have hM3:=hM2.grown hg0 (by simp)
 have hB3:=hB2.grown hg0 (by simp)
 have B3:Below w.heap.size w w0:=B2.grown hg0 B2.size (by simp)
 generalize hr:w2.heap.size=r at *
 clear hM2 hB2 B2 hg0
 go_frame
 go_loopg [] (cntS SF 256) (fun gk wr=>∃ left cnt T,gk=cnt/\RngS wr fb r SF left cnt/\SetAt wr w.heap.size T/\SetAt wr kb SB/\Hid (∀ z,T z=true↔(SF z=true/\left z=false)/\SB z=true)/\Below w.heap.size w wr)
 case atStart =>
  refine ⟨_,_,_,rfl,hrg0,hM3,hB3,fun z=>⟨fun h=>(by cases h),?_⟩,B3⟩
  rintro ⟨⟨h1,h2⟩,_⟩
  rw [setF_isSome,h1] at h2
  cases h2
 case round =>
  obtain ⟨left,cnt,T,hgk,hrg,hT,hK,hall,hBw⟩:=hrel
  have hbz:=hBw.size
  go_wp2_with (first|(at_next;refine wpList_nextF rfl _ rfl 3 law3 fb r _ _ _ _ rfl hrg ?_ ?_)|go_in)
  ·intro hc0 hl0
   go_wp2
   go_ret
   refine ⟨_,T,rfl,hT,fun z=>?_,Nat.le_refl _,hBw⟩
   rw [hall.out z,HFi.out z,HBi.out z]
   exact ⟨fun h=>⟨h.1.1,h.2⟩,fun h=>⟨⟨h.1,hl0 z⟩,h.2⟩⟩
  ·intro x v w4 cnt1 hwx hlx hfx hrg1 hlt hg1 hs1 hen
   obtain ⟨hSx,rfl⟩:=setF_val hfx
   have hx:=hF.bd x hSx
   have hT1:=hT.grown hg1 (fun e=>by have:=Option.some.inj e;omega)
   have hK1:=hK.grown hg1 (fun e=>by have:=Option.some.inj e;omega)
   have B4:Below w.heap.size w w4:=hBw.grown hg1 hbz (fun k e=>by cases e;omega)
   have hT2:=hT1.grown (World.grownBy_alloc w4 (.cells #[] 185) none) (by simp)
   have hK2:=hK1.grown (World.grownBy_alloc w4 (.cells #[] 185) none) (by simp)
   have hrg2:=hrg1.grown (World.grownBy_alloc w4 (.cells #[] 185) none) (by simp) (by simp)
   have B5:=B4.alloc B4.size (.cells #[] 185)
   cases hSB:SB x with
   |false =>
    have hlk:(Instr.lookup 134 (.map (some kb)) (.int .i64 x) true).run Tryz.prog w4=.ok (.tuple #[.agg #[],.bool false]) w4:=hK1.mp.look_none law3 Tryz.underS (zeroS _) hwx (setF_none hSB) true
    clear hT hK hrg hBw hT1 hK1 B4 hg1
    go_wp2
    go_roundg cnt1
    case measure=>omega
    case rel =>
     refine ⟨_,cnt1,T,rfl,hrg2,hT2,hK2,fun z=>?_,B5⟩
     rw [hall.out z]
     by_cases e:z=x
     ·subst e;simp [hSB]
     ·simp [e]
   |true =>
    have hlk:(Instr.lookup 134 (.map (some kb)) (.int .i64 x) true).run Tryz.prog w4=.ok (.tuple #[.agg #[],.bool true]) w4:=hK1.mp.look_some law3 Tryz.underS (zeroS _) hwx (setF_some hSB) true
    clear hT hK hrg hBw hT1 hK1 B4 hg1
    go_wp2_with (first|(at_mapUpdate;refine wpList_put rfl _ _ _ 134 rfl 3 185 law3 Tryz.underS w.heap.size _ _ rfl hT2.mp hT2.room x (.agg #[]) rfl rfl hwx ?_;intro w5 hm5 ht5;go_frame)|go_in)
    have hT3:=hT2.put hx.1 hx.2 hm5
    have hg5:=ht5.grown
    have hrg3:=hrg2.grown hg5 (fun e=>by have:=Option.some.inj e;omega) (fun e=>by have:=Option.some.inj e;omega)
    have hK3:=hK2.grown hg5 (fun e=>by have:=Option.some.inj e;omega)
    have B6:Below w.heap.size w w5:=B5.grown hg5 B5.size (fun k e=>by cases e;exact Nat.le_refl _)
    go_roundg cnt1
    case measure=>omega
    case rel =>
     refine ⟨_,cnt1,_,rfl,hrg3,hT3,hK3,fun z=>?_,B6⟩
     rw [insS_iff,hall.out z]
     by_cases e:z=x
     ·subst e;simp [hSB,hSx]
     ·simp [e]
end
section
open Go.RowKit
def ff2 (W H:Int) (bl:Nat->Bool) (a t:Int):Int:=if ffv W H bl a=0 then ffv W H bl t else ffv W H bl a
theorem ff2_ok {W H:Int}{bl:Nat->Bool}{a t:Int}(h:ff2 W H bl a t=0):(inB W H a=true/\bl a.toNat=false)/\(inB W H t=true/\bl t.toNat=false):=by
 have one:∀ c,ffv W H bl c=0->inB W H c=true/\bl c.toNat=false:=fun c h=>by
  unfold ffv at h
  cases h1:inB W H c with
  |false=>rw [h1] at h;cases h
  |true =>
   cases h2:bl c.toNat with
   |false=>exact ⟨rfl,rfl⟩
   |true=>rw [h1,h2] at h;cases h
 unfold ff2 at h
 split at h
 ·rename_i h1;exact ⟨one a h1,one t h⟩
 ·rename_i h1;exact absurd h h1
set_option maxHeartbeats 400000 in
theorem check2_any {b:Nat}{W H V:Int}{bl:Nat->Bool}(a t:Int)(w:World)(g:GridAt w b W H V bl)(hb:b<w.heap.size) :
  Calls Tryz.prog 73 #[.pointer (some ⟨b,0,none⟩),.int .i64 a,.int .i64 t] w fun e w'=>e=.returned (errV (ff2 W H bl a t))/\Below w.heap.size w w':=by
 have h1:=check_any a w g
 unfold ff2
 by_cases h:ffv W H bl a=0
 ·rw [if_pos h]
  rw [h,errV_nil] at h1
  go_enter Tryz.func73,Tryz.ntmps73
  go_wp2_with fail
  refine h1.mono ?_
  rintro e w1 ⟨rfl,hb1⟩
  have h2:=check_any t w1 (g.below hb1 hb)
  clear h1
  go_wp2_with fail
  refine h2.mono ?_
  rintro e w2 ⟨rfl,hb2⟩
  clear h2
  go_wp2
  go_ret
  exact ⟨rfl,hb1.trans (hb2.mono hb1.size)⟩
 ·rw [if_neg h]
  rw [errV_some h] at h1 ⊢
  go_enter Tryz.func73,Tryz.ntmps73
  go_wp2_with fail
  refine h1.mono ?_
  rintro e w1 ⟨rfl,hb1⟩
  clear h1
  go_wp2
  go_ret
  exact ⟨rfl,hb1⟩
end
section
open Go.RowKit
set_option maxHeartbeats 2000000 in
set_option maxRecDepth 1000000 in
theorem rnext_any {b ob:Nat}{W H V c t:Int}{bl:Nat->Bool}{S:Int->Bool}{l:List Nat}(hl:onw W H bl c t 8=l)(w:World)(g:GridAt w b W H V bl)(s:StepsAt w)(d:DiagAt w)(hb:b<w.heap.size)(hS:SetAt w ob S)(hc:inB W H c=true)(ht:inB W H t=true) :
  Calls Tryz.prog 75 #[.pointer (some ⟨b,0,none⟩),.map (some ob),.int .i64 c,.int .i64 t] w fun e w'=>Below w.heap.size w w' /\
   ((∃ i,i<l.length/\S ((l.getD i 0:Nat):Int)=true/\(∀ j,j<i->S ((l.getD j 0:Nat):Int)=false)/\e=.returned (.tuple #[.int .i64 ((l.getD i 0:Nat):Int),.bool true])) \/
    ((∀ i,i<l.length->S ((l.getD i 0:Nat):Int)=false)/\e=.returned (.tuple #[.int .i64 0,.bool false]))):=by
 have gw1:=g.w1
 have hwh:=wh_bd g.w1 g.w2 g.h1 g.h2
 have hob:=hS.lt
 have hll:l.length<=8:=by rw [<- hl];exact onw_len _ _ _ _ _ _
 have HZ:Hid (∀ j,j<l.length->(0:Int)<=((l.getD j 0:Nat):Int)/\((l.getD j 0:Nat):Int)<256):=fun j hj=>by
  obtain ⟨k,e,_⟩:=(onw_row (z:=((l.getD j 0:Nat):Int)) gw1 hc hl).1 ⟨j,hj,rfl⟩
  have:0<=((l.getD j 0:Nat):Int)/\((l.getD j 0:Nat):Int)<W*H:=of_decide_eq_true (e.in' gw1)
  omega
 have hon:=onward_v hl w g s d hb hc ht
 clear hl
 go_enter Tryz.func75,Tryz.ntmps75
 go_wp2_with fail
 refine hon.mono ?_
 rintro e w1 ⟨A,cap,rfl,hrow,hb1⟩
 have hS1:=hS.below hb1
 clear hon hS
 go_wp2
 go_loopg [19] l.length (fun gj iv wr=>∃ j:Nat,gj=l.length - j/\iv=.int .i64 j/\j<=l.length/\SetAt wr ob S/\Hid (∀ i,i<j->S ((l.getD i 0:Nat):Int)=false)/\OldRow wr A l.length (fun i=>(l.getD i 0:Nat))/\Below w.heap.size w wr)
 case atStart=>exact ⟨0,rfl,rfl,Nat.zero_le _,hS1,fun i hi=>absurd hi (by omega),hrow,hb1⟩
 case round =>
  obtain ⟨j,hgj,rfl,hj,hT,hno,hrow',hB⟩:=hrel
  by_cases hlj:j<l.length
  ·obtain ⟨ba,oa,rfl,hba,hcell⟩:=hrow' j hlj
   obtain ⟨z0,z1⟩:=HZ.out j hlj
   have hcell':wr.cell? ⟨ba,oa+j,none⟩=some (.int .i64 ((l.getD j 0:Nat):Int)):=hcell
   clear hcell
   obtain ⟨zz,hzz⟩:∃ zz,((l.getD j 0:Nat):Int)=zz:=⟨_,rfl⟩
   have HZZ:Hid (((l.getD j 0:Nat):Int)=zz):=hzz
   rw [hzz] at hcell' z0 z1
   clear hzz
   have i1:(0:Int)<=(j:Int):=by omega
   have i2:(j:Int)<(l.length:Int):=by omega
   have bA:Below wr.heap.size wr (wr.alloc (.cells #[] 185)):=(Below.refl _ _).alloc (Nat.le_refl _) _
   have hT2:=hT.below bA
   have hB2:=hB.trans (bA.mono hB.size)
   have hrow2:=hrow'.below bA
   cases hSz:S zz with
   |false =>
    have hlk:(Instr.lookup 134 (.map (some ob)) (.int .i64 zz) true).run Tryz.prog wr=.ok (.tuple #[.agg #[],.bool false]) wr:=hT.mp.look_none law3 Tryz.underS (zeroS _) (wf_small z0 z1) (setF_none hSz) true
    clear hT hB hrow' bA
    go_wp2
    go_roundg (l.length - (j+1))
    case measure=>omega
    case rel =>
     refine ⟨j+1,rfl,by go_num,by omega,hT2,fun i hi=>?_,hrow2,hB2⟩
     by_cases e:i=j
     ·rw [e,HZZ.out];exact hSz
     ·exact hno.out i (by omega)
   |true =>
    have hlk:(Instr.lookup 134 (.map (some ob)) (.int .i64 zz) true).run Tryz.prog wr=.ok (.tuple #[.agg #[],.bool true]) wr:=hT.mp.look_some law3 Tryz.underS (zeroS _) (wf_small z0 z1) (setF_some hSz) true
    clear hT hB hrow' bA
    go_wp2
    go_ret2
    exact ⟨hB2,Or.inl ⟨j,hlj,by rw [HZZ.out];exact hSz,hno.out,by rw [HZZ.out];rfl⟩⟩
  ·have e:j=l.length:=by omega
   subst e
   go_wp2
   go_ret2
   exact ⟨hB,Or.inr ⟨hno.out,rfl⟩⟩
set_option maxHeartbeats 400000 in
theorem rway_err {b:Nat}{W H V:Int}{bl:Nat->Bool}(a t:Int)(w:World)(g:GridAt w b W H V bl)(hb:b<w.heap.size)(hf:ff2 W H bl a t≠0) :
  Calls Tryz.prog 42 #[.pointer (some ⟨b,0,none⟩),.int .i64 a,.int .i64 t] w fun e w'=>e=.returned (.tuple #[.slice none 0 0,errV (ff2 W H bl a t)])/\Below w.heap.size w w':=by
 have h1:=check2_any a t w g hb
 rw [errV_some hf] at h1 ⊢
 go_enter Tryz.func42,Tryz.ntmps42
 go_wp2_with fail
 refine h1.mono ?_
 rintro e w1 ⟨rfl,hb1⟩
 clear h1
 go_wp2
 go_ret2
 exact ⟨rfl,hb1⟩
set_option maxHeartbeats 1000000 in
theorem rway_none {b:Nat}{W H V:Int}{bl:Nat->Bool}(a t:Int)(w:World)(g:GridAt w b W H V bl)(s:StepsAt w)(d:DiagAt w)(hb:b<w.heap.size)(hf:ff2 W H bl a t=0)(hno:¬ ∃ z,On W H bl a t z) :
  Calls Tryz.prog 42 #[.pointer (some ⟨b,0,none⟩),.int .i64 a,.int .i64 t] w fun e w'=>e=.returned (.tuple #[.slice none 0 0,.iface 39 (.int .i64 5)])/\Below w.heap.size w w':=by
 have h1:=check2_any a t w g hb
 rw [hf,errV_nil] at h1
 obtain ⟨⟨ha,_⟩,⟨ht,_⟩⟩:=ff2_ok hf
 go_enter Tryz.func42,Tryz.ntmps42
 go_wp2_with fail
 refine h1.mono ?_
 rintro e w1 ⟨rfl,hb1⟩
 have h2:=rbtw_any w1 (g.below hb1 hb) (s.below hb1 (by omega)) (d.below hb1) (Nat.lt_of_lt_of_le hb hb1.size) ha ht
 clear h1
 go_wp2_with fail
 refine h2.mono ?_
 rintro e w2 ⟨nb,T,rfl,hT,hTi,_,hb2⟩
 have B2:=hb1.trans (hb2.mono hb1.size)
 have hlen:=fun ty=>hT.mp.len (t:=134) Tryz.underS ty
 have hc0:cntS T 256=0:=by
  by_cases hp:0<cntS T 256
  ·obtain ⟨z,hz⟩:=hT.ne_nil.1 hp
   exact absurd ⟨z,(hTi z).1 hz⟩ hno
  ·omega
 rw [hc0] at hlen
 clear h2 hb2 hT hTi hno
 go_wp2
 go_ret2
 exact ⟨rfl,B2⟩
end
section
open Go.RowKit
variable {W H : Int} {bl : Nat → Bool}
theorem onw_mem4 {c t:Int}{z:Nat}(w1:1<=W)(hc:inB W H c=true):z ∈ onw W H bl c t 4↔∃ k,k % 2=1/\Edge W H bl c k z/\Good (c % W) (c / W) (t % W) (t / W) k:=by
 unfold onw
 rw [List.mem_map]
 constructor
 ·rintro ⟨i,hi,rfl⟩
  rw [List.mem_filter] at hi
  have h:=hi.2
  have hi4:=List.mem_range.1 hi.1
  unfold onB at h
  rw [Bool.and_eq_true] at h
  refine ⟨dF i,?_,⟨dF_lt i,hc,h.1,tgt_eq w1 h.1⟩,goodB_iff.1 h.2⟩
  have:i=0\/i=1\/i=2\/i=3:=by omega
  rcases this with rfl|rfl|rfl|rfl <;> decide
 ·rintro ⟨k,hk,⟨h1,_,h3,h4⟩,hg⟩
  have hdf:∃ i,i<4/\dF i=k:=by
   have:k=1\/k=3\/k=5\/k=7:=by omega
   rcases this with rfl|rfl|rfl|rfl
   ·exact ⟨0,by decide,rfl⟩
   ·exact ⟨1,by decide,rfl⟩
   ·exact ⟨2,by decide,rfl⟩
   ·exact ⟨3,by decide,rfl⟩
  obtain ⟨i,hi,rfl⟩:=hdf
  refine ⟨i,List.mem_filter.2 ⟨List.mem_range.2 hi,?_⟩,?_⟩
  ·unfold onB
   rw [Bool.and_eq_true]
   exact ⟨h3,goodB_iff.2 hg⟩
  ·have:=tgt_eq (H:=H) w1 h3
   omega
theorem onw_split (c t:Int):∃ r,onw W H bl c t 8=onw W H bl c t 4++r:=by
 rw [onw_succ W H bl c t 7,onw_succ W H bl c t 6,onw_succ W H bl c t 5,onw_succ W H bl c t 4,List.append_assoc,List.append_assoc,List.append_assoc]
 exact ⟨_,rfl⟩
theorem pick_chosen {a t p:Int}{S:Int->Bool}{l:List Nat}{i:Nat}(w1:1<=W)(hp:inB W H p=true)(hl:onw W H bl p t 8=l)(hS:∀ z,S z=true↔On W H bl a t z)(hi:i<l.length)(h1:S ((l.getD i 0:Nat):Int)=true)(h2:∀ j,j<i->S ((l.getD j 0:Nat):Int)=false) :
  ∃ k,Chosen W H bl a t p k ((l.getD i 0:Nat):Int):=by
 obtain ⟨r,hr⟩:=onw_split (W:=W) (H:=H) (bl:=bl) p t
 rw [hl] at hr
 by_cases q:i<(onw W H bl p t 4).length
 ·have e:l.getD i 0=(onw W H bl p t 4).getD i 0:=by
   rw [hr,List.getD_eq_getElem?_getD,List.getD_eq_getElem?_getD,List.getElem?_append_left q]
  have hm:l.getD i 0 ∈ onw W H bl p t 4:=by rw [e,getD_at _ _ q];exact List.getElem_mem q
  obtain ⟨k,k1,k2,k3⟩:=(onw_mem4 w1 hp).1 hm
  exact ⟨k,⟨k2,k3,(hS _).1 h1⟩,fun h=>by omega⟩
 ·obtain ⟨k,e,g⟩:=(onw_row (z:=((l.getD i 0:Nat):Int)) w1 hp hl).1 ⟨i,hi,rfl⟩
  refine ⟨k,⟨e,g,(hS _).1 h1⟩,fun _ j z hj hc=>?_⟩
  have hz:0<=z/\z<W*H:=of_decide_eq_true (hc.1.in' w1)
  have hm:z.toNat ∈ onw W H bl p t 4:=(onw_mem4 w1 hp).2 ⟨j,hj,by rw [Int.toNat_of_nonneg hz.1];exact hc.1,hc.2.1⟩
  obtain ⟨n,hn,h⟩:=List.getElem_of_mem hm
  have e:l.getD n 0=z.toNat:=by
   rw [hr,List.getD_eq_getElem?_getD,List.getElem?_append_left hn,List.getElem?_eq_getElem hn,h];rfl
  have:=h2 n (by omega)
  rw [e,Int.toNat_of_nonneg hz.1,(hS z).2 hc.2.2] at this
  cases this
theorem pick_none {a t p:Int}{S:Int->Bool}{l:List Nat}(w1:1<=W)(hoS:octS W a t<=1000)(hoD:octD W a t<=1000)(hp:inB W H p=true)(hl:onw W H bl p t 8=l)(hS:∀ z,S z=true↔On W H bl a t z)(hon:On W H bl a t p)(h2:∀ j,j<l.length->S ((l.getD j 0:Nat):Int)=false):p=t:=by
 apply Classical.byContradiction
 intro hne
 obtain ⟨j,r,e,g,ho⟩:=hon.next w1 hoS hoD hne
 obtain ⟨i,hi,rfl⟩:=(onw_row (z:=r) w1 hp hl).2 ⟨j,e,g⟩
 have:=h2 i hi
 rw [(hS _).2 ho] at this
 cases this
def NextIs (W H:Int) (bl:Nat->Bool) (a t p:Int) (cv mv:Value):Prop:=(∃ k,∃ r:Nat,cv=.int .i64 r/\mv=.bool true/\Chosen W H bl a t p k r)\/(cv=.int .i64 0/\mv=.bool false/\p=t)
theorem rnext_v {b ob:Nat}{V a t p:Int}{S:Int->Bool}(w:World)(g:GridAt w b W H V bl)(s:StepsAt w)(d:DiagAt w)(hb:b<w.heap.size)(hS:SetAt w ob S)(hSi:∀ z,S z=true↔On W H bl a t z)(hoS:octS W a t<=1000)(hoD:octD W a t<=1000)(ht:inB W H t=true)(hp:inB W H p=true)(hon:On W H bl a t p) :
  Calls Tryz.prog 75 #[.pointer (some ⟨b,0,none⟩),.map (some ob),.int .i64 p,.int .i64 t] w fun e w'=>Below w.heap.size w w'/\∃ cv mv,e=.returned (.tuple #[cv,mv])/\NextIs W H bl a t p cv mv:=by
 refine (rnext_any rfl w g s d hb hS hp ht).mono ?_
 rintro e w' ⟨hb',⟨i,hi,h1,h2,rfl⟩|⟨h2,rfl⟩⟩
 ·obtain ⟨k,hk⟩:=pick_chosen g.w1 hp rfl hSi hi h1 h2
  exact ⟨hb',_,_,rfl,Or.inl ⟨k,_,rfl,rfl,hk⟩⟩
 ·exact ⟨hb',_,_,rfl,Or.inr ⟨rfl,rfl,pick_none g.w1 hoS hoD hp rfl hSi hon h2⟩⟩
def ints (l:List Nat):List Int:=l.map fun n:Nat=>(n:Int)
theorem ints_snoc (l:List Nat)(n:Nat):ints (l++[n])=ints l++[(n:Int)]:=by unfold ints;rw [List.map_append];rfl
set_option maxHeartbeats 2000000 in
set_option maxRecDepth 1000000 in
theorem rway_ok {b:Nat}{V:Int}(a:Nat)(t:Int)(w:World)(g:GridAt w b W H V bl)(s:StepsAt w)(d:DiagAt w)(hb:b<w.heap.size)(hf:ff2 W H bl a t=0)(hyes:∃ z,On W H bl a t z) :
  Calls Tryz.prog 42 #[.pointer (some ⟨b,0,none⟩),.int .i64 a,.int .i64 t] w fun e w'=>∃ v l,e=.returned (.tuple #[v,.nilIface])/\w'.ownsRow w.heap.size 3 1 v (a::l).length (vals (a::l))/\Chn (WSt W H bl a t) a (ints l) t/\l.length<=64/\Below w.heap.size w w':=by
 have h1:=check2_any a t w g hb
 rw [hf,errV_nil] at h1
 obtain ⟨⟨ha,_⟩,⟨ht,_⟩⟩:=ff2_ok hf
 obtain ⟨i0,hi,hz0,hz1,hz2⟩:=info_parts Tryz.info3
 have gw1:=g.w1
 have hsm:=oct_small g.w1 g.w2 g.h1 g.h2 ha ht
 have hoS:octS W a t<=1000:=by omega
 have hoD:octD W a t<=1000:=by omega
 obtain ⟨z,hz⟩:=hyes
 have hona:=(hz.ends gw1 hoS hoD).1
 go_enter Tryz.func42,Tryz.ntmps42
 go_wp2_with fail
 refine h1.mono ?_
 rintro e w1 ⟨rfl,hb1⟩
 have h2:=rbtw_any w1 (g.below hb1 hb) (s.below hb1 (by omega)) (d.below hb1) (Nat.lt_of_lt_of_le hb hb1.size) ha ht
 clear h1
 go_wp2_with fail
 refine h2.mono ?_
 rintro e w2 ⟨nb,T,rfl,hT,hTi,hnb,hb2⟩
 have B2:=hb1.trans (hb2.mono hb1.size)
 have hlen:=fun ty=>hT.mp.len (t:=134) Tryz.underS ty
 have hcp:0<cntS T 256:=hT.ne_nil.2 ⟨z,(hTi z).2 hz⟩
 have hcn:((cntS T 256:Nat):Int)≠0:=by omega
 have bA:Below w2.heap.size w2 (w2.alloc (.cells #[.int .i64 a] 3)):=(Below.refl _ _).alloc (Nat.le_refl _) _
 have B3:=B2.trans (bA.mono B2.size)
 have hT3:=hT.below bA
 have h3:=rnext_v (w2.alloc (.cells #[.int .i64 a] 3)) (g.below B3 hb) (s.below B3 (by omega)) (d.below B3) (Nat.lt_of_lt_of_le hb B3.size) hT3 hTi hoS hoD ht ha hona
 have HTi:Hid (∀ z,T z=true↔On W H bl a t z):=hTi
 have hcn':(((cntS T 256:Nat):Int) == 0)=false:=by simpa using hcn
 have hO2:(w2.alloc (.cells #[.int .i64 a] 3)).ownsRow w2.heap.size 3 1 (.slice (some ⟨w2.heap.size,0,none⟩) 1 1) [a].length (vals [a]):=World.ownsRow_lit w2 #[.int .i64 a] 1 (Nat.le_refl _) (by unfold maxLen;omega) rfl
 have hnl:=hT.lt
 have z2:=B2.size
 clear h2 hb2 hTi hz hT hcn
 generalize cntS T 256=cn at *
 go_wp2_with fail
 refine h3.mono ?_
 rintro e w3 ⟨hb3,cv,mv,rfl,hnx⟩
 have hT4:=hT3.below hb3
 have hO3:=own_below hO2 hb3
 have B4:=B3.trans (hb3.mono B3.size)
 have z3:w2.heap.size<=w3.heap.size:=by have h:=hb3.size;simp at h;omega
 have hn0:=octN_nonneg W a t
 have hn1:octN W a t<=32:=by unfold octN;omega
 clear h3 hb3 hT3 hO2 B3 bA
 generalize w2.heap.size=N2 at *
 go_wp2
 go_loopg [10,11,12] (octN W a t).toNat (fun gk v cv mv wr=>∃ (p:Int) (l:List Nat),gk=(octN W p t).toNat/\(l.length:Int)+octN W p t=octN W a t/\wr.ownsRow N2 3 1 v (a::l).length (vals (a::l))/\Hid (Chn (WSt W H bl a t) a (ints l) p)/\On W H bl a t p/\inB W H p=true/\NextIs W H bl a t p cv mv/\SetAt wr nb T/\N2<=wr.heap.size/\Below w.heap.size w wr)
 case atStart=>exact ⟨a,[],rfl,by simp,hO3,rfl,hona,ha,hnx,hT4,z3,B4⟩
 case round =>
  obtain ⟨p,l,hgk,hln,hown,hch,hon,hpin,hnx',hT',hz',hB⟩:=hrel
  have hsz:=hB.size
  have hpn:=octN_nonneg W p t
  rcases hnx' with ⟨k,r,rfl,rfl,hck⟩|⟨rfl,rfl,rfl⟩
  ·have hrn:=octN_step gw1 hck.1.1 hck.1.2.1
   have hrin:=hck.1.1.in' gw1
   have hron:=hck.1.2.2
   have HC:Hid (Chn (WSt W H bl a t) a (ints (l++[r])) r):=by
    have:=Chn.snoc hch.out (show WSt W H bl a t p r from ⟨k,hck⟩)
    rw [<- ints_snoc] at this
    exact this
   have hnbz:nb<wr.heap.size:=hT'.lt
   clear hck hch
   go_wp2_with (at_builtin;refine wpList_append_own _ rfl _ _ 22 rfl N2 3 i0 (.int .i64 0) 1 8 Tryz.underlying22 hi hz0 hz1 hz2 rfl (by decide) _ _ _ rfl (World.ownsRow.alloc hown _) ⟨wr.heap.size,0,none⟩ 1 1 [.int .i64 r] rfl rfl ?c1 ?c2 ?c3 ?c4 ?c5 ?_)
   case c1 =>
    intro j u hj
    match j,hj with
    |0,hj =>
     simp at hj;subst hj;simp only [Addr.add]
     exact World.cell?_alloc_at (w:=wr) #[.int .i64 r] 3 wr.heap.size 0 rfl
   case c2=>intro u hu;simp at hu;subst hu;rfl
   case c3=>simp;unfold maxLen;omega
   case c4=>simp;omega
   case c5=>simp;omega
   intro v' w4 hown' hgrow _
   have hg4:=hgrow.size
   have hbase:=fun q hq=>(hown.lt q hq).1
   have B5:Below w.heap.size w w4:=(hB.alloc hsz _).grown hgrow (by simp;omega) (fun q hq=>Nat.le_trans z2 (hbase q hq))
   have hT5:SetAt w4 nb T:=(hT'.grown (World.grownBy_alloc wr _ none) (by simp)).grown hgrow (fun e=>by have:=hbase nb e.symm;omega)
   have O5:w4.ownsRow N2 3 1 v' (a::(l++[r])).length (vals (a::(l++[r]))):=by
    have e1:(a::(l++[r])).length=(a::l).length+1:=by simp
    have e2:vals (a::(l++[r]))=vals (a::l)++[.int .i64 r]:=by simp [vals]
    rw [e1,e2]
    exact hown'
   have h6:=rnext_v w4 (g.below B5 hb) (s.below B5 (by omega)) (d.below B5) (Nat.lt_of_lt_of_le hb B5.size) hT5 HTi.out hoS hoD ht hrin hron
   clear hown' hgrow hown hT' hB hon
   go_wp2_with fail
   refine h6.mono ?_
   rintro e w5 ⟨hb5,cv',mv',rfl,hnx5⟩
   have hT6:=hT5.below hb5
   have O6:=own_below O5 hb5
   have B6:=B5.trans (hb5.mono B5.size)
   have z6:N2<=w5.heap.size:=by have h1:=hg4;have h2:=hb5.size;simp at h1;omega
   clear h6 hT5 O5 hb5 B5
   go_wp2
   go_roundg (octN W r t).toNat
   case measure=>have:=octN_nonneg W r t;omega
   case rel=>exact ⟨r,l++[r],rfl,by simp;omega,O6,HC,hron,hrin,hnx5,hT6,z6,B6⟩
  ·go_wp2
   go_ret2
   exact ⟨_,l,rfl,own_base hown z2,hch.out,by omega,hB⟩
end
section
open Go.RowKit
def stepD (W H:Int) (bl:Nat->Bool) (a b:Int):Option Nat:=(List.range 8).find? (fun d=>mayB W H bl (a % W) (a / W) d&&(a+(stepY d*W+stepX d) == b))
def wk1 (W H:Int) (bl:Nat->Bool) (xs:Nat->Int) (i:Nat) (c:Int × Int):Except Int (Int × Int) :=
 if ffv W H bl (xs i)=0 then (if i=0 then .ok c else match stepD W H bl (xs (i - 1)) (xs i) with|none=>.error 7|some k=>.ok (c.1+stS k,c.2+stD k)) else .error (ffv W H bl (xs i))
def wkS (W H:Int) (bl:Nat->Bool) (xs:Nat->Int):Nat->Except Int (Int × Int)
 |0=>.ok (0,0)
 |i+1=>match wkS W H bl xs i with|.error e=>.error e|.ok c=>wk1 W H bl xs i c
def wkV (W H:Int) (bl:Nat->Bool) (xs:Nat->Int) (n:Nat):(Int × Int) × Int:=if n=0 then ((0,0),7) else match wkS W H bl xs n with|.error e=>((0,0),e)|.ok c=>(c,0)
theorem wkS_stuck {W H:Int}{bl:Nat->Bool}{xs:Nat->Int}{i:Nat}{e:Int}(h:wkS W H bl xs i=.error e):∀ n,i<=n->wkS W H bl xs n=Except.error e:=by
 intro n hn
 induction n with
 |zero=>have:i=0:=by omega
        subst this;exact h
 |succ n ih =>
  by_cases q:i=n+1
  ·subst q;exact h
  ·rw [wkS,ih (by omega)]
theorem wkV_err {W H:Int}{bl:Nat->Bool}{xs:Nat->Int}{i n:Nat}{e:Int}(h:wkS W H bl xs i=.error e)(hn:i<=n)(h0:0<n):wkV W H bl xs n=((0,0),e):=by
 unfold wkV;rw [if_neg (by omega),wkS_stuck h n hn]
theorem wkV_ok {W H:Int}{bl:Nat->Bool}{xs:Nat->Int}{n:Nat}{c:Int × Int}(h:wkS W H bl xs n=.ok c)(h0:0<n):wkV W H bl xs n=(c,0):=by
 unfold wkV;rw [if_neg (by omega),h]
theorem wkS_next {W H:Int}{bl:Nat->Bool}{xs:Nat->Int}{i:Nat}{c:Int × Int}(h:wkS W H bl xs i=.ok c):wkS W H bl xs (i+1)=wk1 W H bl xs i c:=by
 rw [wkS,h]
theorem wkS_back {W H:Int}{bl:Nat->Bool}{xs:Nat->Int}{i:Nat}{c:Int × Int}(h:wkS W H bl xs (i+1)=.ok c):∃ c0,wkS W H bl xs i=.ok c0/\wk1 W H bl xs i c0=.ok c:=by
 rw [wkS] at h
 cases hw:wkS W H bl xs i with
 |error e=>rw [hw] at h;cases h
 |ok c0=>rw [hw] at h;exact ⟨c0,rfl,h⟩
theorem wkS_bd {W H:Int}{bl:Nat->Bool}{xs:Nat->Int}:∀ {i:Nat}{c:Int × Int},wkS W H bl xs i=.ok c->0<=c.1/\c.1<=i/\0<=c.2/\c.2<=i:=by
 intro i
 induction i with
 |zero=>intro c h;rw [wkS] at h;cases h;decide
 |succ i ih =>
  intro c h
  obtain ⟨c0,h1,h2⟩:=wkS_back h
  have:=ih h1
  unfold wk1 at h2
  by_cases a1:ffv W H bl (xs i)=0
  ·rw [if_pos a1] at h2
   by_cases a2:i=0
   ·rw [if_pos a2] at h2;cases h2;omega
   ·rw [if_neg a2] at h2
    cases hs:stepD W H bl (xs (i - 1)) (xs i) with
    |none=>rw [hs] at h2;cases h2
    |some k =>
     rw [hs] at h2;cases h2
     have:=st_bd k
     simp only
     omega
  ·rw [if_neg a1] at h2;cases h2
theorem wkS_in {W H:Int}{bl:Nat->Bool}{xs:Nat->Int}{i:Nat}{c:Int × Int}(h:wkS W H bl xs (i+1)=.ok c):inB W H (xs i)=true:=by
 obtain ⟨c0,h1,h2⟩:=wkS_back h
 unfold wk1 at h2
 by_cases a1:ffv W H bl (xs i)=0
 ·unfold ffv at a1
  by_cases a2:inB W H (xs i)=true
  ·exact a2
  ·rw [if_neg a2] at a1;omega
 ·rw [if_neg a1] at h2;cases h2
end
section
open Go.RowKit
set_option maxHeartbeats 400000 in
theorem plus_any (s d t u:Int)(w:World)(h:okC s d)(k:okC t u) :
  Calls Tryz.prog 64 #[.agg #[.int .i64 s,.int .i64 d],.agg #[.int .i64 t,.int .i64 u]] w fun e w'=>e=.returned (.agg #[.int .i64 (s+t),.int .i64 (d+u)])/\Below w.heap.size w w':=by
 obtain ⟨h1,h2,h3,h4⟩:=h
 obtain ⟨k1,k2,k3,k4⟩:=k
 go_enter Tryz.func64,Tryz.ntmps64
 go_wp2
 exact bodyPost_ret (v:=.agg #[.int .i64 (s+t),.int .i64 (d+u)]) (by simp [results,Tryz.results64,go_sem]) rfl ⟨rfl,((((Below.refl _ _).alloc (Nat.le_refl _) _).alloc (by simp) _).alloc (by simp;omega) _)⟩
theorem neg_sq (x:Int):-x*-x=x*x:=by rw [Int.neg_mul,Int.mul_neg,Int.neg_neg]
theorem irr_pos (x y:Int)(hx:0<=x)(hy:0<=y)(hq:y<38613965)(h:x*x=2*(y*y)):x=0:=by
 have a:=pos_lt x y hx hy hq
 have b:=pos_gt x y hx hy hq
 have e:38613965*x=54608393*y:=by
  rcases Int.lt_trichotomy (38613965*x) (54608393*y) with k|k|k
  ·have:=a.mpr k;omega
  ·exact k
  ·have:=b.mpr k;omega
 exact (no_mid x y e (Int.lt_of_lt_of_le (by decide) hy) hq).1
theorem irr (x y:Int)(h1:-38613965<y)(h2:y<38613965)(h:x*x=2*(y*y)):x=0:=by
 by_cases hx:0<=x <;> by_cases hy:0<=y
 ·exact irr_pos x y hx hy h2 h
 ·exact irr_pos x (-y) hx (by omega) (by omega) (by rw [neg_sq];exact h)
 ·have:=irr_pos (-x) y (by omega) hy h2 (by rw [neg_sq];exact h)
  omega
 ·have:=irr_pos (-x) (-y) (by omega) (by omega) (by omega) (by rw [neg_sq,neg_sq];exact h)
  omega
theorem sq_pos (x:Int):x=0\/0<x*x:=by
 by_cases h:x=0
 ·left;exact h
 ·right
  have:=mul_self_nonneg x
  by_cases g:x*x=0
  ·exact absurd (sq_zero x g) h
  ·omega
theorem cmpC_of (s d t u r:Int)(h1:-38613965<d - u)(h2:d - u<38613965)
  (H:∀ X Y:Int,(s - t=0\/0<X)->(d - u=0\/0<Y)->(s - t=0->X=0)->(d - u=0->Y=0)->(X=2*Y->s - t=0)->X=(s - t)*(s - t)->Y=(d - u)*(d - u) ->
   ∀ A B:Int,(s - t<0->A=-X)->(¬ s - t<0->A=X)->(d - u > 0->B=-Y)->(¬ d - u > 0->B=Y)->(r=-1/\A<2*B)\/(r=0/\A=2*B)\/(r=1/\2*B<A)) :
  cmpC s d t u=r:=by
 have h:=H _ _ (sq_pos (s - t)) (sq_pos (d - u)) (fun e=>by rw [e];rfl) (fun e=>by rw [e];rfl) (irr (s - t) (d - u) h1 h2) rfl rfl (if s - t<0 then -((s - t)*(s - t)) else (s - t)*(s - t)) (if d - u > 0 then -((d - u)*(d - u)) else (d - u)*(d - u)) (fun e=>by rw [if_pos e]) (fun e=>by rw [if_neg e]) (fun e=>by rw [if_pos e]) (fun e=>by rw [if_neg e])
 have e1:sqs (s - t)=if s - t<0 then -((s - t)*(s - t)) else (s - t)*(s - t):=by unfold sqs;rw [Int.neg_mul]
 have e2:sqs (u - d)=if d - u > 0 then -((d - u)*(d - u)) else (d - u)*(d - u):=by
  have n:u - d=-(d - u):=by omega
  rw [n,sqs_neg]
  unfold sqs
  rw [Int.neg_mul]
  by_cases c:d - u<0
  ·rw [if_pos c,if_neg (by omega),Int.neg_neg]
  ·rw [if_neg c]
   by_cases c2:d - u > 0
   ·rw [if_pos c2]
   ·rw [if_neg c2]
    have:d - u=0:=by omega
    rw [this];rfl
 unfold cmpC cmpI
 rw [e1,e2]
 rcases h with ⟨rfl,h⟩|⟨rfl,h⟩|⟨rfl,h⟩
 ·rw [if_pos h]
 ·rw [h,if_neg (by omega)];simp
 ·rw [if_neg (by omega),if_pos h]
theorem ret_int {k:IntKind}{a b:Int}(h:a=b):Ending.returned (.int k a)=.returned (.int k b):=by rw [h]
set_option maxHeartbeats 1000000 in
theorem rcmp_any (s d t u:Int)(w:World)(h:okC s d)(k:okC t u) :
  Calls Tryz.prog 71 #[.agg #[.int .i64 s,.int .i64 d],.agg #[.int .i64 t,.int .i64 u]] w fun e w'=>e=.returned (.int .i64 (cmpC s d t u))/\Below w.heap.size w w':=by
 obtain ⟨h1,h2,h3,h4⟩:=h
 obtain ⟨k1,k2,k3,k4⟩:=k
 have hB:Below w.heap.size w ((w.alloc (.cells #[.int .i64 s,.int .i64 d] 38)).alloc (.cells #[.int .i64 t,.int .i64 u] 38)):=((Below.refl _ _).alloc (Nat.le_refl _) _).alloc (by simp) _
 have bx:=mul_self_bd (s - t) (by omega) (by omega)
 have by_:=mul_self_bd (d - u) (by omega) (by omega)
 have e2:2*(d - u)*(d - u)=2*((d - u)*(d - u)):=Int.mul_assoc _ _ _
 have by2:0<=2*(d - u)*(d - u)/\2*(d - u)*(d - u)<=140737488355328:=by rw [e2];omega
 go_enter Tryz.func71,Tryz.ntmps71
 go_wp2
 all_goals
  go_ret
  refine ⟨ret_int (Eq.symm (cmpC_of s d t u _ (by omega) (by omega) ?_)),hB⟩
  clear hB bx by_ e2 by2
  intro X Y p1 p2 p3 p4 p5 eX eY A B q1 q2 q3 q4
  simp only [<- eX,<- eY,beq_iff_eq,beq_eq_false_iff_ne,ne_eq,decide_eq_decide,true_and] at *
  clear eX eY
  omega
end
end Go.Proofs.YtipbhlofbpnpjaaGreatDoor
