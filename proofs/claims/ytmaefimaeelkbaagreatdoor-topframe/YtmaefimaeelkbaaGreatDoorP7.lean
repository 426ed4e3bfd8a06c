/-
  Texts laid together: GoOut, CornM, LocM, OutM, RSpread, Between.
-/
import Derived.Test.YtmaefimaeelkbaaGreatDoorP6
import Derived.Test.YtmaefimaeelkbaaGreatDoorP5
import Derived.Test.YtmaefimaeelkbaaGreatDoorP4
namespace Go.Proofs.YtmaefimaeelkbaaGreatDoor
section
open Go.RowKit
theorem mkmap (w:World):(Instr.makeMap 164 none).run Tryz.prog w=.ok (.map (some w.heap.size)) (w.alloc (.map #[] 0)):=by kernel_rfl
set_option maxHeartbeats 2000000 in
set_option maxRecDepth 1000000 in
theorem goOut_any {b fb bb:Nat}{W H V a:Int}{bl:Nat->Bool}{S B:Int->Bool}(w:World)(g:GridAt w b W H V bl)(s:StepsAt w)(hb:b<w.heap.size)(hS:SetAt w fb S)(hB:SetAt w bb B)(hfb:fb≠bb)(hbb:b≠bb)(h0:1≠bb)(hin:∀ i,S i=true->inB W H i=true)(ha:inB W H a=true)
  (hap:∀ c k z,S c=true->Og W H bl a c k z->S z=false) :
  Calls Tryz.prog 200 #[.pointer (some ⟨b,0,none⟩),.map (some fb),.map (some bb),.int .i64 a] w fun e w'=>∃ nb T B',e=.returned (.map (some nb))/\SetAt w' nb T/\SetAt w' bb B'/\(∀ z,T z=true↔∃ c k,S c=true/\Og W H bl a c k z) /\
   (∀ z,B' z=true↔B z=true\/∃ c k,S c=true/\Og W H bl a c k z/\(B c=true\/(cornB W H bl c=true/\c≠a)))/\w.heap.size<=nb/\Keep (fun k=>k=bb) w w':=by
 have hfl:=hS.lt
 have hbl:=hB.lt
 have gw1:=g.w1
 have hwh:=wh_bd g.w1 g.w2 g.h1 g.h2
 have hM0:=SetAt.made w
 have hS0:=hS.grown (World.grownBy_alloc w (.map #[] 0) none) (by simp)
 have hB0:=hB.grown (World.grownBy_alloc w (.map #[] 0) none) (by simp)
 have hz0:(w.alloc (.map #[] 0)).heap.size=w.heap.size+1:=by simp
 have K0:Keep (fun k=>k=bb) w (w.alloc (.map #[] 0)):=(Keep.refl _ _).alloc _
 have hmk:=mkmap w
 have HAP:Hid (∀ c k z,S c=true->Og W H bl a c k z->S z=false):=hap
 clear hap
 go_enter Tryz.func200,Tryz.ntmps200
 go_wp2_with (first|(at_range;refine wpList_rangeF rfl _ 164 rfl 3 217 law3 Tryz.underS fb _ _ rfl hS0.mp ?_;intro w0 hrg0 hg0 hs0;rw [hz0] at hrg0 hs0 ⊢)|go_in)
 have hM1:=hM0.grown hg0 (by simp)
 have hB1:=hB0.grown hg0 (by simp)
 have K1:Keep (fun k=>k=bb) w w0:=K0.grown hg0 (by simp)
 clear hM0 hS0 hg0 K0 hB0
 go_frame
 go_loopg [] (cntS S 256) (fun gk wr=>∃ left cnt T B1,gk=cnt/\RngS wr fb (w.heap.size+1) S left cnt/\SetAt wr w.heap.size T/\SetAt wr bb B1/\Hid (∀ z,T z=true↔∃ c k,(S c=true/\left c=false)/\Og W H bl a c k z) /\
   Hid (∀ z,B1 z=true↔B z=true\/∃ c k,(S c=true/\left c=false)/\Og W H bl a c k z/\(B c=true\/(cornB W H bl c=true/\c≠a)))/\Keep (fun k=>k=bb) w wr)
 case atStart =>
  refine ⟨_,_,_,_,rfl,hrg0,hM1,hB1,fun z=>⟨fun h=>(by cases h),?_⟩,fun z=>⟨Or.inl,?_⟩,K1⟩
  ·rintro ⟨c,k,⟨h1,h2⟩,_⟩
   rw [setF_isSome,h1] at h2
   cases h2
  ·rintro (h|⟨c,k,⟨h1,h2⟩,_⟩)
   ·exact h
   ·rw [setF_isSome,h1] at h2
    cases h2
 case round =>
  obtain ⟨left,cnt,T,B1,hgk,hrg,hT,hB2,hall,hbhd,hK⟩:=hrel
  have hbz:=hK.size
  go_wp2_with (first|(at_next;refine wpList_nextF rfl _ rfl 3 law3 fb (w.heap.size+1) _ _ _ _ rfl hrg ?_ ?_)|go_in)
  ·intro hc0 hl0
   go_wp2
   go_ret
   refine ⟨_,T,B1,rfl,hT,hB2,fun z=>(hall.out z).trans ⟨?_,?_⟩,fun z=>(hbhd.out z).trans ⟨?_,?_⟩,Nat.le_refl _,hK⟩
   ·rintro ⟨c,k,h1,h2⟩;exact ⟨c,k,h1.1,h2⟩
   ·rintro ⟨c,k,h1,h2⟩;exact ⟨c,k,⟨h1,hl0 c⟩,h2⟩
   ·rintro (h|⟨c,k,h1,h2⟩)
    ·exact Or.inl h
    ·exact Or.inr ⟨c,k,h1.1,h2⟩
   ·rintro (h|⟨c,k,h1,h2⟩)
    ·exact Or.inl h
    ·exact Or.inr ⟨c,k,⟨h1,hl0 c⟩,h2⟩
  ·intro x v w1 cnt1 hwx hlx hfx hrg1 hlt hg1 hs1 hen
   obtain ⟨hSx,rfl⟩:=setF_val hfx
   have hxin:=hin x hSx
   have hT1:=hT.grown hg1 (fun e=>by have:=Option.some.inj e;omega)
   have hB3:=hB2.grown hg1 (fun e=>by have:=Option.some.inj e;omega)
   have K2:Keep (fun k=>k=bb) w w1:=hK.grown hg1 (fun k e h=>by cases e;omega)
   have hBx:B1 x=B x:=by
    have h1:=hbhd.out x
    cases hb1:B x with
    |true=>rw [hb1] at h1;exact h1.2 (Or.inl rfl)
    |false =>
     cases hb2:B1 x with
     |false=>rfl
     |true =>
      rw [hb1,hb2] at h1
      obtain ⟨c,k,h3,h4,_⟩:=(h1.1 rfl).resolve_left (by decide)
      have:=HAP.out c k x h3.1 h4
      rw [hSx] at this;cases this
   obtain ⟨l,hl⟩:∃ l,outw W H bl x a 8=l:=⟨_,rfl⟩
   have HL:Hid (outw W H bl x a 8=l):=hl
   have hll:l.length<=8:=by rw [<- hl];exact outw_len _ _ _ _ _ _
   clear hl
   have hzb:∀ j,j<l.length->(0:Int)<=((l.getD j 0:Nat):Int)/\((l.getD j 0:Nat):Int)<256:=fun j hj=>by
    obtain ⟨k,e,_⟩:=(outw_row (z:=((l.getD j 0:Nat):Int)) gw1 hxin HL.out).1 ⟨j,hj,rfl⟩
    have:0<=((l.getD j 0:Nat):Int)/\((l.getD j 0:Nat):Int)<W*H:=of_decide_eq_true (e.in' gw1)
    omega
   have HZ:Hid (∀ j,j<l.length->(0:Int)<=((l.getD j 0:Nat):Int)/\((l.getD j 0:Nat):Int)<256):=hzb
   clear hzb
   have g1:=g.keep K2 hbb
   have s1:=s.keep K2 h0
   have hw1:b<w1.heap.size:=Nat.lt_of_lt_of_le hb K2.size
   obtain ⟨cx,hcx⟩:∃ cx,cornB W H bl x=cx:=⟨_,rfl⟩
   have HCX:Hid (cornB W H bl x=cx):=hcx
   have his:=is_v hcx w1 g1 s1 hxin
   obtain ⟨bx,hbx⟩:∃ bx,B x=bx:=⟨_,rfl⟩
   have HBX:Hid (B x=bx):=hbx
   have HBX1:Hid (B1 x=bx):=hBx.trans hbx
   clear hcx hbx hBx
   clear hT hrg hK hg1 K1 hM1 hrg0 hB1 hB2
   go_wp2_with fail
   refine his.mono ?_
   rintro e w2 ⟨rfl,m2,hw2⟩
   have hlk:(Instr.lookup 164 (.map (some bb)) (.int .i64 x) true).run Tryz.prog w2=.ok (.tuple #[.agg #[],.bool bx]) w2:=by
    have hB4:SetAt w2 bb B1:=by rw [hw2];exact hB3.below (below_drewN (Below.refl _ _) m2)
    have hq:=HBX1.out
    cases bx with
    |false=>exact hB4.mp.look_none law3 Tryz.underS (zeroS _) hwx (setF_none hq) true
    |true=>exact hB4.mp.look_some law3 Tryz.underS (zeroS _) hwx (setF_some hq) true
   have b2:Below w1.heap.size w1 (w2.alloc (.cells #[] 217)):=by rw [hw2];exact (below_drewN (Below.refl _ _) m2).alloc (by simp) _
   have g2:=g1.below b2 hw1
   have s2:=s1.below b2 (by omega)
   have hT2:=hT1.below b2
   have hB4:=hB3.below b2
   have hrg2:=hrg1.below b2
   have K3:=K2.below b2
   have hw2':b<(w2.alloc (.cells #[] 217)).heap.size:=Nat.lt_of_lt_of_le hw1 b2.size
   clear b2 hw2 g1 s1 hT1 hB3 hrg1 K2 his
   have hon:=outward_v HL.out (w2.alloc (.cells #[] 217)) g2 s2 hw2' hxin ha
   go_wp2_with fail
   refine hon.mono ?_
   rintro e w3 ⟨A,cap,rfl,hrow,hb3⟩
   have hT3:=hT2.below hb3
   have hB5:=hB4.below hb3
   have hrg3:=hrg2.below hb3
   have K4:=K3.below hb3
   clear hT2 hB4 hrg2 K3 hb3 hon g2 s2 hw2' hlk
   go_wp2
   go_loopg [41] l.length (fun gj iv wr=>∃ (j:Nat) (T' B':Int->Bool),gj=l.length - j/\iv=.int .i64 j/\j<=l.length/\SetAt wr w.heap.size T'/\SetAt wr bb B'/\Hid (∀ z,T' z=true↔T z=true\/∃ i,i<j/\z=((l.getD i 0:Nat):Int)) /\
     Hid (∀ z,B' z=true↔B1 z=true\/((bx=true\/(cx=true/\x≠a))/\∃ i,i<j/\z=((l.getD i 0:Nat):Int)))/\RngS wr fb (w.heap.size+1) S (fun z=>left z&&!decide (z=x)) cnt1/\OldRow wr A l.length (fun i=>(l.getD i 0:Nat))/\Keep (fun k=>k=bb) w wr)
   case atStart=>exact ⟨0,T,B1,rfl,rfl,Nat.zero_le _,hT3,hB5,fun z=>⟨Or.inl,fun h=>h.resolve_right (fun ⟨i,hi,_⟩=>by omega)⟩,fun z=>⟨Or.inl,fun h=>h.resolve_right (fun ⟨_,i,hi,_⟩=>by omega)⟩,hrg3,hrow,K4⟩
   case round =>
    obtain ⟨j,T',B',hgj,rfl,hj,hT',hBB,hin',hbn',hrg',hrow',hK'⟩:=hrel
    by_cases hlj:j<l.length
    ·obtain ⟨ba,oa,rfl,hba,hcell⟩:=hrow' j hlj
     obtain ⟨z0,z1⟩:=HZ.out j hlj
     have hcell':wr.cell? ⟨ba,oa+j,none⟩=some (.int .i64 ((l.getD j 0:Nat):Int)):=hcell
     clear hcell
     have HJ:Hid (∀ z:Int,(∃ i,i<j+1/\z=((l.getD i 0:Nat):Int))↔(∃ i,i<j/\z=((l.getD i 0:Nat):Int))\/z=((l.getD j 0:Nat):Int)):=fun z=>by
      constructor
      ·rintro ⟨i,hi,h⟩
       by_cases e:i=j
       ·subst e;exact Or.inr h
       ·exact Or.inl ⟨i,by omega,h⟩
      ·rintro (⟨i,hi,h⟩|h)
       ·exact ⟨i,by omega,h⟩
       ·exact ⟨j,by omega,h⟩
     generalize ((l.getD j 0:Nat):Int)=zz at *
     have i1:(0:Int)<=(j:Int):=by omega
     have i2:(j:Int)<(l.length:Int):=by omega
     have hneb:ba≠w.heap.size:=fun e=>by
      have h:=hT'.mp.cell (oa+j)
      rw [<- e,hcell'] at h
      cases h
     have hneb2:ba≠bb:=fun e=>by
      have h:=hBB.mp.cell (oa+j)
      rw [<- e,hcell'] at h
      cases h
     have hRW:∀ w' row,wr.grownBy w' (some row)->ba≠row->OldRow w' (some ⟨ba,oa,none⟩) l.length (fun i=>(l.getD i 0:Nat)):=fun w' row hg hn i hi=>by
      obtain ⟨b',o',e,h1,h2⟩:=hrow' i hi
      cases e
      exact ⟨ba,oa,rfl,Nat.lt_of_lt_of_le h1 hg.size,(World.cell?_of_block (w:=wr) (hg.block ba h1 (fun e=>hn (Option.some.inj e)))).trans h2⟩
     have hnbb:w.heap.size≠bb:=by omega
     have tok:True:=trivial
     cases bx with
     |true =>
      go_wp2_with (first|(at_mapUpdate;have _t:=tok;refine wpList_put rfl _ _ _ 164 rfl 3 217 law3 Tryz.underS w.heap.size _ _ rfl hT'.mp hT'.room zz (.agg #[]) rfl rfl (wf_small z0 z1) ?_;intro w4 hm4 ht4;have hT4:=hT'.put z0 z1 hm4;have hg4:=ht4.grown;have hB4:=hBB.grown hg4 (fun e=>hnbb (Option.some.inj e).symm);clear tok hm4 ht4;go_frame)|(at_mapUpdate;refine wpList_put rfl _ _ _ 164 rfl 3 217 law3 Tryz.underS bb _ _ rfl hB4.mp hB4.room zz (.agg #[]) rfl rfl (wf_small z0 z1) ?_;intro w5 hm5 ht5;go_frame)|go_in)
      have hB5:=hB4.put z0 z1 hm5
      have hg5:=ht5.grown
      have hT5:=hT4.grown hg5 (fun e=>hnbb (Option.some.inj e))
      have hrg4:=(hrg'.grown hg4 (fun e=>by have:=Option.some.inj e;omega) (fun e=>by have:=Option.some.inj e;omega)).grown hg5 (fun e=>hfb (Option.some.inj e)) (fun e=>by have:=Option.some.inj e;omega)
      have hK4:Keep (fun k=>k=bb) w w5:=(hK'.grown hg4 (fun k e h=>by cases e;omega)).grown hg5 (fun k e h=>by cases e;rfl)
      have hrow4:=hRW w4 _ hg4 hneb
      have hrow5:OldRow w5 (some ⟨ba,oa,none⟩) l.length (fun i=>(l.getD i 0:Nat)):=fun i hi=>by
       obtain ⟨b',o',e,h1,h2⟩:=hrow4 i hi
       cases e
       exact ⟨ba,oa,rfl,Nat.lt_of_lt_of_le h1 hg5.size,(World.cell?_of_block (w:=w4) (hg5.block ba h1 (fun e=>hneb2 (Option.some.inj e)))).trans h2⟩
      go_roundg (l.length - (j+1))
      case measure=>omega
      case rel =>
       refine ⟨j+1,_,_,rfl,by go_num,by omega,hT5,hB5,fun z=>?_,fun z=>?_,hrg4,hrow5,hK4⟩
       ·rw [insS_iff,hin'.out z,HJ.out z]
        exact ⟨fun h=>h.elim (fun e=>Or.inr (Or.inr e)) (fun h=>h.imp id Or.inl),fun h=>h.elim (fun e=>Or.inr (Or.inl e)) (fun h=>h.elim (fun e=>Or.inr (Or.inr e)) Or.inl)⟩
       ·rw [insS_iff,hbn'.out z,HJ.out z]
        constructor
        ·rintro (h|h|⟨h1,h2⟩)
         ·exact Or.inr ⟨by simp,Or.inr h⟩
         ·exact Or.inl h
         ·exact Or.inr ⟨h1,Or.inl h2⟩
        ·rintro (h|⟨h1,h|h⟩)
         ·exact Or.inr (Or.inl h)
         ·exact Or.inr (Or.inr ⟨h1,h⟩)
         ·exact Or.inl h
     |false =>
      cases cx with
      |false =>
       go_wp2_with (first|(at_mapUpdate;have _t:=tok;refine wpList_put rfl _ _ _ 164 rfl 3 217 law3 Tryz.underS w.heap.size _ _ rfl hT'.mp hT'.room zz (.agg #[]) rfl rfl (wf_small z0 z1) ?_;intro w4 hm4 ht4;have hT4:=hT'.put z0 z1 hm4;have hg4:=ht4.grown;have hB4:=hBB.grown hg4 (fun e=>hnbb (Option.some.inj e).symm);clear tok hm4 ht4;go_frame)|go_in)
       have hrg4:=hrg'.grown hg4 (fun e=>by have:=Option.some.inj e;omega) (fun e=>by have:=Option.some.inj e;omega)
       have hK4:Keep (fun k=>k=bb) w w4:=hK'.grown hg4 (fun k e h=>by cases e;omega)
       have hrow4:=hRW w4 _ hg4 hneb
       go_roundg (l.length - (j+1))
       case measure=>omega
       case rel =>
        refine ⟨j+1,_,_,rfl,by go_num,by omega,hT4,hB4,fun z=>?_,fun z=>?_,hrg4,hrow4,hK4⟩
        ·rw [insS_iff,hin'.out z,HJ.out z]
         exact ⟨fun h=>h.elim (fun e=>Or.inr (Or.inr e)) (fun h=>h.imp id Or.inl),fun h=>h.elim (fun e=>Or.inr (Or.inl e)) (fun h=>h.elim (fun e=>Or.inr (Or.inr e)) Or.inl)⟩
        ·rw [hbn'.out z]
         exact or_congr Iff.rfl ⟨fun h=>absurd h.1 (by simp),fun h=>absurd h.1 (by simp)⟩
      |true =>
       by_cases hxa:x=a
       ·subst hxa
        go_wp2_with (first|(at_mapUpdate;have _t:=tok;refine wpList_put rfl _ _ _ 164 rfl 3 217 law3 Tryz.underS w.heap.size _ _ rfl hT'.mp hT'.room zz (.agg #[]) rfl rfl (wf_small z0 z1) ?_;intro w4 hm4 ht4;have hT4:=hT'.put z0 z1 hm4;have hg4:=ht4.grown;have hB4:=hBB.grown hg4 (fun e=>hnbb (Option.some.inj e).symm);clear tok hm4 ht4;go_frame)|go_in)
        have hrg4:=hrg'.grown hg4 (fun e=>by have:=Option.some.inj e;omega) (fun e=>by have:=Option.some.inj e;omega)
        have hK4:Keep (fun k=>k=bb) w w4:=hK'.grown hg4 (fun k e h=>by cases e;omega)
        have hrow4:=hRW w4 _ hg4 hneb
        go_roundg (l.length - (j+1))
        case measure=>omega
        case rel =>
         refine ⟨j+1,_,_,rfl,by go_num,by omega,hT4,hB4,fun z=>?_,fun z=>?_,hrg4,hrow4,hK4⟩
         ·rw [insS_iff,hin'.out z,HJ.out z]
          exact ⟨fun h=>h.elim (fun e=>Or.inr (Or.inr e)) (fun h=>h.imp id Or.inl),fun h=>h.elim (fun e=>Or.inr (Or.inl e)) (fun h=>h.elim (fun e=>Or.inr (Or.inr e)) Or.inl)⟩
         ·rw [hbn'.out z]
          exact or_congr Iff.rfl ⟨fun h=>absurd h.1 (by simp),fun h=>absurd h.1 (by simp)⟩
       ·have HXA:Hid (x≠a):=hxa
        go_wp2_with (first|(at_mapUpdate;have _t:=tok;refine wpList_put rfl _ _ _ 164 rfl 3 217 law3 Tryz.underS w.heap.size _ _ rfl hT'.mp hT'.room zz (.agg #[]) rfl rfl (wf_small z0 z1) ?_;intro w4 hm4 ht4;have hT4:=hT'.put z0 z1 hm4;have hg4:=ht4.grown;have hB4:=hBB.grown hg4 (fun e=>hnbb (Option.some.inj e).symm);clear tok hm4 ht4;go_frame)|(at_mapUpdate;refine wpList_put rfl _ _ _ 164 rfl 3 217 law3 Tryz.underS bb _ _ rfl hB4.mp hB4.room zz (.agg #[]) rfl rfl (wf_small z0 z1) ?_;intro w5 hm5 ht5;go_frame)|go_in)
        have hB5:=hB4.put z0 z1 hm5
        have hg5:=ht5.grown
        have hT5:=hT4.grown hg5 (fun e=>hnbb (Option.some.inj e))
        have hrg4:=(hrg'.grown hg4 (fun e=>by have:=Option.some.inj e;omega) (fun e=>by have:=Option.some.inj e;omega)).grown hg5 (fun e=>hfb (Option.some.inj e)) (fun e=>by have:=Option.some.inj e;omega)
        have hK4:Keep (fun k=>k=bb) w w5:=(hK'.grown hg4 (fun k e h=>by cases e;omega)).grown hg5 (fun k e h=>by cases e;rfl)
        have hrow4:=hRW w4 _ hg4 hneb
        have hrow5:OldRow w5 (some ⟨ba,oa,none⟩) l.length (fun i=>(l.getD i 0:Nat)):=fun i hi=>by
         obtain ⟨b',o',e,h1,h2⟩:=hrow4 i hi
         cases e
         exact ⟨ba,oa,rfl,Nat.lt_of_lt_of_le h1 hg5.size,(World.cell?_of_block (w:=w4) (hg5.block ba h1 (fun e=>hneb2 (Option.some.inj e)))).trans h2⟩
        go_roundg (l.length - (j+1))
        case measure=>omega
        case rel =>
         refine ⟨j+1,_,_,rfl,by go_num,by omega,hT5,hB5,fun z=>?_,fun z=>?_,hrg4,hrow5,hK4⟩
         ·rw [insS_iff,hin'.out z,HJ.out z]
          exact ⟨fun h=>h.elim (fun e=>Or.inr (Or.inr e)) (fun h=>h.imp id Or.inl),fun h=>h.elim (fun e=>Or.inr (Or.inl e)) (fun h=>h.elim (fun e=>Or.inr (Or.inr e)) Or.inl)⟩
         ·rw [insS_iff,hbn'.out z,HJ.out z]
          constructor
          ·rintro (h|h|⟨h1,h2⟩)
           ·exact Or.inr ⟨(by have:=HXA.out;simp_all),Or.inr h⟩
           ·exact Or.inl h
           ·exact Or.inr ⟨h1,Or.inl h2⟩
          ·rintro (h|⟨h1,h|h⟩)
           ·exact Or.inr (Or.inl h)
           ·exact Or.inr (Or.inr ⟨h1,h⟩)
           ·exact Or.inl h
    ·have e:j=l.length:=by omega
     subst e
     go_wp2
     go_roundg cnt1
     case measure=>omega
     case rel =>
      refine ⟨_,cnt1,T',B',rfl,hrg',hT',hBB,fun z=>?_,fun z=>?_,hK'⟩
      ·rw [hin'.out z,hall.out z,outw_row gw1 hxin HL.out]
       constructor
       ·rintro (⟨c,k,⟨h1,h2⟩,h3⟩|⟨k,h3⟩)
        ·exact ⟨c,k,⟨h1,by rw [h2];rfl⟩,h3⟩
        ·exact ⟨x,k,⟨hSx,by simp⟩,h3⟩
       ·rintro ⟨c,k,⟨h1,h2⟩,h3⟩
        by_cases e:c=x
        ·subst e;exact Or.inr ⟨k,h3⟩
        ·rw [decide_eq_false e] at h2
         exact Or.inl ⟨c,k,⟨h1,by simpa using h2⟩,h3⟩
      ·rw [hbn'.out z,hbhd.out z,outw_row gw1 hxin HL.out,<- HBX.out,<- HCX.out]
       constructor
       ·rintro ((h|⟨c,k,⟨h1,h2⟩,h3⟩)|⟨h4,k,h3⟩)
        ·exact Or.inl h
        ·exact Or.inr ⟨c,k,⟨h1,by rw [h2];rfl⟩,h3⟩
        ·exact Or.inr ⟨x,k,⟨hSx,by simp⟩,h3,h4⟩
       ·rintro (h|⟨c,k,⟨h1,h2⟩,h3,h4⟩)
        ·exact Or.inl (Or.inl h)
        ·by_cases e:c=x
         ·subst e;exact Or.inr ⟨h4,k,h3⟩
         ·rw [decide_eq_false e] at h2
          exact Or.inl (Or.inr ⟨c,k,⟨h1,by simpa using h2⟩,h3,h4⟩)
end
section
theorem crs_mem {W H:Int}{bl:Nat->Bool}{k c:Nat}:c ∈ crs W H bl k↔c<k/\cornB W H bl (c:Nat)=true:=by
 unfold crs
 rw [List.mem_filter,List.mem_range]
theorem cornB_iff {W H:Int}{bl:Nat->Bool}{c:Int}:cornB W H bl c=true↔CornC W H bl c:=by
 unfold cornB CornC Corn
 rw [Bool.and_eq_true]
 constructor
 ·rintro ⟨h1,h2⟩
  refine ⟨h1,?_⟩
  unfold turnB at h2
  obtain ⟨j,hj,h3⟩:=List.any_eq_true.1 h2
  have hj:=List.mem_range.1 hj
  unfold crB at h3
  rw [Bool.and_eq_true,Bool.and_eq_true] at h3
  exact ⟨2*j+1,by omega,by omega,by simpa using h3.2,h3.1.1,h3.1.2⟩
 ·rintro ⟨h1,k,k1,k2,k3,k4,k5⟩
  refine ⟨h1,?_⟩
  obtain ⟨j,rfl⟩:∃ j,k=2*j+1:=⟨k / 2,by omega⟩
  refine turnB_true (j:=j) (by omega) ?_
  unfold crB
  rw [k3,k4,k5]
  rfl
theorem cornC_in {W H:Int}{bl:Nat->Bool}{c:Int}(w1:1<=W)(h:CornC W H bl c):inB W H c=true:=by
 obtain ⟨a1,a2,a3,a4⟩:=open_in h.1
 have e:=cell_eq W c
 have h1:=Int.mul_nonneg a3 (show 0<=W by omega)
 have h2:c / W*W+W<=H*W:=by
  have:=Int.mul_le_mul_of_nonneg_right (show c / W+1<=H by omega) (show 0<=W by omega)
  rw [Int.add_mul] at this
  omega
 have h3:H*W=W*H:=Int.mul_comm H W
 exact decide_eq_true ⟨by omega,by omega⟩
end
section
def Dir (W H:Int) (bl:Nat->Bool) (a b:Int):Prop:=(∃ z,On W H bl a b z)/\∀ k,On W H bl a b k->CornC W H bl k->k=a\/k=b
section
variable {W H : Int} {bl : Nat → Bool} {a b : Int}
theorem wk_in' {s d:Int}(w1:1<=W)(ha:inB W H a=true)(h:Wk (Edge W H bl) a b s d):inB W H b=true:=by
 rcases h.inv with ⟨e,_⟩|⟨_,_,_,_,_,e,_⟩
 ·rw [e];exact ha
 ·exact e.in' w1
theorem On.trans (w1:1<=W)(hS:octS W a b<=1000)(hD:octD W a b<=1000){k z:Int}(h:On W H bl a b k)(g:On W H bl a k z):On W H bl a b z:=by
 obtain ⟨h1,h2,h3,h4⟩:=h.walks w1 hS hD
 have n1:=octS_nonneg W b k
 have n2:=octD_nonneg W b k
 obtain ⟨g1,g2,g3,g4⟩:=g.walks w1 (by omega) (by omega)
 exact On.of_walks w1 hS hD g1 (Wk.join h2 g2) (by omega) (by omega)
theorem dst_zero {x y:Int}(h:dst x y=0):x=y:=by
 unfold dst at h
 split at h <;> omega
theorem les_zero {x y:Int}(h:les x y=0)(e:x=y):x=0:=by
 unfold les at h
 split at h <;> omega
theorem oct_zero (hS:octS W a b=0)(hD:octD W a b=0):a=b:=by
 have h1:=dst_zero hS
 have h2:=les_zero hD h1
 have e1:a % W=b % W:=dst_zero h2
 have e2:a / W=b / W:=dst_zero (h1.symm.trans h2)
 rw [<- Int.emod_add_mul_ediv a W,<- Int.emod_add_mul_ediv b W,e1,e2]
theorem Dir.sym (h:Dir W H bl a b):Dir W H bl b a :=
 ⟨h.1.elim fun z hz=>⟨z,hz.sym⟩,fun k hk hc=>(h.2 k hk.sym hc).symm⟩
theorem Dir.self (w1:1<=W):Dir W H bl a a:=by
 have z1:octS W a a<=1000:=by rw [octS_self];omega
 have z2:octD W a a<=1000:=by rw [octD_self];omega
 refine ⟨⟨a,Tw.nil,Tw.nil⟩,fun k hk _=>?_⟩
 obtain ⟨g1,g2,g3,g4⟩:=hk.walks w1 z1 z2
 rw [octS_self] at g3
 rw [octD_self] at g4
 have m1:=octS_nonneg W a k
 have m2:=octD_nonneg W a k
 exact Or.inl (oct_zero (W:=W) (by omega) (by omega)).symm
end
section
variable {W H c0 : Int} {bl bl' : Nat → Bool}
end
end
section
def octN (W a b:Int):Int:=octS W a b+octD W a b
theorem octN_nonneg (W a b:Int):0<=octN W a b:=by
 have:=octS_nonneg W a b
 have:=octD_nonneg W a b
 unfold octN;omega
theorem octN_self (W a:Int):octN W a a=0:=by unfold octN;rw [octS_self,octD_self];rfl
theorem opp_opp {k:Nat}(h:k<8):opp (opp k)=k:=by unfold opp;omega
section
variable {W H : Int} {bl : Nat → Bool} {a : Int}
theorem Edge.opp {c r:Int}{k:Nat}(w1:1<=W)(e:Edge W H bl c k r):Edge W H bl r (opp k) c:=by
 obtain ⟨p1,p2⟩:=e.place w1
 have hin:=e.in' w1
 obtain ⟨h1,h2,h3,h4⟩:=e
 refine ⟨opp_lt k,hin,?_,?_⟩
 ·rw [p1,p2];exact may_back h1 h3
 ·rw [h4];exact (back_home h1).symm
def Nr (W H:Int) (bl:Nat->Bool) (a b:Int):Prop:=Wk (Edge W H bl) a b (octS W a b) (octD W a b)
theorem Nr.self:Nr W H bl a a:=by unfold Nr;rw [octS_self,octD_self];exact Wk.nil
theorem Nr.of_on (w1:1<=W){b z:Int}(hS:octS W a b<=1000)(hD:octD W a b<=1000)(h:On W H bl a b z):Nr W H bl a b:=(h.ends w1 hS hD).2.2
theorem Nr.on (w1:1<=W){b:Int}(hS:octS W a b<=1000)(hD:octD W a b<=1000)(h:Nr W H bl a b):On W H bl a b b:=On.of_near w1 hS hD h
theorem Og.far {c r:Int}{k:Nat}(w1:1<=W)(h:Og W H bl a c k r):octS W a c+stS k=octS W a r/\octD W a c+stD k=octD W a r:=by
 obtain ⟨g1,g2⟩:=(good_iff w1 (h.1.opp w1)).1 h.2
 obtain ⟨s1,s2⟩:=st_opp k
 rw [s1,octS_comm W c a,octS_comm W r a] at g1
 rw [s2,octD_comm W c a,octD_comm W r a] at g2
 exact ⟨g1,g2⟩
theorem Og.next {c r:Int}{k:Nat}(w1:1<=W)(h:Og W H bl a c k r):octN W a c+1=octN W a r:=by
 obtain ⟨g1,g2⟩:=h.far w1
 have:=st_bd k
 unfold octN
 omega
theorem Nr.out {c r:Int}{k:Nat}(w1:1<=W)(h:Nr W H bl a c)(o:Og W H bl a c k r):Nr W H bl a r:=by
 obtain ⟨g1,g2⟩:=o.far w1
 have:=h.step o.1
 rw [g1,g2] at this
 exact this
theorem Og.on {c r:Int}{k:Nat}(w1:1<=W)(hS:octS W a r<=1000)(hD:octD W a r<=1000)(h:Nr W H bl a c)(o:Og W H bl a c k r):On W H bl a r c:=by
 obtain ⟨g1,g2⟩:=o.far w1
 obtain ⟨s1,s2⟩:=st_opp k
 have hb:=wk_edge (o.1.opp w1)
 rw [s1,s2] at hb
 exact On.of_walks w1 hS hD h hb g1 g2
theorem Og.prev {r q:Int}(w1:1<=W)(hS:octS W a r<=1000)(hD:octD W a r<=1000)(h:On W H bl a r q)(hne:q≠r) :
  ∃ c k,Nr W H bl a c/\Og W H bl a c k r/\On W H bl a c q:=by
 have hS':octS W r a<=1000:=by rw [octS_comm];exact hS
 have hD':octD W r a<=1000:=by rw [octD_comm];exact hD
 obtain ⟨h1,h2,h3,h4⟩:=h.walks w1 hS hD
 have n1:=octS_nonneg W a q
 have n2:=octD_nonneg W a q
 have qS:octS W r q<=1000:=by omega
 have qD:octD W r q<=1000:=by omega
 -- the first step back from r towards q
 have hon:On W H bl r q r:=(On.of_near w1 qS qD h2).ends w1 qS qD |>.1
 obtain ⟨j,c,ej,gj,hc⟩:=On.next w1 qS qD hon (Ne.symm hne)
 obtain ⟨g1,g2⟩:=(good_iff w1 ej).1 gj
 obtain ⟨c1,c2,c3,c4⟩:=hc.walks w1 qS qD
 rw [octS_comm W c q,octS_comm W r q] at g1
 rw [octD_comm W c q,octD_comm W r q] at g2
 rw [octS_comm W r q] at c3
 rw [octD_comm W r q] at c4
 have hra:On W H bl r a c:=On.trans w1 hS' hD' h.sym hc
 obtain ⟨d1,d2,d3,d4⟩:=hra.walks w1 hS' hD'
 have hj:=ej.1
 refine ⟨c,opp j,d2,⟨ej.opp w1,?_⟩,?_⟩
 ·rw [opp_opp hj]
  refine (good_iff w1 ej).2 ⟨?_,?_⟩
  ·rw [octS_comm W c a];omega
  ·rw [octD_comm W c a];omega
 ·rw [octS_comm W r q] at h3
  rw [octD_comm W r q] at h4
  rw [octS_comm W r a] at d3
  rw [octD_comm W r a] at d4
  have m1:=octS_nonneg W r c
  have m2:=octD_nonneg W r c
  refine On.of_walks w1 (by omega) (by omega) h1 (c2.back (Edge.back w1)) ?_ ?_
  ·omega
  ·omega
theorem Nr.prev {r:Int}(w1:1<=W)(hS:octS W a r<=1000)(hD:octD W a r<=1000)(h:Nr W H bl a r)(hne:r≠a):∃ c k,Nr W H bl a c/\Og W H bl a c k r:=by
 obtain ⟨c,k,h1,h2,_⟩:=Og.prev w1 hS hD ((h.on w1 hS hD).ends w1 hS hD).1 (Ne.symm hne)
 exact ⟨c,k,h1,h2⟩
def Bhd (W H:Int) (bl:Nat->Bool) (a r:Int):Prop:=∃ q,On W H bl a r q/\CornC W H bl q/\q≠a/\q≠r
theorem Bhd.iff {r:Int}(w1:1<=W)(hS:octS W a r<=1000)(hD:octD W a r<=1000) :
  Bhd W H bl a r↔∃ c k,Nr W H bl a c/\Og W H bl a c k r/\(Bhd W H bl a c\/(CornC W H bl c/\c≠a)):=by
 constructor
 ·rintro ⟨q,hq,hc,h1,h2⟩
  obtain ⟨c,k,hn,ho,hon⟩:=Og.prev w1 hS hD hq h2
  refine ⟨c,k,hn,ho,?_⟩
  by_cases e:q=c
  ·rw [e] at hc h1
   exact Or.inr ⟨hc,h1⟩
  ·exact Or.inl ⟨q,hon,hc,h1,e⟩
 ·rintro ⟨c,k,hn,ho,hb⟩
  have hon:=ho.on w1 hS hD hn
  have hlt:=ho.next w1
  rcases hb with ⟨q,hq,hc,h1,h2⟩|⟨hc,h1⟩
  ·refine ⟨q,On.trans w1 hS hD hon hq,hc,h1,fun e=>?_⟩
   obtain ⟨g1,g2⟩:=ho.far w1
   have:=st_bd k
   obtain ⟨_,_,q3,q4⟩:=hq.walks w1 (by omega) (by omega)
   have n1:=octS_nonneg W c q
   have n2:=octD_nonneg W c q
   rw [e] at q3 q4 n1 n2
   unfold octN at hlt
   omega
  ·exact ⟨c,hon,hc,h1,fun e=>by rw [e] at hlt;omega⟩
theorem Bhd.not_self (w1:1<=W):¬ Bhd W H bl a a:=by
 rintro ⟨q,hq,hc,h1,_⟩
 rcases (Dir.self (H:=H) (bl:=bl) w1).2 q hq hc with e|e <;> exact h1 e
theorem Dir.iff {r:Int}(w1:1<=W)(hS:octS W a r<=1000)(hD:octD W a r<=1000):Dir W H bl a r↔Nr W H bl a r/\¬ Bhd W H bl a r:=by
 constructor
 ·rintro ⟨⟨z,hz⟩,h⟩
  refine ⟨Nr.of_on w1 hS hD hz,?_⟩
  rintro ⟨q,hq,hc,h1,h2⟩
  rcases h q hq hc with e|e
  ·exact h1 e
  ·exact h2 e
 ·rintro ⟨hn,hb⟩
  refine ⟨⟨r,hn.on w1 hS hD⟩,fun q hq hc=>?_⟩
  by_cases e1:q=a
  ·exact Or.inl e1
  ·by_cases e2:q=r
   ·exact Or.inr e2
   ·exact absurd ⟨q,hq,hc,e1,e2⟩ hb
theorem Nr.in (w1:1<=W)(ha:inB W H a=true){r:Int}(h:Nr W H bl a r):inB W H r=true:=wk_in' w1 ha h
theorem octN_zero {r:Int}(h:octN W a r=0):r=a:=by
 have n1:=octS_nonneg W a r
 have n2:=octD_nonneg W a r
 unfold octN at h
 exact (oct_zero (W:=W) (a:=a) (b:=r) (by omega) (by omega)).symm
theorem Nr.mid (w1:1<=W)(hbd:∀ r,Nr W H bl a r->octS W a r<=1000/\octD W a r<=1000):∀ (n:Nat) (r:Int),Nr W H bl a r->octN W a r=n->∀ i:Nat,i<=n->∃ z,Nr W H bl a z/\octN W a z=i:=by
 intro n
 induction n with
 |zero=>intro r hr hn i hi;exact ⟨r,hr,by omega⟩
 |succ n ih =>
  intro r hr hn i hi
  by_cases e:i=n+1
  ·exact ⟨r,hr,by omega⟩
  ·have hne:r≠a:=fun e=>by rw [e,octN_self] at hn;omega
   obtain ⟨h1,h2⟩:=hbd r hr
   obtain ⟨c,k,hc,ho⟩:=hr.prev w1 h1 h2 hne
   have:=ho.next w1
   exact ih c hc (by omega) i (by omega)
theorem Tw.in {t z:Int}(w1:1<=W)(ha:inB W H a=true)(h:Tw W H bl a t z):inB W H z=true :=
 h (fun z=>inB W H z=true) ha (fun _ _ _ _ e _=>e.in' w1)
theorem On.in_b {b z:Int}(w1:1<=W)(ha:inB W H a=true)(h:On W H bl a b z):inB W H b=true:=by
 have q:z=b\/inB W H b=true:=h.2 (fun z=>z=b\/inB W H b=true) (Or.inl rfl) (fun p k r hp e _=>by
  rcases hp with rfl|hp
  ·exact Or.inr e.2.1
  ·exact Or.inr hp)
 rcases q with e|e
 ·rw [<- e];exact h.1.in w1 ha
 ·exact e
theorem Dir.in {b:Int}(w1:1<=W)(ha:inB W H a=true)(h:Dir W H bl a b):inB W H b=true:=by
 obtain ⟨z,hz⟩:=h.1
 exact hz.in_b w1 ha
end
end
section
open Go.RowKit
theorem octN_step {W H:Int}{bl:Nat->Bool}(w1:1<=W){p r t:Int}{k:Nat}(e:Edge W H bl p k r)(g:Good (p % W) (p / W) (t % W) (t / W) k):octN W r t+1=octN W p t:=by
 obtain ⟨h1,h2⟩:=(good_iff w1 e).1 g
 have:=st_bd k
 unfold octN
 omega
theorem Tw.inv {W H:Int}{bl:Nat->Bool}{a t z:Int}(h:Tw W H bl a t z):z=a\/∃ p k,Tw W H bl a t p/\Edge W H bl p k z/\Good (p % W) (p / W) (t % W) (t / W) k:=by
 have:=h (fun z=>Tw W H bl a t z/\(z=a\/∃ p k,Tw W H bl a t p/\Edge W H bl p k z/\Good (p % W) (p / W) (t % W) (t / W) k)) ⟨Tw.nil,Or.inl rfl⟩ (fun p k r hp e g=>⟨hp.1.step e g,Or.inr ⟨p,k,hp.1,e,g⟩⟩)
 exact this.2
theorem Tw.top {W H:Int}{bl:Nat->Bool}{a t z:Int}(w1:1<=W)(h:Tw W H bl a t z):octN W z t<=octN W a t :=
 h (fun z=>octN W z t<=octN W a t) (Int.le_refl _) (fun p k r hp e g=>by have:=octN_step w1 e g;omega)
theorem Tw.mid {W H:Int}{bl:Nat->Bool}{a t z:Int}(w1:1<=W)(h:Tw W H bl a t z):∀ j,octN W z t<=j->j<=octN W a t->∃ z',Tw W H bl a t z'/\octN W z' t=j:=by
 have:=h (fun z=>Tw W H bl a t z/\∀ j,octN W z t<=j->j<=octN W a t->∃ z',Tw W H bl a t z'/\octN W z' t=j) ⟨Tw.nil,fun j h1 h2=>⟨a,Tw.nil,by omega⟩⟩ (fun p k r hp e g=>⟨hp.1.step e g,fun j h1 h2=>by
  have:=octN_step w1 e g
  by_cases q:octN W r t=j
  ·exact ⟨r,hp.1.step e g,q⟩
  ·exact hp.2 j (by omega) h2⟩)
 exact this.2
set_option maxHeartbeats 2000000 in
set_option maxRecDepth 1000000 in
theorem rspread_any {b:Nat}{W H V a t:Int}{bl:Nat->Bool}(w:World)(g:GridAt w b W H V bl)(s:StepsAt w)(d:DiagAt w)(hb:b<w.heap.size)(ha:inB W H a=true)(ht:inB W H t=true) :
  Calls Tryz.prog 124 #[.pointer (some ⟨b,0,none⟩),.int .i64 a,.int .i64 t] w fun e w'=>∃ nb T,e=.returned (.map (some nb))/\SetAt w' nb T/\(∀ z,T z=true↔Tw W H bl a t z)/\w.heap.size<=nb/\Below w.heap.size w w':=by
 have gw1:=g.w1
 have hwh:=wh_bd g.w1 g.w2 g.h1 g.h2
 have hia:0<=a/\a<W*H:=of_decide_eq_true ha
 have hwa:=wf_small hia.1 (show a<256 by omega)
 have hmm:=@run_makeMap Tryz.prog
 have hM0:=(SetAt.made w).grown (World.grownBy_alloc (w.alloc (.map #[] 0)) (.map #[] 0) none) (by simp)
 have hM1:=SetAt.made (w.alloc (.map #[] 0))
 have hz0:(w.alloc (.map #[] 0)).heap.size=w.heap.size+1:=by simp
 have B0:Below w.heap.size w ((w.alloc (.map #[] 0)).alloc (.map #[] 0)):=((Below.refl _ _).alloc (Nat.le_refl _) _).alloc (by simp) _
 rw [hz0] at hM1
 go_enter Tryz.func124,Tryz.ntmps124
 go_wp2_with (first|(refine wpList_ins rfl _ _ _ 164 rfl 3 217 law3 Tryz.underS (w.heap.size+1) _ _ (by first|rfl|(rw [hz0];rfl)) hM1.mp hM1.room a (.agg #[]) rfl rfl hwa ?_;intro w1 hm1 ht1;go_frame)|go_in)
 have hF0:=hM1.put hia.1 (show a<256 by omega) hm1
 have hg1:=ht1.grown
 have hA0:=hM0.grown hg1 (fun e=>by have:=Option.some.inj e;omega)
 have B1:Below w.heap.size w w1:=B0.grown hg1 (by simp;omega) (fun k e=>by cases e;omega)
 clear hM0 hM1 hz0 B0 hm1 ht1 hg1 hmm
 have hn0:=octN_nonneg W a t
 go_loopg [8] (octN W a t+1).toNat (fun gk fv wr=>∃ (i fb:Nat) (SF SA:Int->Bool),gk=(octN W a t+1 - i).toNat/\fv=.map (some fb)/\w.heap.size<fb/\SetAt wr fb SF/\SetAt wr w.heap.size SA/\Hid (∀ z,SF z=true↔Tw W H bl a t z/\octN W z t+i=octN W a t)/\Hid (∀ z,SA z=true↔Tw W H bl a t z/\octN W a t<octN W z t+i)/\Below w.heap.size w wr)
 case atStart =>
  refine ⟨0,_,_,_,by simp,rfl,Nat.lt_succ_self _,hF0,hA0,fun z=>?_,fun z=>⟨fun h=>(by cases h),fun ⟨h1,h2⟩=>?_⟩,B1⟩
  ·rw [insS_iff]
   constructor
   ·rintro (rfl|h)
    ·exact ⟨Tw.nil,by simp⟩
    ·cases h
   ·rintro ⟨h1,h2⟩
    rcases h1.inv with e|⟨p,k,hp,e,hg⟩
    ·exact Or.inl e
    ·exfalso
     have h3:=octN_step gw1 e hg
     have h4:=Tw.top gw1 hp
     simp at h2
     omega
  ·exfalso
   have h4:=Tw.top gw1 h1
   simp at h2
   omega
 case round =>
  obtain ⟨i,fb,SF,SA,hgk,rfl,hfb,hF,hA,hFi,hAi,hB⟩:=hrel
  have hlen:=fun ty=>hF.mp.len (t:=164) Tryz.underS ty
  have hne:=hF.ne_nil
  by_cases hpos:0<cntS SF 256
  ·obtain ⟨z,hz⟩:=hne.1 hpos
   have hz':=(hFi.out z).1 hz
   have hzn:=octN_nonneg W z t
   have hcp:(0:Int)<((cntS SF 256:Nat):Int):=by omega
   have hle:(i:Int)<=octN W a t:=by omega
   clear hne hz hz' hzn
   have hmc:=mcopy_any wr hA hF (Nat.ne_of_lt hfb)
   generalize cntS SF 256=cn at *
   go_wp2_with fail
   refine hmc.mono ?_
   rintro e w2 ⟨rfl,⟨T,hT,hTi⟩,hK⟩
   have hF2:SetAt w2 fb SF:=hF.kept (hK.block fb hF.lt (by omega))
   have B2:Below w.heap.size w w2:=hB.trans (hK.to_below hB.size (fun k e=>by omega))
   have hin:∀ i,SF i=true->inB W H i=true:=fun i hi=>((hFi.out i).1 hi).1.in gw1 ha
   have had:=advance_any w2 (g.below B2 hb) (s.below B2 (by omega)) (d.below B2) (Nat.lt_of_lt_of_le hb B2.size) hF2 hin ht
   have z2:=B2.size
   clear hmc hlen hF hA hK
   go_wp2_with fail
   refine had.mono ?_
   rintro e w3 ⟨nb,T2,rfl,hT2,hT2i,hnb,hb3⟩
   have hT3:=hT.below hb3
   have B3:=B2.trans (hb3.mono B2.size)
   have hTl:=hT.lt
   clear had hb3 hT hF2
   go_wp2
   go_roundg (octN W a t+1 - ((i+1:Nat):Int)).toNat
   case measure=>omega
   case rel =>
    refine ⟨i+1,nb,T2,T,rfl,rfl,by omega,hT2,hT3,fun z=>?_,fun z=>?_,B3⟩
    ·rw [hT2i z]
     constructor
     ·rintro ⟨c,k,h1,h2,h3⟩
      obtain ⟨q1,q2⟩:=(hFi.out c).1 h1
      have:=octN_step gw1 h2 h3
      exact ⟨q1.step h2 h3,by omega⟩
     ·rintro ⟨h1,h2⟩
      rcases h1.inv with e|⟨p,k,hp,e,hg⟩
      ·subst e;exfalso;omega
      ·have:=octN_step gw1 e hg
       exact ⟨p,k,(hFi.out p).2 ⟨hp,by omega⟩,e,hg⟩
    ·rw [hTi z,hAi.out z,hFi.out z]
     constructor
     ·rintro (⟨h1,h2⟩|⟨h1,h2⟩)
      ·exact ⟨h1,by omega⟩
      ·exact ⟨h1,by omega⟩
     ·rintro ⟨h1,h2⟩
      by_cases q:octN W z t+i=octN W a t
      ·exact Or.inr ⟨h1,q⟩
      ·exact Or.inl ⟨h1,by omega⟩
  ·have hno:∀ z,SF z=false:=fun z=>by
    cases hz:SF z with
    |false=>rfl
    |true=>exact absurd (hne.2 ⟨z,hz⟩) hpos
   have hc0:cntS SF 256=0:=by omega
   have hfin:∀ z,SA z=true↔Tw W H bl a t z:=fun z=>by
    rw [hAi.out z]
    refine ⟨fun h=>h.1,fun h=>⟨h,?_⟩⟩
    by_cases q:octN W a t<octN W z t+i
    ·exact q
    ·exfalso
     obtain ⟨z',h1,h2⟩:=h.mid gw1 (octN W a t - i) (by omega) (by omega)
     have:=(hFi.out z').2 ⟨h1,by omega⟩
     rw [hno z'] at this
     cases this
   have HF:Hid (∀ z,SA z=true↔Tw W H bl a t z):=hfin
   rw [hc0] at hlen
   clear hfin hno hne hpos hFi hAi
   go_wp2
   go_ret
   exact ⟨_,SA,rfl,hA,HF.out,Nat.le_refl _,hB⟩
end
section
open Go.RowKit
set_option maxHeartbeats 2000000 in
set_option maxRecDepth 1000000 in
theorem rbtw_any {b:Nat}{W H V a t:Int}{bl:Nat->Bool}(w:World)(g:GridAt w b W H V bl)(s:StepsAt w)(d:DiagAt w)(hb:b<w.heap.size)(ha:inB W H a=true)(ht:inB W H t=true) :
  Calls Tryz.prog 82 #[.pointer (some ⟨b,0,none⟩),.int .i64 a,.int .i64 t] w fun e w'=>∃ nb T,e=.returned (.map (some nb))/\SetAt w' nb T/\(∀ z,T z=true↔On W H bl a t z)/\w.heap.size<=nb/\Below w.heap.size w w':=by
 have hmm:=@run_makeMap Tryz.prog
 have hM0:=SetAt.made w
 have hz0:(w.alloc (.map #[] 0)).heap.size=w.heap.size+1:=by simp
 have B0:Below w.heap.size w (w.alloc (.map #[] 0)):=(Below.refl _ _).alloc (Nat.le_refl _) _
 have hsp:=rspread_any (w.alloc (.map #[] 0)) (g.below B0 hb) (s.below B0 (by omega)) (d.below B0) (by omega) ht ha
 go_enter Tryz.func82,Tryz.ntmps82
 go_wp2_with fail
 refine hsp.mono ?_
 rintro e w1 ⟨kb,SB,rfl,hB,hBi,hkb,hb1⟩
 have hM1:=hM0.below hb1
 have B1:Below w.heap.size w w1:=B0.trans (hb1.mono B0.size)
 have hb':b<w1.heap.size:=Nat.lt_of_lt_of_le hb B1.size
 have hsp2:=rspread_any w1 (g.below B1 hb) (s.below B1 (by omega)) (d.below B1) hb' ha ht
 rw [hz0] at hkb
 have HBi:Hid (∀ z,SB z=true↔Tw W H bl t a z):=hBi
 have hk1:=hB.lt
 clear hsp hM0 hz0 B0 hb1 hmm hBi
 go_wp2_with fail
 refine hsp2.mono ?_
 rintro e w2 ⟨fb,SF,rfl,hF,hFi,hfb,hb2⟩
 have hM2:=hM1.below hb2
 have hB2:=hB.below hb2
 have B2:Below w.heap.size w w2:=B1.trans (hb2.mono B1.size)
 have HFi:Hid (∀ z,SF z=true↔Tw W H bl a t z):=hFi
 have hk2:=Nat.lt_of_lt_of_le hk1 hb2.size
 have hf2:=hF.lt
 have z2:=B1.size
 have hm2:=hM2.lt
 clear hM1 hB hb2 hsp2 hFi
 go_wp2_with (first|(at_range;refine wpList_rangeF rfl _ 164 rfl 3 217 law3 Tryz.underS fb _ _ rfl hF.mp ?_;intro w0 hrg0 hg0 hs0)|go_in)
 have hM3:=hM2.grown hg0 (by simp)
 have hB3:=hB2.grown hg0 (by simp)
 have B3:Below w.heap.size w w0:=B2.grown hg0 B2.size (by simp)
 generalize hr:w2.heap.size=r at *
 clear hM2 hB2 B2 hg0
 go_frame
 go_loopg [] (cntS SF 256) (fun gk wr=>∃ left cnt T,gk=cnt/\RngS wr fb r SF left cnt/\SetAt wr w.heap.size T/\SetAt wr kb SB/\Hid (∀ z,T z=true↔(SF z=true/\left z=false)/\SB z=true)/\Below w.heap.size w wr)
 case atStart =>
  refine ⟨_,_,_,rfl,hrg0,hM3,hB3,fun z=>⟨fun h=>(by cases h),?_⟩,B3⟩
  rintro ⟨⟨h1,h2⟩,_⟩
  rw [setF_isSome,h1] at h2
  cases h2
 case round =>
  obtain ⟨left,cnt,T,hgk,hrg,hT,hK,hall,hBw⟩:=hrel
  have hbz:=hBw.size
  go_wp2_with (first|(at_next;refine wpList_nextF rfl _ rfl 3 law3 fb r _ _ _ _ rfl hrg ?_ ?_)|go_in)
  ·intro hc0 hl0
   go_wp2
   go_ret
   refine ⟨_,T,rfl,hT,fun z=>?_,Nat.le_refl _,hBw⟩
   rw [hall.out z,HFi.out z,HBi.out z]
   exact ⟨fun h=>⟨h.1.1,h.2⟩,fun h=>⟨⟨h.1,hl0 z⟩,h.2⟩⟩
  ·intro x v w4 cnt1 hwx hlx hfx hrg1 hlt hg1 hs1 hen
   obtain ⟨hSx,rfl⟩:=setF_val hfx
   have hx:=hF.bd x hSx
   have hT1:=hT.grown hg1 (fun e=>by have:=Option.some.inj e;omega)
   have hK1:=hK.grown hg1 (fun e=>by have:=Option.some.inj e;omega)
   have B4:Below w.heap.size w w4:=hBw.grown hg1 hbz (fun k e=>by cases e;omega)
   have hT2:=hT1.grown (World.grownBy_alloc w4 (.cells #[] 217) none) (by simp)
   have hK2:=hK1.grown (World.grownBy_alloc w4 (.cells #[] 217) none) (by simp)
   have hrg2:=hrg1.grown (World.grownBy_alloc w4 (.cells #[] 217) none) (by simp) (by simp)
   have B5:=B4.alloc B4.size (.cells #[] 217)
   cases hSB:SB x with
   |false =>
    have hlk:(Instr.lookup 164 (.map (some kb)) (.int .i64 x) true).run Tryz.prog w4=.ok (.tuple #[.agg #[],.bool false]) w4:=hK1.mp.look_none law3 Tryz.underS (zeroS _) hwx (setF_none hSB) true
    clear hT hK hrg hBw hT1 hK1 B4 hg1
    go_wp2
    go_roundg cnt1
    case measure=>omega
    case rel =>
     refine ⟨_,cnt1,T,rfl,hrg2,hT2,hK2,fun z=>?_,B5⟩
     rw [hall.out z]
     by_cases e:z=x
     ·subst e;simp [hSB]
     ·simp [e]
   |true =>
    have hlk:(Instr.lookup 164 (.map (some kb)) (.int .i64 x) true).run Tryz.prog w4=.ok (.tuple #[.agg #[],.bool true]) w4:=hK1.mp.look_some law3 Tryz.underS (zeroS _) hwx (setF_some hSB) true
    clear hT hK hrg hBw hT1 hK1 B4 hg1
    go_wp2_with (first|(at_mapUpdate;refine wpList_put rfl _ _ _ 164 rfl 3 217 law3 Tryz.underS w.heap.size _ _ rfl hT2.mp hT2.room x (.agg #[]) rfl rfl hwx ?_;intro w5 hm5 ht5;go_frame)|go_in)
    have hT3:=hT2.put hx.1 hx.2 hm5
    have hg5:=ht5.grown
    have hrg3:=hrg2.grown hg5 (fun e=>by have:=Option.some.inj e;omega) (fun e=>by have:=Option.some.inj e;omega)
    have hK3:=hK2.grown hg5 (fun e=>by have:=Option.some.inj e;omega)
    have B6:Below w.heap.size w w5:=B5.grown hg5 B5.size (fun k e=>by cases e;exact Nat.le_refl _)
    go_roundg cnt1
    case measure=>omega
    case rel =>
     refine ⟨_,cnt1,_,rfl,hrg3,hT3,hK3,fun z=>?_,B6⟩
     rw [insS_iff,hall.out z]
     by_cases e:z=x
     ·subst e;simp [hSB,hSx]
     ·simp [e]
end
end Go.Proofs.YtmaefimaeelkbaaGreatDoor
