/-
  Texts laid together: GoOut, ReachM, WalkF, NearM, CornM, LocM.
-/
import Derived.Test.YtipbhlofbpnpjaaGreatDoorP5
import Derived.Test.YtipbhlofbpnpjaaGreatDoorP4
namespace Go.Proofs.YtipbhlofbpnpjaaGreatDoor
section
open Go.RowKit
theorem mkmap (w:World):(Instr.makeMap 134 none).run Tryz.prog w=.ok (.map (some w.heap.size)) (w.alloc (.map #[] 0)):=by kernel_rfl
set_option maxHeartbeats 2000000 in
set_option maxRecDepth 1000000 in
theorem goOut_any {b fb bb:Nat}{W H V a:Int}{bl:Nat->Bool}{S B:Int->Bool}(w:World)(g:GridAt w b W H V bl)(s:StepsAt w)(hb:b<w.heap.size)(hS:SetAt w fb S)(hB:SetAt w bb B)(hfb:fb≠bb)(hbb:b≠bb)(h0:1≠bb)(hin:∀ i,S i=true->inB W H i=true)(ha:inB W H a=true)
  (hap:∀ c k z,S c=true->Og W H bl a c k z->S z=false) :
  Calls Tryz.prog 176 #[.pointer (some ⟨b,0,none⟩),.map (some fb),.map (some bb),.int .i64 a] w fun e w'=>∃ nb T B',e=.returned (.map (some nb))/\SetAt w' nb T/\SetAt w' bb B'/\(∀ z,T z=true↔∃ c k,S c=true/\Og W H bl a c k z) /\
   (∀ z,B' z=true↔B z=true\/∃ c k,S c=true/\Og W H bl a c k z/\(B c=true\/(cornB W H bl c=true/\c≠a)))/\w.heap.size<=nb/\Keep (fun k=>k=bb) w w':=by
 have hfl:=hS.lt
 have hbl:=hB.lt
 have gw1:=g.w1
 have hwh:=wh_bd g.w1 g.w2 g.h1 g.h2
 have hM0:=SetAt.made w
 have hS0:=hS.grown (World.grownBy_alloc w (.map #[] 0) none) (by simp)
 have hB0:=hB.grown (World.grownBy_alloc w (.map #[] 0) none) (by simp)
 have hz0:(w.alloc (.map #[] 0)).heap.size=w.heap.size+1:=by simp
 have K0:Keep (fun k=>k=bb) w (w.alloc (.map #[] 0)):=(Keep.refl _ _).alloc _
 have hmk:=mkmap w
 have HAP:Hid (∀ c k z,S c=true->Og W H bl a c k z->S z=false):=hap
 clear hap
 go_enter Tryz.func176,Tryz.ntmps176
 go_wp2_with (first|(at_range;refine wpList_rangeF rfl _ 134 rfl 3 185 law3 Tryz.underS fb _ _ rfl hS0.mp ?_;intro w0 hrg0 hg0 hs0;rw [hz0] at hrg0 hs0 ⊢)|go_in)
 have hM1:=hM0.grown hg0 (by simp)
 have hB1:=hB0.grown hg0 (by simp)
 have K1:Keep (fun k=>k=bb) w w0:=K0.grown hg0 (by simp)
 clear hM0 hS0 hg0 K0 hB0
 go_frame
 go_loopg [] (cntS S 256) (fun gk wr=>∃ left cnt T B1,gk=cnt/\RngS wr fb (w.heap.size+1) S left cnt/\SetAt wr w.heap.size T/\SetAt wr bb B1/\Hid (∀ z,T z=true↔∃ c k,(S c=true/\left c=false)/\Og W H bl a c k z) /\
   Hid (∀ z,B1 z=true↔B z=true\/∃ c k,(S c=true/\left c=false)/\Og W H bl a c k z/\(B c=true\/(cornB W H bl c=true/\c≠a)))/\Keep (fun k=>k=bb) w wr)
 case atStart =>
  refine ⟨_,_,_,_,rfl,hrg0,hM1,hB1,fun z=>⟨fun h=>(by cases h),?_⟩,fun z=>⟨Or.inl,?_⟩,K1⟩
  ·rintro ⟨c,k,⟨h1,h2⟩,_⟩
   rw [setF_isSome,h1] at h2
   cases h2
  ·rintro (h|⟨c,k,⟨h1,h2⟩,_⟩)
   ·exact h
   ·rw [setF_isSome,h1] at h2
    cases h2
 case round =>
  obtain ⟨left,cnt,T,B1,hgk,hrg,hT,hB2,hall,hbhd,hK⟩:=hrel
  have hbz:=hK.size
  go_wp2_with (first|(at_next;refine wpList_nextF rfl _ rfl 3 law3 fb (w.heap.size+1) _ _ _ _ rfl hrg ?_ ?_)|go_in)
  ·intro hc0 hl0
   go_wp2
   go_ret
   refine ⟨_,T,B1,rfl,hT,hB2,fun z=>(hall.out z).trans ⟨?_,?_⟩,fun z=>(hbhd.out z).trans ⟨?_,?_⟩,Nat.le_refl _,hK⟩
   ·rintro ⟨c,k,h1,h2⟩;exact ⟨c,k,h1.1,h2⟩
   ·rintro ⟨c,k,h1,h2⟩;exact ⟨c,k,⟨h1,hl0 c⟩,h2⟩
   ·rintro (h|⟨c,k,h1,h2⟩)
    ·exact Or.inl h
    ·exact Or.inr ⟨c,k,h1.1,h2⟩
   ·rintro (h|⟨c,k,h1,h2⟩)
    ·exact Or.inl h
    ·exact Or.inr ⟨c,k,⟨h1,hl0 c⟩,h2⟩
  ·intro x v w1 cnt1 hwx hlx hfx hrg1 hlt hg1 hs1 hen
   obtain ⟨hSx,rfl⟩:=setF_val hfx
   have hxin:=hin x hSx
   have hT1:=hT.grown hg1 (fun e=>by have:=Option.some.inj e;omega)
   have hB3:=hB2.grown hg1 (fun e=>by have:=Option.some.inj e;omega)
   have K2:Keep (fun k=>k=bb) w w1:=hK.grown hg1 (fun k e h=>by cases e;omega)
   have hBx:B1 x=B x:=by
    have h1:=hbhd.out x
    cases hb1:B x with
    |true=>rw [hb1] at h1;exact h1.2 (Or.inl rfl)
    |false =>
     cases hb2:B1 x with
     |false=>rfl
     |true =>
      rw [hb1,hb2] at h1
      obtain ⟨c,k,h3,h4,_⟩:=(h1.1 rfl).resolve_left (by decide)
      have:=HAP.out c k x h3.1 h4
      rw [hSx] at this;cases this
   obtain ⟨l,hl⟩:∃ l,outw W H bl x a 8=l:=⟨_,rfl⟩
   have HL:Hid (outw W H bl x a 8=l):=hl
   have hll:l.length<=8:=by rw [<- hl];exact outw_len _ _ _ _ _ _
   clear hl
   have hzb:∀ j,j<l.length->(0:Int)<=((l.getD j 0:Nat):Int)/\((l.getD j 0:Nat):Int)<256:=fun j hj=>by
    obtain ⟨k,e,_⟩:=(outw_row (z:=((l.getD j 0:Nat):Int)) gw1 hxin HL.out).1 ⟨j,hj,rfl⟩
    have:0<=((l.getD j 0:Nat):Int)/\((l.getD j 0:Nat):Int)<W*H:=of_decide_eq_true (e.in' gw1)
    omega
   have HZ:Hid (∀ j,j<l.length->(0:Int)<=((l.getD j 0:Nat):Int)/\((l.getD j 0:Nat):Int)<256):=hzb
   clear hzb
   have g1:=g.keep K2 hbb
   have s1:=s.keep K2 h0
   have hw1:b<w1.heap.size:=Nat.lt_of_lt_of_le hb K2.size
   obtain ⟨cx,hcx⟩:∃ cx,cornB W H bl x=cx:=⟨_,rfl⟩
   have HCX:Hid (cornB W H bl x=cx):=hcx
   have his:=is_v hcx w1 g1 s1 hxin
   obtain ⟨bx,hbx⟩:∃ bx,B x=bx:=⟨_,rfl⟩
   have HBX:Hid (B x=bx):=hbx
   have HBX1:Hid (B1 x=bx):=hBx.trans hbx
   clear hcx hbx hBx
   clear hT hrg hK hg1 K1 hM1 hrg0 hB1 hB2
   go_wp2_with fail
   refine his.mono ?_
   rintro e w2 ⟨rfl,m2,hw2⟩
   have hlk:(Instr.lookup 134 (.map (some bb)) (.int .i64 x) true).run Tryz.prog w2=.ok (.tuple #[.agg #[],.bool bx]) w2:=by
    have hB4:SetAt w2 bb B1:=by rw [hw2];exact hB3.below (below_drewN (Below.refl _ _) m2)
    have hq:=HBX1.out
    cases bx with
    |false=>exact hB4.mp.look_none law3 Tryz.underS (zeroS _) hwx (setF_none hq) true
    |true=>exact hB4.mp.look_some law3 Tryz.underS (zeroS _) hwx (setF_some hq) true
   have b2:Below w1.heap.size w1 (w2.alloc (.cells #[] 185)):=by rw [hw2];exact (below_drewN (Below.refl _ _) m2).alloc (by simp) _
   have g2:=g1.below b2 hw1
   have s2:=s1.below b2 (by omega)
   have hT2:=hT1.below b2
   have hB4:=hB3.below b2
   have hrg2:=hrg1.below b2
   have K3:=K2.below b2
   have hw2':b<(w2.alloc (.cells #[] 185)).heap.size:=Nat.lt_of_lt_of_le hw1 b2.size
   clear b2 hw2 g1 s1 hT1 hB3 hrg1 K2 his
   have hon:=outward_v HL.out (w2.alloc (.cells #[] 185)) g2 s2 hw2' hxin ha
   go_wp2_with fail
   refine hon.mono ?_
   rintro e w3 ⟨A,cap,rfl,hrow,hb3⟩
   have hT3:=hT2.below hb3
   have hB5:=hB4.below hb3
   have hrg3:=hrg2.below hb3
   have K4:=K3.below hb3
   clear hT2 hB4 hrg2 K3 hb3 hon g2 s2 hw2' hlk
   go_wp2
   go_loopg [41] l.length (fun gj iv wr=>∃ (j:Nat) (T' B':Int->Bool),gj=l.length - j/\iv=.int .i64 j/\j<=l.length/\SetAt wr w.heap.size T'/\SetAt wr bb B'/\Hid (∀ z,T' z=true↔T z=true\/∃ i,i<j/\z=((l.getD i 0:Nat):Int)) /\
     Hid (∀ z,B' z=true↔B1 z=true\/((bx=true\/(cx=true/\x≠a))/\∃ i,i<j/\z=((l.getD i 0:Nat):Int)))/\RngS wr fb (w.heap.size+1) S (fun z=>left z&&!decide (z=x)) cnt1/\OldRow wr A l.length (fun i=>(l.getD i 0:Nat))/\Keep (fun k=>k=bb) w wr)
   case atStart=>exact ⟨0,T,B1,rfl,rfl,Nat.zero_le _,hT3,hB5,fun z=>⟨Or.inl,fun h=>h.resolve_right (fun ⟨i,hi,_⟩=>by omega)⟩,fun z=>⟨Or.inl,fun h=>h.resolve_right (fun ⟨_,i,hi,_⟩=>by omega)⟩,hrg3,hrow,K4⟩
   case round =>
    obtain ⟨j,T',B',hgj,rfl,hj,hT',hBB,hin',hbn',hrg',hrow',hK'⟩:=hrel
    by_cases hlj:j<l.length
    ·obtain ⟨ba,oa,rfl,hba,hcell⟩:=hrow' j hlj
     obtain ⟨z0,z1⟩:=HZ.out j hlj
     have hcell':wr.cell? ⟨ba,oa+j,none⟩=some (.int .i64 ((l.getD j 0:Nat):Int)):=hcell
     clear hcell
     have HJ:Hid (∀ z:Int,(∃ i,i<j+1/\z=((l.getD i 0:Nat):Int))↔(∃ i,i<j/\z=((l.getD i 0:Nat):Int))\/z=((l.getD j 0:Nat):Int)):=fun z=>by
      constructor
      ·rintro ⟨i,hi,h⟩
       by_cases e:i=j
       ·subst e;exact Or.inr h
       ·exact Or.inl ⟨i,by omega,h⟩
      ·rintro (⟨i,hi,h⟩|h)
       ·exact ⟨i,by omega,h⟩
       ·exact ⟨j,by omega,h⟩
     generalize ((l.getD j 0:Nat):Int)=zz at *
     have i1:(0:Int)<=(j:Int):=by omega
     have i2:(j:Int)<(l.length:Int):=by omega
     have hneb:ba≠w.heap.size:=fun e=>by
      have h:=hT'.mp.cell (oa+j)
      rw [<- e,hcell'] at h
      cases h
     have hneb2:ba≠bb:=fun e=>by
      have h:=hBB.mp.cell (oa+j)
      rw [<- e,hcell'] at h
      cases h
     have hRW:∀ w' row,wr.grownBy w' (some row)->ba≠row->OldRow w' (some ⟨ba,oa,none⟩) l.length (fun i=>(l.getD i 0:Nat)):=fun w' row hg hn i hi=>by
      obtain ⟨b',o',e,h1,h2⟩:=hrow' i hi
      cases e
      exact ⟨ba,oa,rfl,Nat.lt_of_lt_of_le h1 hg.size,(World.cell?_of_block (w:=wr) (hg.block ba h1 (fun e=>hn (Option.some.inj e)))).trans h2⟩
     have hnbb:w.heap.size≠bb:=by omega
     have tok:True:=trivial
     cases bx with
     |true =>
      go_wp2_with (first|(at_mapUpdate;have _t:=tok;refine wpList_put rfl _ _ _ 134 rfl 3 185 law3 Tryz.underS w.heap.size _ _ rfl hT'.mp hT'.room zz (.agg #[]) rfl rfl (wf_small z0 z1) ?_;intro w4 hm4 ht4;have hT4:=hT'.put z0 z1 hm4;have hg4:=ht4.grown;have hB4:=hBB.grown hg4 (fun e=>hnbb (Option.some.inj e).symm);clear tok hm4 ht4;go_frame)|(at_mapUpdate;refine wpList_put rfl _ _ _ 134 rfl 3 185 law3 Tryz.underS bb _ _ rfl hB4.mp hB4.room zz (.agg #[]) rfl rfl (wf_small z0 z1) ?_;intro w5 hm5 ht5;go_frame)|go_in)
      have hB5:=hB4.put z0 z1 hm5
      have hg5:=ht5.grown
      have hT5:=hT4.grown hg5 (fun e=>hnbb (Option.some.inj e))
      have hrg4:=(hrg'.grown hg4 (fun e=>by have:=Option.some.inj e;omega) (fun e=>by have:=Option.some.inj e;omega)).grown hg5 (fun e=>hfb (Option.some.inj e)) (fun e=>by have:=Option.some.inj e;omega)
      have hK4:Keep (fun k=>k=bb) w w5:=(hK'.grown hg4 (fun k e h=>by cases e;omega)).grown hg5 (fun k e h=>by cases e;rfl)
      have hrow4:=hRW w4 _ hg4 hneb
      have hrow5:OldRow w5 (some ⟨ba,oa,none⟩) l.length (fun i=>(l.getD i 0:Nat)):=fun i hi=>by
       obtain ⟨b',o',e,h1,h2⟩:=hrow4 i hi
       cases e
       exact ⟨ba,oa,rfl,Nat.lt_of_lt_of_le h1 hg5.size,(World.cell?_of_block (w:=w4) (hg5.block ba h1 (fun e=>hneb2 (Option.some.inj e)))).trans h2⟩
      go_roundg (l.length - (j+1))
      case measure=>omega
      case rel =>
       refine ⟨j+1,_,_,rfl,by go_num,by omega,hT5,hB5,fun z=>?_,fun z=>?_,hrg4,hrow5,hK4⟩
       ·rw [insS_iff,hin'.out z,HJ.out z]
        exact ⟨fun h=>h.elim (fun e=>Or.inr (Or.inr e)) (fun h=>h.imp id Or.inl),fun h=>h.elim (fun e=>Or.inr (Or.inl e)) (fun h=>h.elim (fun e=>Or.inr (Or.inr e)) Or.inl)⟩
       ·rw [insS_iff,hbn'.out z,HJ.out z]
        constructor
        ·rintro (h|h|⟨h1,h2⟩)
         ·exact Or.inr ⟨by simp,Or.inr h⟩
         ·exact Or.inl h
         ·exact Or.inr ⟨h1,Or.inl h2⟩
        ·rintro (h|⟨h1,h|h⟩)
         ·exact Or.inr (Or.inl h)
         ·exact Or.inr (Or.inr ⟨h1,h⟩)
         ·exact Or.inl h
     |false =>
      cases cx with
      |false =>
       go_wp2_with (first|(at_mapUpdate;have _t:=tok;refine wpList_put rfl _ _ _ 134 rfl 3 185 law3 Tryz.underS w.heap.size _ _ rfl hT'.mp hT'.room zz (.agg #[]) rfl rfl (wf_small z0 z1) ?_;intro w4 hm4 ht4;have hT4:=hT'.put z0 z1 hm4;have hg4:=ht4.grown;have hB4:=hBB.grown hg4 (fun e=>hnbb (Option.some.inj e).symm);clear tok hm4 ht4;go_frame)|go_in)
       have hrg4:=hrg'.grown hg4 (fun e=>by have:=Option.some.inj e;omega) (fun e=>by have:=Option.some.inj e;omega)
       have hK4:Keep (fun k=>k=bb) w w4:=hK'.grown hg4 (fun k e h=>by cases e;omega)
       have hrow4:=hRW w4 _ hg4 hneb
       go_roundg (l.length - (j+1))
       case measure=>omega
       case rel =>
        refine ⟨j+1,_,_,rfl,by go_num,by omega,hT4,hB4,fun z=>?_,fun z=>?_,hrg4,hrow4,hK4⟩
        ·rw [insS_iff,hin'.out z,HJ.out z]
         exact ⟨fun h=>h.elim (fun e=>Or.inr (Or.inr e)) (fun h=>h.imp id Or.inl),fun h=>h.elim (fun e=>Or.inr (Or.inl e)) (fun h=>h.elim (fun e=>Or.inr (Or.inr e)) Or.inl)⟩
        ·rw [hbn'.out z]
         exact or_congr Iff.rfl ⟨fun h=>absurd h.1 (by simp),fun h=>absurd h.1 (by simp)⟩
      |true =>
       by_cases hxa:x=a
       ·subst hxa
        go_wp2_with (first|(at_mapUpdate;have _t:=tok;refine wpList_put rfl _ _ _ 134 rfl 3 185 law3 Tryz.underS w.heap.size _ _ rfl hT'.mp hT'.room zz (.agg #[]) rfl rfl (wf_small z0 z1) ?_;intro w4 hm4 ht4;have hT4:=hT'.put z0 z1 hm4;have hg4:=ht4.grown;have hB4:=hBB.grown hg4 (fun e=>hnbb (Option.some.inj e).symm);clear tok hm4 ht4;go_frame)|go_in)
        have hrg4:=hrg'.grown hg4 (fun e=>by have:=Option.some.inj e;omega) (fun e=>by have:=Option.some.inj e;omega)
        have hK4:Keep (fun k=>k=bb) w w4:=hK'.grown hg4 (fun k e h=>by cases e;omega)
        have hrow4:=hRW w4 _ hg4 hneb
        go_roundg (l.length - (j+1))
        case measure=>omega
        case rel =>
         refine ⟨j+1,_,_,rfl,by go_num,by omega,hT4,hB4,fun z=>?_,fun z=>?_,hrg4,hrow4,hK4⟩
         ·rw [insS_iff,hin'.out z,HJ.out z]
          exact ⟨fun h=>h.elim (fun e=>Or.inr (Or.inr e)) (fun h=>h.imp id Or.inl),fun h=>h.elim (fun e=>Or.inr (Or.inl e)) (fun h=>h.elim (fun e=>Or.inr (Or.inr e)) Or.inl)⟩
         ·rw [hbn'.out z]
          exact or_congr Iff.rfl ⟨fun h=>absurd h.1 (by simp),fun h=>absurd h.1 (by simp)⟩
       ·have HXA:Hid (x≠a):=hxa
        go_wp2_with (first|(at_mapUpdate;have _t:=tok;refine wpList_put rfl _ _ _ 134 rfl 3 185 law3 Tryz.underS w.heap.size _ _ rfl hT'.mp hT'.room zz (.agg #[]) rfl rfl (wf_small z0 z1) ?_;intro w4 hm4 ht4;have hT4:=hT'.put z0 z1 hm4;have hg4:=ht4.grown;have hB4:=hBB.grown hg4 (fun e=>hnbb (Option.some.inj e).symm);clear tok hm4 ht4;go_frame)|(at_mapUpdate;refine wpList_put rfl _ _ _ 134 rfl 3 185 law3 Tryz.underS bb _ _ rfl hB4.mp hB4.room zz (.agg #[]) rfl rfl (wf_small z0 z1) ?_;intro w5 hm5 ht5;go_frame)|go_in)
        have hB5:=hB4.put z0 z1 hm5
        have hg5:=ht5.grown
        have hT5:=hT4.grown hg5 (fun e=>hnbb (Option.some.inj e))
        have hrg4:=(hrg'.grown hg4 (fun e=>by have:=Option.some.inj e;omega) (fun e=>by have:=Option.some.inj e;omega)).grown hg5 (fun e=>hfb (Option.some.inj e)) (fun e=>by have:=Option.some.inj e;omega)
        have hK4:Keep (fun k=>k=bb) w w5:=(hK'.grown hg4 (fun k e h=>by cases e;omega)).grown hg5 (fun k e h=>by cases e;rfl)
        have hrow4:=hRW w4 _ hg4 hneb
        have hrow5:OldRow w5 (some ⟨ba,oa,none⟩) l.length (fun i=>(l.getD i 0:Nat)):=fun i hi=>by
         obtain ⟨b',o',e,h1,h2⟩:=hrow4 i hi
         cases e
         exact ⟨ba,oa,rfl,Nat.lt_of_lt_of_le h1 hg5.size,(World.cell?_of_block (w:=w4) (hg5.block ba h1 (fun e=>hneb2 (Option.some.inj e)))).trans h2⟩
        go_roundg (l.length - (j+1))
        case measure=>omega
        case rel =>
         refine ⟨j+1,_,_,rfl,by go_num,by omega,hT5,hB5,fun z=>?_,fun z=>?_,hrg4,hrow5,hK4⟩
         ·rw [insS_iff,hin'.out z,HJ.out z]
          exact ⟨fun h=>h.elim (fun e=>Or.inr (Or.inr e)) (fun h=>h.imp id Or.inl),fun h=>h.elim (fun e=>Or.inr (Or.inl e)) (fun h=>h.elim (fun e=>Or.inr (Or.inr e)) Or.inl)⟩
         ·rw [insS_iff,hbn'.out z,HJ.out z]
          constructor
          ·rintro (h|h|⟨h1,h2⟩)
           ·exact Or.inr ⟨(by have:=HXA.out;simp_all),Or.inr h⟩
           ·exact Or.inl h
           ·exact Or.inr ⟨h1,Or.inl h2⟩
          ·rintro (h|⟨h1,h|h⟩)
           ·exact Or.inr (Or.inl h)
           ·exact Or.inr (Or.inr ⟨h1,h⟩)
           ·exact Or.inl h
    ·have e:j=l.length:=by omega
     subst e
     go_wp2
     go_roundg cnt1
     case measure=>omega
     case rel =>
      refine ⟨_,cnt1,T',B',rfl,hrg',hT',hBB,fun z=>?_,fun z=>?_,hK'⟩
      ·rw [hin'.out z,hall.out z,outw_row gw1 hxin HL.out]
       constructor
       ·rintro (⟨c,k,⟨h1,h2⟩,h3⟩|⟨k,h3⟩)
        ·exact ⟨c,k,⟨h1,by rw [h2];rfl⟩,h3⟩
        ·exact ⟨x,k,⟨hSx,by simp⟩,h3⟩
       ·rintro ⟨c,k,⟨h1,h2⟩,h3⟩
        by_cases e:c=x
        ·subst e;exact Or.inr ⟨k,h3⟩
        ·rw [decide_eq_false e] at h2
         exact Or.inl ⟨c,k,⟨h1,by simpa using h2⟩,h3⟩
      ·rw [hbn'.out z,hbhd.out z,outw_row gw1 hxin HL.out,<- HBX.out,<- HCX.out]
       constructor
       ·rintro ((h|⟨c,k,⟨h1,h2⟩,h3⟩)|⟨h4,k,h3⟩)
        ·exact Or.inl h
        ·exact Or.inr ⟨c,k,⟨h1,by rw [h2];rfl⟩,h3⟩
        ·exact Or.inr ⟨x,k,⟨hSx,by simp⟩,h3,h4⟩
       ·rintro (h|⟨c,k,⟨h1,h2⟩,h3,h4⟩)
        ·exact Or.inl (Or.inl h)
        ·by_cases e:c=x
         ·subst e;exact Or.inr ⟨h4,k,h3⟩
         ·rw [decide_eq_false e] at h2
          exact Or.inl (Or.inr ⟨c,k,⟨h1,by simpa using h2⟩,h3,h4⟩)
end
section
variable {W H : Int} {bl : Nat → Bool}
def octV (W a b:Int):Int:=val (octS W a b) (octD W a b)
theorem dst_comm (a b:Int):dst a b=dst b a:=by unfold dst;split <;> split <;> omega
theorem octS_comm (W a b:Int):octS W a b=octS W b a:=by unfold octS;rw [dst_comm (a % W),dst_comm (a / W)]
theorem octD_comm (W a b:Int):octD W a b=octD W b a:=by unfold octD;rw [dst_comm (a % W),dst_comm (a / W)]
theorem octV_comm (W a b:Int):octV W a b=octV W b a:=by unfold octV;rw [octS_comm,octD_comm]
theorem dst_self (a:Int):dst a a=0:=by unfold dst;split <;> omega
theorem octS_self (W a:Int):octS W a a=0:=by unfold octS;rw [dst_self,dst_self];rfl
theorem octD_self (W a:Int):octD W a a=0:=by unfold octD;rw [dst_self,dst_self];rfl
theorem dst_nonneg (a b:Int):0<=dst a b:=by unfold dst;split <;> omega
theorem octS_nonneg (W a b:Int):0<=octS W a b:=dst_nonneg _ _
theorem octD_nonneg (W a b:Int):0<=octD W a b:=by
 unfold octD les
 have:=dst_nonneg (a % W) (b % W)
 have:=dst_nonneg (a / W) (b / W)
 split <;> omega
theorem val_nonneg {s d:Int}(h:0<=s)(k:0<=d):0<=val s d:=by unfold val;omega
theorem oct_lin (X Y:Int):38613965*X+15994428*Y<=val (dst X Y) (les X Y)/\38613965*Y+15994428*X<=val (dst X Y) (les X Y)/\(val (dst X Y) (les X Y)=38613965*X+15994428*Y\/val (dst X Y) (les X Y)=38613965*Y+15994428*X):=by
 unfold val dst les
 split <;> omega
theorem dst_tri (a b c:Int):dst a c<=dst a b+dst b c:=by unfold dst;split <;> split <;> split <;> omega
theorem oct_tri (W a b c:Int):octV W a c<=octV W a b+octV W b c:=by
 unfold octV octS octD
 have h1:=dst_tri (a % W) (b % W) (c % W)
 have h2:=dst_tri (a / W) (b / W) (c / W)
 generalize dst (a % W) (c % W)=X at *
 generalize dst (a / W) (c / W)=Y at *
 generalize dst (a % W) (b % W)=X1 at *
 generalize dst (a / W) (b / W)=Y1 at *
 generalize dst (b % W) (c % W)=X2 at *
 generalize dst (b / W) (c / W)=Y2 at *
 obtain ⟨a1,a2,a3⟩:=oct_lin X Y
 obtain ⟨b1,b2,b3⟩:=oct_lin X1 Y1
 obtain ⟨c1,c2,c3⟩:=oct_lin X2 Y2
 clear b3 c3
 rcases a3 with a3|a3 <;> omega
theorem oct_low' {o a s d:Int}(w1:1<=W)(h:Wk (Edge W H bl) o a s d):octV W o a<=val s d:=oct_low w1 h
theorem wk_edge {p r:Int}{k:Nat}(e:Edge W H bl p k r):Wk (Edge W H bl) p r (stS k) (stD k):=by
 have:=(Wk.nil (E:=Edge W H bl) (o:=p)).step e
 rwa [Int.zero_add,Int.zero_add] at this
theorem good_iff (w1:1<=W){p r t:Int}{k:Nat}(e:Edge W H bl p k r):Good (p % W) (p / W) (t % W) (t / W) k↔octS W r t+stS k=octS W p t/\octD W r t+stD k=octD W p t:=by
 obtain ⟨h1,h2⟩:=e.place w1
 unfold Good octS octD
 rw [h1,h2]
def Tw (W H:Int) (bl:Nat->Bool) (a t p:Int):Prop :=
 ∀ R:Int->Prop,R a->(∀ p k r,R p->Edge W H bl p k r->Good (p % W) (p / W) (t % W) (t / W) k->R r)->R p
theorem Tw.nil {a t:Int}:Tw W H bl a t a:=fun _ h _=>h
theorem Tw.step {a t p r:Int}{k:Nat}(h:Tw W H bl a t p)(e:Edge W H bl p k r)(g:Good (p % W) (p / W) (t % W) (t / W) k):Tw W H bl a t r:=fun R h0 hs=>hs _ _ _ (h R h0 hs) e g
theorem Tw.walk (w1:1<=W){a t p:Int}(h:Tw W H bl a t p):∃ s d,Wk (Edge W H bl) a p s d/\s+octS W p t=octS W a t/\d+octD W p t=octD W a t:=by
 refine h (fun p=>∃ s d,Wk (Edge W H bl) a p s d/\s+octS W p t=octS W a t/\d+octD W p t=octD W a t) ⟨0,0,Wk.nil,Int.zero_add _,Int.zero_add _⟩ ?_
 rintro p k r ⟨s,d,hw,h1,h2⟩ e g
 obtain ⟨g1,g2⟩:=(good_iff w1 e).1 g
 exact ⟨_,_,hw.step e,by omega,by omega⟩
theorem octD_le {W a b:Int}:octD W a b*54608393<=octV W a b:=by
 have:=octS_nonneg W a b
 have:=octD_nonneg W a b
 unfold octV val
 omega
theorem Tw.of_walk (w1:1<=W){a t p s d:Int}(hb:octD W a t<=1000)(hs:octS W a t<=1000)(h:Wk (Edge W H bl) a p s d)(hv:val s d+octV W p t<=octV W a t):Tw W H bl a t p:=by
 refine h.ind (R:=fun p s d=>val s d+octV W p t<=octV W a t->Tw W H bl a t p) (fun _=>Tw.nil) ?_ hv
 intro p s d k r hw ih e hv
 have e1:=oct_low' w1 (wk_edge e)
 have e2:=oct_tri W p r t
 have e3:=oct_tri W a p t
 have e4:=oct_low' w1 hw
 rw [val_add] at hv
 have hp:val s d+octV W p t<=octV W a t:=by omega
 have heq:octV W r t+val (stS k) (stD k)=octV W p t:=by omega
 have hle:octV W p t<=octV W a t:=by
  obtain ⟨n1,n2⟩:=hw.nonneg
  have:=val_nonneg n1 n2
  omega
 have m1:=octD_le (W:=W) (a:=p) (b:=t)
 have m2:=octD_le (W:=W) (a:=r) (b:=t)
 have m3:=octD_nonneg W p t
 have m4:=octD_nonneg W r t
 have m5:octV W a t<=93222358000:=by unfold octV val;omega
 have m6:=val_nonneg (octS_nonneg W r t) m4
 have m7:=(val_st k).1
 have c3:=st_bd k
 have q:val (octS W r t+stS k) (octD W r t+stD k)=val (octS W p t) (octD W p t):=by rw [val_add];exact heq
 obtain ⟨q1,q2⟩:=val_inj _ _ _ _ (by omega) (by omega) q
 exact (ih hp).step e ((good_iff w1 e).2 ⟨q1,q2⟩)
def On (W H:Int) (bl:Nat->Bool) (a b k:Int):Prop:=Tw W H bl a b k/\Tw W H bl b a k
theorem oct_small {a b:Int}(w1:1<=W)(w2:W<=16)(h1:1<=H)(h2:H<=16)(ha:inB W H a=true)(hb:inB W H b=true):octS W a b<=16/\octD W a b<=16:=by
 have ha:0<=a/\a<W*H:=of_decide_eq_true ha
 have hb:0<=b/\b<W*H:=of_decide_eq_true hb
 have p1:=Int.emod_nonneg a (show W≠0 by omega)
 have p2:=Int.emod_lt_of_pos a (show 0<W by omega)
 have p3:=Int.emod_nonneg b (show W≠0 by omega)
 have p4:=Int.emod_lt_of_pos b (show 0<W by omega)
 have q1:0<=a / W:=Int.ediv_nonneg ha.1 (by omega)
 have q2:0<=b / W:=Int.ediv_nonneg hb.1 (by omega)
 have q3:a / W<H:=Int.ediv_lt_of_lt_mul (by omega) (by rw [Int.mul_comm];exact ha.2)
 have q4:b / W<H:=Int.ediv_lt_of_lt_mul (by omega) (by rw [Int.mul_comm];exact hb.2)
 unfold octS octD
 generalize a % W=ax at *
 generalize a / W=ay at *
 generalize b % W=bx at *
 generalize b / W=by' at *
 have r1:dst ax bx<=16/\0<=dst ax bx:=by unfold dst;split <;> omega
 have r2:dst ay by'<=16/\0<=dst ay by':=by unfold dst;split <;> omega
 generalize dst ax bx=X at *
 generalize dst ay by'=Y at *
 unfold dst les
 constructor <;> split <;> omega
theorem pair_eq {s d t u:Int}(h1:0<=d)(h2:0<=s)(h3:0<=u)(h4:u<=1000)(h:val s d=val t u)(ht:t<=1000):s=t/\d=u:=by
 have h5:val t u<=93222358000:=by unfold val;omega
 have h6:54608393*d<=val s d:=by unfold val;omega
 have h7:d<=2000:=by
  rw [h] at h6
  clear h
  generalize val t u=x at *
  omega
 exact val_inj s d t u (by omega) (by omega) h
theorem On.walks (w1:1<=W){a b k:Int}(hS:octS W a b<=1000)(hD:octD W a b<=1000)(h:On W H bl a b k) :
  Wk (Edge W H bl) a k (octS W a k) (octD W a k)/\Wk (Edge W H bl) b k (octS W b k) (octD W b k)/\octS W a k+octS W b k=octS W a b/\octD W a k+octD W b k=octD W a b:=by
 obtain ⟨s,d,hw,e1,e2⟩:=h.1.walk w1
 obtain ⟨t,u,hx,f1,f2⟩:=h.2.walk w1
 have a1:=oct_low' w1 hw
 have a2:=oct_low' w1 hx
 have a3:=oct_tri W a k b
 have e3:val s d+octV W k b=octV W a b:=by unfold octV;rw [<- val_add,e1,e2]
 have f3:val t u+octV W k a=octV W b a:=by unfold octV;rw [<- val_add,f1,f2]
 rw [octV_comm W b a] at f3
 rw [octV_comm W k b] at e3
 rw [octV_comm W k a] at f3
 rw [octV_comm W k b] at a3
 have v1:val s d=octV W a k:=by omega
 have v2:val t u=octV W b k:=by omega
 obtain ⟨n1,n2⟩:=hw.nonneg
 obtain ⟨n3,n4⟩:=hx.nonneg
 have o1:=octS_nonneg W k b
 have o2:=octD_nonneg W k b
 have o3:=octS_nonneg W k a
 have o4:=octD_nonneg W k a
 rw [octS_comm W b a] at f1
 rw [octD_comm W b a] at f2
 have p1:=pair_eq (octD_nonneg W a k) (octS_nonneg W a k) n2 (by omega) v1.symm (by omega)
 have p2:=pair_eq (octD_nonneg W b k) (octS_nonneg W b k) n4 (by omega) v2.symm (by omega)
 rw [octS_comm W k b] at e1
 rw [octD_comm W k b] at e2
 rw [p1.1,p1.2]
 refine ⟨hw,by rw [p2.1,p2.2];exact hx,by omega,by omega⟩
theorem On.of_walks (w1:1<=W){a b k s d t u:Int}(hS:octS W a b<=1000)(hD:octD W a b<=1000)(hw:Wk (Edge W H bl) a k s d)(hx:Wk (Edge W H bl) b k t u)(h1:s+t=octS W a b)(h2:d+u=octD W a b):On W H bl a b k:=by
 have a1:=oct_low' w1 hw
 have a2:=oct_low' w1 hx
 have a3:=oct_tri W a k b
 have e3:val s d+val t u=octV W a b:=by unfold octV;rw [<- val_add,h1,h2]
 refine ⟨Tw.of_walk w1 hD hS hw ?_,Tw.of_walk w1 (by rw [octD_comm];exact hD) (by rw [octS_comm];exact hS) hx ?_⟩
 ·rw [octV_comm W k b];omega
 ·rw [octV_comm W b a,octV_comm W k a]
  rw [octV_comm W k b] at a3
  omega
section
variable {F G : Int → Option (Int × Int)} {a b : Int}
theorem best_oct (w1:1<=W)(BA:Best (Edge W H bl) a F){k:Int}(h:Wk (Edge W H bl) a k (octS W a k) (octD W a k)):F k=some (octS W a k,octD W a k):=by
 obtain ⟨s,d,h1,h2⟩:=BA.least h
 have h3:=oct_low' w1 (BA.sound h1)
 obtain ⟨b1,b2,b3⟩:=BA.small h1
 have c2:=val_small b1 b2 b3
 have v:val (octS W a k) (octD W a k)=val s d:=by unfold octV at h3;omega
 obtain ⟨e1,e2⟩:=pair_eq (octD_nonneg W a k) (octS_nonneg W a k) b2 (by omega) v (by omega)
 rw [h1,e1,e2]
theorem on_iff (w1:1<=W)(hS:octS W a b<=1000)(hD:octD W a b<=1000)(BA:Best (Edge W H bl) a F)(BB:Best (Edge W H bl) b G)(k:Int) :
  On W H bl a b k↔∃ s d t u,F k=some (s,d)/\G k=some (t,u)/\s+t=octS W a b/\d+u=octD W a b:=by
 constructor
 ·intro h
  obtain ⟨h1,h2,h3,h4⟩:=h.walks w1 hS hD
  exact ⟨_,_,_,_,best_oct w1 BA h1,best_oct w1 BB h2,h3,h4⟩
 ·rintro ⟨s,d,t,u,h1,h2,h3,h4⟩
  exact On.of_walks w1 hS hD (BA.sound h1) (BB.sound h2) h3 h4
end
section
variable {a b : Int}
theorem On.ends (w1:1<=W){k:Int}(hS:octS W a b<=1000)(hD:octD W a b<=1000)(h:On W H bl a b k):On W H bl a b a/\On W H bl a b b/\Wk (Edge W H bl) a b (octS W a b) (octD W a b):=by
 obtain ⟨h1,h2,h3,h4⟩:=h.walks w1 hS hD
 have hj:=Wk.join h1 (h2.back (Edge.back w1))
 rw [h3,h4] at hj
 exact ⟨On.of_walks w1 hS hD Wk.nil (hj.back (Edge.back w1)) (Int.zero_add _) (Int.zero_add _),On.of_walks w1 hS hD hj Wk.nil (Int.add_zero _) (Int.add_zero _),hj⟩
theorem On.of_near (w1:1<=W)(hS:octS W a b<=1000)(hD:octD W a b<=1000)(h:Wk (Edge W H bl) a b (octS W a b) (octD W a b)):On W H bl a b b :=
 On.of_walks w1 hS hD h Wk.nil (Int.add_zero _) (Int.add_zero _)
theorem On.next (w1:1<=W){k:Int}(hS:octS W a b<=1000)(hD:octD W a b<=1000)(h:On W H bl a b k)(hne:k≠b):∃ j r,Edge W H bl k j r/\Good (k % W) (k / W) (b % W) (b / W) j/\On W H bl a b r:=by
 obtain ⟨h1,h2,h3,h4⟩:=h.walks w1 hS hD
 rcases h2.inv with ⟨e,_⟩|⟨r,t',u',j,hr,er,e1,e2⟩
 ·exact absurd e hne
 ·obtain ⟨j',er',f1,f2⟩:=Edge.back w1 _ _ _ er
  have hon:=On.of_walks w1 hS hD (h1.step er') hr (by omega) (by omega)
  obtain ⟨g1,g2,g3,g4⟩:=hon.walks w1 hS hD
  refine ⟨j',r,er',(good_iff w1 er').2 ?_,hon⟩
  have q:=oct_low' w1 hr
  have q2:=oct_low' w1 (h1.step er')
  have q3:val (octS W a k+stS j') (octD W a k+stD j')+val t' u'=octV W a r+octV W b r:=by
   unfold octV
   rw [<- val_add,<- val_add]
   congr 1 <;> omega
  have q4:val (octS W b r) (octD W b r)=val t' u':=by unfold octV at q q2 q3;omega
  obtain ⟨n1,n2⟩:=hr.nonneg
  have:=octS_nonneg W a k
  have:=octD_nonneg W a k
  have:=st_bd j
  obtain ⟨z1,z2⟩:=pair_eq (octD_nonneg W b r) (octS_nonneg W b r) n2 (by omega) q4 (by omega)
  rw [octS_comm W r b,octD_comm W r b,octS_comm W k b,octD_comm W k b]
  omega
theorem good_end {x y:Int}{k:Nat}(hk:k<8):¬ Good x y x y k:=by
 intro g
 obtain ⟨a1,a2⟩:=good_dir hk g
 by_cases q:k % 2=1
 ·have:=(a1 q).1;omega
 ·have:=a2 (by omega);omega
end
def Cand (W H:Int) (bl:Nat->Bool) (a b p:Int) (k:Nat) (r:Int):Prop:=Edge W H bl p k r/\Good (p % W) (p / W) (b % W) (b / W) k/\On W H bl a b r
def Chosen (W H:Int) (bl:Nat->Bool) (a b p:Int) (k:Nat) (r:Int):Prop:=Cand W H bl a b p k r/\(k % 2=0->∀ j q,j % 2=1->¬ Cand W H bl a b p j q)
theorem Chosen.one {a b p r q:Int}{k j:Nat}(h:Chosen W H bl a b p k r)(g:Chosen W H bl a b p j q):k=j/\r=q:=by
 have hp:k % 2=j % 2:=by
  rcases Nat.mod_two_eq_zero_or_one k with e|e <;> rcases Nat.mod_two_eq_zero_or_one j with f|f
  ·omega
  ·exact absurd g.1 (h.2 e _ _ f)
  ·exact absurd h.1 (g.2 f _ _ e)
  ·omega
 have e:=good_one h.1.1.1 g.1.1.1 hp h.1.2.1 g.1.2.1
 refine ⟨e,?_⟩
 rw [h.1.1.2.2.2,g.1.1.2.2.2,e]
theorem Chosen.none {a b r:Int}{k:Nat}:¬ Chosen W H bl a b b k r:=fun h=>good_end h.1.1.1 h.1.2.1
def WSt (W H:Int) (bl:Nat->Bool) (a b p r:Int):Prop:=∃ k,Chosen W H bl a b p k r
theorem way_one {a b:Int}:∀ {l l':List Int}{p:Int},Chn (WSt W H bl a b) p l b->Chn (WSt W H bl a b) p l' b->l=l'
 |[],[],_,_,_=>rfl
 |[],r::l',p,h,k=>by
  have e:p=b:=h
  subst e
  obtain ⟨⟨k,hk⟩,_⟩:=k
  exact absurd hk Chosen.none
 |r::l,[],p,h,k=>by
  have e:p=b:=k
  subst e
  obtain ⟨⟨k,hk⟩,_⟩:=h
  exact absurd hk Chosen.none
 |r::l,q::l',p,⟨⟨k,hk⟩,h⟩,⟨⟨j,hj⟩,g⟩=>by
  obtain ⟨_,rfl⟩:=hk.one hj
  rw [way_one h g]
theorem Chn.snoc {P:Int->Int->Prop}:∀ {l:List Int}{a c r:Int},Chn P a l c->P c r->Chn P a (l++[r]) r
 |[],a,c,r,h,k=>by
  have e:a=c:=h
  subst e
  exact ⟨k,rfl⟩
 |x::l,a,c,r,⟨h1,h2⟩,k=>⟨h1,Chn.snoc h2 k⟩
end
section
open Go.RowKit
def ffv (W H:Int) (bl:Nat->Bool) (c:Int):Int:=if inB W H c then (if bl c.toNat then 4 else 0) else 1
def errV (n:Int):Value:=if n=0 then .nilIface else .iface 39 (.int .i64 n)
theorem check_any {b:Nat}{W H V:Int}{bl:Nat->Bool}(c:Int)(w:World)(g:GridAt w b W H V bl) :
  Calls Tryz.prog 106 #[.pointer (some ⟨b,0,none⟩),.int .i64 c] w fun e w'=>e=.returned (errV (ffv W H bl c))/\Below w.heap.size w w':=by
 have q:∀ {v:Value},(Calls Tryz.prog 106 #[.pointer (some ⟨b,0,none⟩),.int .i64 c] w fun e w'=>e=.returned v/\∃ m,w'=w.drewN m)->Calls Tryz.prog 106 #[.pointer (some ⟨b,0,none⟩),.int .i64 c] w fun e w'=>e=.returned v/\Below w.heap.size w w':=fun h=>h.mono fun _ _ ⟨he,m,hm⟩=>⟨he,by subst hm;exact below_drewN (Below.refl _ _) m⟩
 cases hr:inB W H c with
 |false =>
  have e:ffv W H bl c=1:=by unfold ffv;rw [hr];rfl
  rw [e];exact q (check_out c w g hr)
 |true =>
  have hc:0<=c/\c<W*H:=of_decide_eq_true hr
  obtain ⟨n,rfl⟩:∃ n:Nat,c=n:=⟨c.toNat,by omega⟩
  have e:ffv W H bl n=if bl n then 4 else 0:=by unfold ffv;rw [hr];rfl
  rw [e]
  cases hb:bl n with
  |true=>exact q (check_bl n w g hr hb)
  |false=>exact q (check_ok n w g hr hb)
end
section
open Go.RowKit
variable {W H : Int} {bl : Nat → Bool}
theorem On.sym {a b k:Int}(h:On W H bl a b k):On W H bl b a k:=⟨h.2,h.1⟩
theorem near_iff {a b:Int}{F:Int->Option (Int × Int)}(w1:1<=W)(hS:octS W a b<=1000)(hD:octD W a b<=1000)(BA:Best (Edge W H bl) a F):(∃ z,On W H bl a b z)↔F b=some (octS W a b,octD W a b):=by
 constructor
 ·rintro ⟨z,h⟩
  exact best_oct w1 BA (h.ends w1 hS hD).2.2
 ·intro h
  exact ⟨b,On.of_near w1 hS hD (BA.sound h)⟩
theorem On.near_a {a b k:Int}(w1:1<=W)(hS:octS W a b<=1000)(hD:octD W a b<=1000)(kS:octS W a k<=1000)(kD:octD W a k<=1000)(h:On W H bl a b k):∃ z,On W H bl a k z :=
 ⟨k,On.of_near w1 kS kD (h.walks w1 hS hD).1⟩
theorem On.free {a b k:Int}(w1:1<=W)(hS:octS W a b<=1000)(hD:octD W a b<=1000)(ha:bl a.toNat=false)(h:On W H bl a b k):bl k.toNat=false:=wk_free ha (h.walks w1 hS hD).1
theorem ffv_zero {c:Int}(h1:inB W H c=true)(h2:bl c.toNat=false):ffv W H bl c=0:=by unfold ffv;rw [h1,h2];rfl
end
section
theorem crs_mem {W H:Int}{bl:Nat->Bool}{k c:Nat}:c ∈ crs W H bl k↔c<k/\cornB W H bl (c:Nat)=true:=by
 unfold crs
 rw [List.mem_filter,List.mem_range]
theorem cornB_iff {W H:Int}{bl:Nat->Bool}{c:Int}:cornB W H bl c=true↔CornC W H bl c:=by
 unfold cornB CornC Corn
 rw [Bool.and_eq_true]
 constructor
 ·rintro ⟨h1,h2⟩
  refine ⟨h1,?_⟩
  unfold turnB at h2
  obtain ⟨j,hj,h3⟩:=List.any_eq_true.1 h2
  have hj:=List.mem_range.1 hj
  unfold crB at h3
  rw [Bool.and_eq_true,Bool.and_eq_true] at h3
  exact ⟨2*j+1,by omega,by omega,by simpa using h3.2,h3.1.1,h3.1.2⟩
 ·rintro ⟨h1,k,k1,k2,k3,k4,k5⟩
  refine ⟨h1,?_⟩
  obtain ⟨j,rfl⟩:∃ j,k=2*j+1:=⟨k / 2,by omega⟩
  refine turnB_true (j:=j) (by omega) ?_
  unfold crB
  rw [k3,k4,k5]
  rfl
theorem cornC_in {W H:Int}{bl:Nat->Bool}{c:Int}(w1:1<=W)(h:CornC W H bl c):inB W H c=true:=by
 obtain ⟨a1,a2,a3,a4⟩:=open_in h.1
 have e:=cell_eq W c
 have h1:=Int.mul_nonneg a3 (show 0<=W by omega)
 have h2:c / W*W+W<=H*W:=by
  have:=Int.mul_le_mul_of_nonneg_right (show c / W+1<=H by omega) (show 0<=W by omega)
  rw [Int.add_mul] at this
  omega
 have h3:H*W=W*H:=Int.mul_comm H W
 exact decide_eq_true ⟨by omega,by omega⟩
end
section
theorem dst_to {x u s:Int}(h:(s=1/\x<u)\/(s=-1/\u<x)):dst (x+s) u=dst x u - 1/\1<=dst x u:=by
 unfold dst
 (repeat' split) <;> omega
theorem dst_still {x u s:Int}(h:(s=1/\x<u)\/(s=-1/\u<x))(h2:2<=dst x u):(s=1/\x+s<u)\/(s=-1/\u<x+s):=by
 unfold dst at h2
 split at h2 <;> omega
theorem dl_diag {X Y:Int}:dst (X - 1) (Y - 1)+0=dst X Y/\les (X - 1) (Y - 1)+1=les X Y:=by
 unfold dst les
 (repeat' split) <;> omega
theorem dl_x {X Y:Int}(h:Y<X):dst (X - 1) Y+1=dst X Y/\les (X - 1) Y+0=les X Y:=by
 unfold dst les
 (repeat' split) <;> omega
theorem dl_y {X Y:Int}(h:X<Y):dst X (Y - 1)+1=dst X Y/\les X (Y - 1)+0=les X Y:=by
 unfold dst les
 (repeat' split) <;> omega
theorem good_diag {x y u v:Int}{k:Nat}(hk:k<8)(hp:k % 2=1)(hx:(stepX k=1/\x<u)\/(stepX k=-1/\u<x))(hy:(stepY k=1/\y<v)\/(stepY k=-1/\v<y)):Good x y u v k:=by
 obtain ⟨_,_,_,_,u5⟩:=step_unit k hk
 unfold Good
 rw [(u5 hp).1,(u5 hp).2,(dst_to hx).1,(dst_to hy).1]
 exact dl_diag
theorem good_x {x y u v:Int}{k:Nat}(hk:k<8)(hp:k % 2=0)(hx:(stepX k=1/\x<u)\/(stepX k=-1/\u<x))(hy:stepY k=0)(hlt:dst y v<dst x u):Good x y u v k:=by
 obtain ⟨_,_,_,u4,_⟩:=step_unit k hk
 unfold Good
 rw [(u4 hp).1,(u4 hp).2,(dst_to hx).1,hy,Int.add_zero]
 exact dl_x hlt
theorem good_y {x y u v:Int}{k:Nat}(hk:k<8)(hp:k % 2=0)(hy:(stepY k=1/\y<v)\/(stepY k=-1/\v<y))(hx:stepX k=0)(hlt:dst x u<dst y v):Good x y u v k:=by
 obtain ⟨_,_,_,u4,_⟩:=step_unit k hk
 unfold Good
 rw [(u4 hp).1,(u4 hp).2,(dst_to hy).1,hx,Int.add_zero]
 exact dl_y hlt
theorem adj_x {j k:Nat}(hj:j<8)(hk:k<8)(hp:k % 2=1)(hy:stepY j=0)(hx:stepX j=stepX k):(k=(j+1) % 8\/k=(j+7) % 8)/\(j=(k+1) % 8\/j=(k+7) % 8):=by
 rcases k8 hk with rfl|rfl|rfl|rfl|rfl|rfl|rfl|rfl <;> rcases k8 hj with rfl|rfl|rfl|rfl|rfl|rfl|rfl|rfl <;> revert hp hy hx <;> decide
theorem adj_y {j k:Nat}(hj:j<8)(hk:k<8)(hp:k % 2=1)(hx:stepX j=0)(hy:stepY j=stepY k):(k=(j+1) % 8\/k=(j+7) % 8)/\(j=(k+1) % 8\/j=(k+7) % 8):=by
 rcases k8 hk with rfl|rfl|rfl|rfl|rfl|rfl|rfl|rfl <;> rcases k8 hj with rfl|rfl|rfl|rfl|rfl|rfl|rfl|rfl <;> revert hp hy hx <;> decide
theorem good_adj {x y u v:Int}{j k:Nat}(hj:j<8)(hk:k<8)(hne:k≠j)(gj:Good x y u v j)(gk:Good x y u v k) :
  (k=(j+1) % 8\/k=(j+7) % 8)/\Good (x+stepX j) (y+stepY j) u v k:=by
 obtain ⟨a1,a2⟩:=good_dir hj gj
 obtain ⟨b1,b2⟩:=good_dir hk gk
 by_cases p:j % 2=1
 ·by_cases q:k % 2=1
  ·exact absurd (good_one hk hj (by omega) gk gj) hne
  ·obtain ⟨jx,jy⟩:=a1 p
   rcases b2 (by omega) with ⟨z,kx,hlt⟩|⟨z,ky,hlt⟩
   ·refine ⟨(adj_x hk hj p z (by omega)).2,good_x hk (by omega) ?_ z ?_⟩
    ·rw [show stepX j=stepX k by omega]
     exact dst_still kx (by have:=(dst_to jy).2;omega)
    ·rw [(dst_to jx).1,(dst_to jy).1];omega
   ·refine ⟨(adj_y hk hj p z (by omega)).2,good_y hk (by omega) ?_ z ?_⟩
    ·rw [show stepY j=stepY k by omega]
     exact dst_still ky (by have:=(dst_to jx).2;omega)
    ·rw [(dst_to jx).1,(dst_to jy).1];omega
 ·by_cases q:k % 2=1
  ·obtain ⟨kx,ky⟩:=b1 q
   rcases a2 (by omega) with ⟨z,jx,hlt⟩|⟨z,jy,hlt⟩
   ·refine ⟨(adj_x hj hk q z (by omega)).1,good_diag hk q ?_ (by rw [z,Int.add_zero];exact ky)⟩
    rw [show stepX j=stepX k by omega]
    exact dst_still kx (by have:=(dst_to ky).2;omega)
   ·refine ⟨(adj_y hj hk q z (by omega)).1,good_diag hk q (by rw [z,Int.add_zero];exact kx) ?_⟩
    rw [show stepY j=stepY k by omega]
    exact dst_still ky (by have:=(dst_to kx).2;omega)
  ·exact absurd (good_one hk hj (by omega) gk gj) hne
def Dir (W H:Int) (bl:Nat->Bool) (a b:Int):Prop:=(∃ z,On W H bl a b z)/\∀ k,On W H bl a b k->CornC W H bl k->k=a\/k=b
section
variable {W H : Int} {bl : Nat → Bool} {a b : Int}
theorem wk_in' {s d:Int}(w1:1<=W)(ha:inB W H a=true)(h:Wk (Edge W H bl) a b s d):inB W H b=true:=by
 rcases h.inv with ⟨e,_⟩|⟨_,_,_,_,_,e,_⟩
 ·rw [e];exact ha
 ·exact e.in' w1
theorem On.trans (w1:1<=W)(hS:octS W a b<=1000)(hD:octD W a b<=1000){k z:Int}(h:On W H bl a b k)(g:On W H bl a k z):On W H bl a b z:=by
 obtain ⟨h1,h2,h3,h4⟩:=h.walks w1 hS hD
 have n1:=octS_nonneg W b k
 have n2:=octD_nonneg W b k
 obtain ⟨g1,g2,g3,g4⟩:=g.walks w1 (by omega) (by omega)
 exact On.of_walks w1 hS hD g1 (Wk.join h2 g2) (by omega) (by omega)
theorem dst_zero {x y:Int}(h:dst x y=0):x=y:=by
 unfold dst at h
 split at h <;> omega
theorem les_zero {x y:Int}(h:les x y=0)(e:x=y):x=0:=by
 unfold les at h
 split at h <;> omega
theorem oct_zero (hS:octS W a b=0)(hD:octD W a b=0):a=b:=by
 have h1:=dst_zero hS
 have h2:=les_zero hD h1
 have e1:a % W=b % W:=dst_zero h2
 have e2:a / W=b / W:=dst_zero (h1.symm.trans h2)
 rw [<- Int.emod_add_mul_ediv a W,<- Int.emod_add_mul_ediv b W,e1,e2]
theorem Dir.full (w1:1<=W)(hS:octS W a b<=1000)(hD:octD W a b<=1000)(hd:Dir W H bl a b) :
  ∀ (n:Nat) (p:Int),On W H bl a b p->octS W p b+octD W p b<=n->∀ k,k<8->Good (p % W) (p / W) (b % W) (b / W) k->∃ r,Edge W H bl p k r/\On W H bl a b r:=by
 intro n
 induction n with
 |zero =>
  intro p hp hn k hk g
  have n1:=octS_nonneg W p b
  have n2:=octD_nonneg W p b
  have:=oct_zero (W:=W) (a:=p) (b:=b) (by omega) (by omega)
  rw [this] at g
  exact absurd g (good_end hk)
 |succ n ih =>
  intro p hp hn k hk g
  have hpb:p≠b:=fun e=>by rw [e] at g;exact good_end hk g
  obtain ⟨j,q,ej,gj,hq⟩:=On.next w1 hS hD hp hpb
  by_cases hkj:k=j
  ·exact ⟨q,hkj ▸ ej,hq⟩
  ·have hj:=ej.1
   obtain ⟨adj,gk⟩:=good_adj hj hk hkj gj g
   obtain ⟨q1,q2⟩:=ej.place w1
   rw [<- q1,<- q2] at gk
   obtain ⟨i1,i2⟩:=(good_iff w1 ej).1 gj
   have sj:=st_bd j
   obtain ⟨s,es,hs⟩:=ih q hq (by omega) k hk gk
   obtain ⟨p1,p2,p3,p4⟩:=hp.walks w1 hS hD
   have hnc:¬ CornC W H bl q:=fun hc=>by
    rcases hd.2 q hq hc with e|e
    ·rw [e] at i1 i2
     have:=octS_nonneg W a p
     have:=octD_nonneg W a p
     rw [octS_comm W p b] at i1
     rw [octD_comm W p b] at i2
     omega
    ·rw [e] at gk;exact good_end hk gk
   have m1:=ej.2.2.1
   have m2:=es.2.2.1
   rw [q1,q2] at m2
   rcases turn1 hj adj m1 m2 with hc|⟨m3,m4⟩
   ·exact absurd (by unfold CornC;rw [q1,q2];exact hc) hnc
   ·have er:Edge W H bl p k (p+(stepY k*W+stepX k)):=⟨hk,ej.2.1,m3,rfl⟩
    obtain ⟨r1,r2⟩:=er.place w1
    have hin:=er.in' w1
    have hse:s=p+(stepY k*W+stepX k)+(stepY j*W+stepX j):=by
     rw [es.2.2.2,ej.2.2.2]
     generalize stepY k*W=A
     generalize stepY j*W=B
     omega
    have e2:Edge W H bl (p+(stepY k*W+stepX k)) j s:=⟨hj,hin,by rw [r1,r2];exact m4,hse⟩
    obtain ⟨j',eb,b1,b2⟩:=Edge.back w1 _ _ _ e2
    obtain ⟨s1,s2,s3,s4⟩:=hs.walks w1 hS hD
    obtain ⟨k1,k2⟩:=(good_iff w1 es).1 gk
    refine ⟨_,er,On.of_walks w1 hS hD (p1.step er) (s2.step eb) ?_ ?_⟩
    ·rw [b1,octS_comm W b s]
     rw [octS_comm W p b] at i1
     omega
    ·rw [b2,octD_comm W b s]
     rw [octD_comm W p b] at i2
     omega
theorem Dir.sub (w1:1<=W)(hS:octS W a b<=1000)(hD:octD W a b<=1000)(hd:Dir W H bl a b){k:Int}(h:On W H bl a b k):Dir W H bl k a:=by
 obtain ⟨h1,h2,h3,h4⟩:=h.walks w1 hS hD
 have n1:=octS_nonneg W b k
 have n2:=octD_nonneg W b k
 obtain ⟨z,hz⟩:=On.near_a w1 hS hD (by omega) (by omega) h
 refine ⟨⟨z,hz.sym⟩,fun y hy hc=>?_⟩
 rcases hd.2 y (On.trans w1 hS hD h hy.sym) hc with e|e
 ·exact Or.inr e
 ·left
  rw [e] at hy ⊢
  obtain ⟨g1,g2,g3,g4⟩:=hy.sym.walks w1 (by omega) (by omega)
  have m1:=octS_nonneg W k b
  have m2:=octD_nonneg W k b
  exact oct_zero (W:=W) (by rw [octS_comm W b k];omega) (by rw [octD_comm W b k];omega)
theorem Dir.sym (h:Dir W H bl a b):Dir W H bl b a :=
 ⟨h.1.elim fun z hz=>⟨z,hz.sym⟩,fun k hk hc=>(h.2 k hk.sym hc).symm⟩
theorem Dir.self (w1:1<=W):Dir W H bl a a:=by
 have z1:octS W a a<=1000:=by rw [octS_self];omega
 have z2:octD W a a<=1000:=by rw [octD_self];omega
 refine ⟨⟨a,Tw.nil,Tw.nil⟩,fun k hk _=>?_⟩
 obtain ⟨g1,g2,g3,g4⟩:=hk.walks w1 z1 z2
 rw [octS_self] at g3
 rw [octD_self] at g4
 have m1:=octS_nonneg W a k
 have m2:=octD_nonneg W a k
 exact Or.inl (oct_zero (W:=W) (by omega) (by omega)).symm
end
def Blk (W c p:Int):Prop:=p % W - 1<=c % W/\c % W<=p % W+1/\p / W - 1<=c / W/\c / W<=p / W+1
section
variable {W H c0 : Int} {bl bl' : Nat → Bool}
theorem far_open (hbl:∀ n:Nat,(n:Int)≠c0->bl n=bl' n){x y:Int}(h:¬ (x=c0 % W/\y=c0 / W)):openB W H bl x y=openB W H bl' x y:=by
 unfold openB
 cases ha:atB W H x y with
 |false=>rfl
 |true =>
  have q:0<=x/\x<W/\0<=y/\y<H:=of_decide_eq_true ha
  have hm:0<=y*W:=Int.mul_nonneg q.2.2.1 (by omega)
  have e:bl (y*W+x).toNat=bl' (y*W+x).toNat:=hbl _ (fun e=>h (by
   rw [Int.toNat_of_nonneg (by omega)] at e
   rw [<- e]
   constructor
   ·rw [Int.add_comm,Int.add_mul_emod_self_right];exact (Int.emod_eq_of_lt q.1 q.2.1).symm
   ·rw [Int.add_comm,Int.add_mul_ediv_right _ _ (by omega),Int.ediv_eq_zero_of_lt q.1 q.2.1];omega))
  rw [e]
theorem far_may (hbl:∀ n:Nat,(n:Int)≠c0->bl n=bl' n){p:Int}(h:¬ Blk W c0 p){k:Nat}(hk:k<8):mayB W H bl (p % W) (p / W) k=mayB W H bl' (p % W) (p / W) k:=by
 obtain ⟨u1,u2,_⟩:=step_unit k hk
 have f:∀ s t:Int,(s=-1\/s=0\/s=1)->(t=-1\/t=0\/t=1)->openB W H bl (p % W+s) (p / W+t)=openB W H bl' (p % W+s) (p / W+t):=fun s t hs ht=>far_open hbl (fun ⟨e1,e2⟩=>h (by unfold Blk;omega))
 have f0:=f 0 0 (by omega) (by omega)
 have f1:=f (stepX k) 0 u1 (by omega)
 have f2:=f 0 (stepY k) (by omega) u2
 have f3:=f _ _ u1 u2
 rw [Int.add_zero] at f1 f2
 rw [Int.add_zero,Int.add_zero] at f0
 unfold mayB
 rw [f0,f1,f2,f3]
theorem far_corn (hbl:∀ n:Nat,(n:Int)≠c0->bl n=bl' n){p:Int}(h:¬ Blk W c0 p):CornC W H bl p->CornC W H bl' p:=by
 have f:∀ s t:Int,(s=-1\/s=0\/s=1)->(t=-1\/t=0\/t=1)->openB W H bl (p % W+s) (p / W+t)=openB W H bl' (p % W+s) (p / W+t):=fun s t hs ht=>far_open hbl (fun ⟨e1,e2⟩=>h (by unfold Blk;omega))
 rintro ⟨h0,k,hk,hp,h1,h2,h3⟩
 obtain ⟨u1,u2,_⟩:=step_unit k hk
 have f0:=f 0 0 (by omega) (by omega)
 have f1:=f (stepX k) 0 u1 (by omega)
 have f2:=f 0 (stepY k) (by omega) u2
 have f3:=f _ _ u1 u2
 rw [Int.add_zero] at f1 f2
 rw [Int.add_zero,Int.add_zero] at f0
 exact ⟨f0 ▸ h0,k,hk,hp,f3 ▸ h1,f1 ▸ h2,f2 ▸ h3⟩
theorem edge_kept (hbl:∀ n:Nat,(n:Int)≠c0->bl n=bl' n)(w1:1<=W){c d:Int}(hS:octS W c d<=1000)(hD:octD W c d<=1000)(hc:inB W H c=true)(hf:bl c.toNat=false)(hd:CornC W H bl d)(h:Dir W H bl c d)
  (hno:∀ p,inB W H p=true->bl p.toNat=false->Blk W c0 p->¬ Dir W H bl p c):CornC W H bl' d/\Dir W H bl' c d:=by
 have far:∀ p,On W H bl c d p->¬ Blk W c0 p:=fun p hp hB=>hno p (wk_in' w1 hc (hp.walks w1 hS hD).1) (hp.free w1 hS hD hf) hB (h.sub w1 hS hD hp)
 have mv:∀ p k r,On W H bl c d p->Edge W H bl p k r->Edge W H bl' p k r:=fun p k r hp e=>⟨e.1,e.2.1,by rw [<- far_may hbl (far p hp) e.1];exact e.2.2.1,e.2.2.2⟩
 have vm:∀ p k r,On W H bl c d p->Edge W H bl' p k r->Edge W H bl p k r:=fun p k r hp e=>⟨e.1,e.2.1,by rw [far_may hbl (far p hp) e.1];exact e.2.2.1,e.2.2.2⟩
 obtain ⟨z,hz⟩:=h.1
 obtain ⟨oc,od,_⟩:=hz.ends w1 hS hD
 -- forth: by the steps that bring one nearer, all of which may be gone
 have hS':octS W d c<=1000:=by rw [octS_comm];exact hS
 have hD':octD W d c<=1000:=by rw [octD_comm];exact hD
 have fwd:∀ p,Tw W H bl' c d p->On W H bl c d p:=fun p hp=>hp (fun p=>On W H bl c d p) oc (fun p k r hp e g=>by
  obtain ⟨r',e',hr⟩:=h.full w1 hS hD (octS W p d+octD W p d).toNat p hp (by omega) k e.1 g
  rw [e.2.2.2,<- e'.2.2.2];exact hr)
 have thr:∀ p,On W H bl c d p->Tw W H bl' c d p:=by
  intro p hp
  -- walk back to the beginning
  have key:∀ (n:Nat) (p:Int),On W H bl c d p->octS W c p+octD W c p<=n->Tw W H bl' c d p:=by
   intro n
   induction n with
   |zero =>
    intro p hp hn
    have n1:=octS_nonneg W c p
    have n2:=octD_nonneg W c p
    rw [<- oct_zero (W:=W) (a:=c) (b:=p) (by omega) (by omega)]
    exact Tw.nil
   |succ n ih =>
    intro p hp hn
    by_cases e:p=c
    ·rw [e];exact Tw.nil
    ·obtain ⟨j,q,ej,gj,hq⟩:=On.next w1 hS' hD' hp.sym e
     have hq:=hq.sym
     obtain ⟨i1,i2⟩:=(good_iff w1 ej).1 gj
     have sj:=st_bd j
     rw [octS_comm W q c,octS_comm W p c] at i1
     rw [octD_comm W q c,octD_comm W p c] at i2
     obtain ⟨j',eb,b1,b2⟩:=Edge.back w1 _ _ _ ej
     have tq:=ih q hq (by omega)
     obtain ⟨q1,q2,q3,q4⟩:=hq.walks w1 hS hD
     obtain ⟨p1,p2,p3,p4⟩:=hp.walks w1 hS hD
     refine tq.step (mv q j' p hq eb) ((good_iff w1 eb).2 ?_)
     rw [b1,b2,octS_comm W p d,octS_comm W q d,octD_comm W p d,octD_comm W q d]
     omega
  exact key (octS W c p+octD W c p).toNat p hp (by omega)
 have rht:∀ p,On W H bl c d p->Tw W H bl' d c p:=by
  have key:∀ (n:Nat) (p:Int),On W H bl c d p->octS W p d+octD W p d<=n->Tw W H bl' d c p:=by
   intro n
   induction n with
   |zero =>
    intro p hp hn
    have n1:=octS_nonneg W p d
    have n2:=octD_nonneg W p d
    rw [oct_zero (W:=W) (a:=p) (b:=d) (by omega) (by omega)]
    exact Tw.nil
   |succ n ih =>
    intro p hp hn
    by_cases e:p=d
    ·rw [e];exact Tw.nil
    ·obtain ⟨j,q,ej,gj,hq⟩:=On.next w1 hS hD hp e
     obtain ⟨i1,i2⟩:=(good_iff w1 ej).1 gj
     have sj:=st_bd j
     obtain ⟨j',eb,b1,b2⟩:=Edge.back w1 _ _ _ ej
     have tq:=ih q hq (by omega)
     obtain ⟨q1,q2,q3,q4⟩:=hq.walks w1 hS hD
     obtain ⟨p1,p2,p3,p4⟩:=hp.walks w1 hS hD
     refine tq.step (mv q j' p hq eb) ((good_iff w1 eb).2 ?_)
     rw [b1,b2,octS_comm W p c,octS_comm W q c,octD_comm W p c,octD_comm W q c]
     rw [octS_comm W q d,octS_comm W p d] at i1
     rw [octD_comm W q d,octD_comm W p d] at i2
     omega
  exact fun p hp=>key (octS W p d+octD W p d).toNat p hp (by omega)
 refine ⟨far_corn hbl (far d od) hd,⟨z,thr z hz,rht z hz⟩,fun k hk hcn=>?_⟩
 have hk':=fwd k hk.1
 exact h.2 k hk' (far_corn (fun n hn=>(hbl n hn).symm) (far k hk') hcn)
end
end
end Go.Proofs.YtipbhlofbpnpjaaGreatDoor
