/- -/
import Derived.Test.YtipbhlofbpnpjaaGreatDoorIsl
import Derived.Test.YtipbhlofbpnpjaaGreatDoorP11
namespace Go.Proofs.YtipbhlofbpnpjaaGreatDoor
open Go.RowKit Go.Lib
set_option maxHeartbeats 8000000 in
set_option maxRecDepth 1000000 in
theorem topIsland_any (W H most:Int)(A:Option Addr)(n cap:Nat)(xs:Nat->Int)(from_:Int)(w:World)(E:Env w)(s:StepsAt w)(dg:DiagAt w)(hm:n<=maxLen)(hx:OldRow w A n xs) :
  Calls Tryz.prog 13 #[.agg #[.int .i64 W,.int .i64 H,.slice A n cap],.int .i64 most,.int .i64 from_] w fun e w'=>e=.returned (.bool true)/\Below w.heap.size w w':=by
 have hsp:=s.pos
 have b0:Below w.heap.size w (w.alloc (.cells #[.int .i64 W,.int .i64 H,.slice A n cap] 24)):=(Below.refl _ _).alloc (Nat.le_refl _) _
 have q:∀ o,(w.alloc (.cells #[.int .i64 W,.int .i64 H,.slice A n cap] 24)).cell? ⟨w.heap.size,o,none⟩=#[Value.int .i64 W,.int .i64 H,.slice A n cap][o]? := fun o=>World.cell?_alloc_new ..
 have hwk:=works_any _ (s.below b0 (by omega)) (dg.below b0)
 go_enter Tryz.func13,Tryz.ntmps13
 go_wp2_with fail
 have hz0:w.heap.size<(w.alloc (.cells #[.int .i64 W,.int .i64 H,.slice A n cap] 24)).heap.size:=by simp
 generalize w.alloc (.cells #[.int .i64 W,.int .i64 H,.slice A n cap] 24)=wa at *
 refine hwk.mono ?_
 rintro e wb ⟨rfl,hb1⟩
 have B1:=b0.trans (hb1.mono b0.size)
 have c0:=(hb1.cell (p:=⟨w.heap.size,0,none⟩) hz0).trans (q 0)
 have c1:=(hb1.cell (p:=⟨w.heap.size,1,none⟩) hz0).trans (q 1)
 have c2:=(hb1.cell (p:=⟨w.heap.size,2,none⟩) hz0).trans (q 2)
 have hsv:=serve_any W H most A n cap xs wb (E.grown B1) (s.below B1 (by omega)) hm (hx.below B1)
 clear hwk q b0 hb1 hz0
 go_wp2_with fail
 refine hsv.mono ?_
 rintro e wc ⟨hb2,hcs⟩
 have B2:=B1.trans (hb2.mono B1.size)
 clear hsv c0 c1 c2
 rcases hcs with ⟨p,rfl⟩|⟨sb,mb,lo,Wn,Hn,mN,V,bl,rfl,rfl,rfl,rfl,hmb,SR⟩
 ·go_wp2
  go_quiet (fail)
  go_wp2
  go_ret
  exact ⟨rfl,below_drewN B2 _⟩
 ·obtain ⟨WS,hWS⟩:∃ WS,WS=wc:=⟨_,rfl⟩
  subst hWS
  have hS:=SR.sv
  have hR:=SR.ra
  have ra0:=hR.c0
  have ra1:=hR.c1
  have lmb:=World.block_lt_of_cell? _ _ ra0
  have dC:=dg.below B2
  obtain ⟨w1,w2,h1,h2⟩:=hS.side
  obtain ⟨i0,hi',hz0,hz1,hz2⟩:=info_parts Tryz.info3
  have hwh:=wh_bd w1 w2 h1 h2
  have hwr:IntKind.i64.wrap ((Wn:Int)*(Hn:Int))=(Wn:Int)*(Hn:Int):=wrap_small (by omega) (by omega)
  have HEV:Hid (Eqv Wn Hn (nrm Wn Hn bl) bl):=nrm_eqv bl
  clear SR
  by_cases h64:64<(Wn:Int)*(Hn:Int)
  ·have d1:decide (64<(Wn:Int)*(Hn:Int))=true:=decide_eq_true h64
   clear hS hR
   go_wp2_with fail
   go_quiet (fail)
   go_wp2
   go_ret
   exact ⟨rfl,below_drewN B2 _⟩
  go_upto_region 5 with fail
  have d1:decide (64<(Wn:Int)*(Hn:Int))=false:=decide_eq_false (by omega)
  go_cut [45] from 26 to 45 (fun b wd=>b=.bool (decide (0<ffv Wn Hn bl from_))/\Below WS.heap.size WS wd)
  case first =>
   have e0:Below WS.heap.size WS WS.drew:=(Below.refl _ _).drew
   have hff:=ff_any from_ WS.drew (hR.below e0 lmb)
   generalize ffv Wn Hn bl from_=fv at *
   have CC:Hid (∀ w',Below WS.heap.size WS w'->w'.cell? ⟨mb,0,none⟩=some (.int .i64 (Wn:Int))/\w'.cell? ⟨mb,1,none⟩=some (.int .i64 (Hn:Int))):=fun w' h=>⟨(h.cell (World.block_lt_of_cell? WS _ ra0)).trans ra0,(h.cell (World.block_lt_of_cell? WS _ ra1)).trans ra1⟩
   clear hS hR ra0 ra1
   go_region_held3 (fun w'=>w'.cell? ⟨mb,0,none⟩=some (.int .i64 (Wn:Int))/\w'.cell? ⟨mb,1,none⟩=some (.int .i64 (Hn:Int))) (first|with_reducible exact CC.out _ e0|with_reducible exact CC.out _ e5)
    (first|(go_at_call 37;refine hff.mono ?_;rintro r w5 ⟨rfl,hb5⟩;have e5:=e0.trans (hb5.mono e0.size)))
   go_wp2_with fail
   go_meet
   exact ⟨rfl,e5⟩
  case rest =>
   obtain ⟨rfl,hb3⟩:=hcut
   obtain ⟨w3,hw3⟩:∃ w3,w3=wc:=⟨_,rfl⟩
   subst hw3
   have B3:=B2.trans (hb3.mono B2.size)
   by_cases hf0:0<ffv Wn Hn bl from_
   ·have d2:decide (0<ffv Wn Hn bl from_)=true:=decide_eq_true hf0
    clear hS hR
    go_wp2
    go_ret
    exact ⟨rfl,B3⟩
   have d2:decide (0<ffv Wn Hn bl from_)=false:=decide_eq_false hf0
   have hffz:ffv Wn Hn (nrm Wn Hn bl) from_=0:=by
    rw [HEV.out.ffv]
    unfold ffv at hf0 ⊢
    split <;> (try split) <;> simp_all
   have HER:Hid (IsR Wn Hn (nrm Wn Hn bl) from_ from_):=IsR.self hffz
   have hfin:0<=from_/\from_<(Wn:Int)*(Hn:Int):=by
    obtain ⟨⟨hi,_⟩,_⟩:=ff2_ok HER.out.1
    exact of_decide_eq_true hi
   rw [d2]
   clear hf0 d2 hffz d1
   have S3:=hS.below hb3
   have R3:=hR.below hb3 lmb
   have d3:=dC.below hb3
   have lm3:=Nat.lt_of_lt_of_le lmb hb3.size
   have HRC:Hid (∀ w',Below w3.heap.size w3 w'->w'.cell? ⟨mb,0,none⟩=some (.int .i64 (Wn:Int))/\w'.cell? ⟨mb,1,none⟩=some (.int .i64 (Hn:Int))/\∀ i,i<256->w'.cell? ⟨mb,2+i,none⟩=some (.bool (bl i))):=fun w' h=>⟨(R3.below h lm3).c0,(R3.below h lm3).c1,(R3.below h lm3).cs⟩
   generalize nrm Wn Hn bl=nb at *
   have HA:Hid (∀ w',Below w3.heap.size w3 w'->∀ a t,_):=fun w' hb a t=>ask_rt a t w' (S3.below hb) (d3.below hb)
   have HST:Hid (∀ w',Below w3.heap.size w3 w'->_):=fun w' hb=>stats_any w' (S3.below hb)
   have hw256:(Wn:Int)*(Hn:Int)<=256:=by omega
   obtain ⟨wh,hwhE⟩:∃ wh:Nat,(Wn:Int)*(Hn:Int)=(wh:Int):=⟨Wn*Hn,by rw [Int.natCast_mul]⟩
   have HWH:Hid ((Wn:Int)*(Hn:Int)=(wh:Int)):=hwhE
   have hwn:wh<=256:=by omega
   have HLT:Hid (∀ k:Nat,((k:Int)<(Wn:Int)*(Hn:Int)↔k<wh)):=fun k=>by rw [HWH.out];omega
   have hfin2:0<=from_/\from_<(wh:Int):=by rw [hwhE] at hfin;exact hfin
   clear hS hR dC S3 R3 d3 ra0 ra1 hwhE hwh hw256 h64 hfin
   go_wp2
   go_loopw [10,11,12] (fun v fv iv wr=>∃ k:Nat,k<=wh/\iv=.int .i64 k/\fv=.int .i64 ((frN nb k:Nat):Int)/\wr.ownsRow w3.heap.size 3 1 v (isl Wn Hn nb from_ k).length (vals (isl Wn Hn nb from_ k))/\Below w3.heap.size w3 wr)
    (fun _ _ i _=>wh - (intOf i).toNat)
   case atStart=>exact ⟨0,Nat.zero_le _,rfl,rfl,World.ownsRow_nil _ _ _ _,Below.refl _ _⟩
   case round =>
    obtain ⟨k,hk,rfl,rfl,hown,hB⟩:=hrel
    obtain ⟨rc0,rc1,rcs⟩:=HRC.out _ hB
    have hfl:=frN_le nb k
    have hil:=isl_len (W:=Wn) (H:=Hn) (bl:=nb) (a:=from_) (k:=k)
    by_cases hlt:k<wh
    ·have d1:decide ((k:Int)<(Wn:Int)*(Hn:Int))=true:=decide_eq_true ((HLT.out k).2 hlt)
     have k256:k<256:=by omega
     have rck:=rcs k k256
     have hbk:bl k=nb k:=(HEV.out k ((HLT.out k).2 hlt)).symm
     rw [hbk] at rck
     go_upto_region 10 with fail
     go_cut [56] from 46 to 56 (fun b wd=>b=.bool true/\Below wr.heap.size wr wd)
     case first =>
      clear hown rck
      go_quiet (fail)
      go_wp2_with fail
      go_meet
      exact ⟨rfl,below_drewN (Below.refl _ _) _⟩
     case rest =>
      obtain ⟨rfl,hbq⟩:=hcut
      obtain ⟨wq,hwq⟩:∃ wq,wq=wc:=⟨_,rfl⟩
      subst hwq
      have Bq:=hB.trans (hbq.mono hB.size)
      have oq:=own_below hown hbq
      have rq:=(hbq.cell (World.block_lt_of_cell? _ _ rck)).trans rck
      have hak:=HA.out _ Bq from_ (k:Int)
      clear rc0 rc1 rcs rck hown d1 hbk hB hbq
      go_wp2_with fail
      refine hak.mono ?_
      rintro e w5 ⟨A5,cap5,way,s5,d5,r5,rfl,_,_,hA5,hR5,hb5⟩
      have hP:=AskP.er ⟨hA5,hR5⟩
      have B5:=Bq.trans (hb5.mono Bq.size)
      have o5:=own_below oq hb5
      have r5':=(hb5.cell (World.block_lt_of_cell? _ _ rq)).trans rq
      have z5:=B5.size
      have qE:=fldE
      have k0:(0:Int)<=(k:Int):=by omega
      have k1:(k:Int)<256:=by omega
      clear hak hA5 hR5 hb5 oq rq Bq
      cases her:erB Wn Hn nb from_ (k:Int) with
      |true =>
       have HS:Hid (isl Wn Hn nb from_ (k+1)=isl Wn Hn nb from_ k++[k]):=isl_yes her
       have hr0:r5=0:=beq_iff_eq.1 (hP.trans her)
       have hnk:nb k=false:=by
        obtain ⟨_,⟨_,i4⟩⟩:=ff2_ok (erB_iff.1 her).1
        rw [Int.toNat_natCast] at i4
        exact i4
       have HF:Hid (frN nb (k+1)=frN nb k+1):=frN_no hnk
       have HNK:Hid (nb k=false):=hnk
       rw [hnk] at r5'
       subst hr0
       clear her hP hnk
       generalize isl Wn Hn nb from_ k=L at *
       generalize frN nb k=F at *
       go_wp2_with (at_builtin;refine wpList_append_own _ rfl _ _ 22 rfl w3.heap.size 3 i0 (.int .i64 0) 1 8 Tryz.underlying22 hi' hz0 hz1 hz2 rfl (by decide) _ _ _ rfl (World.ownsRow.alloc o5 _) ⟨w5.heap.size,0,none⟩ 1 1 [.int .i64 k] rfl rfl ?c1 ?c2 ?c3 ?c4 ?c5 ?_)
       case c1 =>
        intro j u hj
        match j,hj with
        |0,hj =>
         simp at hj;subst hj;simp only [Addr.add]
         exact World.cell?_alloc_at (w:=w5) #[.int .i64 k] 3 w5.heap.size 0 rfl
       case c2=>intro u hu;simp at hu;subst hu;rfl
       case c3=>unfold maxLen;omega
       case c4=>omega
       case c5=>simp;omega
       intro v' w6 hown' hgrow _
       have hbase:=fun q hq=>(o5.lt q hq).1
       have B6:Below w3.heap.size w3 w6:=(B5.alloc z5 _).grown hgrow (by simp;omega) hbase
       have O6:w6.ownsRow w3.heap.size 3 1 v' (isl Wn Hn nb from_ (k+1)).length (vals (isl Wn Hn nb from_ (k+1))):=by
        rw [HS.out]
        simpa [vals] using hown'
       have HF6:Hid (((frN nb (k+1):Nat):Int)=(F:Int)+1):=by
        show ((frN nb (k+1):Nat):Int)=_
        rw [HF.out];omega
       obtain ⟨_,_,rcs6⟩:=HRC.out _ B6
       have r6:=rcs6 k k256
       have hbk6:bl k=false:=by rw [<- HEV.out k ((HLT.out k).2 hlt)];exact HNK.out
       rw [hbk6] at r6
       clear hown' hgrow o5 B5 r5' rcs6 qE hbk6
       go_wp2
       go_roundw
       case rel=>exact ⟨k+1,by omega,by go_num,by rw [HF6.out],O6,B6⟩
       case measure=>simp [intOf];omega
      |false =>
       have HS:Hid (isl Wn Hn nb from_ (k+1)=isl Wn Hn nb from_ k):=isl_no her
       have hr0:(r5 == 0)=false:=hP.trans her
       have hr1:¬ r5=0:=beq_eq_false_iff_ne.1 hr0
       have O6:=o5
       rw [<- HS.out] at O6
       clear her hP o5
       cases hnk:nb k with
       |true =>
        have HF:Hid (frN nb (k+1)=frN nb k):=frN_yes hnk
        rw [hnk] at r5'
        clear hnk
        go_wp2
        go_roundw
        case rel=>exact ⟨k+1,by omega,by go_num,by rw [HF.out],O6,B5⟩
        case measure=>simp [intOf];omega
       |false =>
        have HF:Hid (frN nb (k+1)=frN nb k+1):=frN_no hnk
        have HF6:Hid (((frN nb (k+1):Nat):Int)=((frN nb k:Nat):Int)+1):=by
         show ((frN nb (k+1):Nat):Int)=_
         rw [HF.out];omega
        rw [hnk] at r5'
        clear hnk
        generalize frN nb k=F at *
        go_wp2
        go_roundw
        case rel=>exact ⟨k+1,by omega,by go_num,by rw [HF6.out],O6,B5⟩
        case measure=>simp [intOf];omega
    ·have e:k=wh:=by omega
     subst e
     have d1:decide ((k:Int)<(Wn:Int)*(Hn:Int))=false:=decide_eq_false (fun h=>hlt ((HLT.out k).1 h))
     have hmem:∀ n:Nat,n ∈ isl Wn Hn nb from_ k↔n<k/\IsR Wn Hn nb from_ (n:Int):=fun n=>isl_mem
     have HM:Hid (∀ n:Nat,n ∈ isl Wn Hn nb from_ k↔n<k/\IsR Wn Hn nb from_ (n:Int)):=hmem
     have hle:=isl_le (W:=Wn) (H:=Hn) (bl:=nb) (a:=from_) k
     have hpos:0<(isl Wn Hn nb from_ k).length:=by
      have h:from_.toNat ∈ isl Wn Hn nb from_ k:=(hmem _).2 ⟨by omega,by rw [Int.toNat_of_nonneg hfin2.1];exact HER.out⟩
      exact List.length_pos_of_mem h
     have HFR:Hid (frN nb ((Wn:Int)*(Hn:Int)).toNat=frN nb k):=by
      show frN nb ((Wn:Int)*(Hn:Int)).toNat=frN nb k
      rw [HWH.out,Int.toNat_natCast]
     generalize isl Wn Hn nb from_ k=L at *
     obtain ⟨A,capA,rfl,hOL,_⟩:=oldRow_of hown
     have HOL:Hid (OldRow wr A L.length (fun i=>((L.getD i 0:Nat):Int))):=hOL
     go_upto_region 10 with fail
     go_cut [56] from 46 to 56 (fun b wd=>b=.bool false/\Below wr.heap.size wr wd)
     case first =>
      clear hown hOL
      go_quiet (fail)
      go_wp2_with fail
      go_meet
      exact ⟨rfl,below_drewN (Below.refl _ _) _⟩
     case rest =>
      obtain ⟨rfl,hbq⟩:=hcut
      obtain ⟨wq,hwq⟩:∃ wq,wq=wc:=⟨_,rfl⟩
      subst hwq
      have Bq:=hB.trans (hbq.mono hB.size)
      have HOQ:Hid (OldRow wq A L.length (fun i=>((L.getD i 0:Nat):Int))):=HOL.out.below hbq
      have hst:=HST.out _ Bq
      unfold stV at hst
      rw [HFR.out] at hst
      generalize frN nb k=F at *
      have g1:((L.length:Int) == 0)=false:=beq_eq_false_iff_ne.2 (by omega)
      have g2:¬ L.length=0:=by omega
      have g3:¬ F<L.length:=by omega
      have g4:decide ((F:Int)<(L.length:Int))=false:=decide_eq_false (by omega)
      have qF:=fldF
      clear hown hOL rc0 rc1 rcs d1 hmem hlt hB hbq
      go_wp2_with fail
      refine hst.mono ?_
      rintro e w6 ⟨rfl,hb6⟩
      have B6:=Bq.trans (hb6.mono Bq.size)
      have HO6:Hid (OldRow w6 A L.length (fun i=>((L.getD i 0:Nat):Int))):=HOQ.out.below hb6
      clear hst
      go_wp2
      clear qF g1 g3 g4
      obtain ⟨n3,hn3⟩:∃ n3,n3=k:=⟨_,rfl⟩
      subst hn3
      obtain ⟨WR,hWR⟩:∃ WR,WR=wr:=⟨_,rfl⟩
      subst hWR
      go_loopw [13] (fun iv wr=>∃ k:Nat,k<=n3/\iv=.int .i64 k/\Below w6.heap.size w6 wr)
       (fun i _=>n3 - (intOf i).toNat)
      case atStart=>exact ⟨0,Nat.zero_le _,rfl,Below.refl _ _⟩
      case round =>
       obtain ⟨c,hc,rfl,hBc⟩:=hrel
       have BC:=B6.trans (hBc.mono B6.size)
       obtain ⟨rc0,rc1,_⟩:=HRC.out _ BC
       by_cases hlt:c<n3
       ·have d1:decide ((c:Int)<(Wn:Int)*(Hn:Int))=true:=decide_eq_true ((HLT.out c).2 hlt)
        go_upto_region 19 with fail
        go_cut [104] from 94 to 104 (fun b wd=>b=.bool true/\Below wr.heap.size wr wd)
        case first =>
         go_quiet (fail)
         go_wp2_with fail
         go_meet
         exact ⟨rfl,below_drewN (Below.refl _ _) _⟩
        case rest =>
         obtain ⟨rfl,hbq⟩:=hcut
         obtain ⟨wc2,hwc2⟩:∃ wc2,wc2=wc:=⟨_,rfl⟩
         subst hwc2
         have D2:=hBc.trans (hbq.mono hBc.size)
         obtain ⟨WC,hWC⟩:∃ WC,WC=wr:=⟨_,rfl⟩
         subst hWC
         clear rc0 rc1 d1
         go_wp2
         go_loopw [14,15] (fun mv iv wr=>∃ i:Nat,i<=L.length/\iv=.int .i64 i/\mv=.bool (decide (c ∈ L.take i))/\Below wc2.heap.size wc2 wr)
          (fun _ i _=>L.length - (intOf i).toNat)
         case atStart=>exact ⟨0,Nat.zero_le _,rfl,by simp,Below.refl _ _⟩
         case round =>
          obtain ⟨i,hi,rfl,rfl,hBi⟩:=hrel
          have DI:=D2.trans (hBi.mono D2.size)
          by_cases hil2:i<L.length
          ·have i1:(i:Int)<(L.length:Int):=by omega
           obtain ⟨bA,oA,rfl,hbA,f00⟩:=(HO6.out.below DI) i hil2
           have HT:Hid (decide (c ∈ L.take (i+1))=(decide (c ∈ L.take i) || decide (L.getD i 0=c))):=take_mem hil2
           obtain ⟨xN,hxN⟩:∃ xN,L.getD i 0=xN:=⟨_,rfl⟩
           have f0:wr.cell? ⟨bA,oA+i,none⟩=some (.int .i64 (xN:Int)):=by rw [<- hxN];exact f00
           rw [hxN] at HT
           clear hxN f00
           generalize hm:decide (c ∈ L.take i)=mv at *
           cases mv with
           |true =>
            have HT2:Hid (decide (c ∈ L.take (i+1))=true):=by rw [HT.out];rfl
            clear hm HT
            go_wp2
            go_roundw
            case rel=>exact ⟨i+1,by omega,by go_num,by rw [HT2.out],hBi⟩
            case measure=>simp [intOf];omega
           |false =>
            by_cases hx:xN=c
            ·have HT2:Hid (decide (c ∈ L.take (i+1))=true):=by rw [HT.out,decide_eq_true hx];rfl
             subst hx
             clear hm HT
             go_wp2
             go_roundw
             case rel=>exact ⟨i+1,by omega,by go_num,by rw [HT2.out],hBi⟩
             case measure=>simp [intOf];omega
            ·have HT2:Hid (decide (c ∈ L.take (i+1))=false):=by rw [HT.out,decide_eq_false hx];rfl
             have hx1:((xN:Int) == (c:Int))=false:=beq_eq_false_iff_ne.2 (by omega)
             clear hm HT
             go_wp2
             go_roundw
             case rel=>exact ⟨i+1,by omega,by go_num,by rw [HT2.out],hBi⟩
             case measure=>simp [intOf];omega
          ·have e:i=L.length:=by omega
           subst e
           have hdm:L.length / 2<L.length:=by omega
           obtain ⟨bA,oA,rfl,hbA,f00⟩:=(HO6.out.below DI) (L.length / 2) hdm
           obtain ⟨xN,hxN⟩:∃ xN,L.getD (L.length / 2) 0=xN:=⟨_,rfl⟩
           have hxm:xN ∈ L:=by
            rw [<- hxN,List.getD_eq_getElem?_getD,List.getElem?_eq_getElem hdm]
            exact List.getElem_mem hdm
           have f0:wr.cell? ⟨bA,oA+L.length / 2,none⟩=some (.int .i64 (xN:Int)):=by rw [<- hxN];exact f00
           have HTT:Hid (decide (c ∈ L.take L.length)=erB Wn Hn nb (xN:Int) (c:Int)):=by
            show decide (c ∈ L.take L.length)=erB Wn Hn nb (xN:Int) (c:Int)
            rw [List.take_length]
            have hv:IsR Wn Hn nb (xN:Int) (c:Int)↔IsR Wn Hn nb from_ (c:Int):=((HM.out xN).1 hxm).2.via w1
            cases he:erB Wn Hn nb (xN:Int) (c:Int) with
            |true=>exact decide_eq_true ((HM.out c).2 ⟨hlt,hv.1 (erB_iff.1 he)⟩)
            |false =>
             refine decide_eq_false (fun h=>?_)
             rw [erB_iff.2 (hv.2 ((HM.out c).1 h).2)] at he
             cases he
           have hq2:Int.tdiv (L.length:Int) 2=((L.length / 2:Nat):Int):=by
            rw [Int.tdiv_eq_ediv_of_nonneg (by omega)];omega
           have hq3:IntKind.i64.wrap ((L.length / 2:Nat):Int)=((L.length / 2:Nat):Int):=wrap_small (by omega) (by omega)
           rw [HTT.out]
           have hak:=HA.out _ (B6.trans (DI.mono B6.size)) (xN:Int) (c:Int)
           have hdm2:((L.length / 2:Nat):Int)<(L.length:Int):=by omega
           clear hxN f00 hxm
           generalize hhf:L.length / 2=hfN at *
           clear hhf
           go_wp2_with fail
           refine hak.mono ?_
           rintro e w8 ⟨A8,cap8,way,s8,d8,r8,rfl,_,_,hA8,hR8,hb8⟩
           have hP:=AskP.er ⟨hA8,hR8⟩
           have D8:=DI.trans (hb8.mono DI.size)
           have qE:=fldE
           generalize erB Wn Hn nb (xN:Int) (c:Int)=eb at *
           clear hak hA8 hR8 hb8 f0 hq2 hq3
           cases eb with
           |true =>
            have hr:r8=0:=beq_iff_eq.1 hP
            subst hr
            clear hP
            go_wp2
            go_roundw
            case rel=>exact ⟨c+1,by omega,by go_num,D8⟩
            case measure=>simp [intOf];omega
           |false =>
            have hr:¬ r8=0:=beq_eq_false_iff_ne.1 hP
            go_wp2
            go_roundw
            case rel=>exact ⟨c+1,by omega,by go_num,D8⟩
            case measure=>simp [intOf];omega
       ·have e:c=n3:=by omega
        subst e
        have d1:decide ((c:Int)<(Wn:Int)*(Hn:Int))=false:=decide_eq_false (fun h=>hlt ((HLT.out c).1 h))
        go_upto_region 19 with fail
        go_quiet (fail)
        go_wp2
        go_ret
        exact ⟨rfl,below_drewN (B3.trans (BC.mono B3.size)) _⟩
end Go.Proofs.YtipbhlofbpnpjaaGreatDoor
