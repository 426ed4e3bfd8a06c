/- -/
import Derived.Test.YtipbhlofbpnpjaaGreatDoorQ43
import Derived.Test.YtipbhlofbpnpjaaGreatDoorQ45
namespace Go.Proofs.YtipbhlofbpnpjaaGreatDoor
open Go.RowKit Go.Lib
set_option maxHeartbeats 8000000 in
set_option maxRecDepth 1000000 in
theorem topWalls_any (W H most:Int) (A:Option Addr) (n cap:Nat) (xs:Nat->Int) (A2:Option Addr) (n2 cap2:Nat) (ys:Nat->Int) (a b:Int) (w:World) (E:Env w) (s:StepsAt w) (dg:DiagAt w) (hm:n<=maxLen) (hx:OldRow w A n xs) (hq:OldRow w A2 n2 ys) :
  Calls Tryz.prog 8 #[.agg #[.int .i64 W,.int .i64 H,.slice A n cap],.int .i64 most,.slice A2 n2 cap2,.int .i64 a,.int .i64 b] w fun e w'=>e=.returned (.bool true)/\Below w.heap.size w w':=by
 have hsp:=s.pos
 have b0:Below w.heap.size w (w.alloc (.cells #[.int .i64 W,.int .i64 H,.slice A n cap] 24)):=(Below.refl _ _).alloc (Nat.le_refl _) _
 have q:∀ o,(w.alloc (.cells #[.int .i64 W,.int .i64 H,.slice A n cap] 24)).cell? ⟨w.heap.size,o,none⟩=#[Value.int .i64 W,.int .i64 H,.slice A n cap][o]? := fun o=>World.cell?_alloc_new ..
 have hwk:=works_any _ (s.below b0 (by omega)) (dg.below b0)
 go_enter Tryz.func8,Tryz.ntmps8
 go_wp2_with fail
 have hz0:w.heap.size < (w.alloc (.cells #[.int .i64 W,.int .i64 H,.slice A n cap] 24)).heap.size:=by simp
 generalize w.alloc (.cells #[.int .i64 W,.int .i64 H,.slice A n cap] 24)=wa at *
 refine hwk.mono ?_
 rintro e wb ⟨rfl,hb1⟩
 have B1:=b0.trans (hb1.mono b0.size)
 have c0:=(hb1.cell (p:=⟨w.heap.size,0,none⟩) hz0).trans (q 0)
 have c1:=(hb1.cell (p:=⟨w.heap.size,1,none⟩) hz0).trans (q 1)
 have c2:=(hb1.cell (p:=⟨w.heap.size,2,none⟩) hz0).trans (q 2)
 have hsv:=serve_any W H most A n cap xs wb (E.grown B1) (s.below B1 (by omega)) hm (hx.below B1)
 clear hwk q b0 hb1 hz0
 go_wp2_with fail
 refine hsv.mono ?_
 rintro e wc ⟨hb2,hcs⟩
 have B2:=B1.trans (hb2.mono B1.size)
 clear hsv c0 c1 c2
 rcases hcs with ⟨p,rfl⟩ | ⟨sb,mb,lo,Wn,Hn,mN,V,bl,rfl,rfl,rfl,rfl,hmb,SR⟩
 ·go_wp2
  go_ret
  exact ⟨rfl,B2⟩
 ·by_cases h40:(40:Int) < (n2:Int)
  ·clear SR
   go_wp2
   go_ret
   exact ⟨rfl,B2⟩
  ·have hR:=SR.ra
   have lmb:=World.block_lt_of_cell? _ _ hR.c0
   have hlow:w.heap.size < lo:=by have h1:=SR.lt;have h2:=B1.size;omega
   have z8:=E.z
   have hS:=SR.sv
   have dC:=dg.below B2
   obtain ⟨w1,w2,h1,h2⟩:=hS.side
   obtain ⟨m1,m6⟩:=hS.mst
   have HA:Hid (∀ w',Below wc.heap.size wc w'->∀ a t,_):=fun w' hb a t=>ask_rt a t w' (hS.below hb) (dC.below hb)
   obtain ⟨i0,hi',hz0,hz1,hz2⟩:=info_parts Tryz.infoD
   have hwh:=wh_bd w1 w2 h1 h2
   have hbk:=blocks_le ((List.range (Hn*Wn)).map bl)
   rw [List.length_map,List.length_range] at hbk
   have hbk2:((Hn*Wn:Nat):Int)<=256:=by rw [Nat.mul_comm,Int.natCast_mul];omega
   have v2:((blocks ((List.range (Hn*Wn)).map bl):Nat):Int)<=900000:=by omega
   have HRF:Hid (∀ w',Below wc.heap.size wc w'->RefAt w' mb Wn Hn V bl):=fun w' hb=>hR.below hb lmb
   have HSB:Hid (∀ w',Below wc.heap.size wc w'->Sv w' lo wc.heap.size sb Wn Hn (blocks ((List.range (Hn*Wn)).map bl)) (nrm Wn Hn bl) mN):=fun w' hb=>hS.below hb
   have HDB:Hid (∀ w',Below wc.heap.size wc w'->DiagAt w'):=fun w' hb=>dC.below hb
   have D0:Below wc.heap.size wc wc:=Below.refl _ _
   have hs0:0<=((blocks ((List.range (Hn*Wn)).map bl):Nat):Int):=by omega
   generalize nrm Wn Hn bl=nb at *
   generalize ((blocks ((List.range (Hn*Wn)).map bl):Nat):Int)=V0 at *
   clear SR hS hR hbk hbk2 dC
   go_wp2_with fail
   refine (HA.out _ D0 _ _).mono ?_
   rintro e v1 ⟨A1,cap1,way1,s1,d1,r1,rfl,own1,old1,ans1,rt1,hb1'⟩
   have E1:=D0.trans (hb1'.mono D0.size)
   have D1:Below wc.heap.size wc (v1.alloc (.cells #[.slice A1 way1.length cap1,.int .i64 s1,.int .i64 d1,.int .i64 r1] 41)):=E1.alloc E1.size _
   have n1:=An.new v1 (.slice A1 way1.length cap1) s1 d1 r1
   have g1:Below v1.heap.size v1 (v1.alloc (.cells #[.slice A1 way1.length cap1,.int .i64 s1,.int .i64 d1,.int .i64 r1] 41)):=(Below.refl _ _).alloc (Nat.le_refl _) _
   go_upto_region 8 with fail
   generalize v1.alloc (.cells #[.slice A1 way1.length cap1,.int .i64 s1,.int .i64 d1,.int .i64 r1] 41)=u1 at *
   have hP1:=E1.size
   generalize v1.heap.size=P1 at *
   have HOX:Hid (OldRow u1 A2 n2 ys):=(hq.below B2).below D1
   have HN1:Hid (An u1 P1 (.slice A1 way1.length cap1) s1 d1 r1):=n1
   have HR1:Hid (Rt Wn Hn nb a b way1 s1 d1 r1):=rt1
   clear own1 old1 ans1 g1 E1 hb1' n1 rt1
   go_wp2
   go_loopw [15,16] (fun lv iv wr=>∃ (i:Nat) (l:List (Int × Bool)),i<=n2/\l.length<=i/\iv=.int .i64 i/\wr.ownsRow u1.heap.size 62 2 lv l.length (edsV l)/\Hid (∀ x ∈ l,inB Wn Hn x.1=true/\x.1≠a/\x.1≠b/\x.2=true)/\Below u1.heap.size u1 wr)
    (fun _ i _=>n2 - (intOf i).toNat)
   case atStart=>exact ⟨0,[],Nat.zero_le _,Nat.le_refl _,rfl,World.ownsRow_nil _ _ _ _,fun x hx=>(by cases hx),Below.refl _ _⟩
   case round =>
    obtain ⟨i,l,hi,hli,rfl,hown,hal,hB⟩:=hrel
    have DB:=D1.trans (hB.mono D1.size)
    by_cases hlt:i < n2
    ·obtain ⟨bA,oA,rfl,hbA,f00⟩:=(HOX.out.below hB) i hlt
     have i1:(i:Int) < (n2:Int):=by omega
     generalize ys i=c at *
     by_cases hgood:inB Wn Hn c=true/\c≠a/\c≠b
     ·obtain ⟨hin,ca,cb⟩:=hgood
      have his:=ris_in c wr (HRF.out _ DB) hin
      have HIN:Hid (inB Wn Hn c=true/\c≠a/\c≠b):=⟨hin,ca,cb⟩
      clear hin
      go_wp2_with fail
      refine his.mono ?_
      rintro e w5 ⟨rfl,m5,hw5⟩
      have h5:Below wr.heap.size wr w5:=by rw [hw5];exact below_drewN (Below.refl _ _) _
      have f5:=(h5.cell (World.block_lt_of_cell? _ _ f00)).trans f00
      have own5:=own_below hown h5
      have B5:=hB.trans (h5.mono hB.size)
      have hz5:=B5.size
      have ca4:(c != a)=true:=bne_iff_ne.2 ca
      have cb4:(c != b)=true:=bne_iff_ne.2 cb
      clear hw5 his f00 hown hB ca cb
      go_wp2_with (at_builtin;refine wpList_append_own _ rfl _ _ 44 rfl u1.heap.size 62 i0 (.agg #[.int .i64 0,.bool false]) 2 16 Tryz.underD hi' hz0 hz1 hz2 rfl (by decide) _ _ _ rfl (own5.alloc _) ⟨w5.heap.size,0,none⟩ 1 1 [.int .i64 c,.bool true] rfl rfl (cell_two_new _ _ _ _) (by intro u hu;simp at hu;rcases hu with rfl | rfl <;> rfl) ?c3 ?c4 ?c5 ?_)
      case c3=>unfold maxLen;omega
      case c4=>omega
      case c5=>simp;omega
      intro v' w6 hown' hgrow _
      have hbase:=fun q hq=>(own5.lt q hq).1
      have B6:Below u1.heap.size u1 w6:=(B5.alloc hz5 _).grown hgrow (by simp;omega) hbase
      have O6:w6.ownsRow u1.heap.size 62 2 v' (l++[(c,true)]).length (edsV (l++[(c,true)])):=by
       rw [edsV_app]
       simpa [edsE] using hown'
      have HAL:Hid (∀ x ∈ l++[(c,true)],inB Wn Hn x.1=true/\x.1≠a/\x.1≠b/\x.2=true):=fun x hx=>by
       rcases List.mem_append.1 hx with h | h
       ·exact hal.out x h
       ·rw [List.mem_singleton] at h;rw [h];exact ⟨HIN.out.1,HIN.out.2.1,HIN.out.2.2,rfl⟩
      have hl6:(l++[(c,true)]).length<=i+1:=by rw [List.length_append,List.length_singleton];omega
      have HL6:Hid ((l++[(c,true)]).length<=i+1):=hl6
      clear hown' hgrow own5 B5 f5 hl6
      go_wp2
      go_roundw
      case rel=>exact ⟨i+1,_,by omega,HL6.out,by go_num,O6,HAL.out,B6⟩
      case measure=>simp [intOf];omega
     ·have go1:∀ w5,Below wr.heap.size wr w5->w5.ownsRow u1.heap.size 62 2 _ l.length (edsV l)/\Below u1.heap.size u1 w5/\w5.cell? ⟨bA,oA+i,none⟩=some (.int .i64 c):=fun w5 h5=>⟨own_below hown h5,hB.trans (h5.mono hB.size),(h5.cell (World.block_lt_of_cell? _ _ f00)).trans f00⟩
      have HG:Hid (∀ w5,Below wr.heap.size wr w5->_):=go1
      clear go1
      cases hin:inB Wn Hn c with
      | false =>
        have his:=ris_out c wr (HRF.out _ DB) hin
        clear hin hgood
        go_wp2_with fail
        refine his.mono ?_
        rintro e w5 ⟨rfl,m5,hw5⟩
        obtain ⟨o5,B5,f5⟩:=HG.out w5 (by rw [hw5];exact below_drewN (Below.refl _ _) _)
        clear hw5 his f00 hown hB HG
        go_wp2
        go_roundw
        case rel=>exact ⟨i+1,l,by omega,by omega,by go_num,o5,hal.out,B5⟩
        case measure=>simp [intOf];omega
      | true =>
        have his:=ris_in c wr (HRF.out _ DB) hin
        go_wp2_with fail
        refine his.mono ?_
        rintro e w5 ⟨rfl,m5,hw5⟩
        obtain ⟨o5,B5,f5⟩:=HG.out w5 (by rw [hw5];exact below_drewN (Below.refl _ _) _)
        clear hw5 his f00 hown hB HG
        by_cases ca:c=a
        ·clear hgood hin
         subst ca
         go_wp2
         go_roundw
         case rel=>exact ⟨i+1,l,by omega,by omega,by go_num,o5,hal.out,B5⟩
         case measure=>simp [intOf];omega
        ·have cb:c=b:=by
          by_cases cb:c=b
          ·exact cb
          ·exact absurd ⟨hin,ca,cb⟩ hgood
         clear hgood hin
         subst cb
         go_wp2
         go_roundw
         case rel=>exact ⟨i+1,l,by omega,by omega,by go_num,o5,hal.out,B5⟩
         case measure=>simp [intOf];omega
    ·have e:i=n2:=by omega
     subst e
     obtain ⟨Ae,ce,rfl,hOE,hbase⟩:=oldEd_of hown
     have hhi:wc.heap.size<=u1.heap.size:=D1.size
     have hed:=nedit_ok (cap:=ce) wr (HSB.out _ DB) hOE (fun b' o' e' h'=>by have:=hbase b' o' e';omega) (by omega) hs0 v2 (by omega) (fun j hj=>(hal.out _ (csL_mem hj)).1)
     have HMO:Hid (∀ m,nb m=true->edF nb (csL l) (bsL l) l.length m=true):=fun m hm=>edF_more (fun j hj=>(hal.out _ (csL_mem hj)).2.2.2) m hm
     have HFF:Hid (ff2 Wn Hn nb a b=ff2 Wn Hn (edF nb (csL l) (bsL l) l.length) a b):=ff2_same (edF_not (fun x hx=>⟨(hal.out x hx).1,(hal.out x hx).2.1⟩)) (edF_not (fun x hx=>⟨(hal.out x hx).1,(hal.out x hx).2.2.1⟩))
     generalize edF nb (csL l) (bsL l) l.length=nb2 at *
     clear hown hOE hbase hal
     go_wp2_with fail
     refine hed.mono ?_
     rintro e wE ⟨k,hk,rfl,SE,KE⟩
     have dE:=(HDB.out _ DB).keep KE (show ¬ (lo<=0/\0 < wc.heap.size) by omega)
     have nE:=(HN1.out.below hB).keep KE (show ¬ (lo<=P1/\P1 < wc.heap.size) by omega)
     have BE:Below w.heap.size w wE:=(B2.trans (DB.mono B2.size)).trans (KE.to_below (by have:=(B2.trans (DB.mono B2.size)).size;omega) (fun k h=>by omega))
     have hak:=ask_rt a b wE SE dE
     clear hed KE
     go_wp2_with fail
     refine hak.mono ?_
     rintro e v4 ⟨A4,cap4,way4,s4,d4,r4,rfl,_,_,_,rt4,hb4⟩
     have n4:=An.new v4 (.slice A4 way4.length cap4) s4 d4 r4
     have g4:Below v4.heap.size v4 (v4.alloc (.cells #[.slice A4 way4.length cap4,.int .i64 s4,.int .i64 d4,.int .i64 r4] 41)):=(Below.refl _ _).alloc (Nat.le_refl _) _
     have nE4:=(nE.below hb4).below g4
     have B4:=(BE.trans (hb4.mono BE.size)).trans (g4.mono (BE.trans (hb4.mono BE.size)).size)
     obtain ⟨hw1,hw2⟩:=HR1.out.walls rt4 HMO.out HFF.out
     have q1:=HR1.out.bd
     have q4:=rt4.bd
     go_upto_region 16 with fail
     generalize v4.alloc (.cells #[.slice A4 way4.length cap4,.int .i64 s4,.int .i64 d4,.int .i64 r4] 41)=u4 at *
     generalize v4.heap.size=P4 at *
     have x1:=nE4.c1
     have x2:=nE4.c2
     have x3:=nE4.c3
     have y1:=n4.c1
     have y2:=n4.c2
     have y3:=n4.c3
     have ok4:=rt4.okC
     have ok1:=HR1.out.okC
     clear hak hb4 g4 SE dE nE rt4 nE4 n4
     by_cases k4:r4=0
     ·obtain ⟨k1,k5⟩:=hw1 k4
      have hls:=less_any s4 d4 s1 d1 u4 ok4 ok1
      rw [less_not q4 q1 k5] at hls
      subst k1 k4
      clear k5 hw1 hw2
      go_wp2_with fail
      refine hls.mono ?_
      rintro e w7 ⟨rfl,hb7⟩
      have x3':=(hb7.cell (World.block_lt_of_cell? _ _ x3)).trans x3
      clear hls
      go_wp2
      go_ret
      exact ⟨rfl,B4.trans (hb7.mono B4.size)⟩
     ·have z4:(r4 == 0)=false:=beq_eq_false_iff_ne.2 k4
      by_cases k1:r1=0
      ·subst k1
       clear hw1 hw2
       go_wp2
       go_ret
       exact ⟨rfl,B4⟩
      ·have k3:=hw2 k1
       subst k3
       clear hw1 hw2
       go_wp2
       go_ret
       exact ⟨rfl,B4⟩
end Go.Proofs.YtipbhlofbpnpjaaGreatDoor
