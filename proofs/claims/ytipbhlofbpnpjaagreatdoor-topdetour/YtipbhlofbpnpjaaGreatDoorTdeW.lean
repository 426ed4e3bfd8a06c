/- -/
import Derived.Test.YtipbhlofbpnpjaaGreatDoorP29
import Derived.Test.YtipbhlofbpnpjaaGreatDoorEd1
namespace Go.Proofs.YtipbhlofbpnpjaaGreatDoor
open Go.RowKit Go.Lib
set_option maxHeartbeats 8000000 in
set_option maxRecDepth 1000000 in
theorem topDetour_any (W H most:Int)(A:Option Addr)(n cap:Nat)(xs:Nat->Int)(a b wall:Int)(w:World)(E:Env w)(s:StepsAt w)(dg:DiagAt w)(hm:n<=maxLen)(hx:OldRow w A n xs) :
  Calls Tryz.prog 9 #[.agg #[.int .i64 W,.int .i64 H,.slice A n cap],.int .i64 most,.int .i64 a,.int .i64 b,.int .i64 wall] w fun e w'=>e=.returned (.bool true)/\Below w.heap.size w w':=by
 have hsp:=s.pos
 have b0:Below w.heap.size w (w.alloc (.cells #[.int .i64 W,.int .i64 H,.slice A n cap] 24)):=(Below.refl _ _).alloc (Nat.le_refl _) _
 have q:∀ o,(w.alloc (.cells #[.int .i64 W,.int .i64 H,.slice A n cap] 24)).cell? ⟨w.heap.size,o,none⟩=#[Value.int .i64 W,.int .i64 H,.slice A n cap][o]? := fun o=>World.cell?_alloc_new ..
 have hwk:=works_any _ (s.below b0 (by omega)) (dg.below b0)
 go_enter Tryz.func9,Tryz.ntmps9
 go_wp2_with fail
 have hz0:w.heap.size<(w.alloc (.cells #[.int .i64 W,.int .i64 H,.slice A n cap] 24)).heap.size:=by simp
 generalize w.alloc (.cells #[.int .i64 W,.int .i64 H,.slice A n cap] 24)=wa at *
 refine hwk.mono ?_
 rintro e wb ⟨rfl,hb1⟩
 have B1:=b0.trans (hb1.mono b0.size)
 have c0:=(hb1.cell (p:=⟨w.heap.size,0,none⟩) hz0).trans (q 0)
 have c1:=(hb1.cell (p:=⟨w.heap.size,1,none⟩) hz0).trans (q 1)
 have c2:=(hb1.cell (p:=⟨w.heap.size,2,none⟩) hz0).trans (q 2)
 have hsv:=serve_any W H most A n cap xs wb (E.grown B1) (s.below B1 (by omega)) hm (hx.below B1)
 clear hwk q b0 hb1 hz0
 go_wp2_with fail
 refine hsv.mono ?_
 rintro e wc ⟨hb2,hcs⟩
 have B2:=B1.trans (hb2.mono B1.size)
 clear hsv c0 c1 c2
 rcases hcs with ⟨p,rfl⟩|⟨sb,mb,lo,Wn,Hn,mN,V,bl,rfl,rfl,rfl,rfl,hmb,SR⟩
 ·go_wp2
  go_ret
  exact ⟨rfl,B2⟩
 ·have hR:=SR.ra
  have hRF:=SR.rf
  have lmb:=World.block_lt_of_cell? _ _ hR.c0
  have hlom:=SR.lt
  have hlow:w.heap.size<lo:=by have h2:=B1.size;omega
  have hmw:w.heap.size<=mb:=by have h2:=B1.size;omega
  have hlol:=SR.sv.lo_lt
  have z8:=E.z
  have hS:=SR.sv
  have dC:=dg.below B2
  obtain ⟨w1,w2,h1,h2⟩:=hS.side
  obtain ⟨m1,m6⟩:=hS.mst
  have HA:Hid (∀ w',Below wc.heap.size wc w'->∀ a t,_):=fun w' hb a t=>ask_rt a t w' (hS.below hb) (dC.below hb)
  have hwh:=wh_bd w1 w2 h1 h2
  have hbk:=blocks_le ((List.range (Hn*Wn)).map bl)
  rw [List.length_map,List.length_range] at hbk
  have hbk2:((Hn*Wn:Nat):Int)<=256:=by rw [Nat.mul_comm,Int.natCast_mul];omega
  have v2:((blocks ((List.range (Hn*Wn)).map bl):Nat):Int)<=900000:=by omega
  have HSB:Hid (∀ w',Below wc.heap.size wc w'->Sv w' lo wc.heap.size sb Wn Hn (blocks ((List.range (Hn*Wn)).map bl)) (nrm Wn Hn bl) mN):=fun w' hb=>hS.below hb
  have HDB:Hid (∀ w',Below wc.heap.size wc w'->DiagAt w'):=fun w' hb=>dC.below hb
  have D0:Below wc.heap.size wc wc:=Below.refl _ _
  have hs0:0<=((blocks ((List.range (Hn*Wn)).map bl):Nat):Int):=by omega
  have HEV:Hid (Eqv Wn Hn (nrm Wn Hn bl) bl):=nrm_eqv bl
  generalize nrm Wn Hn bl=nb at *
  generalize ((blocks ((List.range (Hn*Wn)).map bl):Nat):Int)=V0 at *
  clear SR hS hbk hbk2 dC
  cases hin:inB Wn Hn wall with
  |false =>
   have his:=ris_out wall wc hR hin
   clear hin
   go_wp2_with fail
   refine his.mono ?_
   rintro e w3 ⟨rfl,m3,rfl⟩
   go_wp2
   go_ret
   exact ⟨rfl,below_drewN B2 _⟩
  |true =>
   have his:=ris_in wall wc hR hin
   have hwp:0<=wall/\wall<(Wn:Int)*(Hn:Int):=of_decide_eq_true hin
   have HIN:Hid (inB Wn Hn wall=true):=hin
   clear hin
   go_wp2_with fail
   refine his.mono ?_
   rintro e w3 ⟨rfl,m3,hw3⟩
   have D3:Below wc.heap.size wc w3:=by rw [hw3];exact below_drewN D0 _
   have B3:=B2.trans (D3.mono B2.size)
   clear hw3 his
   by_cases ca:wall=a
   ·subst ca
    go_wp2
    go_ret
    exact ⟨rfl,B3⟩
   ·by_cases cb:wall=b
    ·subst cb
     have ca1:(wall == a)=false:=beq_eq_false_iff_ne.2 ca
     go_wp2
     go_ret
     exact ⟨rfl,B3⟩
    ·have ca1:(wall == a)=false:=beq_eq_false_iff_ne.2 ca
     have cb1:(wall == b)=false:=beq_eq_false_iff_ne.2 cb
     have HNE:Hid (wall≠a/\wall≠b):=⟨ca,cb⟩
     obtain ⟨wN,rfl⟩:∃ wN:Nat,wall=(wN:Int):=⟨wall.toNat,by omega⟩
     clear ca cb
     go_wp2_with fail
     refine (HA.out _ D3 _ _).mono ?_
     rintro e v1 ⟨A1,cap1,way1,s1,d1,r1,rfl,own1,old1,ans1,rt1,hb1'⟩
     have E1:=D3.trans (hb1'.mono D3.size)
     have D1:Below wc.heap.size wc (v1.alloc (.cells #[.slice A1 way1.length cap1,.int .i64 s1,.int .i64 d1,.int .i64 r1] 41)):=E1.alloc E1.size _
     have n1:=An.new v1 (.slice A1 way1.length cap1) s1 d1 r1
     have g1:Below v1.heap.size v1 (v1.alloc (.cells #[.slice A1 way1.length cap1,.int .i64 s1,.int .i64 d1,.int .i64 r1] 41)):=(Below.refl _ _).alloc (Nat.le_refl _) _
     go_upto_region 8 with fail
     clear ca1 cb1
     have own1':=World.ownsRow.alloc own1 (.cells #[.slice A1 way1.length cap1,.int .i64 s1,.int .i64 d1,.int .i64 r1] 41)
     generalize v1.alloc (.cells #[.slice A1 way1.length cap1,.int .i64 s1,.int .i64 d1,.int .i64 r1] 41)=u1 at *
     have hP1:=E1.size
     generalize v1.heap.size=P1 at *
     have HR1:Hid (Rt Wn Hn bl a b way1 s1 d1 r1):=rt1.eqv HEV.out
     have b5:Below u1.heap.size u1 (u1.alloc (.cells #[.int .i64 (wN:Int),.bool true] 62)):=(Below.refl _ _).alloc (Nat.le_refl _) _
     have q0:(u1.alloc (.cells #[.int .i64 (wN:Int),.bool true] 62)).cell? ⟨u1.heap.size,0,none⟩=some (.int .i64 (wN:Int)):=World.cell?_alloc_at #[.int .i64 (wN:Int),.bool true] 62 u1.heap.size 0 rfl
     have q1:(u1.alloc (.cells #[.int .i64 (wN:Int),.bool true] 62)).cell? ⟨u1.heap.size,1,none⟩=some (.bool true):=World.cell?_alloc_at #[.int .i64 (wN:Int),.bool true] 62 u1.heap.size 1 rfl
     have D5:=D1.trans (b5.mono D1.size)
     have n5:=n1.below b5
     have own5:=own_below own1' b5
     have hhi:wc.heap.size<=u1.heap.size:=D1.size
     have hed:=nedit_ok (cap:=1) (n:=1) (A:=some ⟨u1.heap.size,0,none⟩) (cs:=fun _=>(wN:Int)) (bs:=fun _=>true) _ (HSB.out _ D5) (fun i hi=>⟨u1.heap.size,0,rfl,World.block_lt_of_cell? _ _ q0,by
      have e:i=0:=by omega
      subst e
      exact ⟨q0,q1⟩⟩) (fun _ b' o' e' h'=>by cases e';omega) (by omega) hs0 v2 (by omega) (fun j hj=>HIN.out)
     have HE1:Hid (edF nb (fun _=>(wN:Int)) (fun _=>true) 1=upd nb wN true):=rfl
     rw [HE1.out] at hed
     clear own1 old1 ans1 g1 E1 hb1' n1 rt1 own1' q0 q1
     go_wp2_with fail
     refine hed.mono ?_
     rintro e wE ⟨k,hk,rfl,SE,KE⟩
     generalize u1.alloc (.cells #[.int .i64 (wN:Int),.bool true] 62)=u5 at *
     have dE:=(HDB.out _ D5).keep KE (show ¬ (lo<=0/\0<wc.heap.size) by omega)
     have nE:=n5.keep KE (show ¬ (lo<=P1/\P1<wc.heap.size) by have:=D3.size;omega)
     have z5:=D5.size
     have lE:Below lo u5 wE:=KE.to_below (by omega) (fun k h=>h.1)
     have ownE:=own_keep own5 KE (fun q hq h=>by have:=(own5.lt q hq).1;have:=D3.size;omega)
     have B5:=B2.trans (D5.mono B2.size)
     have BE:Below w.heap.size w wE:=B5.trans (lE.mono (Nat.le_of_lt hlow))
     have RE:=(hR.below D5 lmb).below lE hlom
     have FE:Free wE mb:=fun o=>(lE.frozen (p:=⟨mb,o,none⟩) hlom).trans ((D5.frozen (p:=⟨mb,o,none⟩) lmb).trans (hRF o))
     have hak:=ask_rt a b wE SE dE
     clear hed KE n5 own5 b5 hR hRF
     go_wp2_with fail
     refine hak.mono ?_
     rintro e v4 ⟨A4,cap4,way4,s4,d4,r4,rfl,own4,_,_,rt4,hb4⟩
     have n4:=An.new v4 (.slice A4 way4.length cap4) s4 d4 r4
     have g4:Below v4.heap.size v4 (v4.alloc (.cells #[.slice A4 way4.length cap4,.int .i64 s4,.int .i64 d4,.int .i64 r4] 41)):=(Below.refl _ _).alloc (Nat.le_refl _) _
     have G4:=hb4.trans (g4.mono hb4.size)
     have own4':=own_below own4 g4
     have nE4:=nE.below G4
     have ownE4:=own_below ownE G4
     have B4:=BE.trans (G4.mono BE.size)
     have lmE:=World.block_lt_of_cell? _ _ RE.c0
     have R4:=RE.below G4 lmE
     have F4:Free (v4.alloc (.cells #[.slice A4 way4.length cap4,.int .i64 s4,.int .i64 d4,.int .i64 r4] 41)) mb:=fun o=>(G4.frozen (p:=⟨mb,o,none⟩) lmE).trans (FE o)
     have hP4:mb<v4.heap.size:=Nat.lt_of_lt_of_le lmE hb4.size
     have zE:=hb4.size
     go_upto_region 10 with fail
     generalize v4.alloc (.cells #[.slice A4 way4.length cap4,.int .i64 s4,.int .i64 d4,.int .i64 r4] 41)=u4 at *
     generalize v4.heap.size=P4 at *
     have hrs:=rset_any wN true u4 R4 F4 HIN.out
     clear hak hb4 g4 G4 SE dE nE own4 ownE RE FE
     go_wp2_with fail
     refine hrs.mono ?_
     rintro e w6 ⟨rfl,K6,⟨V6,R6⟩,_⟩
     have n6:=nE4.keep K6 (show P1≠mb by have:=D3.size;omega)
     have m6':=n4.keep K6 (show P4≠mb by omega)
     have ow1:=own_keep ownE4 K6 (fun q hq h=>by have:=(ownE4.lt q hq).1;have:=D3.size;omega)
     have ow4:=own_keep own4' K6 (fun q hq h=>by have:=(own4'.lt q hq).1;omega)
     have B6:Below w.heap.size w w6:=B4.trans (K6.to_below (by have:=B4.size;omega) (fun k h=>by omega))
     have HBL:Hid (Eqv Wn Hn (upd nb wN true) (upd bl wN true)):=fun n hn=>by
      show (if n=wN then true else nb n)=(if n=wN then true else bl n)
      rw [HEV.out n hn]
     have HR4:Hid (Rt Wn Hn (upd bl wN true) a b way4 s4 d4 r4):=rt4.eqv HBL.out
     have HMO:Hid (∀ n,bl n=true->upd bl wN true n=true):=fun n hn=>by
      unfold upd
      split
      ·rfl
      ·exact hn
     have HFF:Hid (ff2 Wn Hn bl a b=ff2 Wn Hn (upd bl wN true) a b):=ff2_same (fun hi=>by
      have q:0<=a/\a<(Wn:Int)*(Hn:Int):=of_decide_eq_true hi
      unfold upd
      rw [if_neg (fun e=>HNE.out.1 (by omega))]) (fun hi=>by
      have q:0<=b/\b<(Wn:Int)*(Hn:Int):=of_decide_eq_true hi
      unfold upd
      rw [if_neg (fun e=>HNE.out.2 (by omega))])
     clear hrs K6 R4 F4 nE4 n4 own4' ownE4 rt4
     generalize upd bl wN true=bl2 at *
     have b7:Below w6.heap.size w6 (w6.alloc (.cells #[.pointer (some ⟨mb,0,none⟩),.int .i64 (mN:Int)] 33)):=(Below.refl _ _).alloc (Nat.le_refl _) _
     have cx:(w6.alloc (.cells #[.pointer (some ⟨mb,0,none⟩),.int .i64 (mN:Int)] 33)).cell? ⟨w6.heap.size,0,none⟩=some (.pointer (some ⟨mb,0,none⟩)):=World.cell?_alloc_at #[.pointer (some ⟨mb,0,none⟩),.int .i64 (mN:Int)] 33 w6.heap.size 0 rfl
     have lm6:=World.block_lt_of_cell? _ _ R6.c0
     have R7:=R6.below b7 lm6
     have n7:=n6.below b7
     have m7:=m6'.below b7
     have ow17:=own_below ow1 b7
     have ow47:=own_below ow4 b7
     have B7:=B6.trans (b7.mono B6.size)
     have hrt:=right_any _ cx R7 ow47 HR4.out
     have y0:=m7.c0
     have y1:=m7.c1
     have y2:=m7.c2
     have y3:=m7.c3
     clear R6 n6 m6' ow1 ow4 B6
     go_wp2_with fail
     refine hrt.mono ?_
     rintro e w8 ⟨rfl,hb8⟩
     generalize w6.alloc (.cells #[.pointer (some ⟨mb,0,none⟩),.int .i64 (mN:Int)] 33)=w7 at *
     have B8:=B7.trans (hb8.mono B7.size)
     have R8:=R7.below hb8 (World.block_lt_of_cell? _ _ R7.c0)
     have n8:=n7.below hb8
     have m8:=m7.below hb8
     have ow8:=own_below ow17 hb8
     have HN8:Hid (∀ w',Below w8.heap.size w8 w'->An w' P1 (.slice A1 way1.length cap1) s1 d1 r1/\An w' P4 (.slice A4 way4.length cap4) s4 d4 r4/\OldRow w' A1 way1.length (fun i=>((way1.getD i 0:Nat):Int))/\RefAt w' mb Wn Hn V6 bl2):=fun w' hb=>by
      obtain ⟨A',cap',e',ho,_⟩:=oldRow_of ow8
      cases e'
      exact ⟨n8.below hb,m8.below hb,ho.below hb,R8.below hb (World.block_lt_of_cell? _ _ R8.c0)⟩
     have hln:=HR1.out.len
     clear hrt R7 n7 m7 ow17 ow47 y0 y1 y2 y3 cx R8 n8 m8 ow8 b7 hb8
     go_wp2
     go_loopw [19] (fun iv wr=>∃ i:Nat,i<=way1.length/\iv=.int .i64 i/\Below w8.heap.size w8 wr)
      (fun i _=>way1.length - (intOf i).toNat)
     case atStart=>exact ⟨0,Nat.zero_le _,rfl,Below.refl _ _⟩
     case round =>
      obtain ⟨i,hi,rfl,hB⟩:=hrel
      obtain ⟨nr,mr,orr,Rr⟩:=HN8.out _ hB
      have BR:=B8.trans (hB.mono B8.size)
      have x0:=nr.c0
      by_cases hlt:i<way1.length
      ·obtain ⟨bA,oA,rfl,hbA,f00⟩:=orr i hlt
       have i1:(i:Int)<(way1.length:Int):=by omega
       obtain ⟨xN,hxN⟩:∃ xN,way1.getD i 0=xN:=⟨_,rfl⟩
       have f0:wr.cell? ⟨bA,oA+i,none⟩=some (.int .i64 (xN:Int)):=by rw [<- hxN];exact f00
       clear hxN nr mr orr Rr f00
       by_cases hx:xN=wN
       ·subst hx
        go_wp2
        go_ret
        exact ⟨rfl,BR⟩
       ·have hx1:((xN:Int) == (wN:Int))=false:=beq_eq_false_iff_ne.2 (by omega)
        have hx2:¬ (xN:Int)=(wN:Int):=by omega
        go_wp2
        go_roundw
        case rel=>exact ⟨i+1,by omega,by go_num,hB⟩
        case measure=>simp [intOf];omega
      ·have e:i=way1.length:=by omega
       subst e
       have hwk:=rwalk_any (cap:=cap1) wr Rr (World.block_lt_of_cell? _ _ Rr.c0) orr (by omega)
       have HDT:Hid (r1=0->(wkV Wn Hn bl2 (fun i=>((way1.getD i 0:Nat):Int)) way1.length).2=0->s1=s4/\d1=d4):=fun h0 hk=>HR1.out.detour w1 HR4.out HMO.out HFF.out h0 hk
       have HPS:Hid ((wkV Wn Hn bl2 (fun i=>((way1.getD i 0:Nat):Int)) way1.length).2≠0->0<(wkV Wn Hn bl2 (fun i=>((way1.getD i 0:Nat):Int)) way1.length).2):=wkV_pos _ _
       generalize (wkV Wn Hn bl2 (fun i=>((way1.getD i 0:Nat):Int)) way1.length).2=wf at *
       generalize (wkV Wn Hn bl2 (fun i=>((way1.getD i 0:Nat):Int)) way1.length).1.1=wf1 at *
       generalize (wkV Wn Hn bl2 (fun i=>((way1.getD i 0:Nat):Int)) way1.length).1.2=wf2 at *
       clear Rr orr
       go_wp2_with fail
       refine hwk.mono ?_
       rintro e w9 ⟨rfl,hb9⟩
       have g9:Below wr.heap.size wr (w9.alloc (.cells #[.int .i64 wf1,.int .i64 wf2] 38)):=hb9.alloc hb9.size _
       have n9:=nr.below g9
       have m9:=mr.below g9
       have B9:=BR.trans (g9.mono BR.size)
       clear hwk nr mr x0
       go_upto_region 21 with fail
       generalize w9.alloc (.cells #[.int .i64 wf1,.int .i64 wf2] 38)=u9 at *
       have x1:=n9.c1
       have x2:=n9.c2
       have x3:=n9.c3
       have y1:=m9.c1
       have y2:=m9.c2
       clear n9 m9
       by_cases k1:r1=0
       ·by_cases kf:wf=0
        ·obtain ⟨e1,e2⟩:=HDT.out k1 kf
         subst k1 kf e1 e2
         have hsm:=sameAns_old (A:=none) (B:=none) (n:=0) (ca:=0) (cb:=0) (xs:=fun _=>0) s1 d1 0 u9 (by omega) (fun i hi=>absurd hi (Nat.not_lt_zero i)) (fun i hi=>absurd hi (Nat.not_lt_zero i))
         go_wp2_with fail
         refine hsm.mono ?_
         rintro e w10 ⟨rfl,hb10⟩
         clear hsm
         go_wp2
         go_ret
         exact ⟨rfl,B9.trans (hb10.mono B9.size)⟩
        ·have kp:=HPS.out kf
         subst k1
         go_wp2
         go_ret
         exact ⟨rfl,B9⟩
       ·have z1:(r1 == 0)=false:=beq_eq_false_iff_ne.2 k1
        have z2:(r1 != 0)=true:=bne_iff_ne.2 k1
        go_wp2
        go_ret
        exact ⟨rfl,B9⟩
end Go.Proofs.YtipbhlofbpnpjaaGreatDoor
