/- -/
import Derived.Test.YtmaefimaeelkbaaGreatDoorP28
import Derived.Test.YtmaefimaeelkbaaGreatDoorP29
import Derived.Test.YtmaefimaeelkbaaGreatDoorRs
import Derived.Test.YtmaefimaeelkbaaGreatDoorTuM
namespace Go.Proofs.YtmaefimaeelkbaaGreatDoor
open Go.RowKit Go.Lib
set_option maxHeartbeats 8000000 in
set_option maxRecDepth 1000000 in
theorem topTurn_any (W H most:Int)(A:Option Addr)(n cap:Nat)(xs:Nat->Int)(a b turn:Int)(w:World)(E:Env w)(s:StepsAt w)(dg:DiagAt w)(hm:n<=maxLen)(hx:OldRow w A n xs) :
  Calls Tryz.prog 4 #[.agg #[.int .i64 W,.int .i64 H,.slice A n cap],.int .i64 most,.int .i64 a,.int .i64 b,.int .i64 turn] w fun e w'=>e=.returned (.bool true)/\Below w.heap.size w w':=by
 have hsp:=s.pos
 have b0:Below w.heap.size w ((w.alloc (.cells #[.int .i64 W,.int .i64 H,.slice A n cap] 68)).alloc (.cells #[.int .i64 turn] 3)):=((Below.refl _ _).alloc (Nat.le_refl _) _).alloc (by simp) _
 have q:∀ o,((w.alloc (.cells #[.int .i64 W,.int .i64 H,.slice A n cap] 68)).alloc (.cells #[.int .i64 turn] 3)).cell? ⟨w.heap.size,o,none⟩=#[Value.int .i64 W,.int .i64 H,.slice A n cap][o]? := fun o=>by
  rw [World.cell?_alloc_lt _ _ _ (by simp)]
  exact World.cell?_alloc_new ..
 have qt:((w.alloc (.cells #[.int .i64 W,.int .i64 H,.slice A n cap] 68)).alloc (.cells #[.int .i64 turn] 3)).cell? ⟨w.heap.size+1,0,none⟩=some (.int .i64 turn):=World.cell?_alloc_at #[.int .i64 turn] 3 (w.heap.size+1) 0 (by simp)
 have hwk:=works_any _ (s.below b0 (by omega)) (dg.below b0)
 go_enter Tryz.func4,Tryz.ntmps4
 go_wp2_with fail
 have hz0:w.heap.size+1<((w.alloc (.cells #[.int .i64 W,.int .i64 H,.slice A n cap] 68)).alloc (.cells #[.int .i64 turn] 3)).heap.size:=by simp
 generalize (w.alloc (.cells #[.int .i64 W,.int .i64 H,.slice A n cap] 68)).alloc (.cells #[.int .i64 turn] 3)=wa at *
 refine hwk.mono ?_
 rintro e wb ⟨rfl,hb1⟩
 have B1:=b0.trans (hb1.mono b0.size)
 have c0:=(hb1.cell (p:=⟨w.heap.size,0,none⟩) (Nat.lt_of_succ_lt hz0)).trans (q 0)
 have c1:=(hb1.cell (p:=⟨w.heap.size,1,none⟩) (Nat.lt_of_succ_lt hz0)).trans (q 1)
 have c2:=(hb1.cell (p:=⟨w.heap.size,2,none⟩) (Nat.lt_of_succ_lt hz0)).trans (q 2)
 have ct:wb.cell? ⟨w.heap.size+1,0,none⟩=some (.int .i64 turn):=(hb1.cell hz0).trans qt
 have hsv:=serve_any W H most A n cap xs wb (E.grown B1) (s.below B1 (by omega)) hm (hx.below B1)
 clear hwk q b0 hb1 hz0 qt
 go_wp2_with fail
 refine hsv.mono ?_
 rintro e wc ⟨hb2,hcs⟩
 have B2:=B1.trans (hb2.mono B1.size)
 have CT:wc.cell? ⟨w.heap.size+1,0,none⟩=some (.int .i64 turn):=(hb2.cell (World.block_lt_of_cell? _ _ ct)).trans ct
 clear hsv c0 c1 c2 ct
 rcases hcs with ⟨p,rfl⟩|⟨sb,mb,lo,Wn,Hn,mN,V,bl,rfl,rfl,rfl,rfl,hmb,SR⟩
 ·clear CT
  go_wp2
  go_ret
  exact ⟨rfl,B2.alloc B2.size _⟩
 ·have hmw:w.heap.size<=mb:=by have h2:=B1.size;omega
  have DP:Below wc.heap.size wc (wc.alloc (.cells #[.pointer (some ⟨mb,0,none⟩)] 39)):=(Below.refl _ _).alloc (Nat.le_refl _) _
  have lmb0:=World.block_lt_of_cell? _ _ SR.ra.c0
  have hS:Sv (wc.alloc (.cells #[.pointer (some ⟨mb,0,none⟩)] 39)) lo wc.heap.size sb Wn Hn (blocks ((List.range (Hn*Wn)).map bl)) (nrm Wn Hn bl) mN:=SR.sv.below DP
  have hR:RefAt (wc.alloc (.cells #[.pointer (some ⟨mb,0,none⟩)] 39)) mb Wn Hn V bl:=SR.ra.below DP lmb0
  have B3:Below w.heap.size w (wc.alloc (.cells #[.pointer (some ⟨mb,0,none⟩)] 39)):=B2.trans (DP.mono B2.size)
  have cp:(wc.alloc (.cells #[.pointer (some ⟨mb,0,none⟩)] 39)).cell? ⟨wc.heap.size,0,none⟩=some (.pointer (some ⟨mb,0,none⟩)):=World.cell?_alloc_at #[.pointer (some ⟨mb,0,none⟩)] 39 wc.heap.size 0 rfl
  have CT3:(wc.alloc (.cells #[.pointer (some ⟨mb,0,none⟩)] 39)).cell? ⟨w.heap.size+1,0,none⟩=some (.int .i64 turn):=(DP.cell (World.block_lt_of_cell? _ _ CT)).trans CT
  have dC:=dg.below B3
  clear SR DP CT hmb
  have z8:=E.z
  obtain ⟨w1,w2,h1,h2⟩:=hS.side
  obtain ⟨m1,m6⟩:=hS.mst
  have hwh:=wh_bd w1 w2 h1 h2
  go_upto_region 5 with fail
  have hPz:wc.heap.size<(wc.alloc (.cells #[.pointer (some ⟨mb,0,none⟩)] 39)).heap.size:=by simp
  have hlP:mb<wc.heap.size:=lmb0
  generalize (wc.alloc (.cells #[.pointer (some ⟨mb,0,none⟩)] 39))=WS at *
  have hPw:w.heap.size<=wc.heap.size:=B2.size
  generalize wc.heap.size=P at *
  have lmb:mb<WS.heap.size:=by omega
  generalize hQ:w.heap.size+1=Q at *
  have HM:Hid (∀ w',Below WS.heap.size WS w'->RefAt w' mb Wn Hn V bl/\w'.cell? ⟨P,0,none⟩=some (.pointer (some ⟨mb,0,none⟩))/\w'.cell? ⟨Q,0,none⟩=some (.int .i64 turn)):=fun w' h=>⟨hR.below h lmb,(h.cell hPz).trans cp,(h.cell (World.block_lt_of_cell? _ _ CT3)).trans CT3⟩
  cases hia:inB Wn Hn a with
  |false =>
   have his:=ris_out a WS hR hia
   clear hia hS
   go_wp2_with fail
   refine his.mono ?_
   rintro e w3 ⟨rfl,m3,rfl⟩
   go_wp2
   go_ret
   exact ⟨rfl,below_drewN B3 _⟩
  |true =>
   have his:=ris_in a WS hR hia
   have HIA:Hid (inB Wn Hn a=true):=hia
   have ha:0<=a/\a<(Wn:Int)*(Hn:Int):=of_decide_eq_true hia
   clear hia
   go_wp2_with fail
   refine his.mono ?_
   rintro e w3 ⟨rfl,m3,hw3⟩
   have D3:Below WS.heap.size WS w3:=by rw [hw3];exact below_drewN (Below.refl _ _) _
   have cp3:w3.cell? ⟨P,0,none⟩=some (.pointer (some ⟨mb,0,none⟩)):=(D3.cell hPz).trans cp
   clear hw3 his
   cases hib:inB Wn Hn b with
   |false =>
    have his:=ris_out b w3 (hR.below D3 lmb) hib
    clear hib hS
    go_wp2_with fail
    refine his.mono ?_
    rintro e w4 ⟨rfl,m4,rfl⟩
    have B4:=B3.trans (D3.mono B3.size)
    go_wp2
    go_ret
    exact ⟨rfl,below_drewN B4 _⟩
   |true =>
    have his:=ris_in b w3 (hR.below D3 lmb) hib
    have HIB:Hid (inB Wn Hn b=true):=hib
    have hb_:0<=b/\b<(Wn:Int)*(Hn:Int):=of_decide_eq_true hib
    clear hib
    go_wp2_with fail
    refine his.mono ?_
    rintro e w4 ⟨rfl,m4,hw4⟩
    have D4:Below WS.heap.size WS w4:=by rw [hw4];exact below_drewN D3 _
    clear hw4 his cp3
    have R4:=hR.below D4 lmb
    have ra0:=R4.c0
    have ra1:=R4.c1
    have cp4:w4.cell? ⟨P,0,none⟩=some (.pointer (some ⟨mb,0,none⟩)):=(D4.cell hPz).trans cp
    go_upto_region 7 with fail
    go_quiet (fail)
    have D5:Below WS.heap.size WS (w4.drewN nq):=below_drewN D4 _
    clear R4 ra0 ra1 cp4
    generalize w4.drewN nq=w5 at *
    have ct5:w5.cell? ⟨Q,0,none⟩=some (.int .i64 turn):=(D5.cell (World.block_lt_of_cell? _ _ CT3)).trans CT3
    have m8:=tuM_lt turn
    obtain ⟨W',H',eW,eH,e4⟩:∃ W' H':Nat,(W':Int)=tuW (tuM turn) Wn Hn/\(H':Int)=tuH (tuM turn) Wn Hn/\Hid (((bits BinOp.and IntKind.i64 turn 4 == 4)=true->W'=Hn/\H'=Wn)/\((bits BinOp.and IntKind.i64 turn 4 == 4)=false->W'=Wn/\H'=Hn)):=tu_side turn Wn Hn
    have HEW:Hid ((W':Int)=tuW (tuM turn) Wn Hn):=eW
    have HEH:Hid ((H':Int)=tuH (tuM turn) Wn Hn):=eH
    have s1:1<=(W':Int)/\(W':Int)<=16/\1<=(H':Int)/\(H':Int)<=16:=by
     cases hb4:(bits BinOp.and IntKind.i64 turn 4 == 4) with
     |true=>obtain ⟨rfl,rfl⟩:=e4.out.1 hb4;exact ⟨h1,h2,w1,w2⟩
     |false=>obtain ⟨rfl,rfl⟩:=e4.out.2 hb4;exact ⟨w1,w2,h1,h2⟩
    clear eW eH
    go_upto_if 61 with fail
    go_cut [14,15] from 59 to 63 (fun v14 v15 wd=>v14=.int .i64 (W':Int)/\v15=.int .i64 (H':Int)/\wd=w5)
    case first =>
     cases hb4:(bits BinOp.and IntKind.i64 turn 4 == 4) with
     |true =>
      obtain ⟨e1,e2⟩:=e4.out.1 hb4
      clear e4 hS hR
      go_wp2_with fail
      go_meet
      exact ⟨by rw [e1],by rw [e2],rfl⟩
     |false =>
      obtain ⟨e1,e2⟩:=e4.out.2 hb4
      clear e4 hS hR
      go_wp2_with fail
      go_meet
      exact ⟨by rw [e1],by rw [e2],rfl⟩
    case rest =>
     obtain ⟨rfl,rfl,hwd⟩:=hcut
     have hwd:w5=wc:=hwd.symm
     subst hwd
     obtain ⟨s1,s2,s3,s4⟩:=s1
     have hnw:=rnew_ok (W':Int) (H':Int) w5 s1 s2 s3 s4
     clear e4 ct5
     go_wp2_with fail
     refine hnw.mono ?_
     rintro e w6 ⟨rfl,hw6⟩
     have b6:Below w5.heap.size w5 (w5.alloc (.cells (refC (W':Int) (H':Int)) 38)):=(Below.refl _ _).alloc (Nat.le_refl _) _
     have R6:=refAt_new (W':Int) (H':Int) w5 (decide_eq_true ⟨s1,s2⟩) (decide_eq_true ⟨s3,s4⟩)
     have F6:Free (w5.alloc (.cells (refC (W':Int) (H':Int)) 38)) w5.heap.size:=free_alloc w5 _ 38 w5.heap.size (Nat.le_refl _)
     rw [<- hw6] at b6 R6 F6
     clear hw6 hnw
     have D6:=D5.trans (b6.mono D5.size)
     have hob:=D5.size
     have hobl:w5.heap.size<w6.heap.size:=World.block_lt_of_cell? _ _ R6.c0
     generalize w5.heap.size=ob at *
     have RM:=hR.below D6 lmb
     have CP6:w6.cell? ⟨P,0,none⟩=some (.pointer (some ⟨mb,0,none⟩)):=(D6.cell hPz).trans cp
     have CT6:w6.cell? ⟨Q,0,none⟩=some (.int .i64 turn):=(D6.cell (World.block_lt_of_cell? _ _ CT3)).trans CT3
     have lQ:Q<ob:=Nat.lt_of_lt_of_le (World.block_lt_of_cell? _ _ CT3) hob
     have HRM:Hid (∀ wr,Keep (fun k=>k=ob) w6 wr->RefAt wr mb Wn Hn V bl/\wr.cell? ⟨P,0,none⟩=some (.pointer (some ⟨mb,0,none⟩))/\wr.cell? ⟨Q,0,none⟩=some (.int .i64 turn)):=fun wr K=>⟨RM.keepO K (by omega),K.cellOf CP6 (by show ¬ P=ob;omega),K.cellOf CT6 (by show ¬ Q=ob;omega)⟩
     have HP0:Hid (TuP (tuM turn) Wn Hn bl 0 (fun _=>false)):=fun c h=>by omega
     obtain ⟨N,hN⟩:∃ N:Nat,Wn*Hn=N:=⟨_,rfl⟩
     have hNI:(Wn:Int)*(Hn:Int)=(N:Int):=by rw [<- Int.natCast_mul,hN]
     have HNI:Hid ((Wn:Int)*(Hn:Int)=(N:Int)):=hNI
     have HN:Hid (Wn*Hn=N):=hN
     have hN256:(N:Int)<=256:=by omega
     have hwr:IntKind.i64.wrap ((Wn:Int)*(Hn:Int))=(N:Int):=by rw [hNI];exact wrap_small (by omega) (by omega)
     rw [hNI] at ha hb_ hwh
     clear hR b6 D3 D4 D5 hNI hN cp CT3 CP6 CT6
     go_wp2
     go_loopw [19] (fun cv wr=>∃ (c:Nat) (V':Int) (blo:Nat->Bool),c<=N/\cv=.int .i64 c/\RefAt wr ob (W':Int) (H':Int) V' blo/\Hid (TuP (tuM turn) Wn Hn bl c blo)/\Free wr ob/\Keep (fun k=>k=ob) w6 wr)
      (fun c _=>N - (intOf c).toNat)
     case atStart=>exact ⟨0,0,_,Nat.zero_le _,rfl,R6,HP0.out,F6,Keep.refl _ _⟩
     case round =>
      clear R6 F6
      obtain ⟨c,V',blo,hc,rfl,RO,HP,FO,KO⟩:=hrel
      obtain ⟨Rm,cP,cQ⟩:=HRM.out _ KO
      have ra0:=Rm.c0
      have ra1:=Rm.c1
      by_cases hlt:c<N
      ·have hlt':(c:Int)<(N:Int):=by omega
       have HRm:Hid (RefAt wr mb Wn Hn V bl):=Rm
       clear Rm
       go_wp2_with fail
       go_quiet (fail)
       have e0:Below wr.heap.size wr (wr.drewN nq):=below_drewN (Below.refl _ _) _
       have Kq:=KO.below e0
       have Rq:=RO.below e0 (World.block_lt_of_cell? _ _ RO.c0)
       have Fq:Free (wr.drewN nq) ob:=fun o=>FO o
       clear KO RO FO HRm ra0 ra1 cP cQ e0
       generalize wr.drewN nq=wq at *
       obtain ⟨Rm,cP,cQ⟩:=HRM.out _ Kq
       have hci:inB (Wn:Int) (Hn:Int) (c:Int)=true:=decide_eq_true ⟨by omega,by rw [HNI.out];omega⟩
       have hin:=mvI_in m8 w1 h1 hci
       obtain ⟨dN,hdN⟩:∃ dN:Nat,mvI (tuM turn) Wn Hn (c:Int)=(dN:Int):=⟨(mvI (tuM turn) Wn Hn (c:Int)).toNat,by have q:0<=mvI (tuM turn) Wn Hn (c:Int)/\_:=of_decide_eq_true hin;omega⟩
       have HST:=HP.out.step m8 w1 h1 hci
       rw [hdN,Int.toNat_natCast] at HST
       rw [hdN,<- HEW.out,<- HEH.out] at hin
       have HSTP:Hid (TuP (tuM turn) Wn Hn bl (c+1) (upd blo dN (bl c))):=HST
       have e1:Below wq.heap.size wq wq.drew:=(Below.refl _ _).drew
       have Rd:=Rm.below e1 (World.block_lt_of_cell? _ _ Rm.c0)
       have cPd:wq.drew.cell? ⟨P,0,none⟩=some (.pointer (some ⟨mb,0,none⟩)):=cP
       have cQd:wq.drew.cell? ⟨Q,0,none⟩=some (.int .i64 turn):=cQ
       have hmv:=move_any (c:Int) turn wq.drew cPd cQd Rd hci
       rw [hdN] at hmv
       have hrs:=rset_any dN (bl c) wq.drew (Rq.below e1 (World.block_lt_of_cell? _ _ Rq.c0)) (fun o=>Fq o) hin
       have c256:c<256:=by omega
       have cc:wq.drew.cell? ⟨mb,2+c,none⟩=some (.bool (bl c)):=Rd.cs c c256
       have K1:=Kq.below e1
       have hnm:mb≠ob:=by omega
       have hnP:P≠ob:=by omega
       have c0':(0:Int)<=(c:Int):=by omega
       have c256':(c:Int)<256:=by omega
       generalize bl c=bi at *
       clear HST hdN hin hci Rm cP cQ Rd cQd Rq Fq Kq e1 HP
       go_upto_region 15 with fail
       go_region_held3 (fun w'=>w'.cell? ⟨P,0,none⟩=some (.pointer (some ⟨mb,0,none⟩))/\w'.cell? ⟨mb,2+c,none⟩=some (.bool bi)) (first|with_reducible exact ⟨cPd,cc⟩)
        (first|(go_at_call 27;refine hmv.mono ?_;rintro r w7 ⟨rfl,rfl⟩)|(go_at_call 29;refine hrs.mono ?_;rintro r w8 ⟨rfl,K8,⟨V8,R8⟩,F8⟩;have cPd:=K8.cellOf cPd hnP;have cc:=K8.cellOf cc hnm))
       have KF:=K1.trans K8 (fun _ _ h=>h)
       clear hrs hmv K8 K1 cPd cc
       go_wp2
       go_roundw
       case rel=>exact ⟨c+1,V8,_,by omega,by go_num,R8,HSTP.out,F8,KF⟩
       case measure=>simp [intOf];omega
      ·have hlt':¬ (c:Int)<(N:Int):=by omega
       have HE:Hid (c=N):=by show c=N;omega
       have HRm:Hid (RefAt wr mb Wn Hn V bl):=Rm
       clear Rm
       go_wp2_with fail
       go_quiet (fail)
       have e0:Below wr.heap.size wr (wr.drewN nq):=below_drewN (Below.refl _ _) _
       have Kq:=KO.below e0
       have Rq:=RO.below e0 (World.block_lt_of_cell? _ _ RO.c0)
       clear KO RO FO HRm ra0 ra1 cP cQ e0
       generalize wr.drewN nq=wq at *
       have HG:Hid (GIso (tuM turn) (tuC (tuM turn) Wn Hn) (tuF (tuM turn) Wn Hn) (Wn:Int) (Hn:Int) (nrm Wn Hn bl) (W':Int) (H':Int) (nrm W' H' blo)):=turn_of m8 (by omega) (by omega) HEW.out HEH.out (by rw [HN.out,<- HE.out];exact HP.out)
       have D7:Below WS.heap.size WS wq:=D6.trans (Kq.to_below (by have:=D6.size;omega) (fun k h=>by omega))
       have B7:=B3.trans (D7.mono B3.size)
       have lob:ob<wq.heap.size:=World.block_lt_of_cell? _ _ Rq.c0
       have hpr:=rprint_any (W:=W') (H:=H') wq Rq lob
       have hrd:=read_print blo W' H' (by omega) (by omega) (by omega) (by omega)
       generalize printL blo W' H'=tx at *
       clear Rq Kq HRM
       go_wp2_with fail
       refine hpr.mono ?_
       rintro e w7 ⟨rfl,hb7⟩
       have D8:=D7.trans (hb7.mono D7.size)
       have B8:=B3.trans (D8.mono B3.size)
       have hld:=nload_any w7 (E.grown B8) (s.below B8 (by omega)) hrd m1 m6
       clear hpr hrd
       go_wp2_with fail
       refine hld.mono ?_
       rintro e w8 ⟨tb_,rfl,ST0,hb8⟩
       have ST:Sv w8 w7.heap.size w8.heap.size tb_ (W':Int) (H':Int) (blocks ((List.range (H'*W')).map blo)) (nrm W' H' blo) mN:=ST0
       have D9:=D8.trans (hb8.mono D8.size)
       have B9:=B3.trans (D9.mono B3.size)
       have S9:=hS.below D9
       have d9:=dC.below D9
       have HNOD:=HG.out.nodes
       have HEDG:=HG.out.edges
       have HSAME:Hid (∀ {way way':List Nat}{s d err s' d' err':Int},Rt (Wn:Int) (Hn:Int) (nrm Wn Hn bl) a b way s d err->Rt (W':Int) (H':Int) (nrm W' H' blo) (mvI (tuM turn) Wn Hn a) (mvI (tuM turn) Wn Hn b) way' s' d' err'->s=s'/\d=d'/\err=err'):=fun {way way' s d err s' d' err'} r r'=>HG.out.same HIA.out HIB.out r (by
        have e2:∀ z,mvI (tuM turn) Wn Hn z=ph (tuM turn) (tuC (tuM turn) Wn Hn) (tuF (tuM turn) Wn Hn) Wn W' z:=fun z=>by unfold mvI;rw [HEW.out]
        rw [<- e2,<- e2]
        exact r')
       have HMV:Hid (∀ w',Below w8.heap.size w8 w'->(Calls Tryz.prog 27 #[.int .i64 a,.pointer (some ⟨P,0,none⟩),.pointer (some ⟨Q,0,none⟩)] w' fun e w''=>e=.returned (.int .i64 (mvI (tuM turn) Wn Hn a))/\w''=w')/\(Calls Tryz.prog 27 #[.int .i64 b,.pointer (some ⟨P,0,none⟩),.pointer (some ⟨Q,0,none⟩)] w' fun e w''=>e=.returned (.int .i64 (mvI (tuM turn) Wn Hn b))/\w''=w')):=fun w' h=>by
        obtain ⟨R,p1,p2⟩:=HM.out w' (D9.trans (h.mono D9.size))
        exact ⟨move_any a turn w' p1 p2 R HIA.out,move_any b turn w' p1 p2 R HIB.out⟩
       generalize mvI (tuM turn) Wn Hn a=pa at *
       generalize mvI (tuM turn) Wn Hn b=pb at *
       have hs1:=fun w' (h:Below w8.heap.size w8 w')=>stats_any w' (S9.below h)
       have hs2:=fun w' (h:Below w8.heap.size w8 w')=>stats_any w' (ST.below h)
       unfold stV at hs1 hs2
       rw [<- HNOD,<- HEDG] at hs2
       obtain ⟨nd,hnd⟩:∃ nd:Int,(((crs (Wn:Int) (Hn:Int) (nrm Wn Hn bl) ((Wn:Int)*(Hn:Int)).toNat).length:Nat):Int)=nd:=⟨_,rfl⟩
       obtain ⟨ed,hed⟩:∃ ed:Int,((edN (Wn:Int) (Hn:Int) (nrm Wn Hn bl) (crs (Wn:Int) (Hn:Int) (nrm Wn Hn bl) ((Wn:Int)*(Hn:Int)).toNat) / 2:Nat):Int)=ed:=⟨_,rfl⟩
       rw [hnd,hed] at hs1 hs2
       have HS1:Hid (∀ w',Below w8.heap.size w8 w'->∃ a0 a1 a4 a5 a6:Int,Calls Tryz.prog 23 #[.pointer (some ⟨sb,0,none⟩)] w' fun e w''=>e=.returned (.agg #[.int .i64 a0,.int .i64 a1,.int .i64 nd,.int .i64 ed,.int .i64 a4,.int .i64 a5,.int .i64 a6])/\Below w'.heap.size w' w''):=fun w' h=>⟨_,_,_,_,_,hs1 w' h⟩
       have HS2:Hid (∀ w',Below w8.heap.size w8 w'->∃ a0 a1 a4 a5 a6:Int,Calls Tryz.prog 23 #[.pointer (some ⟨tb_,0,none⟩)] w' fun e w''=>e=.returned (.agg #[.int .i64 a0,.int .i64 a1,.int .i64 nd,.int .i64 ed,.int .i64 a4,.int .i64 a5,.int .i64 a6])/\Below w'.heap.size w' w''):=fun w' h=>⟨_,_,_,_,_,hs2 w' h⟩
       clear hnd hed
       have HA:Hid (∀ w',Below w8.heap.size w8 w'->∀ a t,_):=fun w' hb a t=>ask_rt a t w' (S9.below hb) (d9.below hb)
       have HT:Hid (∀ w',Below w8.heap.size w8 w'->∀ a t,_):=fun w' hb a t=>ask_rt a t w' (ST.below hb) (d9.below hb)
       have H0:Below w8.heap.size w8 w8:=Below.refl _ _
       clear hld ST0 ST S9 d9 hs1 hs2 HNOD HEDG HG HM hS dC HEW HEH HN HNI HE HIA HIB
       go_wp2_with fail
       refine (HA.out _ H0 _ _).mono ?_
       rintro e v1 ⟨A1,cap1,way1,s1,d1,r1,rfl,own1,old1,ans1,rt1,hb1'⟩
       have E1:=H0.trans (hb1'.mono H0.size)
       have D1:Below w8.heap.size w8 (v1.alloc (.cells #[.slice A1 way1.length cap1,.int .i64 s1,.int .i64 d1,.int .i64 r1] 56)):=E1.alloc E1.size _
       have n1:=An.new v1 (.slice A1 way1.length cap1) s1 d1 r1
       clear own1 old1 ans1 E1 hb1' HA
       go_upto_region 20 with fail
       generalize v1.alloc (.cells #[.slice A1 way1.length cap1,.int .i64 s1,.int .i64 d1,.int .i64 r1] 56)=u1 at *
       generalize v1.heap.size=P1 at *
       obtain ⟨hm1,hm2⟩:=HMV.out _ D1
       have hak:=HT.out _ D1 pa pb
       clear HMV HT
       go_wp2_with fail
       refine hm1.mono ?_
       rintro e w10 ⟨rfl,hw10⟩
       subst hw10
       clear hm1
       go_wp2_with fail
       refine hm2.mono ?_
       rintro e w10 ⟨rfl,hw10⟩
       subst hw10
       clear hm2
       go_wp2_with fail
       refine hak.mono ?_
       rintro e v2 ⟨A2,cap2,way2,s2,d2,r2,rfl,own2,old2,ans2,rt2,hb2'⟩
       clear hak own2 old2 ans2
       have HR:=HSAME.out rt1 rt2
       clear HSAME rt1 rt2
       obtain ⟨rfl,rfl,rfl⟩:=HR
       have E2:=D1.trans (hb2'.mono D1.size)
       have D2:Below w8.heap.size w8 (v2.alloc (.cells #[.slice A2 way2.length cap2,.int .i64 s1,.int .i64 d1,.int .i64 r1] 56)):=E2.alloc E2.size _
       have n2:=An.new v2 (.slice A2 way2.length cap2) s1 d1 r1
       have g2:Below v2.heap.size v2 (v2.alloc (.cells #[.slice A2 way2.length cap2,.int .i64 s1,.int .i64 d1,.int .i64 r1] 56)):=(Below.refl _ _).alloc (Nat.le_refl _) _
       have n1:=(n1.below hb2').below g2
       go_upto_region 21 with fail
       generalize v2.alloc (.cells #[.slice A2 way2.length cap2,.int .i64 s1,.int .i64 d1,.int .i64 r1] 56)=u2 at *
       generalize v2.heap.size=P2 at *
       clear g2 E2 hb2'
       obtain ⟨a0,a1,a4,a5,a6,hst⟩:=HS1.out _ D2
       clear HS1
       go_wp2_with fail
       refine hst.mono ?_
       rintro e v3 ⟨rfl,hb3⟩
       clear hst
       have E3:=D2.trans (hb3.mono D2.size)
       have D3:Below w8.heap.size w8 (v3.alloc (.cells #[.int .i64 a0,.int .i64 a1,.int .i64 nd,.int .i64 ed,.int .i64 a4,.int .i64 a5,.int .i64 a6] 64)):=E3.alloc E3.size _
       have g3:Below v3.heap.size v3 (v3.alloc (.cells #[.int .i64 a0,.int .i64 a1,.int .i64 nd,.int .i64 ed,.int .i64 a4,.int .i64 a5,.int .i64 a6] 64)):=(Below.refl _ _).alloc (Nat.le_refl _) _
       have x2:(v3.alloc (.cells #[.int .i64 a0,.int .i64 a1,.int .i64 nd,.int .i64 ed,.int .i64 a4,.int .i64 a5,.int .i64 a6] 64)).cell? ⟨v3.heap.size,2,none⟩=some (.int .i64 nd):=World.cell?_alloc_new ..
       have x3:(v3.alloc (.cells #[.int .i64 a0,.int .i64 a1,.int .i64 nd,.int .i64 ed,.int .i64 a4,.int .i64 a5,.int .i64 a6] 64)).cell? ⟨v3.heap.size,3,none⟩=some (.int .i64 ed):=World.cell?_alloc_new ..
       have n1:=(n1.below hb3).below g3
       have n2:=(n2.below hb3).below g3
       go_upto_region 22 with fail
       generalize v3.alloc (.cells #[.int .i64 a0,.int .i64 a1,.int .i64 nd,.int .i64 ed,.int .i64 a4,.int .i64 a5,.int .i64 a6] 64)=u3 at *
       generalize v3.heap.size=P3 at *
       clear g3 E3 hb3
       obtain ⟨a0',a1',a4',a5',a6',hst⟩:=HS2.out _ D3
       clear HS2
       go_wp2_with fail
       refine hst.mono ?_
       rintro e v4 ⟨rfl,hb4⟩
       clear hst
       have E4:=D3.trans (hb4.mono D3.size)
       have D4:Below w8.heap.size w8 (v4.alloc (.cells #[.int .i64 a0',.int .i64 a1',.int .i64 nd,.int .i64 ed,.int .i64 a4',.int .i64 a5',.int .i64 a6'] 64)):=E4.alloc E4.size _
       have g4:Below v4.heap.size v4 (v4.alloc (.cells #[.int .i64 a0',.int .i64 a1',.int .i64 nd,.int .i64 ed,.int .i64 a4',.int .i64 a5',.int .i64 a6'] 64)):=(Below.refl _ _).alloc (Nat.le_refl _) _
       have y2:(v4.alloc (.cells #[.int .i64 a0',.int .i64 a1',.int .i64 nd,.int .i64 ed,.int .i64 a4',.int .i64 a5',.int .i64 a6'] 64)).cell? ⟨v4.heap.size,2,none⟩=some (.int .i64 nd):=World.cell?_alloc_new ..
       have y3:(v4.alloc (.cells #[.int .i64 a0',.int .i64 a1',.int .i64 nd,.int .i64 ed,.int .i64 a4',.int .i64 a5',.int .i64 a6'] 64)).cell? ⟨v4.heap.size,3,none⟩=some (.int .i64 ed):=World.cell?_alloc_new ..
       have n1:=(n1.below hb4).below g4
       have n2:=(n2.below hb4).below g4
       have gb:=hb4.trans (g4.mono hb4.size)
       have x2:=(gb.cell (World.block_lt_of_cell? _ _ x2)).trans x2
       have x3:=(gb.cell (World.block_lt_of_cell? _ _ x3)).trans x3
       go_upto_region 23 with fail
       generalize v4.alloc (.cells #[.int .i64 a0',.int .i64 a1',.int .i64 nd,.int .i64 ed,.int .i64 a4',.int .i64 a5',.int .i64 a6'] 64)=u4 at *
       generalize v4.heap.size=P4 at *
       have i1:=n1.c1
       have i2:=n1.c2
       have i3:=n1.c3
       have j1:=n2.c1
       have j2:=n2.c2
       have j3:=n2.c3
       clear g4 E4 hb4 gb n1 n2
       go_wp2
       go_ret
       exact ⟨rfl,B9.trans (D4.mono B9.size)⟩
end Go.Proofs.YtmaefimaeelkbaaGreatDoor
