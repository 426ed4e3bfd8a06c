/- -/
import Derived.Test.YtipbhlofbpnpjaaGreatDoorE29
import Derived.Test.YtipbhlofbpnpjaaGreatDoorE32
namespace Go.Proofs.YtipbhlofbpnpjaaGreatDoor
open Go.RowKit Go.Lib
set_option maxHeartbeats 8000000 in
set_option maxRecDepth 1000000 in
theorem topEdits_any (W H most:Int)(A:Option Addr)(n cap:Nat)(xs:Nat->Int)(A3:Option Addr)(n3 cap3:Nat)(cs:Nat->Int)(bs:Nat->Bool)(A2:Option Addr)(n2 cap2:Nat)(fs ts:Nat->Int)(w:World)(E:Env w)(s:StepsAt w)(dg:DiagAt w)(hm:n<=maxLen)(hx:OldRow w A n xs)(hy:OldEd w A3 n3 cs bs)(hq:OldAsk w A2 n2 fs ts) :
  Calls Tryz.prog 4 #[.agg #[.int .i64 W,.int .i64 H,.slice A n cap],.int .i64 most,.slice A3 n3 cap3,.slice A2 n2 cap2] w fun e w'=>e=.returned (.bool true)/\Below w.heap.size w w':=by
 have hsp:=s.pos
 have b0:Below w.heap.size w (w.alloc (.cells #[.int .i64 W,.int .i64 H,.slice A n cap] 24)):=(Below.refl _ _).alloc (Nat.le_refl _) _
 have q:∀ o,(w.alloc (.cells #[.int .i64 W,.int .i64 H,.slice A n cap] 24)).cell? ⟨w.heap.size,o,none⟩=#[Value.int .i64 W,.int .i64 H,.slice A n cap][o]? := fun o=>World.cell?_alloc_new ..
 have hwk:=works_any _ (s.below b0 (by omega)) (dg.below b0)
 go_enter Tryz.func4,Tryz.ntmps4
 go_wp2_with fail
 have hz0:w.heap.size<(w.alloc (.cells #[.int .i64 W,.int .i64 H,.slice A n cap] 24)).heap.size:=by simp
 generalize w.alloc (.cells #[.int .i64 W,.int .i64 H,.slice A n cap] 24)=wa at *
 refine hwk.mono ?_
 rintro e wb ⟨rfl,hb1⟩
 have B1:=b0.trans (hb1.mono b0.size)
 have c0:=(hb1.cell (p:=⟨w.heap.size,0,none⟩) hz0).trans (q 0)
 have c1:=(hb1.cell (p:=⟨w.heap.size,1,none⟩) hz0).trans (q 1)
 have c2:=(hb1.cell (p:=⟨w.heap.size,2,none⟩) hz0).trans (q 2)
 have hsv:=serve_any W H most A n cap xs wb (E.grown B1) (s.below B1 (by omega)) hm (hx.below B1)
 clear hwk q b0 hb1 hz0
 go_wp2_with fail
 refine hsv.mono ?_
 rintro e wc ⟨hb2,hcs⟩
 have B2:=B1.trans (hb2.mono B1.size)
 clear hsv c0 c1 c2
 rcases hcs with ⟨p,rfl⟩|⟨sb,mb,lo,Wn,Hn,mN,V,bl,rfl,rfl,rfl,rfl,hmb,SR⟩
 ·go_wp2
  go_ret
  exact ⟨rfl,B2⟩
 ·by_cases h60:(60:Int)<(n3:Int)
  ·clear SR
   go_wp2
   go_ret
   exact ⟨rfl,B2⟩
  by_cases h20:(20:Int)<(n2:Int)
  ·clear SR
   go_wp2
   go_ret
   exact ⟨rfl,B2⟩
  obtain ⟨WS,hWS⟩:∃ WS,WS=wc:=⟨_,rfl⟩
  subst hWS
  have hS:=SR.sv
  have hR:=SR.ra
  have hRF:=SR.rf
  have lmb:=World.block_lt_of_cell? _ _ hR.c0
  have hlom:=SR.lt
  have hlow:w.heap.size<lo:=by have h2:=B1.size;omega
  have hmw:w.heap.size<=mb:=by have h2:=B1.size;omega
  have hlol:=SR.sv.lo_lt
  have z8:=E.z
  have HYA:Hid (0<n3->∀ b o,A3=some ⟨b,o,none⟩->b<w.heap.size):=fun hn b' o' e'=>by
   obtain ⟨b2,o2,e2,hb2,_⟩:=hy 0 hn
   rw [e2] at e'
   cases e'
   exact hb2
  obtain ⟨w1,w2,h1,h2⟩:=hS.side
  obtain ⟨m1,m6⟩:=hS.mst
  have hwh:=wh_bd w1 w2 h1 h2
  have hbk:=blocks_le ((List.range (Hn*Wn)).map bl)
  rw [List.length_map,List.length_range] at hbk
  have hbk2:((Hn*Wn:Nat):Int)<=256:=by rw [Nat.mul_comm,Int.natCast_mul];omega
  have hed:=nedit_u (cap:=cap3) WS hS (hy.below B2) (fun hn b' o' e' h'=>by have:=HYA.out hn b' o' e';omega) (by omega) (by omega) (by omega)
  rw [edK_eqv (nrm_eqv bl),edG_nrm] at hed
  clear SR hbk hbk2 hS
  have HK60:Hid (edK Wn Hn bl cs bs n3<=60):=by
   have h:=edC_le bl cs bs n3
   show edK Wn Hn bl cs bs n3<=60
   unfold edK
   split <;> omega
  go_wp2_with fail
  refine hed.mono ?_
  rintro e wE ⟨rfl,⟨VE,SE⟩,KE⟩
  have zWS:=KE.size
  have lE:Below lo WS wE:=KE.to_below (by omega) (fun k h=>h.1)
  have BE:Below w.heap.size w wE:=B2.trans (lE.mono (Nat.le_of_lt hlow))
  have RE:=hR.below lE hlom
  have lmE:mb<wE.heap.size:=World.block_lt_of_cell? _ _ RE.c0
  have b7:Below wE.heap.size wE (wE.alloc (.cells #[.pointer (some ⟨mb,0,none⟩),.int .i64 (mN:Int)] 33)):=(Below.refl _ _).alloc (Nat.le_refl _) _
  have cx:(wE.alloc (.cells #[.pointer (some ⟨mb,0,none⟩),.int .i64 (mN:Int)] 33)).cell? ⟨wE.heap.size,0,none⟩=some (.pointer (some ⟨mb,0,none⟩)):=World.cell?_alloc_at #[.pointer (some ⟨mb,0,none⟩),.int .i64 (mN:Int)] 33 wE.heap.size 0 rfl
  have R7:=RE.below b7 lmE
  have F7:Free (wE.alloc (.cells #[.pointer (some ⟨mb,0,none⟩),.int .i64 (mN:Int)] 33)) mb:=fun o=>(b7.frozen (p:=⟨mb,o,none⟩) lmE).trans ((lE.frozen (p:=⟨mb,o,none⟩) hlom).trans (hRF o))
  have B7:=BE.trans (b7.mono BE.size)
  have S7:=SE.below b7
  have hre:=redit_u (cap:=cap3) _ cx R7 F7 (Nat.ne_of_gt lmE) (hy.below B7) (fun hn b' o' e' h'=>by have:=HYA.out hn b' o' e';omega)
  clear hed KE SE RE R7 F7 hRF hR lE
  go_wp2_with fail
  refine hre.mono ?_
  rintro e w8 ⟨rfl,⟨V8,R8⟩,_,K8⟩
  generalize wE.alloc (.cells #[.pointer (some ⟨mb,0,none⟩),.int .i64 (mN:Int)] 33)=w7 at *
  generalize hxb:wE.heap.size=xb at *
  have c8:=K8.cellOf cx (show xb≠mb by omega)
  have S8:=S7.keepLow K8 (fun k h=>by omega)
  have B8:Below w.heap.size w w8:=B7.trans (K8.to_below (by have:=B7.size;omega) (fun k h=>by omega))
  have lm8:mb<w8.heap.size:=World.block_lt_of_cell? _ _ R8.c0
  clear hre K8 S7 cx
  generalize edG Wn Hn bl cs bs n3=bl2 at *
  generalize edK Wn Hn bl cs bs n3=kk at *
  have htn:=tnum_u w8 (edE Wn Hn cs n3)
  generalize edE Wn Hn cs n3=ee at *
  generalize edV ee=ev at *
  go_wp2_with fail
  refine htn.mono ?_
  rintro e w9 ⟨rfl,hw9⟩
  have hw9:w8=w9:=hw9.symm
  subst hw9
  have hrd:=read_print bl2 Wn Hn (by omega) (by omega) (by omega) (by omega)
  have hpr:=rprint_any w8 R8 lm8
  have HSV:Hid (∀ (w':World) (lo hi p:Nat) (V':Int),Below w.heap.size w w'->Sv w' lo hi p Wn Hn V' (nrm Wn Hn bl2) mN->Calls Tryz.prog 24 #[.pointer (some ⟨p,0,none⟩)] w' fun e w''=>e=.returned (.string (str (printL bl2 Wn Hn)))/\Below w'.heap.size w' w''):=fun w' lo hi p V' hb S=>by
   have h:=save_any w' (E.grown hb) (E.grown hb).z S
   rw [printL_eqv (nrm_eqv bl2)] at h
   exact h
  generalize printL bl2 Wn Hn=tx at *
  clear htn
  go_wp2_with fail
  refine hpr.mono ?_
  rintro e w10 ⟨rfl,hb10⟩
  have B10:=B8.trans (hb10.mono B8.size)
  have hld:=nload_any w10 (E.grown B10) (s.below B10 (by omega)) hrd m1 m6
  clear hpr hrd
  go_wp2_with fail
  refine hld.mono ?_
  rintro e w11 ⟨ob,rfl,SO0,hb11⟩
  have SO:Sv w11 w10.heap.size w11.heap.size ob Wn Hn (blocks ((List.range (Hn*Wn)).map bl2)) (nrm Wn Hn bl2) mN:=SO0
  have D11:=hb10.trans (hb11.mono hb10.size)
  have B11:=B8.trans (D11.mono B8.size)
  have S11:=S8.below D11
  have hs1:=HSV.out w11 _ _ _ _ B11 S11
  clear hld SO0
  go_wp2_with fail
  refine hs1.mono ?_
  rintro e w12 ⟨rfl,hb12⟩
  have D12:=D11.trans (hb12.mono D11.size)
  have B12:=B8.trans (D12.mono B8.size)
  have SO12:=SO.below hb12
  have hs2:=HSV.out w12 _ _ _ _ B12 SO12
  clear hs1 SO
  go_wp2_with fail
  refine hs2.mono ?_
  rintro e w13 ⟨rfl,hb13⟩
  have D13:=D12.trans (hb13.mono D12.size)
  have B13:=B8.trans (D13.mono B8.size)
  have S13:=S8.below D13
  have O13:=SO12.below hb13
  have d13:=dg.below B13
  have R13:=R8.below D13 lm8
  have c13:=(D13.cell (World.block_lt_of_cell? _ _ c8)).trans c8
  have lm13:mb<w13.heap.size:=World.block_lt_of_cell? _ _ R13.c0
  have HQ:Hid (OldAsk w13 A2 n2 fs ts):=hq.below B13
  have HX:Hid (∀ a t,∃ way s d err,AskP Wn Hn (nrm Wn Hn bl2) mN a t way s d err):=fun a t=>ask_ex a t w13 S13 d13
  have HA1:Hid (∀ w',Below w13.heap.size w13 w'->∀ {a t:Int}{way:List Nat}{s d err:Int},AskP Wn Hn (nrm Wn Hn bl2) mN a t way s d err->_):=fun w' hb {a t way s d err} P=>ask_fix (a:=a) (t:=t) w' P (S13.below hb) (d13.below hb)
  have HA2:Hid (∀ w',Below w13.heap.size w13 w'->∀ {a t:Int}{way:List Nat}{s d err:Int},AskP Wn Hn (nrm Wn Hn bl2) mN a t way s d err->_):=fun w' hb {a t way s d err} P=>ask_fix (a:=a) (t:=t) w' P (O13.below hb) (d13.below hb)
  have HST:Hid (∀ w',Below w13.heap.size w13 w'->_):=fun w' hb=>stats_any w' (S13.below hb)
  have HOT:Hid (∀ w',Below w13.heap.size w13 w'->_):=fun w' hb=>stats_any w' (O13.below hb)
  have hev:=nrm_eqv (W:=Wn) (H:=Hn) bl2
  have HRG:Hid (∀ w',Below w13.heap.size w13 w'->∀ {v:Value}{way:List Nat}{a t s d err:Int}{base:Nat},w'.ownsRow base 3 1 v way.length (vals way)->AskP Wn Hn (nrm Wn Hn bl2) mN a t way s d err->_):=fun w' hb {v way a t s d err base} ho P=>right_any (xb:=xb) (v:=v) (base:=base) w' ((hb.cell (World.block_lt_of_cell? _ _ c13)).trans c13) (R13.below hb lm13) ho (P.2.eqv hev)
  obtain ⟨k0,k1,k2,k3,k4,k5,hstv⟩:∃ k0 k1 k2 k3 k4 k5:Int,∀ V',stV Wn Hn V' (nrm Wn Hn bl2) mN=#[.int .i64 k0,.int .i64 k1,.int .i64 k2,.int .i64 k3,.int .i64 k4,.int .i64 k5,.int .i64 V']:=⟨_,_,_,_,_,_,fun _=>rfl⟩
  have HSTV:Hid (∀ V',stV Wn Hn V' (nrm Wn Hn bl2) mN=#[.int .i64 k0,.int .i64 k1,.int .i64 k2,.int .i64 k3,.int .i64 k4,.int .i64 k5,.int .i64 V']):=hstv
  clear hs2 HSV SO12 S8 S11 S13 O13 d13 R8 R13 c8 c13 hev hstv
  go_wp2
  go_loopw [18] (fun iv wr=>∃ i:Nat,i<=n2/\iv=.int .i64 i/\Below w13.heap.size w13 wr)
   (fun i _=>n2 - (intOf i).toNat)
  case atStart=>exact ⟨0,Nat.zero_le _,rfl,Below.refl _ _⟩
  case round =>
   obtain ⟨i,hi,rfl,DI⟩:=hrel
   by_cases hlt:i<n2
   ·obtain ⟨bA,oA,rfl,hbA,f0,t0⟩:=(HQ.out.below DI) i hlt
    have i1:(i:Int)<(n2:Int):=by omega
    generalize fs i=fa at *
    generalize ts i=tt at *
    obtain ⟨way,sx,dx,er,HP⟩:=HX.out fa tt
    have HP:Hid (AskP Wn Hn (nrm Wn Hn bl2) mN fa tt way sx dx er):=HP
    obtain ⟨WI,hWI⟩:∃ WI,WI=wr:=⟨_,rfl⟩
    subst hWI
    go_upto_region 18 with fail
    go_cut [19] from 93 to 104 (fun pv wd=>∃ T A cap,pv=.pointer (some ⟨T,0,none⟩)/\An wd T (.slice A way.length cap) sx dx er/\wd.ownsRow WI.heap.size 3 1 (.slice A way.length cap) way.length (vals way)/\Below WI.heap.size WI wd)
    case first =>
     have e0:Below WI.heap.size WI WI.drew:=(Below.refl _ _).drew
     have eA:Below WI.heap.size WI (WI.drew.alloc (.cells #[.slice none 0 0,.int .i64 0,.int .i64 0,.int .i64 0] 41)):=e0.alloc e0.size _
     have sA:An (WI.drew.alloc (.cells #[.slice none 0 0,.int .i64 0,.int .i64 0,.int .i64 0] 41)) WI.heap.size (.slice none 0 0) 0 0 0:=An.new WI.drew _ _ _ _
     have CC:Hid (∀ w',Below WI.heap.size WI w'->w'.cell? ⟨bA,oA+i*2,none⟩=some (.int .i64 fa)/\w'.cell? ⟨bA,oA+i*2+1,none⟩=some (.int .i64 tt)):=fun w' h=>⟨(h.cell (World.block_lt_of_cell? WI _ f0)).trans f0,(h.cell (World.block_lt_of_cell? WI _ t0)).trans t0⟩
     have HC:Hid (∀ w',Below WI.heap.size WI w'->_):=fun w' hb=>HA1.out w' (DI.trans (hb.mono DI.size)) HP.out
     clear f0 t0
     go_region_held3 (fun w'=>w'.cell? ⟨bA,oA+i*2,none⟩=some (.int .i64 fa)/\w'.cell? ⟨bA,oA+i*2+1,none⟩=some (.int .i64 tt)) (first|with_reducible exact CC.out _ e0|with_reducible exact CC.out _ e6|exact CC.out _ eA|exact CC.out _ (e6.alloc e6.size _)|exact CC.out _ (an_below e6 (Nat.le_refl _) _ _ _ _))
      (first|(go_at_call 18;first|(refine (HC.out _ e0).mono ?_;rintro r w6 ⟨A6,cap6,rfl,ow6,_,hb6⟩;have e6:=e0.trans (hb6.mono e0.size))|(refine (HC.out _ eA).mono ?_;rintro r w6 ⟨A6,cap6,rfl,ow6,_,hb6⟩;have e6:=eA.trans (hb6.mono eA.size);have s6:=sA.below hb6;have g0:=s6.c0;have g1:=s6.c1;have g2:=s6.c2;have g3:=s6.c3;have y0:=s6.z0;have y1:=s6.z1;have y2:=s6.z2;have y3:=s6.z3)))
     all_goals
      go_wp2_with fail
      go_meet
      first
       |exact ⟨w6.heap.size,A6,cap6,(by first|rfl|simp),An.new w6 _ _ _ _,World.ownsRow.alloc (own_base ow6 (by first|exact Nat.le_refl _|simp)) _,e6.alloc e6.size _⟩
       |exact ⟨WI.heap.size,A6,cap6,(by first|rfl|simp),s6.set _ _ _ _,own_base (own_keep ow6 (an_keep w6 WI.heap.size _ _ _ _) (fun q hq=>by have h:=(ow6.lt q hq).1;simp at h;omega)) (by simp),an_below e6 (Nat.le_refl _) _ _ _ _⟩
    case rest =>
     obtain ⟨T1,A1,cap1,rfl,an1,ow1,hb1⟩:=hcut
     obtain ⟨WJ,hWJ⟩:∃ WJ,WJ=wc:=⟨_,rfl⟩
     subst hWJ
     have f1:=(hb1.cell (World.block_lt_of_cell? _ _ f0)).trans f0
     have t1:=(hb1.cell (World.block_lt_of_cell? _ _ t0)).trans t0
     have DB:=DI.trans (hb1.mono DI.size)
     clear f0 t0
     have f0:=f1
     have t0:=t1
     clear f1 t1
     go_upto_region 19 with fail
     go_cut [20] from 105 to 116 (fun pv wd=>∃ T A cap,pv=.pointer (some ⟨T,0,none⟩)/\An wd T (.slice A way.length cap) sx dx er/\wd.ownsRow WJ.heap.size 3 1 (.slice A way.length cap) way.length (vals way)/\Below WJ.heap.size WJ wd)
     case first =>
      have e0:Below WJ.heap.size WJ WJ.drew:=(Below.refl _ _).drew
      have eA:Below WJ.heap.size WJ (WJ.drew.alloc (.cells #[.slice none 0 0,.int .i64 0,.int .i64 0,.int .i64 0] 41)):=e0.alloc e0.size _
      have sA:An (WJ.drew.alloc (.cells #[.slice none 0 0,.int .i64 0,.int .i64 0,.int .i64 0] 41)) WJ.heap.size (.slice none 0 0) 0 0 0:=An.new WJ.drew _ _ _ _
      have CC:Hid (∀ w',Below WJ.heap.size WJ w'->w'.cell? ⟨bA,oA+i*2,none⟩=some (.int .i64 fa)/\w'.cell? ⟨bA,oA+i*2+1,none⟩=some (.int .i64 tt)):=fun w' h=>⟨(h.cell (World.block_lt_of_cell? WJ _ f0)).trans f0,(h.cell (World.block_lt_of_cell? WJ _ t0)).trans t0⟩
      have HC:Hid (∀ w',Below WJ.heap.size WJ w'->_):=fun w' hb=>HA2.out w' (DB.trans (hb.mono DB.size)) HP.out
      clear f0 t0
      go_region_held3 (fun w'=>w'.cell? ⟨bA,oA+i*2,none⟩=some (.int .i64 fa)/\w'.cell? ⟨bA,oA+i*2+1,none⟩=some (.int .i64 tt)) (first|with_reducible exact CC.out _ e0|with_reducible exact CC.out _ e6|exact CC.out _ eA|exact CC.out _ (e6.alloc e6.size _)|exact CC.out _ (an_below e6 (Nat.le_refl _) _ _ _ _))
       (first|(go_at_call 18;first|(refine (HC.out _ e0).mono ?_;rintro r w6 ⟨A6,cap6,rfl,ow6,_,hb6⟩;have e6:=e0.trans (hb6.mono e0.size))|(refine (HC.out _ eA).mono ?_;rintro r w6 ⟨A6,cap6,rfl,ow6,_,hb6⟩;have e6:=eA.trans (hb6.mono eA.size);have s6:=sA.below hb6;have g0:=s6.c0;have g1:=s6.c1;have g2:=s6.c2;have g3:=s6.c3;have y0:=s6.z0;have y1:=s6.z1;have y2:=s6.z2;have y3:=s6.z3)))
      all_goals
       go_wp2_with fail
       go_meet
       first
        |exact ⟨w6.heap.size,A6,cap6,(by first|rfl|simp),An.new w6 _ _ _ _,World.ownsRow.alloc (own_base ow6 (by first|exact Nat.le_refl _|simp)) _,e6.alloc e6.size _⟩
        |exact ⟨WJ.heap.size,A6,cap6,(by first|rfl|simp),s6.set _ _ _ _,own_base (own_keep ow6 (an_keep w6 WJ.heap.size _ _ _ _) (fun q hq=>by have h:=(ow6.lt q hq).1;simp at h;omega)) (by simp),an_below e6 (Nat.le_refl _) _ _ _ _⟩
     case rest =>
      obtain ⟨T2,A2,cap2,rfl,an2,ow2,hb2⟩:=hcut
      have an3:=an1.below hb2
      have ow3:=own_below ow1 hb2
      have DE:=DB.trans (hb2.mono DB.size)
      have f2:=(hb2.cell (World.block_lt_of_cell? _ _ f0)).trans f0
      have t2:=(hb2.cell (World.block_lt_of_cell? _ _ t0)).trans t0
      have x0:=an3.c0
      have x1:=an3.c1
      have x2:=an3.c2
      have x3:=an3.c3
      have y1:=an2.c1
      have y2:=an2.c2
      have y3:=an2.c3
      have e0:Below wc.heap.size wc wc.drew:=(Below.refl _ _).drew
      have E0:=DE.trans (e0.mono DE.size)
      have ow4:=own_below ow3 e0
      have hrg:=HRG.out _ E0 ow4 HP.out
      have CC:Hid (∀ w',Below wc.heap.size wc w'->w'.cell? ⟨bA,oA+i*2,none⟩=some (.int .i64 fa)/\w'.cell? ⟨bA,oA+i*2+1,none⟩=some (.int .i64 tt)/\w'.cell? ⟨T1,0,none⟩=some (.slice A1 way.length cap1)/\w'.cell? ⟨T1,1,none⟩=some (.int .i64 sx)/\w'.cell? ⟨T1,2,none⟩=some (.int .i64 dx)/\w'.cell? ⟨T1,3,none⟩=some (.int .i64 er)):=fun w' h=>by
       have k:∀ {a:Addr}{v:Value},wc.cell? a=some v->w'.cell? a=some v:=fun {a v} q=>(h.cell (World.block_lt_of_cell? wc a q)).trans q
       exact ⟨k f2,k t2,k x0,k x1,k x2,k x3⟩
      have HY:Hid (∀ w',Below wc.heap.size wc w'->w'.cell? ⟨T1,1,none⟩=some (.int .i64 sx)/\w'.cell? ⟨T1,2,none⟩=some (.int .i64 dx)/\w'.cell? ⟨T1,3,none⟩=some (.int .i64 er)/\w'.cell? ⟨T2,1,none⟩=some (.int .i64 sx)/\w'.cell? ⟨T2,2,none⟩=some (.int .i64 dx)/\w'.cell? ⟨T2,3,none⟩=some (.int .i64 er)):=fun w' h=>by
       have k:∀ {a:Addr}{v:Value},wc.cell? a=some v->w'.cell? a=some v:=fun {a v} q=>(h.cell (World.block_lt_of_cell? wc a q)).trans q
       exact ⟨k x1,k x2,k x3,k y1,k y2,k y3⟩
      go_upto_region 20 with fail
      clear f0 t0 f2 t2 an1 an2 an3 x0 x1 x2 x3 y1 y2 y3 ow1 ow2 ow3 ow4
      go_region_held3 (fun w'=>w'.cell? ⟨bA,oA+i*2,none⟩=some (.int .i64 fa)/\w'.cell? ⟨bA,oA+i*2+1,none⟩=some (.int .i64 tt)/\w'.cell? ⟨T1,0,none⟩=some (.slice A1 way.length cap1)/\w'.cell? ⟨T1,1,none⟩=some (.int .i64 sx)/\w'.cell? ⟨T1,2,none⟩=some (.int .i64 dx)/\w'.cell? ⟨T1,3,none⟩=some (.int .i64 er)) (first|with_reducible exact CC.out _ e0|with_reducible exact CC.out _ e7)
       (first|(go_at_call 17;refine hrg.mono ?_;rintro r w7' ⟨rfl,hb7⟩;have e7:=e0.trans (hb7.mono e0.size)))
      have D7:=DE.trans (e7.mono DE.size)
      obtain ⟨x1,x2,x3,y1,y2,y3⟩:=HY.out _ e7
      clear hrg
      go_wp2
      go_roundw
      case rel=>exact ⟨i+1,by omega,by go_num,D7⟩
      case measure=>simp [intOf];omega
   ·have e:i=n2:=by omega
    subst e
    have hst:=HST.out _ DI
    rw [HSTV.out] at hst
    go_wp2_with fail
    refine hst.mono ?_
    rintro e wa' ⟨rfl,hba⟩
    have Da:=DI.trans (hba.mono DI.size)
    have ga:Below wa'.heap.size wa' (wa'.alloc (.cells #[.int .i64 k0,.int .i64 k1,.int .i64 k2,.int .i64 k3,.int .i64 k4,.int .i64 k5,.int .i64 VE] 56)):=(Below.refl _ _).alloc (Nat.le_refl _) _
    have pa:∀ o,(wa'.alloc (.cells #[.int .i64 k0,.int .i64 k1,.int .i64 k2,.int .i64 k3,.int .i64 k4,.int .i64 k5,.int .i64 VE] 56)).cell? ⟨wa'.heap.size,o,none⟩=#[Value.int .i64 k0,.int .i64 k1,.int .i64 k2,.int .i64 k3,.int .i64 k4,.int .i64 k5,.int .i64 VE][o]? := fun o=>World.cell?_alloc_new ..
    have Dg:=Da.trans (ga.mono Da.size)
    go_upto_region 24 with fail
    generalize wa'.alloc (.cells #[.int .i64 k0,.int .i64 k1,.int .i64 k2,.int .i64 k3,.int .i64 k4,.int .i64 k5,.int .i64 VE] 56)=wg' at *
    generalize wa'.heap.size=Pa at *
    have p1:=pa 1
    have p2:=pa 2
    have p3:=pa 3
    have hot:=HOT.out _ Dg
    rw [HSTV.out] at hot
    clear hst pa ga hba
    generalize ((blocks ((List.range (Hn*Wn)).map bl2):Nat):Int)=VO at *
    go_wp2_with fail
    refine hot.mono ?_
    rintro e wh ⟨rfl,hbh⟩
    have gh:Below wg'.heap.size wg' (wh.alloc (.cells #[.int .i64 k0,.int .i64 k1,.int .i64 k2,.int .i64 k3,.int .i64 k4,.int .i64 k5,.int .i64 VO] 56)):=hbh.alloc hbh.size _
    have ph:∀ o,(wh.alloc (.cells #[.int .i64 k0,.int .i64 k1,.int .i64 k2,.int .i64 k3,.int .i64 k4,.int .i64 k5,.int .i64 VO] 56)).cell? ⟨wh.heap.size,o,none⟩=#[Value.int .i64 k0,.int .i64 k1,.int .i64 k2,.int .i64 k3,.int .i64 k4,.int .i64 k5,.int .i64 VO][o]? := fun o=>World.cell?_alloc_new ..
    have q1:=(gh.cell (World.block_lt_of_cell? _ _ p1)).trans p1
    have q2:=(gh.cell (World.block_lt_of_cell? _ _ p2)).trans p2
    have q3:=(gh.cell (World.block_lt_of_cell? _ _ p3)).trans p3
    have DH:=Dg.trans (gh.mono Dg.size)
    go_upto_region 25 with fail
    generalize wh.alloc (.cells #[.int .i64 k0,.int .i64 k1,.int .i64 k2,.int .i64 k3,.int .i64 k4,.int .i64 k5,.int .i64 VO] 56)=wi at *
    generalize wh.heap.size=Ph at *
    have r1:=ph 1
    have r2:=ph 2
    have r3:=ph 3
    clear hot ph p1 p2 p3 hbh gh
    go_wp2
    go_ret
    exact ⟨rfl,B13.trans (DH.mono B13.size)⟩
end Go.Proofs.YtipbhlofbpnpjaaGreatDoor
