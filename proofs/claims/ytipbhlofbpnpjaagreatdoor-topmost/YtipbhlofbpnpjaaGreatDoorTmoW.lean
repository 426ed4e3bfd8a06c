/- -/
import Derived.Test.YtipbhlofbpnpjaaGreatDoorP29
namespace Go.Proofs.YtipbhlofbpnpjaaGreatDoor
open Go.RowKit Go.Lib
set_option maxHeartbeats 8000000 in
set_option maxRecDepth 1000000 in
theorem topMost_any (W H most:Int)(A:Option Addr)(n cap:Nat)(xs:Nat->Int)(A2:Option Addr)(n2 cap2:Nat)(fs ts:Nat->Int)(w:World)(E:Env w)(s:StepsAt w)(dg:DiagAt w)(hm:n<=maxLen)(hx:OldRow w A n xs)(hq:OldAsk w A2 n2 fs ts) :
  Calls Tryz.prog 10 #[.agg #[.int .i64 W,.int .i64 H,.slice A n cap],.int .i64 most,.slice A2 n2 cap2] w fun e w'=>e=.returned (.bool true)/\Below w.heap.size w w':=by
 have hsp:=s.pos
 have b0:Below w.heap.size w (w.alloc (.cells #[.int .i64 W,.int .i64 H,.slice A n cap] 24)):=(Below.refl _ _).alloc (Nat.le_refl _) _
 have q:∀ o,(w.alloc (.cells #[.int .i64 W,.int .i64 H,.slice A n cap] 24)).cell? ⟨w.heap.size,o,none⟩=#[Value.int .i64 W,.int .i64 H,.slice A n cap][o]? := fun o=>World.cell?_alloc_new ..
 have hwk:=works_any _ (s.below b0 (by omega)) (dg.below b0)
 go_enter Tryz.func10,Tryz.ntmps10
 go_wp2_with fail
 have hz0:w.heap.size<(w.alloc (.cells #[.int .i64 W,.int .i64 H,.slice A n cap] 24)).heap.size:=by simp
 generalize w.alloc (.cells #[.int .i64 W,.int .i64 H,.slice A n cap] 24)=wa at *
 refine hwk.mono ?_
 rintro e wb ⟨rfl,hb1⟩
 have B1:=b0.trans (hb1.mono b0.size)
 have c0:=(hb1.cell (p:=⟨w.heap.size,0,none⟩) hz0).trans (q 0)
 have c1:=(hb1.cell (p:=⟨w.heap.size,1,none⟩) hz0).trans (q 1)
 have c2:=(hb1.cell (p:=⟨w.heap.size,2,none⟩) hz0).trans (q 2)
 have hsv:=serve_any W H most A n cap xs wb (E.grown B1) (s.below B1 (by omega)) hm (hx.below B1)
 clear hwk q b0 hb1 hz0
 go_wp2_with fail
 refine hsv.mono ?_
 rintro e wc ⟨hb2,hcs⟩
 have B2:=B1.trans (hb2.mono B1.size)
 clear hsv c0 c1 c2
 rcases hcs with ⟨p,rfl⟩|⟨sb,mb,lo,Wn,Hn,mN,V,bl,rfl,rfl,rfl,rfl,hmb,SR⟩
 ·go_wp2
  go_ret
  exact ⟨rfl,B2⟩
 ·by_cases h12:(12:Int)<(n2:Int)
  ·clear SR
   go_wp2
   go_ret
   exact ⟨rfl,B2⟩
  ·obtain ⟨WS,hWS⟩:∃ WS,WS=wc:=⟨_,rfl⟩
   subst hWS
   have hS:=SR.sv
   have hR:=SR.ra
   have lmb:=World.block_lt_of_cell? _ _ hR.c0
   have EC:=E.grown B2
   have sC:=s.below B2 (by omega)
   have dC:=dg.below B2
   obtain ⟨w1,w2,h1,h2⟩:=hS.side
   have hrd:=read_print bl Wn Hn (by omega) (by omega) (by omega) (by omega)
   have HPR:Hid (∀ w',Below WS.heap.size WS w'->_):=fun w' hb=>rprint_any w' (hR.below hb lmb) (Nat.lt_of_lt_of_le lmb hb.size)
   have HLD:Hid (∀ (w':World) (k:Nat),Below WS.heap.size WS w'->1<=k->k<=6->_):=fun w' k hb m1 m6=>nload_any w' (EC.grown hb) (sC.below hb (by omega)) hrd m1 m6
   have HQ:Hid (OldAsk WS A2 n2 fs ts):=hq.below B2
   have HX:Hid (∀ a t,∃ way s d err,AskP Wn Hn (nrm Wn Hn bl) mN a t way s d err):=fun a t=>ask_ex a t WS hS dC
   have HX2:Hid (∀ (w':World) (lo hi ob k:Nat),Sv w' lo hi ob Wn Hn (blocks ((List.range (Hn*Wn)).map bl)) (nrm Wn Hn bl) k->DiagAt w'->∀ {a t:Int}{way:List Nat}{s d err:Int},AskP Wn Hn (nrm Wn Hn bl) mN a t way s d err->∃ way2,AskP Wn Hn (nrm Wn Hn bl) k a t way2 s d err):=fun w' lo hi ob k S dd {a t way s d err} P=>by
    obtain ⟨way2,s2,d2,err2,P2⟩:=ask_ex a t w' S dd
    obtain ⟨rfl,rfl,rfl⟩:=P.2.same P2.2 rfl (fun _ _=>Iff.rfl)
    exact ⟨way2,P2⟩
   have HA1:Hid (∀ w',Below WS.heap.size WS w'->∀ {a t:Int}{way:List Nat}{s d err:Int},AskP Wn Hn (nrm Wn Hn bl) mN a t way s d err->_):=fun w' hb {a t way s d err} P=>ask_fix (a:=a) (t:=t) w' P (hS.below hb) (dC.below hb)
   have HDC:Hid (∀ w',Below WS.heap.size WS w'->DiagAt w'):=fun w' hb=>dC.below hb
   generalize printL bl Wn Hn=tx at *
   clear SR hS hR hrd
   go_wp2
   go_loopw [10] (fun kv wr=>∃ k:Nat,1<=k/\k<=7/\kv=.int .i64 k/\Below WS.heap.size WS wr)
    (fun k _=>7 - (intOf k).toNat)
   case atStart=>exact ⟨1,Nat.le_refl _,by omega,rfl,Below.refl _ _⟩
   case round =>
    obtain ⟨k,k1,k7,rfl,hB⟩:=hrel
    by_cases hk:k<=6
    ·have k6:(k:Int)<=6:=by omega
     have hpr:=HPR.out _ hB
     go_wp2_with fail
     refine hpr.mono ?_
     rintro e wd ⟨rfl,hb3⟩
     have D3:=hB.trans (hb3.mono hB.size)
     have hld:=HLD.out wd k D3 k1 hk
     clear hpr
     go_wp2_with fail
     refine hld.mono ?_
     rintro e we ⟨ob,rfl,SO0,hb4⟩
     have SO:Sv we wd.heap.size we.heap.size ob Wn Hn (blocks ((List.range (Hn*Wn)).map bl)) (nrm Wn Hn bl) k:=SO0
     have D4:=D3.trans (hb4.mono D3.size)
     have hst:=stats_any we SO
     have htp:=SO.top_le
     clear hld SO0
     unfold stV at hst
     generalize (lvK Wn Hn (nrm Wn Hn bl) k).1+1=tp at *
     have htp':(tp:Int)<=(k:Int):=by omega
     go_wp2_with fail
     refine hst.mono ?_
     rintro e wf ⟨rfl,hb5⟩
     have D5:=D4.trans (hb5.mono D4.size)
     have SF:=SO.below hb5
     have HX3:Hid (∀ {a t:Int}{way:List Nat}{s d err:Int},AskP Wn Hn (nrm Wn Hn bl) mN a t way s d err->∃ way2,AskP Wn Hn (nrm Wn Hn bl) k a t way2 s d err):=HX2.out wf _ _ _ _ SF (HDC.out _ D5)
     have HA2:Hid (∀ w',Below wf.heap.size wf w'->∀ {a t:Int}{way:List Nat}{s d err:Int},AskP Wn Hn (nrm Wn Hn bl) k a t way s d err->_):=fun w' hb {a t way s d err} P=>ask_fix (a:=a) (t:=t) w' P (SF.below hb) (HDC.out _ (D5.trans (hb.mono D5.size)))
     clear hst SO SF
     have q5:=fldT
     have hd1:decide ((k:Int)<(tp:Int))=false:=decide_eq_false (by omega)
     have hd2:¬ k<tp:=by omega
     go_wp2
     clear q5
     go_loopw [13] (fun iv wr=>∃ i:Nat,i<=n2/\iv=.int .i64 i/\Below wf.heap.size wf wr)
      (fun i _=>n2 - (intOf i).toNat)
     case atStart=>exact ⟨0,Nat.zero_le _,rfl,Below.refl _ _⟩
     case round =>
      obtain ⟨i,hi,rfl,hBi⟩:=hrel
      have DI:=D5.trans (hBi.mono D5.size)
      by_cases hlt:i<n2
      ·obtain ⟨bA,oA,rfl,hbA,f0,t0⟩:=(HQ.out.below DI) i hlt
       have i1:(i:Int)<(n2:Int):=by omega
       generalize fs i=fa at *
       generalize ts i=tt at *
       obtain ⟨way,sx,dx,er,HP⟩:=HX.out fa tt
       obtain ⟨way2,HP2⟩:=HX3.out HP
       have HP:Hid (AskP Wn Hn (nrm Wn Hn bl) mN fa tt way sx dx er):=HP
       have HP2:Hid (AskP Wn Hn (nrm Wn Hn bl) k fa tt way2 sx dx er):=HP2
       obtain ⟨WI,hWI⟩:∃ WI,WI=wr:=⟨_,rfl⟩
       subst hWI
       go_upto_region 16 with fail
       go_cut [14] from 59 to 70 (fun pv wd=>∃ T A cap,pv=.pointer (some ⟨T,0,none⟩)/\An wd T (.slice A way.length cap) sx dx er/\Below WI.heap.size WI wd)
       case first =>
        have e0:Below WI.heap.size WI WI.drew:=(Below.refl _ _).drew
        have eA:Below WI.heap.size WI (WI.drew.alloc (.cells #[.slice none 0 0,.int .i64 0,.int .i64 0,.int .i64 0] 41)):=e0.alloc e0.size _
        have sA:An (WI.drew.alloc (.cells #[.slice none 0 0,.int .i64 0,.int .i64 0,.int .i64 0] 41)) WI.heap.size (.slice none 0 0) 0 0 0:=An.new WI.drew _ _ _ _
        have CC:Hid (∀ w',Below WI.heap.size WI w'->w'.cell? ⟨bA,oA+i*2,none⟩=some (.int .i64 fa)/\w'.cell? ⟨bA,oA+i*2+1,none⟩=some (.int .i64 tt)):=fun w' h=>⟨(h.cell (World.block_lt_of_cell? WI _ f0)).trans f0,(h.cell (World.block_lt_of_cell? WI _ t0)).trans t0⟩
        have HC:Hid (∀ w',Below WI.heap.size WI w'->_):=fun w' hb=>HA1.out w' (DI.trans (hb.mono DI.size)) HP.out
        clear f0 t0
        go_region_held3 (fun w'=>w'.cell? ⟨bA,oA+i*2,none⟩=some (.int .i64 fa)/\w'.cell? ⟨bA,oA+i*2+1,none⟩=some (.int .i64 tt)) (first|with_reducible exact CC.out _ e0|with_reducible exact CC.out _ e6|exact CC.out _ eA|exact CC.out _ (e6.alloc e6.size _)|exact CC.out _ (an_below e6 (Nat.le_refl _) _ _ _ _))
         (first|(go_at_call 18;first|(refine (HC.out _ e0).mono ?_;rintro r w6 ⟨A6,cap6,rfl,_,_,hb6⟩;have e6:=e0.trans (hb6.mono e0.size))|(refine (HC.out _ eA).mono ?_;rintro r w6 ⟨A6,cap6,rfl,_,_,hb6⟩;have e6:=eA.trans (hb6.mono eA.size);have s6:=sA.below hb6;have g0:=s6.c0;have g1:=s6.c1;have g2:=s6.c2;have g3:=s6.c3;have y0:=s6.z0;have y1:=s6.z1;have y2:=s6.z2;have y3:=s6.z3)))
        all_goals
         go_wp2_with fail
         go_meet
         first
          |exact ⟨w6.heap.size,A6,cap6,(by first|rfl|simp),An.new w6 _ _ _ _,e6.alloc e6.size _⟩
          |exact ⟨WI.heap.size,A6,cap6,(by first|rfl|simp),s6.set _ _ _ _,an_below e6 (Nat.le_refl _) _ _ _ _⟩
       case rest =>
        obtain ⟨T1,A1,cap1,rfl,an1,hb1⟩:=hcut
        obtain ⟨WJ,hWJ⟩:∃ WJ,WJ=wc:=⟨_,rfl⟩
        subst hWJ
        have f1:=(hb1.cell (World.block_lt_of_cell? _ _ f0)).trans f0
        have t1:=(hb1.cell (World.block_lt_of_cell? _ _ t0)).trans t0
        have DB:=hBi.trans (hb1.mono hBi.size)
        clear f0 t0
        have f0:=f1
        have t0:=t1
        clear f1 t1
        go_upto_region 17 with fail
        go_cut [15] from 71 to 82 (fun pv wd=>∃ T A cap,pv=.pointer (some ⟨T,0,none⟩)/\An wd T (.slice A way2.length cap) sx dx er/\Below WJ.heap.size WJ wd)
        case first =>
         have e0:Below WJ.heap.size WJ WJ.drew:=(Below.refl _ _).drew
         have eA:Below WJ.heap.size WJ (WJ.drew.alloc (.cells #[.slice none 0 0,.int .i64 0,.int .i64 0,.int .i64 0] 41)):=e0.alloc e0.size _
         have sA:An (WJ.drew.alloc (.cells #[.slice none 0 0,.int .i64 0,.int .i64 0,.int .i64 0] 41)) WJ.heap.size (.slice none 0 0) 0 0 0:=An.new WJ.drew _ _ _ _
         have CC:Hid (∀ w',Below WJ.heap.size WJ w'->w'.cell? ⟨bA,oA+i*2,none⟩=some (.int .i64 fa)/\w'.cell? ⟨bA,oA+i*2+1,none⟩=some (.int .i64 tt)):=fun w' h=>⟨(h.cell (World.block_lt_of_cell? WJ _ f0)).trans f0,(h.cell (World.block_lt_of_cell? WJ _ t0)).trans t0⟩
         have HC:Hid (∀ w',Below WJ.heap.size WJ w'->_):=fun w' hb=>HA2.out w' (DB.trans (hb.mono DB.size)) HP2.out
         clear f0 t0
         go_region_held3 (fun w'=>w'.cell? ⟨bA,oA+i*2,none⟩=some (.int .i64 fa)/\w'.cell? ⟨bA,oA+i*2+1,none⟩=some (.int .i64 tt)) (first|with_reducible exact CC.out _ e0|with_reducible exact CC.out _ e6|exact CC.out _ eA|exact CC.out _ (e6.alloc e6.size _)|exact CC.out _ (an_below e6 (Nat.le_refl _) _ _ _ _))
          (first|(go_at_call 18;first|(refine (HC.out _ e0).mono ?_;rintro r w6 ⟨A6,cap6,rfl,_,_,hb6⟩;have e6:=e0.trans (hb6.mono e0.size))|(refine (HC.out _ eA).mono ?_;rintro r w6 ⟨A6,cap6,rfl,_,_,hb6⟩;have e6:=eA.trans (hb6.mono eA.size);have s6:=sA.below hb6;have g0:=s6.c0;have g1:=s6.c1;have g2:=s6.c2;have g3:=s6.c3;have y0:=s6.z0;have y1:=s6.z1;have y2:=s6.z2;have y3:=s6.z3)))
         all_goals
          go_wp2_with fail
          go_meet
          first
           |exact ⟨w6.heap.size,A6,cap6,(by first|rfl|simp),An.new w6 _ _ _ _,e6.alloc e6.size _⟩
           |exact ⟨WJ.heap.size,A6,cap6,(by first|rfl|simp),s6.set _ _ _ _,an_below e6 (Nat.le_refl _) _ _ _ _⟩
        case rest =>
         obtain ⟨T2,A2,cap2,rfl,an2,hb2⟩:=hcut
         have an3:=an1.below hb2
         have DE:=DB.trans (hb2.mono DB.size)
         have x1:=an3.c1
         have x2:=an3.c2
         have x3:=an3.c3
         have y1:=an2.c1
         have y2:=an2.c2
         have y3:=an2.c3
         clear f0 t0 an1 an2 an3
         go_wp2
         go_roundw
         case rel=>exact ⟨i+1,by omega,by go_num,DE⟩
         case measure=>simp [intOf];omega
      ·have e:i=n2:=by omega
       subst e
       go_wp2
       go_roundw
       case rel=>exact ⟨k+1,by omega,by omega,by go_num,DI⟩
       case measure=>simp [intOf];omega
    ·have e:k=7:=by omega
     subst e
     go_wp2
     go_ret
     exact ⟨rfl,B2.trans (hB.mono B2.size)⟩
end Go.Proofs.YtipbhlofbpnpjaaGreatDoor
