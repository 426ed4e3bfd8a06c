/- -/
import Derived.Test.YtipbhlofbpnpjaaGreatDoorP29
namespace Go.Proofs.YtipbhlofbpnpjaaGreatDoor
open Go.RowKit Go.Lib
set_option maxHeartbeats 8000000 in
set_option maxRecDepth 1000000 in
theorem topSave_any (W H most:Int)(A:Option Addr)(n cap:Nat)(xs:Nat->Int)(A2:Option Addr)(n2 cap2:Nat)(fs ts:Nat->Int)(w:World)(E:Env w)(s:StepsAt w)(dg:DiagAt w)(hm:n<=maxLen)(hx:OldRow w A n xs)(hq:OldAsk w A2 n2 fs ts) :
  Calls Tryz.prog 14 #[.agg #[.int .i64 W,.int .i64 H,.slice A n cap],.int .i64 most,.slice A2 n2 cap2] w fun e w'=>e=.returned (.bool true)/\Below w.heap.size w w':=by
 have hsp:=s.pos
 have b0:Below w.heap.size w (w.alloc (.cells #[.int .i64 W,.int .i64 H,.slice A n cap] 24)):=(Below.refl _ _).alloc (Nat.le_refl _) _
 have q:∀ o,(w.alloc (.cells #[.int .i64 W,.int .i64 H,.slice A n cap] 24)).cell? ⟨w.heap.size,o,none⟩=#[Value.int .i64 W,.int .i64 H,.slice A n cap][o]? := fun o=>World.cell?_alloc_new ..
 have hwk:=works_any _ (s.below b0 (by omega)) (dg.below b0)
 go_enter Tryz.func14,Tryz.ntmps14
 go_wp2_with fail
 have hz0:w.heap.size<(w.alloc (.cells #[.int .i64 W,.int .i64 H,.slice A n cap] 24)).heap.size:=by simp
 generalize w.alloc (.cells #[.int .i64 W,.int .i64 H,.slice A n cap] 24)=wa at *
 refine hwk.mono ?_
 rintro e wb ⟨rfl,hb1⟩
 have B1:=b0.trans (hb1.mono b0.size)
 have c0:=(hb1.cell (p:=⟨w.heap.size,0,none⟩) hz0).trans (q 0)
 have c1:=(hb1.cell (p:=⟨w.heap.size,1,none⟩) hz0).trans (q 1)
 have c2:=(hb1.cell (p:=⟨w.heap.size,2,none⟩) hz0).trans (q 2)
 have hsv:=serve_any W H most A n cap xs wb (E.grown B1) (s.below B1 (by omega)) hm (hx.below B1)
 clear hwk q b0 hb1 hz0
 go_wp2_with fail
 refine hsv.mono ?_
 rintro e wc ⟨hb2,hcs⟩
 have B2:=B1.trans (hb2.mono B1.size)
 clear hsv c0 c1 c2
 rcases hcs with ⟨p,rfl⟩|⟨sb,mb,lo,Wn,Hn,mN,V,bl,rfl,rfl,rfl,rfl,hmb,SR⟩
 ·go_wp2
  go_ret
  exact ⟨rfl,B2⟩
 ·by_cases h20:(20:Int)<(n2:Int)
  ·clear SR
   go_wp2
   go_ret
   exact ⟨rfl,B2⟩
  ·have hS:=SR.sv
   have hR:=SR.ra
   have lmb:=World.block_lt_of_cell? _ _ hR.c0
   obtain ⟨w1,w2,h1,h2⟩:=hS.side
   obtain ⟨m1,m6⟩:=hS.mst
   have hrd:=read_print bl Wn Hn (by omega) (by omega) (by omega) (by omega)
   have hsv:=save_any wc (E.grown B2) (E.grown B2).z hS
   rw [printL_eqv (nrm_eqv bl)] at hsv
   have HPR:Hid (∀ w',Below wc.heap.size wc w'->_):=fun w' hb=>rprint_any w' (hR.below hb lmb) (Nat.lt_of_lt_of_le lmb hb.size)
   have HSV:Hid (∀ (w':World) (lo hi p:Nat),Below wc.heap.size wc w'->Sv w' lo hi p Wn Hn (blocks ((List.range (Hn*Wn)).map bl)) (nrm Wn Hn bl) mN->Calls Tryz.prog 24 #[.pointer (some ⟨p,0,none⟩)] w' fun e w''=>e=.returned (.string (str (printL bl Wn Hn)))/\Below w'.heap.size w' w''):=fun w' lo hi p hb S=>by
    have h:=save_any w' ((E.grown B2).grown hb) ((E.grown B2).grown hb).z S
    rw [printL_eqv (nrm_eqv bl)] at h
    exact h
   generalize printL bl Wn Hn=tx at *
   clear SR
   go_wp2_with fail
   refine hsv.mono ?_
   rintro e wd ⟨rfl,hb3⟩
   have B3:=B2.trans (hb3.mono B2.size)
   have hld:=nload_any wd (E.grown B3) (s.below B3 (by omega)) hrd m1 m6
   clear hsv hrd
   go_wp2_with fail
   refine hld.mono ?_
   rintro e we ⟨ob,rfl,SO0,hb4⟩
   have SO:Sv we wd.heap.size we.heap.size ob Wn Hn (blocks ((List.range (Hn*Wn)).map bl)) (nrm Wn Hn bl) mN:=SO0
   have B4:=B3.trans (hb4.mono B3.size)
   have D4:=hb3.trans (hb4.mono hb3.size)
   have hpr:=HPR.out _ D4
   clear hld SO0 HPR
   go_wp2_with fail
   refine hpr.mono ?_
   rintro e wf ⟨rfl,hb5⟩
   have B5:=B4.trans (hb5.mono B4.size)
   have D5:=D4.trans (hb5.mono D4.size)
   have hs2:=HSV.out wf _ _ _ D5 (SO.below hb5)
   clear hpr
   go_wp2_with fail
   refine hs2.mono ?_
   rintro e wg ⟨rfl,hb6⟩
   have B6:=B5.trans (hb6.mono B5.size)
   have D6:=D5.trans (hb6.mono D5.size)
   have S6:=hS.below D6
   have O6:=(SO.below hb5).below hb6
   have dg6:=dg.below B6
   have HQ:Hid (OldAsk wg A2 n2 fs ts):=hq.below B6
   have HX:Hid (∀ a t,∃ way s d err,AskP Wn Hn (nrm Wn Hn bl) mN a t way s d err):=fun a t=>ask_ex a t wg S6 dg6
   have HA1:Hid (∀ w',Below wg.heap.size wg w'->∀ {a t:Int}{way:List Nat}{s d err:Int},AskP Wn Hn (nrm Wn Hn bl) mN a t way s d err->_):=fun w' hb {a t way s d err} P=>ask_fix (a:=a) (t:=t) w' P (S6.below hb) (dg6.below hb)
   have HA2:Hid (∀ w',Below wg.heap.size wg w'->∀ {a t:Int}{way:List Nat}{s d err:Int},AskP Wn Hn (nrm Wn Hn bl) mN a t way s d err->_):=fun w' hb {a t way s d err} P=>ask_fix (a:=a) (t:=t) w' P (O6.below hb) (dg6.below hb)
   have HST:Hid (∀ w',Below wg.heap.size wg w'->_):=fun w' hb=>stats_any w' (S6.below hb)
   have HOT:Hid (∀ w',Below wg.heap.size wg w'->_):=fun w' hb=>stats_any w' (O6.below hb)
   clear hs2 HSV SO hS hR S6 O6 dg6
   go_wp2
   go_loopw [13] (fun iv wr=>∃ i:Nat,i<=n2/\iv=.int .i64 i/\Below wg.heap.size wg wr)
    (fun i _=>n2 - (intOf i).toNat)
   case atStart=>exact ⟨0,Nat.zero_le _,rfl,Below.refl _ _⟩
   case round =>
    obtain ⟨i,hi,rfl,hB⟩:=hrel
    by_cases hlt:i<n2
    ·obtain ⟨bA,oA,rfl,hbA,f0,t0⟩:=(HQ.out.below hB) i hlt
     have i1:(i:Int)<(n2:Int):=by omega
     generalize fs i=fa at *
     generalize ts i=tt at *
     obtain ⟨way,sx,dx,er,HP⟩:=HX.out fa tt
     have HP:Hid (AskP Wn Hn (nrm Wn Hn bl) mN fa tt way sx dx er):=HP
     have hln:way.length<=1000000:=by have:=HP.out.2.len;omega
     have e0:Below wr.heap.size wr wr.drew:=(Below.refl _ _).drew
     have E0:=hB.trans (e0.mono hB.size)
     have CC:Hid (∀ w',Below wr.heap.size wr w'->w'.cell? ⟨bA,oA+i*2,none⟩=some (.int .i64 fa)/\w'.cell? ⟨bA,oA+i*2+1,none⟩=some (.int .i64 tt)):=fun w' h=>⟨(h.cell (World.block_lt_of_cell? wr _ f0)).trans f0,(h.cell (World.block_lt_of_cell? wr _ t0)).trans t0⟩
     have mk0:Hid True:=trivial
     go_upto_region 14 with fail
     clear f0 t0
     go_region_held3 (fun w'=>w'.cell? ⟨bA,oA+i*2,none⟩=some (.int .i64 fa)/\w'.cell? ⟨bA,oA+i*2+1,none⟩=some (.int .i64 tt)) (first|with_reducible exact CC.out _ e0|with_reducible exact CC.out _ e5|with_reducible exact CC.out _ e6|with_reducible exact CC.out _ e7)
      (first
       |(go_at_call 18;have mk1:=mk0;clear mk0;refine (HA1.out _ E0 HP.out).mono ?_;rintro r w5 ⟨A5,cap5,rfl,_,old5,hb5⟩;have e5:=e0.trans (hb5.mono e0.size);have E5:=hB.trans (e5.mono hB.size))
       |(go_at_call 18;refine (HA2.out _ E5 HP.out).mono ?_;rintro r w6 ⟨A6,cap6,rfl,_,old6,hb6'⟩;have e6:=e5.trans (hb6'.mono e5.size);have old5:=old5.below hb6';have hsm:=sameAns_old (ca:=cap5) (cb:=cap6) sx dx er _ hln old5 old6)
       |(go_at_call 27;refine hsm.mono ?_;rintro r w7 ⟨rfl,hb7⟩;have e7:=e6.trans (hb7.mono e6.size)))
     have R7:=hB.trans (e7.mono hB.size)
     clear hsm old5 old6
     go_wp2
     go_roundw
     case rel=>exact ⟨i+1,by omega,by go_num,R7⟩
     case measure=>simp [intOf];omega
    ·have e:i=n2:=by omega
     subst e
     have BF:=B6.trans (hB.mono B6.size)
     have hot:=HOT.out _ hB
     unfold stV at hot
     go_wp2_with fail
     refine hot.mono ?_
     rintro e w8 ⟨rfl,hb8⟩
     have hst:=HST.out _ (hB.trans (hb8.mono hB.size))
     unfold stV at hst
     clear hot
     go_wp2_with fail
     refine hst.mono ?_
     rintro e w9 ⟨rfl,hb9⟩
     clear hst
     go_wp2
     go_ret
     exact ⟨rfl,(BF.trans (hb8.mono BF.size)).trans (hb9.mono (BF.trans (hb8.mono BF.size)).size)⟩
end Go.Proofs.YtipbhlofbpnpjaaGreatDoor
