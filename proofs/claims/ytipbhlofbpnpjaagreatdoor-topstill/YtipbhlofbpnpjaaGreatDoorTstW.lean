/- -/
import Derived.Test.YtipbhlofbpnpjaaGreatDoorTst0
namespace Go.Proofs.YtipbhlofbpnpjaaGreatDoor
open Go.RowKit Go.Lib
set_option maxHeartbeats 8000000 in
set_option maxRecDepth 1000000 in
theorem topStill_any (W H most:Int)(A:Option Addr)(n cap:Nat)(xs:Nat->Int)(A2:Option Addr)(n2 cap2:Nat)(fs ts:Nat->Int)(w:World)(E:Env w)(s:StepsAt w)(dg:DiagAt w)(hm:n<=maxLen)(hx:OldRow w A n xs)(hq:OldAsk w A2 n2 fs ts) :
  Calls Tryz.prog 6 #[.agg #[.int .i64 W,.int .i64 H,.slice A n cap],.int .i64 most,.slice A2 n2 cap2] w fun e w'=>e=.returned (.bool true)/\Below w.heap.size w w':=by
 have hsp:=s.pos
 have b0:Below w.heap.size w (w.alloc (.cells #[.int .i64 W,.int .i64 H,.slice A n cap] 24)):=(Below.refl _ _).alloc (Nat.le_refl _) _
 have q:∀ o,(w.alloc (.cells #[.int .i64 W,.int .i64 H,.slice A n cap] 24)).cell? ⟨w.heap.size,o,none⟩=#[Value.int .i64 W,.int .i64 H,.slice A n cap][o]? := fun o=>World.cell?_alloc_new ..
 have hwk:=works_any _ (s.below b0 (by omega)) (dg.below b0)
 go_enter Tryz.func6,Tryz.ntmps6
 go_wp2_with fail
 have hz0:w.heap.size<(w.alloc (.cells #[.int .i64 W,.int .i64 H,.slice A n cap] 24)).heap.size:=by simp
 generalize w.alloc (.cells #[.int .i64 W,.int .i64 H,.slice A n cap] 24)=wa at *
 refine hwk.mono ?_
 rintro e wb ⟨rfl,hb1⟩
 have B1:=b0.trans (hb1.mono b0.size)
 have c0:=(hb1.cell (p:=⟨w.heap.size,0,none⟩) hz0).trans (q 0)
 have c1:=(hb1.cell (p:=⟨w.heap.size,1,none⟩) hz0).trans (q 1)
 have c2:=(hb1.cell (p:=⟨w.heap.size,2,none⟩) hz0).trans (q 2)
 have hsv:=serve_any W H most A n cap xs wb (E.grown B1) (s.below B1 (by omega)) hm (hx.below B1)
 clear hwk q b0 hb1 hz0
 go_wp2_with fail
 refine hsv.mono ?_
 rintro e wc ⟨hb2,hcs⟩
 have B2:=B1.trans (hb2.mono B1.size)
 clear hsv c0 c1 c2
 rcases hcs with ⟨p,rfl⟩|⟨sb,mb,lo,Wn,Hn,mN,V,bl,rfl,rfl,rfl,rfl,hmb,SR⟩
 ·go_wp2
  go_ret
  exact ⟨rfl,B2⟩
 ·by_cases h25:(25:Int)<(n2:Int)
  ·clear SR
   go_wp2
   go_ret
   exact ⟨rfl,B2⟩
  ·obtain ⟨WS,hWS⟩:∃ WS,WS=wc:=⟨_,rfl⟩
   subst hWS
   have hS:=SR.sv
   have dC:=dg.below B2
   obtain ⟨w1,w2,h1,h2⟩:=hS.side
   have hst:=stats_any WS hS
   clear SR
   generalize nrm Wn Hn bl=nb at *
   generalize ((blocks ((List.range (Hn*Wn)).map bl):Nat):Int)=V0 at *
   obtain ⟨k0,k1,k2,k3,k4,k5,k6,hstv⟩:∃ k0 k1 k2 k3 k4 k5 k6:Int,stV Wn Hn V0 nb mN=#[.int .i64 k0,.int .i64 k1,.int .i64 k2,.int .i64 k3,.int .i64 k4,.int .i64 k5,.int .i64 k6]:=⟨_,_,_,_,_,_,_,rfl⟩
   rw [hstv] at hst
   have HSTV:Hid (stV Wn Hn V0 nb mN=#[.int .i64 k0,.int .i64 k1,.int .i64 k2,.int .i64 k3,.int .i64 k4,.int .i64 k5,.int .i64 k6]):=hstv
   clear hstv
   go_wp2_with fail
   refine hst.mono ?_
   rintro e wd ⟨rfl,hb3⟩
   have b4:Below wd.heap.size wd (wd.alloc (.cells #[.int .i64 k0,.int .i64 k1,.int .i64 k2,.int .i64 k3,.int .i64 k4,.int .i64 k5,.int .i64 k6] 56)):=(Below.refl _ _).alloc (Nat.le_refl _) _
   have k7:∀ o,(wd.alloc (.cells #[.int .i64 k0,.int .i64 k1,.int .i64 k2,.int .i64 k3,.int .i64 k4,.int .i64 k5,.int .i64 k6] 56)).cell? ⟨wd.heap.size,o,none⟩=#[Value.int .i64 k0,.int .i64 k1,.int .i64 k2,.int .i64 k3,.int .i64 k4,.int .i64 k5,.int .i64 k6][o]? := fun o=>World.cell?_alloc_new ..
   have D4:=hb3.trans (b4.mono hb3.size)
   go_upto_region 8 with fail
   generalize wd.alloc (.cells #[.int .i64 k0,.int .i64 k1,.int .i64 k2,.int .i64 k3,.int .i64 k4,.int .i64 k5,.int .i64 k6] 56)=we at *
   generalize wd.heap.size=PB at *
   have z0:=k7 0
   have z1:=k7 1
   have z2:=k7 2
   have z3:=k7 3
   have z4:=k7 4
   have z5:=k7 5
   have z6:=k7 6
   have HZ:Hid (∀ w',Below we.heap.size we w'->w'.cell? ⟨PB,0,none⟩=some (.int .i64 k0)/\w'.cell? ⟨PB,1,none⟩=some (.int .i64 k1)/\w'.cell? ⟨PB,2,none⟩=some (.int .i64 k2)/\w'.cell? ⟨PB,3,none⟩=some (.int .i64 k3)/\w'.cell? ⟨PB,4,none⟩=some (.int .i64 k4)/\w'.cell? ⟨PB,5,none⟩=some (.int .i64 k5)/\w'.cell? ⟨PB,6,none⟩=some (.int .i64 k6)):=fun w' h=>by
    have k:∀ {a:Addr}{v:Value},we.cell? a=some v->w'.cell? a=some v:=fun {a v} q=>(h.cell (World.block_lt_of_cell? we a q)).trans q
    exact ⟨k z0,k z1,k z2,k z3,k z4,k z5,k z6⟩
   have B4:=B2.trans (D4.mono B2.size)
   have SE:=hS.below D4
   have dE:=dC.below D4
   have HQ:Hid (OldAsk we A2 n2 fs ts):=hq.below B4
   have HST:Hid (∀ w',Below we.heap.size we w'->_):=fun w' hb=>stats_any w' (SE.below hb)
   have HBT:Hid (∀ w',Below we.heap.size we w'->_):=fun w' hb=>nbatch_any (cap:=cap2) w' (SE.below hb) (dE.below hb) (HQ.out.below hb) (by omega)
   have HA1:Hid (∀ w',Below we.heap.size we w'->∀ {a t:Int}{way:List Nat}{s d err:Int},AskP Wn Hn nb mN a t way s d err->_):=fun w' hb {a t way s d err} P=>ask_fix (a:=a) (t:=t) w' P (SE.below hb) (dE.below hb)
   have hba:=HBT.out _ (Below.refl _ _)
   clear hst k7 z0 z1 z2 z3 z4 z5 z6 hS dC SE dE hb3 b4
   go_wp2_with fail
   refine hba.mono ?_
   rintro e wf ⟨v,l,rfl,hl,hrow,hAn,hb5⟩
   obtain ⟨A,capA,rfl,hOA,hbb⟩:=oldAns_of hrow hl
   have HWA:Hid (WaysAt wf we.heap.size A l):=waysAt_of hAn hrow hbb
   have HOA:Hid (OldAns wf A l):=hOA
   have HHOA:Hid (AnsAt wf we.heap.size Wn Hn nb mN fs ts l):=hAn
   have HL:Hid (l.length=n2):=hl
   have H0:Below we.heap.size we we:=Below.refl _ _
   clear hba hrow hAn hOA hbb
   have D5:=hb5
   go_wp2
   go_loopw [13] (fun iv wr=>∃ z:Int,-1<=z/\z<n2/\iv=.int .i64 z/\Below wf.heap.size wf wr)
    (fun i _=>(intOf i+1).toNat)
   case atStart=>exact ⟨(n2:Int) - 1,by omega,by omega,by go_num,Below.refl _ _⟩
   case round =>
    obtain ⟨z,hz1,hz2,rfl,hB⟩:=hrel
    have hl:=HL.out
    by_cases hz0:0<=z
    ·obtain ⟨j,rfl⟩:∃ j:Nat,z=(j:Int):=⟨z.toNat,by omega⟩
     have hjn:j<n2:=by omega
     have hz9:(0:Int)<=(j:Int):=by omega
     obtain ⟨bA,oA,eA2,hbA,f0,t0⟩:=(HQ.out.below (D5.trans (hB.mono D5.size))) j hjn
     obtain ⟨x,hx⟩:∃ x,l[j]? = some x:=⟨l[j]'(by omega),List.getElem?_eq_getElem (by omega)⟩
     obtain ⟨bX,oX,eX,hbX,a0,a1,a2,a3⟩:=(HOA.out.below hB) j x hx
     obtain ⟨hAP,hOW⟩:=HHOA.out j x hx
     have old4:OldRow wr x.A x.way.length (fun i=>((x.way.getD i 0:Nat):Int)):=by
      obtain ⟨A',cap',e',ho,_⟩:=oldRow_of (own_below hOW hB)
      cases e'
      exact ho
     obtain ⟨xA,xcap,xway,xs',xd,xe⟩:=x
     subst eA2 eX
     have i1:(j:Int)<(n2:Int):=by omega
     generalize fs j=fa at *
     generalize ts j=tt at *
     have HP:Hid (AskP Wn Hn nb mN fa tt xway xs' xd xe):=hAP
     have hln:xway.length<=1000000:=by have:=HP.out.2.len;omega
     have e0:Below wr.heap.size wr wr.drew:=(Below.refl _ _).drew
     have E0:=(D5.trans (hB.mono D5.size)).trans (e0.mono (D5.trans (hB.mono D5.size)).size)
     have a0:wr.cell? ⟨bX,oX+j*4,none⟩=some (.slice xA xway.length xcap):=a0
     have a1:wr.cell? ⟨bX,oX+j*4+1,none⟩=some (.int .i64 xs'):=a1
     have a2:wr.cell? ⟨bX,oX+j*4+2,none⟩=some (.int .i64 xd):=a2
     have a3:wr.cell? ⟨bX,oX+j*4+3,none⟩=some (.int .i64 xe):=a3
     have old4:OldRow wr xA xway.length (fun i=>((xway.getD i 0:Nat):Int)):=old4
     have CC:Hid (∀ w',Below wr.heap.size wr w'->w'.cell? ⟨bA,oA+j*2,none⟩=some (.int .i64 fa)/\w'.cell? ⟨bA,oA+j*2+1,none⟩=some (.int .i64 tt)/\w'.cell? ⟨bX,oX+j*4,none⟩=some (.slice xA xway.length xcap)/\w'.cell? ⟨bX,oX+j*4+1,none⟩=some (.int .i64 xs')/\w'.cell? ⟨bX,oX+j*4+2,none⟩=some (.int .i64 xd)/\w'.cell? ⟨bX,oX+j*4+3,none⟩=some (.int .i64 xe)):=fun w' h=>by
      have k:∀ {a:Addr}{v:Value},wr.cell? a=some v->w'.cell? a=some v:=fun {a v} q=>(h.cell (World.block_lt_of_cell? wr a q)).trans q
      exact ⟨k f0,k t0,k a0,k a1,k a2,k a3⟩
     have HO4:Hid (OldRow wr xA xway.length (fun i=>((xway.getD i 0:Nat):Int))):=old4
     go_upto_region 14 with fail
     clear f0 t0 a0 a1 a2 a3 hAP hOW hx old4
     go_region_held3 (fun w'=>w'.cell? ⟨bA,oA+j*2,none⟩=some (.int .i64 fa)/\w'.cell? ⟨bA,oA+j*2+1,none⟩=some (.int .i64 tt)/\w'.cell? ⟨bX,oX+j*4,none⟩=some (.slice xA xway.length xcap)/\w'.cell? ⟨bX,oX+j*4+1,none⟩=some (.int .i64 xs')/\w'.cell? ⟨bX,oX+j*4+2,none⟩=some (.int .i64 xd)/\w'.cell? ⟨bX,oX+j*4+3,none⟩=some (.int .i64 xe)) (first|with_reducible exact CC.out _ e0|with_reducible exact CC.out _ e5|with_reducible exact CC.out _ e7)
      (first
       |(go_at_call 18;refine (HA1.out _ E0 HP.out).mono ?_;rintro r w5 ⟨A5,cap5,rfl,_,old5,hb5⟩;have e5:=e0.trans (hb5.mono e0.size);have hsm:=sameAns_old (ca:=cap5) (cb:=xcap) xs' xd xe _ hln old5 (HO4.out.below e5))
       |(go_at_call 27;refine hsm.mono ?_;rintro r w7 ⟨rfl,hb7⟩;have e7:=e5.trans (hb7.mono e5.size)))
     have R7:=hB.trans (e7.mono hB.size)
     clear hsm old5
     go_wp2
     go_roundw
     case rel=>exact ⟨(j:Int) - 1,by omega,by omega,by go_num,R7⟩
     case measure=>first|(simp [intOf];done)|(simp [intOf];omega)
    ·have e:z=-1:=by omega
     subst e
     clear hl
     have WR:=HWA.out.below hB
     have OR:=HOA.out.below hB
     have DR:=D5.trans (hB.mono D5.size)
     go_wp2
     obtain ⟨W6,hW6⟩:∃ W6,W6=wr:=⟨_,rfl⟩
     subst hW6
     go_loopw [15] (fun iv wr=>∃ i:Nat,i<=n2/\iv=.int .i64 i/\OldAns wr A l/\WaysAt wr we.heap.size A l/\Below we.heap.size we wr)
      (fun i _=>n2 - (intOf i).toNat)
     case atStart=>exact ⟨0,Nat.zero_le _,rfl,OR,WR,DR⟩
     case round =>
      obtain ⟨i,hi,rfl,OR,WR,DR⟩:=hrel
      by_cases hlt:i<n2
      ·have i1:(i:Int)<(n2:Int):=by omega
       obtain ⟨x,hx⟩:∃ x,l[i]? = some x:=⟨l[i]'(by have:=HL.out;omega),List.getElem?_eq_getElem (by have:=HL.out;omega)⟩
       have hln:x.way.length<=1000000:=by have:=(HHOA.out i x hx).1.2.len;omega
       have HX:Hid (l[i]? = some x):=hx
       clear hx
       go_wp2
       obtain ⟨W7,hW7⟩:∃ W7,W7=wr:=⟨_,rfl⟩
       subst hW7
       go_loopw [16] (fun kv wr=>∃ k:Nat,k<=x.way.length/\kv=.int .i64 k/\OldAns wr A l/\WaysAt wr we.heap.size A l/\Below we.heap.size we wr)
        (fun k _=>x.way.length - (intOf k).toNat)
       case atStart=>exact ⟨0,Nat.zero_le _,rfl,OR,WR,DR⟩
       case round =>
        obtain ⟨k,hk,rfl,OR,WR,DR⟩:=hrel
        obtain ⟨bX,oX,eX,hbX,a0,_,_,_⟩:=OR i x HX.out
        by_cases hkl:k<x.way.length
        ·obtain ⟨q,eq,hq1,hq2,⟨u,hu⟩,hf⟩:=WR i x HX.out k hkl
         have hnb:=hq2 bX oX eX
         have kk:(k:Int)<(x.way.length:Int):=by omega
         have O2:OldAns (wr.setCell ⟨q,k,none⟩ (.int .i64 (-7))) A l:=OR.keep ((Keep.refl (fun b=>b=q) wr).setCell (p:=⟨q,k,none⟩) (fun _=>rfl) _) hq2
         have W2:=WR.set ⟨q,k,none⟩ (.int .i64 (-7))
         have D2:=DR.setCell (p:=⟨q,k,none⟩) hq1 (.int .i64 (-7))
         rw [eq] at a0
         subst eX
         clear OR WR hq2 eq
         go_wp2
         go_roundw
         case rel=>exact ⟨k+1,by omega,by go_num,O2,W2,D2⟩
         case measure=>simp [intOf];omega
        ·have e:k=x.way.length:=by omega
         subst e
         subst eX
         go_wp2
         go_roundw
         case rel=>exact ⟨i+1,by omega,by go_num,OR,WR,DR⟩
         case measure=>simp [intOf];omega
      ·have e:i=n2:=by omega
       subst e
       clear OR WR HWA HOA HHOA HL
       have hba:=HBT.out _ DR
       go_wp2_with fail
       refine hba.mono ?_
       rintro e wg ⟨v',l',rfl,hl',hrow',hAn',hb6⟩
       obtain ⟨A',capA',rfl,hOA',_⟩:=oldAns_of hrow' hl'
       have HOB:Hid (OldAns wg A' l'):=hOA'
       have HHOB:Hid (AnsAt wg wr.heap.size Wn Hn nb mN fs ts l'):=hAn'
       have HL':Hid (l'.length=i):=hl'
       have D6:=DR.trans (hb6.mono DR.size)
       clear hba hrow' hAn' hOA' hl'
       obtain ⟨n2,hn2⟩:∃ n2,n2=i:=⟨_,rfl⟩
       subst hn2
       go_wp2
       obtain ⟨W8,hW8⟩:∃ W8,W8=wr:=⟨_,rfl⟩
       subst hW8
       go_loopw [18] (fun iv wr=>∃ i:Nat,i<=n2/\iv=.int .i64 i/\Below wg.heap.size wg wr)
        (fun i _=>n2 - (intOf i).toNat)
       case atStart=>exact ⟨0,Nat.zero_le _,rfl,Below.refl _ _⟩
       case round =>
        obtain ⟨j,hj,rfl,hB⟩:=hrel
        have hl:=HL'.out
        by_cases hjn:j<n2
        ·have hj0:(0:Int)<=(j:Int):=by omega
         obtain ⟨bA,oA,eA2,hbA,f0,t0⟩:=(HQ.out.below (D6.trans (hB.mono D6.size))) j hjn
         obtain ⟨x,hx⟩:∃ x,l'[j]? = some x:=⟨l'[j]'(by omega),List.getElem?_eq_getElem (by omega)⟩
         obtain ⟨bX,oX,eX,hbX,a0,a1,a2,a3⟩:=(HOB.out.below hB) j x hx
         obtain ⟨hAP,hOW⟩:=HHOB.out j x hx
         have old4:OldRow wr x.A x.way.length (fun i=>((x.way.getD i 0:Nat):Int)):=by
          obtain ⟨A',cap',e',ho,_⟩:=oldRow_of (own_below hOW hB)
          cases e'
          exact ho
         obtain ⟨xA,xcap,xway,xs',xd,xe⟩:=x
         subst eA2 eX
         have i1:(j:Int)<(n2:Int):=by omega
         generalize fs j=fa at *
         generalize ts j=tt at *
         have HP:Hid (AskP Wn Hn nb mN fa tt xway xs' xd xe):=hAP
         have hln:xway.length<=1000000:=by have:=HP.out.2.len;omega
         have e0:Below wr.heap.size wr wr.drew:=(Below.refl _ _).drew
         have E0:=(D6.trans (hB.mono D6.size)).trans (e0.mono (D6.trans (hB.mono D6.size)).size)
         have a0:wr.cell? ⟨bX,oX+j*4,none⟩=some (.slice xA xway.length xcap):=a0
         have a1:wr.cell? ⟨bX,oX+j*4+1,none⟩=some (.int .i64 xs'):=a1
         have a2:wr.cell? ⟨bX,oX+j*4+2,none⟩=some (.int .i64 xd):=a2
         have a3:wr.cell? ⟨bX,oX+j*4+3,none⟩=some (.int .i64 xe):=a3
         have old4:OldRow wr xA xway.length (fun i=>((xway.getD i 0:Nat):Int)):=old4
         have CC:Hid (∀ w',Below wr.heap.size wr w'->w'.cell? ⟨bA,oA+j*2,none⟩=some (.int .i64 fa)/\w'.cell? ⟨bA,oA+j*2+1,none⟩=some (.int .i64 tt)/\w'.cell? ⟨bX,oX+j*4,none⟩=some (.slice xA xway.length xcap)/\w'.cell? ⟨bX,oX+j*4+1,none⟩=some (.int .i64 xs')/\w'.cell? ⟨bX,oX+j*4+2,none⟩=some (.int .i64 xd)/\w'.cell? ⟨bX,oX+j*4+3,none⟩=some (.int .i64 xe)):=fun w' h=>by
          have k:∀ {a:Addr}{v:Value},wr.cell? a=some v->w'.cell? a=some v:=fun {a v} q=>(h.cell (World.block_lt_of_cell? wr a q)).trans q
          exact ⟨k f0,k t0,k a0,k a1,k a2,k a3⟩
         have HO4:Hid (OldRow wr xA xway.length (fun i=>((xway.getD i 0:Nat):Int))):=old4
         go_upto_region 28 with fail
         clear f0 t0 a0 a1 a2 a3 hAP hOW hx old4
         go_region_held3 (fun w'=>w'.cell? ⟨bA,oA+j*2,none⟩=some (.int .i64 fa)/\w'.cell? ⟨bA,oA+j*2+1,none⟩=some (.int .i64 tt)/\w'.cell? ⟨bX,oX+j*4,none⟩=some (.slice xA xway.length xcap)/\w'.cell? ⟨bX,oX+j*4+1,none⟩=some (.int .i64 xs')/\w'.cell? ⟨bX,oX+j*4+2,none⟩=some (.int .i64 xd)/\w'.cell? ⟨bX,oX+j*4+3,none⟩=some (.int .i64 xe)) (first|with_reducible exact CC.out _ e0|with_reducible exact CC.out _ e5|with_reducible exact CC.out _ e7)
          (first
           |(go_at_call 18;refine (HA1.out _ E0 HP.out).mono ?_;rintro r w5 ⟨A5,cap5,rfl,_,old5,hb5⟩;have e5:=e0.trans (hb5.mono e0.size);have hsm:=sameAns_old (ca:=cap5) (cb:=xcap) xs' xd xe _ hln old5 (HO4.out.below e5))
           |(go_at_call 27;refine hsm.mono ?_;rintro r w7 ⟨rfl,hb7⟩;have e7:=e5.trans (hb7.mono e5.size)))
         have R7:=hB.trans (e7.mono hB.size)
         clear hsm old5
         go_wp2
         go_roundw
         case rel=>exact ⟨j+1,by omega,by go_num,R7⟩
         case measure=>first|(simp [intOf];done)|(simp [intOf];omega)
        ·have e:j=n2:=by omega
         subst e
         clear hl HOB HHOB
         have DF:=D6.trans (hB.mono D6.size)
         have BF:=B4.trans (DF.mono B4.size)
         have e0:Below wr.heap.size wr wr.drew:=(Below.refl _ _).drew
         have E0:=DF.trans (e0.mono DF.size)
         have hfs:=HST.out _ E0
         rw [HSTV.out] at hfs
         obtain ⟨z0,z1,z2,z3,z4,z5,z6⟩:=HZ.out _ E0
         go_upto_region 31 with fail
         go_region_held3 (fun w'=>w'.cell? ⟨PB,0,none⟩=some (.int .i64 k0)/\w'.cell? ⟨PB,1,none⟩=some (.int .i64 k1)/\w'.cell? ⟨PB,2,none⟩=some (.int .i64 k2)/\w'.cell? ⟨PB,3,none⟩=some (.int .i64 k3)/\w'.cell? ⟨PB,4,none⟩=some (.int .i64 k4)/\w'.cell? ⟨PB,5,none⟩=some (.int .i64 k5)/\w'.cell? ⟨PB,6,none⟩=some (.int .i64 k6)) (first|with_reducible exact HZ.out _ E0|with_reducible exact HZ.out _ E9)
          (first|(go_at_call 25;refine hfs.mono ?_;rintro r w9 ⟨rfl,hb9⟩;have E9:=E0.trans (hb9.mono E0.size)))
         go_wp2
         go_ret
         exact ⟨rfl,B4.trans (E9.mono B4.size)⟩
end Go.Proofs.YtipbhlofbpnpjaaGreatDoor
