/- -/
import Derived.Test.YtipbhlofbpnpjaaGreatDoorTst0
import Derived.Test.YtipbhlofbpnpjaaGreatDoorEd2
namespace Go.Proofs.YtipbhlofbpnpjaaGreatDoor
open Go.RowKit Go.Lib
set_option maxHeartbeats 8000000 in
set_option maxRecDepth 1000000 in
theorem topUndo_any (W H most:Int)(A:Option Addr)(n cap:Nat)(xs:Nat->Int)(A3:Option Addr)(n3 cap3:Nat)(ys:Nat->Int)(A2:Option Addr)(n2 cap2:Nat)(fs ts:Nat->Int)(w:World)(E:Env w)(s:StepsAt w)(dg:DiagAt w)(hm:n<=maxLen)(hx:OldRow w A n xs)(hy:OldRow w A3 n3 ys)(hq:OldAsk w A2 n2 fs ts) :
  Calls Tryz.prog 5 #[.agg #[.int .i64 W,.int .i64 H,.slice A n cap],.int .i64 most,.slice A3 n3 cap3,.slice A2 n2 cap2] w fun e w'=>e=.returned (.bool true)/\Below w.heap.size w w':=by
 have hsp:=s.pos
 have b0:Below w.heap.size w (w.alloc (.cells #[.int .i64 W,.int .i64 H,.slice A n cap] 24)):=(Below.refl _ _).alloc (Nat.le_refl _) _
 have q:∀ o,(w.alloc (.cells #[.int .i64 W,.int .i64 H,.slice A n cap] 24)).cell? ⟨w.heap.size,o,none⟩=#[Value.int .i64 W,.int .i64 H,.slice A n cap][o]? := fun o=>World.cell?_alloc_new ..
 have hwk:=works_any _ (s.below b0 (by omega)) (dg.below b0)
 go_enter Tryz.func5,Tryz.ntmps5
 go_wp2_with fail
 have hz0:w.heap.size<(w.alloc (.cells #[.int .i64 W,.int .i64 H,.slice A n cap] 24)).heap.size:=by simp
 generalize w.alloc (.cells #[.int .i64 W,.int .i64 H,.slice A n cap] 24)=wa at *
 refine hwk.mono ?_
 rintro e wb ⟨rfl,hb1⟩
 have B1:=b0.trans (hb1.mono b0.size)
 have c0:=(hb1.cell (p:=⟨w.heap.size,0,none⟩) hz0).trans (q 0)
 have c1:=(hb1.cell (p:=⟨w.heap.size,1,none⟩) hz0).trans (q 1)
 have c2:=(hb1.cell (p:=⟨w.heap.size,2,none⟩) hz0).trans (q 2)
 have hsv:=serve_any W H most A n cap xs wb (E.grown B1) (s.below B1 (by omega)) hm (hx.below B1)
 clear hwk q b0 hb1 hz0
 go_wp2_with fail
 refine hsv.mono ?_
 rintro e wc ⟨hb2,hcs⟩
 have B2:=B1.trans (hb2.mono B1.size)
 clear hsv c0 c1 c2
 rcases hcs with ⟨p,rfl⟩|⟨sb,mb,lo,Wn,Hn,mN,V,bl,rfl,rfl,rfl,rfl,hmb,SR⟩
 ·go_wp2
  go_ret
  exact ⟨rfl,B2⟩
 ·by_cases h25:(25:Int)<(n3:Int)
  ·clear SR
   go_wp2
   go_ret
   exact ⟨rfl,B2⟩
  by_cases h12:(12:Int)<(n2:Int)
  ·clear SR
   go_wp2
   go_ret
   exact ⟨rfl,B2⟩
  obtain ⟨WS,hWS⟩:∃ WS,WS=wc:=⟨_,rfl⟩
  subst hWS
  have hS:=SR.sv
  have hR:=SR.ra
  have lmb:=World.block_lt_of_cell? _ _ hR.c0
  have hlom:=SR.lt
  have hlow:w.heap.size<lo:=by have h2:=B1.size;omega
  have hlol:=SR.sv.lo_lt
  have z8:=E.z
  have dC:=dg.below B2
  obtain ⟨w1,w2,h1,h2⟩:=hS.side
  obtain ⟨i0,hi',hz0,hz1,hz2⟩:=info_parts Tryz.infoA
  obtain ⟨j0,hj',jz0,jz1,jz2⟩:=info_parts Tryz.infoD
  have hwh:=wh_bd w1 w2 h1 h2
  have hbk:=blocks_le ((List.range (Hn*Wn)).map bl)
  rw [List.length_map,List.length_range] at hbk
  have hbk2:((Hn*Wn:Nat):Int)<=256:=by rw [Nat.mul_comm,Int.natCast_mul];omega
  have v2:((blocks ((List.range (Hn*Wn)).map bl):Nat):Int)<=800000:=by omega
  have hs0:0<=((blocks ((List.range (Hn*Wn)).map bl):Nat):Int):=by omega
  have HEV:Hid (Eqv Wn Hn (nrm Wn Hn bl) bl):=nrm_eqv bl
  have hst:=stats_any WS hS
  clear SR hbk hbk2
  generalize nrm Wn Hn bl=nb at *
  generalize ((blocks ((List.range (Hn*Wn)).map bl):Nat):Int)=V0 at *
  obtain ⟨k0,k1,k2,k3,k4,k5,hstv⟩:∃ k0 k1 k2 k3 k4 k5:Int,∀ V',stV Wn Hn V' nb mN=#[.int .i64 k0,.int .i64 k1,.int .i64 k2,.int .i64 k3,.int .i64 k4,.int .i64 k5,.int .i64 V']:=⟨_,_,_,_,_,_,fun _=>rfl⟩
  rw [hstv] at hst
  have HSTV:Hid (∀ V',stV Wn Hn V' nb mN=#[.int .i64 k0,.int .i64 k1,.int .i64 k2,.int .i64 k3,.int .i64 k4,.int .i64 k5,.int .i64 V']):=hstv
  obtain ⟨k6,hk6⟩:∃ k6,k6=V0:=⟨_,rfl⟩
  subst hk6
  clear hstv
  go_wp2_with fail
  refine hst.mono ?_
  rintro e wd ⟨rfl,hb3⟩
  have b4:Below wd.heap.size wd (wd.alloc (.cells #[.int .i64 k0,.int .i64 k1,.int .i64 k2,.int .i64 k3,.int .i64 k4,.int .i64 k5,.int .i64 k6] 56)):=(Below.refl _ _).alloc (Nat.le_refl _) _
  have k7:∀ o,(wd.alloc (.cells #[.int .i64 k0,.int .i64 k1,.int .i64 k2,.int .i64 k3,.int .i64 k4,.int .i64 k5,.int .i64 k6] 56)).cell? ⟨wd.heap.size,o,none⟩=#[Value.int .i64 k0,.int .i64 k1,.int .i64 k2,.int .i64 k3,.int .i64 k4,.int .i64 k5,.int .i64 k6][o]? := fun o=>World.cell?_alloc_new ..
  have D4:=hb3.trans (b4.mono hb3.size)
  have hPB:=hb3.size
  go_upto_region 8 with fail
  generalize wd.alloc (.cells #[.int .i64 k0,.int .i64 k1,.int .i64 k2,.int .i64 k3,.int .i64 k4,.int .i64 k5,.int .i64 k6] 56)=we at *
  generalize wd.heap.size=PB at *
  have z0:=k7 0
  have z1:=k7 1
  have z2:=k7 2
  have z3:=k7 3
  have z4:=k7 4
  have z5:=k7 5
  have z6:=k7 6
  have HZ:Hid (∀ (w':World),(∀ {a:Addr}{v:Value},a.block=PB->we.cell? a=some v->w'.cell? a=some v)->w'.cell? ⟨PB,0,none⟩=some (.int .i64 k0)/\w'.cell? ⟨PB,1,none⟩=some (.int .i64 k1)/\w'.cell? ⟨PB,2,none⟩=some (.int .i64 k2)/\w'.cell? ⟨PB,3,none⟩=some (.int .i64 k3)/\w'.cell? ⟨PB,4,none⟩=some (.int .i64 k4)/\w'.cell? ⟨PB,5,none⟩=some (.int .i64 k5)/\w'.cell? ⟨PB,6,none⟩=some (.int .i64 k6)):=fun w' k=>⟨k rfl z0,k rfl z1,k rfl z2,k rfl z3,k rfl z4,k rfl z5,k rfl z6⟩
  have hPBe:PB<we.heap.size:=World.block_lt_of_cell? _ _ z0
  have B4:=B2.trans (D4.mono B2.size)
  have SE:=hS.below D4
  have dE:=dC.below D4
  have HQ0:Hid (OldAsk we A2 n2 fs ts):=hq.below B4
  have HA:Hid (∀ w',Below we.heap.size we w'->∀ a t,_):=fun w' hb a t=>ask_rt a t w' (SE.below hb) (dE.below hb)
  clear hst k7 z0 z1 z2 z3 z4 z5 z6 hb3 b4 dC
  go_wp2
  go_loopw [13,14] (fun v iv wr=>∃ (k:Nat) (l:List AnsE),k<=n2/\l.length=k/\iv=.int .i64 k/\wr.ownsRow we.heap.size 41 4 v k (ansV l)/\Hid (AnsAt wr we.heap.size Wn Hn nb mN fs ts l)/\Below we.heap.size we wr)
   (fun _ i _=>n2 - (intOf i).toNat)
  case atStart=>exact ⟨0,[],Nat.zero_le _,rfl,rfl,World.ownsRow_nil _ _ _ _,fun i x h=>by simp at h,Below.refl _ _⟩
  case round =>
   obtain ⟨k,l,hk,hl,rfl,hown,hAn,hB⟩:=hrel
   have HL:Hid (l.length=k):=hl
   clear hl
   by_cases hlt:k<n2
   ·obtain ⟨bA,oA,eA,hbA,f0,t0⟩:=HQ0.out k hlt
    subst eA
    have i1:(k:Int)<(n2:Int):=by omega
    obtain ⟨fa,hfa⟩:∃ fa,fs k=fa:=⟨_,rfl⟩
    obtain ⟨tt,htt⟩:∃ tt,ts k=tt:=⟨_,rfl⟩
    rw [hfa] at f0
    rw [htt] at t0
    have HFT:Hid (fs k=fa/\ts k=tt):=⟨hfa,htt⟩
    have CC:Hid (∀ w',Below we.heap.size we w'->w'.cell? ⟨bA,oA+k*2,none⟩=some (.int .i64 fa)/\w'.cell? ⟨bA,oA+k*2+1,none⟩=some (.int .i64 tt)):=fun w' h=>⟨(h.cell (World.block_lt_of_cell? we _ f0)).trans f0,(h.cell (World.block_lt_of_cell? we _ t0)).trans t0⟩
    clear hfa htt f0 t0
    obtain ⟨f0,t0⟩:=CC.out _ hB
    go_upto_region 12 with fail
    have e0:Below wr.heap.size wr wr.drew:=(Below.refl _ _).drew
    have BE:=hB.trans (e0.mono hB.size)
    have oE:=own_below hown e0
    have hzE:=BE.size
    have HAn0:Hid (AnsAt wr.drew we.heap.size Wn Hn nb mN fs ts l):=fun i x h=>⟨(hAn.out i x h).1,own_below (hAn.out i x h).2 e0⟩
    have h5:=HA.out _ BE fa tt
    clear hown hAn f0 t0
    go_region_held3 (fun w'=>w'.cell? ⟨bA,oA+k*2,none⟩=some (.int .i64 fa)/\w'.cell? ⟨bA,oA+k*2+1,none⟩=some (.int .i64 tt)) (first|with_reducible exact CC.out _ BE|with_reducible exact CC.out _ B5|exact CC.out _ B6|exact CC.out _ B7)
     (first|(go_at_call 18;refine h5.mono ?_;rintro e w5 ⟨A5,cap5,way,s5,d5,r5,rfl,ow5,_,hA5,hR5,hb5⟩;have B5:=BE.trans (hb5.mono BE.size);have o5:=own_below oE hb5;have z5:=B5.size;have B6:Below we.heap.size we (w5.alloc (.cells #[.slice A5 way.length cap5,.int .i64 s5,.int .i64 d5,.int .i64 r5] 41)):=(B5.alloc z5 _);have o6:=(o5.alloc (.cells #[.slice A5 way.length cap5,.int .i64 s5,.int .i64 d5,.int .i64 r5] 41)))
           |(refine step_append_lies _ rfl (.tmp 55) (.tmp 68) 59 rfl we.heap.size 41 i0 (.agg #[.slice none 0 0,.int .i64 0,.int .i64 0,.int .i64 0]) 4 48 Tryz.underA hi' hz0 hz1 hz2 rfl (by decide) _ _ _ rfl o6 ⟨w5.heap.size,0,none⟩ 1 1 [.slice A5 way.length cap5,.int .i64 s5,.int .i64 d5,.int .i64 r5] rfl rfl (cell_four_new _ _ _ _ _ _) (by intro u hu;simp at hu;rcases hu with rfl|rfl|rfl|rfl <;> rfl) (by decide) (by unfold maxLen;omega) (by omega) (by simp;omega) _ rfl ?_;intro g7 c7 w7 hown7 hg7 _ hlt7;have B7:Below we.heap.size we w7:=(B6.grown hg7 (by simp;omega) (fun q hq=>(o6.lt q hq).1))))
    have O6:w7.ownsRow we.heap.size 41 4 (.slice (some ⟨g7,0,none⟩) (k+1) c7) (k+1) (ansV (l++[⟨A5,cap5,way,s5,d5,r5⟩])):=by
     rw [ansV_app]
     simpa [ansE] using hown7
    have gr:∀ {v2:Value}{m:Nat}{xs:List Value},w5.ownsRow we.heap.size 3 1 v2 m xs->w7.ownsRow we.heap.size 3 1 v2 m xs:=fun {v2 m xs} h=>own_grown (h.alloc (.cells #[.slice A5 way.length cap5,.int .i64 s5,.int .i64 d5,.int .i64 r5] 41)) hg7 (own_apart h o5 (by decide))
    have HAn6:Hid (AnsAt w7 we.heap.size Wn Hn nb mN fs ts (l++[⟨A5,cap5,way,s5,d5,r5⟩])):=fun i x h=>by
     by_cases hil:i<l.length
     ·rw [List.getElem?_append_left hil] at h
      exact ⟨(HAn0.out i x h).1,gr (own_below (HAn0.out i x h).2 hb5)⟩
     ·have e:i=k:=by
       have h2:=(List.getElem?_eq_some_iff.1 h).1
       rw [List.length_append,List.length_singleton,HL.out] at h2
       rw [HL.out] at hil
       omega
      subst e
      rw [List.getElem?_append_right (by rw [HL.out];exact Nat.le_refl _),HL.out,Nat.sub_self] at h
      cases h
      exact ⟨by rw [HFT.out.1,HFT.out.2];exact ⟨hA5,hR5⟩,gr (own_base ow5 hzE)⟩
    have HL6:Hid ((l++[(⟨A5,cap5,way,s5,d5,r5⟩:AnsE)]).length=k+1):=by
     show (l++[(⟨A5,cap5,way,s5,d5,r5⟩:AnsE)]).length=k+1
     rw [List.length_append,List.length_singleton,HL.out]
    clear hown7 hg7 gr o5 o6 ow5 B5 B6 HAn0 hA5 hR5 h5 hb5
    go_wp2
    go_roundw
    case rel=>exact ⟨k+1,_,by omega,HL6.out,by go_num,O6,HAn6.out,B7⟩
    case measure=>simp [intOf];omega
   ·have e:k=n2:=by omega
    subst e
    obtain ⟨n2,hn2⟩:∃ n2,n2=k:=⟨_,rfl⟩
    subst hn2
    obtain ⟨A,capA,rfl,hOA,hbb⟩:=oldAns_of hown HL.out
    have HOA:Hid (OldAns wr A l):=hOA
    have HBA:Hid (∀ b o,A=some ⟨b,o,none⟩->we.heap.size<=b):=fun b o e=>(hown.lt b (hbb b o e)).1
    have HHOA:Hid (AnsAt wr we.heap.size Wn Hn nb mN fs ts l):=hAn.out
    obtain ⟨w6,hw6⟩:∃ w6,w6=wr:=⟨_,rfl⟩
    subst hw6
    have HBE:Hid (Below we.heap.size we w6):=hB
    have D6:=D4.trans (hB.mono D4.size)
    have B6:=B2.trans (D6.mono B2.size)
    have R6:=hR.below D6 lmb
    have lm6:mb<w6.heap.size:=Nat.lt_of_lt_of_le lmb D6.size
    have zwe:WS.heap.size<=we.heap.size:=D4.size
    have zw6:we.heap.size<=w6.heap.size:=hB.size
    have HCS:Hid (∀ w',Below w6.heap.size w6 w'->∀ i,i<256->w'.cell? ⟨mb,2+i,none⟩=some (.bool (bl i))):=fun w' h i hi=>(R6.below h lm6).cs i hi
    have HRR:Hid (∀ w',Below w6.heap.size w6 w'->RefAt w' mb Wn Hn V bl):=fun w' h=>R6.below h lm6
    have HOY:Hid (OldRow w6 A3 n3 ys):=hy.below B6
    clear hown hOA hbb hAn R6
    go_wp2
    go_loopw [15,16,17] (fun dv bv iv wr=>∃ (i:Nat) (l2:List Nat),i<=n3/\l2.length<=i/\iv=.int .i64 i/\wr.ownsRow w6.heap.size 62 2 dv l2.length (edsV (didL l2))/\wr.ownsRow w6.heap.size 62 2 bv l2.length (edsV (backL bl l2))/\Hid (∀ g,dv.ownBlock=some g->bv.ownBlock≠some g)/\Hid (∀ c ∈ l2,inB Wn Hn (c:Int)=true)/\Below w6.heap.size w6 wr)
     (fun _ _ i _=>n3 - (intOf i).toNat)
    case atStart=>exact ⟨0,[],Nat.zero_le _,Nat.le_refl _,rfl,World.ownsRow_nil _ _ _ _,World.ownsRow_nil _ _ _ _,fun g h=>(by cases h),fun x hx=>(by cases hx),Below.refl _ _⟩
    case round =>
     obtain ⟨i,l2,hi,hli,rfl,hod,hob,hap,hal,hB⟩:=hrel
     by_cases hlt:i<n3
     ·obtain ⟨bA,oA,eA,hbA,f00⟩:=HOY.out i hlt
      subst eA
      have i1:(i:Int)<(n3:Int):=by omega
      generalize ys i=c at *
      have HF:Hid (∀ w',Below w6.heap.size w6 w'->w'.cell? ⟨bA,oA+i,none⟩=some (.int .i64 c)):=fun w' h=>(h.cell (World.block_lt_of_cell? _ _ f00)).trans f00
      clear f00
      have f0:=HF.out _ hB
      cases hin:inB Wn Hn c with
      |false =>
       have his:=ris_out c wr (HRR.out _ hB) hin
       clear hin
       go_wp2_with fail
       refine his.mono ?_
       rintro e w5 ⟨rfl,m5,hw5⟩
       have h5:Below wr.heap.size wr w5:=by rw [hw5];exact below_drewN (Below.refl _ _) _
       have o5:=own_below hod h5
       have p5:=own_below hob h5
       have B5:=hB.trans (h5.mono hB.size)
       clear hw5 his hod hob
       go_wp2
       go_roundw
       case rel=>exact ⟨i+1,l2,by omega,by omega,by go_num,o5,p5,hap.out,hal.out,B5⟩
       case measure=>simp [intOf];omega
      |true =>
       have his:=ris_in c wr (HRR.out _ hB) hin
       have q:0<=c/\c<(Wn:Int)*(Hn:Int):=of_decide_eq_true hin
       obtain ⟨cN,rfl⟩:∃ cN:Nat,c=(cN:Int):=⟨c.toNat,by omega⟩
       have c256:cN<256:=by omega
       have HIN:Hid (inB Wn Hn (cN:Int)=true):=hin
       clear hin
       go_wp2_with fail
       refine his.mono ?_
       rintro e w5 ⟨rfl,m5,hw5⟩
       have h5:Below wr.heap.size wr w5:=by rw [hw5];exact below_drewN (Below.refl _ _) _
       have o5:=own_below hod h5
       have p5:=own_below hob h5
       have B5:=hB.trans (h5.mono hB.size)
       have f5:=HF.out _ B5
       have z5:=B5.size
       have hdl:=didL_len l2
       have hbl:=backL_len bl l2
       clear hw5 his hod hob f0
       go_wp2_with (at_builtin;refine wpList_append_own_at _ rfl _ _ 44 rfl w6.heap.size 62 j0 (.agg #[.int .i64 0,.bool false]) 2 16 Tryz.underD hj' jz0 jz1 jz2 rfl (by decide) _ _ _ rfl (o5.alloc _) ⟨w5.heap.size,0,none⟩ 1 1 [.int .i64 (cN:Int),.bool true] rfl rfl (cell_two_new _ _ _ _) (by intro u hu;simp at hu;rcases hu with rfl|rfl <;> rfl) ?c3 ?c4 ?c5 ?_)
       case c3=>unfold maxLen;omega
       case c4=>omega
       case c5=>simp;omega
       intro v' w7 hown' hgrow _ hat
       have hbase:=fun q hq=>(o5.lt q hq).1
       have B7:Below w6.heap.size w6 w7:=(B5.alloc z5 _).grown hgrow (by simp;omega) hbase
       have O7:w7.ownsRow w6.heap.size 62 2 v' (l2.length+1) (edsV (didL (l2++[cN]))):=by
        rw [didL_app,edsV_app]
        simpa [edsE] using hown'
       have P7:=own_grown (p5.alloc (.cells #[.int .i64 (cN:Int),.bool true] 62)) hgrow (fun g hg e=>hap.out g e.symm hg)
       have z7:=B7.size
       have hw57:w5.heap.size<w7.heap.size:=by have h:=hgrow.size;simp at h;omega
       have HAT:Hid (∀ g,v'.ownBlock=some g->g<w7.heap.size):=fun g hg=>(O7.lt g hg).2
       have HAP7:Hid (∀ g,v'.ownBlock=some g->u16.ownBlock≠some g):=fun g hg e=>by
        rcases hat with h|h
        ·rw [h] at hg;exact hap.out g hg e
        ·rw [h] at hg
         have:=(p5.lt g e).2
         simp at hg
         omega
       have f7:=HF.out _ B7
       have c7:=HCS.out _ B7 cN c256
       have FC:Hid (∀ w',Below w6.heap.size w6 w'->w'.cell? ⟨bA,oA+i,none⟩=some (.int .i64 (cN:Int))/\w'.cell? ⟨mb,2+cN,none⟩=some (.bool (bl cN))):=fun w' h=>⟨HF.out _ h,HCS.out _ h cN c256⟩
       clear hown' hgrow o5 p5 B5 f5 h5 hat
       go_upto_region 19 with fail
       have e7:Below w7.heap.size w7 w7.drew:=(Below.refl _ _).drew
       have B8:=B7.trans (e7.mono B7.size)
       have O8:=own_below O7 e7
       have P8:=own_below P7 e7
       have z8':=B8.size
       have B9:Below w6.heap.size w6 (w7.drew.alloc (.cells #[.int .i64 (cN:Int),.bool (bl cN)] 62)):=B8.alloc z8' _
       have P9:=P8.alloc (.cells #[.int .i64 (cN:Int),.bool (bl cN)] 62)
       have cq1:(cN:Int)<256:=by omega
       have cq0:0<=(cN:Int):=by omega
       generalize hblc:bl cN=bc at *
       have HBC:Hid (bl cN=bc):=hblc
       clear hblc f7 c7
       go_region_held3 (fun w'=>w'.cell? ⟨bA,oA+i,none⟩=some (.int .i64 (cN:Int))/\w'.cell? ⟨mb,2+cN,none⟩=some (.bool bc)) (first|with_reducible exact FC.out _ B8|exact FC.out _ B9|exact FC.out _ BF)
        (first|(refine step_append_lies _ rfl (.tmp 91) (.tmp 106) 44 rfl w6.heap.size 62 j0 (.agg #[.int .i64 0,.bool false]) 2 16 Tryz.underD hj' jz0 jz1 jz2 rfl (by decide) _ _ _ rfl P9 ⟨w7.heap.size,0,none⟩ 1 1 [.int .i64 (cN:Int),.bool bc] rfl rfl (cell_two_new w7.drew _ _ _) (by intro u hu;simp at hu;rcases hu with rfl|rfl <;> rfl) (by decide) (by unfold maxLen;omega) (by omega) (by simp;omega) _ rfl ?_;intro g9 c9 w9 hown9 hg9 hat9 hlt9;have BF:Below w6.heap.size w6 w9:=(B9.grown hg9 (by simp;omega) (fun q hq=>(P9.lt q hq).1))))
       have PF:w9.ownsRow w6.heap.size 62 2 (.slice (some ⟨g9,0,none⟩) (l2.length+1) c9) (l2.length+1) (edsV (backL bl (l2++[cN]))):=by
        rw [backL_app,edsV_app,HBC.out]
        simpa [edsE] using hown9
       have OF:=own_grown (O8.alloc (.cells #[.int .i64 (cN:Int),.bool bc] 62)) hg9 (fun g hg e=>HAP7.out g hg e.symm)
       have HAPF:Hid (∀ g,v'.ownBlock=some g->(Value.slice (some ⟨g9,0,none⟩) (l2.length+1) c9).ownBlock≠some g):=fun g hg e=>by
        have e:g9=g:=Option.some.inj e
        have hlt:=HAT.out g hg
        rcases hat9 with h|h
        ·rw [e] at h;exact HAP7.out g hg h
        ·simp at h;omega
       have HALF:Hid (∀ c ∈ l2++[cN],inB Wn Hn (c:Int)=true):=fun x hx=>by
        rcases List.mem_append.1 hx with h|h
        ·exact hal.out x h
        ·rw [List.mem_singleton] at h;rw [h];exact HIN.out
       have hl9:(l2++[cN]).length=l2.length+1:=by rw [List.length_append,List.length_singleton]
       have HR9:Hid (w9.ownsRow w6.heap.size 62 2 v' (l2++[cN]).length (edsV (didL (l2++[cN])))/\w9.ownsRow w6.heap.size 62 2 (.slice (some ⟨g9,0,none⟩) (l2.length+1) c9) (l2++[cN]).length (edsV (backL bl (l2++[cN])))/\(l2++[cN]).length<=i+1):=by
        rw [hl9]
        exact ⟨OF,PF,by omega⟩
       clear hown9 hg9 hat9 O8 P8 P9 O7 P7 hl9 hdl hbl
       go_wp2
       go_roundw
       case rel=>exact ⟨i+1,l2++[cN],by omega,HR9.out.2.2,by go_num,HR9.out.1,HR9.out.2.1,HAPF.out,HALF.out,BF⟩
       case measure=>simp [intOf];omega
     ·have e:i=n3:=by omega
      subst e
      have DW:=D6.trans (hB.mono D6.size)
      have hod':=hod
      rw [<- didL_len l2] at hod'
      have hob':=hob
      rw [<- backL_len bl l2] at hob'
      obtain ⟨Ad,cd,rfl,hOD,hbd⟩:=oldEd_of hod'
      obtain ⟨Ab,cb,rfl,hOB,hbb⟩:=oldEd_of hob'
      rw [didL_len] at hOD
      rw [backL_len] at hOB
      have SW:=hS.below DW
      have hed:=nedit_ok (cap:=cd) wr SW hOD (fun _ b' o' e' h'=>by have:=hbd b' o' e';omega) (by omega) hs0 (by omega) (by omega) (did_in (f:=fun c:Nat=>((c:Int),true)) hal.out (fun _=>rfl))
      have hdl:=didL_len l2
      have hbl:=backL_len bl l2
      have HUN:=edF_undo (nb:=nb) (bl:=bl) (l:=l2) (fun c hc=>(HEV.out c (by have q:0<=(c:Int)/\(c:Int)<(Wn:Int)*(Hn:Int):=of_decide_eq_true (hal.out c hc);exact q.2)).symm)
      have HUN:Hid (edF (edF nb (csL (didL l2)) (bsL (didL l2)) l2.length) (csL (backL bl l2)) (bsL (backL bl l2)) l2.length=nb):=HUN
      have HBK:Hid (∀ i,i<l2.length->inB Wn Hn (csL (backL bl l2) i)=true):=did_in (f:=fun c:Nat=>((c:Int),bl c)) hal.out (fun _=>rfl)
      generalize edF nb (csL (didL l2)) (bsL (didL l2)) l2.length=nb2 at *
      rw [hdl,hbl]
      clear hod hob hod' hob' hOD hap hal hdl hbl
      go_wp2_with fail
      refine hed.mono ?_
      rintro e wE ⟨k,hk,rfl,SE2,KE⟩
      have hOB2:=hOB.keep KE (fun b' o' e' h'=>by have:=hbb b' o' e';omega)
      have hed2:=nedit_ok (cap:=cb) wE SE2 hOB2 (fun _ b' o' e' h'=>by have:=hbb b' o' e';omega) (by omega) (by omega) (by omega) (by omega) HBK.out
      rw [HUN.out] at hed2
      clear hed hOB hOB2 SE2
      go_wp2_with fail
      refine hed2.mono ?_
      rintro e wF ⟨k',hk',rfl,SF,KF⟩
      have KK:Keep (fun k=>lo<=k/\k<WS.heap.size) wr wF:=KE.trans KF (fun _ _ h=>h)
      have BW:=B2.trans (DW.mono B2.size)
      have lF:Below lo wr wF:=KK.to_below (by have:=DW.size;omega) (fun k h=>h.1)
      have BF:Below w.heap.size w wF:=BW.trans (lF.mono (Nat.le_of_lt hlow))
      have dF:=(dg.below BW).keep KK (show ¬ (lo<=0/\0<WS.heap.size) by omega)
      have HQ:Hid (OldAsk wF A2 n2 fs ts):=hq.below BF
      have HOF:Hid (OldAns wF A l):=(HOA.out.below hB).keep KK (fun b o e h=>by have:=HBA.out b o e;omega)
      have HHOF:Hid (AnsAt wF we.heap.size Wn Hn nb mN fs ts l):=fun i x hx=>by
       obtain ⟨h1,h2⟩:=HHOA.out i x hx
       have h3:=own_below h2 hB
       exact ⟨h1,own_keep h3 KK (fun q hq h=>by have:=(h3.lt q hq).1;omega)⟩
      have HZF:Hid (∀ w',Below wF.heap.size wF w'->_):=fun w' hb=>HZ.out w' (fun {a v} ha hv=>by
       have h1:w6.cell? a=some v:=(HBE.out.cell (World.block_lt_of_cell? _ _ hv)).trans hv
       have h2:wr.cell? a=some v:=(hB.cell (World.block_lt_of_cell? _ _ h1)).trans h1
       have h3:wF.cell? a=some v:=KK.cellOf h2 (by rw [ha];omega)
       exact (hb.cell (World.block_lt_of_cell? _ _ h3)).trans h3)
      have HA1:Hid (∀ w',Below wF.heap.size wF w'->∀ {a t:Int}{way:List Nat}{s d err:Int},AskP Wn Hn nb mN a t way s d err->_):=fun w' hb {a t way s d err} P=>ask_fix (a:=a) (t:=t) w' P (SF.below hb) (dF.below hb)
      have HST:Hid (∀ w',Below wF.heap.size wF w'->_):=fun w' hb=>stats_any w' (SF.below hb)
      have DF0:Below wF.heap.size wF wF:=Below.refl _ _
      clear hed2 KE KF KK SF dF HOA HHOA HBK HUN
      go_wp2
      obtain ⟨W9,hW9⟩:∃ W9,W9=wr:=⟨_,rfl⟩
      subst hW9
      go_loopw [22] (fun iv wr=>∃ i:Nat,i<=n2/\iv=.int .i64 i/\Below wF.heap.size wF wr)
       (fun i _=>n2 - (intOf i).toNat)
      case atStart=>exact ⟨0,Nat.zero_le _,rfl,Below.refl _ _⟩
      case round =>
       clear hB
       obtain ⟨j,hj,rfl,hB⟩:=hrel
       have hl:=HL.out
       by_cases hjn:j<n2
       ·have hj0:(0:Int)<=(j:Int):=by omega
        obtain ⟨bA,oA,eA2,hbA,f0,t0⟩:=(HQ.out.below (DF0.trans (hB.mono DF0.size))) j hjn
        obtain ⟨x,hx⟩:∃ x,l[j]? = some x:=⟨l[j]'(by omega),List.getElem?_eq_getElem (by omega)⟩
        obtain ⟨bX,oX,eX,hbX,a0,a1,a2,a3⟩:=(HOF.out.below hB) j x hx
        obtain ⟨hAP,hOW⟩:=HHOF.out j x hx
        have old4:OldRow wr x.A x.way.length (fun i=>((x.way.getD i 0:Nat):Int)):=by
         obtain ⟨A',cap',e',ho,_⟩:=oldRow_of (own_below hOW hB)
         cases e'
         exact ho
        obtain ⟨xA,xcap,xway,xs',xd,xe⟩:=x
        subst eA2 eX
        have i1:(j:Int)<(n2:Int):=by omega
        generalize fs j=fa at *
        generalize ts j=tt at *
        have HP:Hid (AskP Wn Hn nb mN fa tt xway xs' xd xe):=hAP
        have hln:xway.length<=1000000:=by have:=HP.out.2.len;omega
        have e0:Below wr.heap.size wr wr.drew:=(Below.refl _ _).drew
        have E0:=(DF0.trans (hB.mono DF0.size)).trans (e0.mono (DF0.trans (hB.mono DF0.size)).size)
        have a0:wr.cell? ⟨bX,oX+j*4,none⟩=some (.slice xA xway.length xcap):=a0
        have a1:wr.cell? ⟨bX,oX+j*4+1,none⟩=some (.int .i64 xs'):=a1
        have a2:wr.cell? ⟨bX,oX+j*4+2,none⟩=some (.int .i64 xd):=a2
        have a3:wr.cell? ⟨bX,oX+j*4+3,none⟩=some (.int .i64 xe):=a3
        have old4:OldRow wr xA xway.length (fun i=>((xway.getD i 0:Nat):Int)):=old4
        have CC:Hid (∀ w',Below wr.heap.size wr w'->w'.cell? ⟨bA,oA+j*2,none⟩=some (.int .i64 fa)/\w'.cell? ⟨bA,oA+j*2+1,none⟩=some (.int .i64 tt)/\w'.cell? ⟨bX,oX+j*4,none⟩=some (.slice xA xway.length xcap)/\w'.cell? ⟨bX,oX+j*4+1,none⟩=some (.int .i64 xs')/\w'.cell? ⟨bX,oX+j*4+2,none⟩=some (.int .i64 xd)/\w'.cell? ⟨bX,oX+j*4+3,none⟩=some (.int .i64 xe)):=fun w' h=>by
         have k:∀ {a:Addr}{v:Value},wr.cell? a=some v->w'.cell? a=some v:=fun {a v} q=>(h.cell (World.block_lt_of_cell? wr a q)).trans q
         exact ⟨k f0,k t0,k a0,k a1,k a2,k a3⟩
        have HO4:Hid (OldRow wr xA xway.length (fun i=>((xway.getD i 0:Nat):Int))):=old4
        go_upto_region 27 with fail
        clear f0 t0 a0 a1 a2 a3 hAP hOW hx old4
        go_region_held3 (fun w'=>w'.cell? ⟨bA,oA+j*2,none⟩=some (.int .i64 fa)/\w'.cell? ⟨bA,oA+j*2+1,none⟩=some (.int .i64 tt)/\w'.cell? ⟨bX,oX+j*4,none⟩=some (.slice xA xway.length xcap)/\w'.cell? ⟨bX,oX+j*4+1,none⟩=some (.int .i64 xs')/\w'.cell? ⟨bX,oX+j*4+2,none⟩=some (.int .i64 xd)/\w'.cell? ⟨bX,oX+j*4+3,none⟩=some (.int .i64 xe)) (first|with_reducible exact CC.out _ e0|with_reducible exact CC.out _ e5|with_reducible exact CC.out _ e7)
         (first
          |(go_at_call 18;refine (HA1.out _ E0 HP.out).mono ?_;rintro r w5 ⟨A5,cap5,rfl,_,old5,hb5⟩;have e5:=e0.trans (hb5.mono e0.size);have hsm:=sameAns_old (ca:=cap5) (cb:=xcap) xs' xd xe _ hln old5 (HO4.out.below e5))
          |(go_at_call 27;refine hsm.mono ?_;rintro r w7 ⟨rfl,hb7⟩;have e7:=e5.trans (hb7.mono e5.size)))
        have R7:=hB.trans (e7.mono hB.size)
        clear hsm old5
        go_wp2
        go_roundw
        case rel=>exact ⟨j+1,by omega,by go_num,R7⟩
        case measure=>first|(simp [intOf];done)|(simp [intOf];omega)
       ·have e:j=n2:=by omega
        subst e
        clear hl HOF HHOF
        have hfs:=HST.out _ hB
        rw [HSTV.out] at hfs
        generalize k6+(k:Int)+(k':Int)=V9 at *
        go_wp2_with fail
        refine hfs.mono ?_
        rintro e w8 ⟨rfl,hb8⟩
        have D8:=hB.trans (hb8.mono hB.size)
        have b9:Below w8.heap.size w8 (w8.alloc (.cells #[.int .i64 k0,.int .i64 k1,.int .i64 k2,.int .i64 k3,.int .i64 k4,.int .i64 k5,.int .i64 V9] 56)):=(Below.refl _ _).alloc (Nat.le_refl _) _
        have p7:∀ o,(w8.alloc (.cells #[.int .i64 k0,.int .i64 k1,.int .i64 k2,.int .i64 k3,.int .i64 k4,.int .i64 k5,.int .i64 V9] 56)).cell? ⟨w8.heap.size,o,none⟩=#[Value.int .i64 k0,.int .i64 k1,.int .i64 k2,.int .i64 k3,.int .i64 k4,.int .i64 k5,.int .i64 V9][o]? := fun o=>World.cell?_alloc_new ..
        have fz:=free_alloc w8 #[.int .i64 k0,.int .i64 k1,.int .i64 k2,.int .i64 k3,.int .i64 k4,.int .i64 k5,.int .i64 V9] 56 w8.heap.size (Nat.le_refl _)
        have D9:=D8.trans (b9.mono D8.size)
        obtain ⟨z0,z1,z2,z3,z4,z5,z6⟩:=HZF.out _ D9
        have hlPB:PB<w8.heap.size:=by
         obtain ⟨z0,_⟩:=HZF.out _ D8
         exact World.block_lt_of_cell? _ _ z0
        go_upto_region 31 with fail
        generalize w8.alloc (.cells #[.int .i64 k0,.int .i64 k1,.int .i64 k2,.int .i64 k3,.int .i64 k4,.int .i64 k5,.int .i64 V9] 56)=w9 at *
        generalize hPN:w8.heap.size=PN at *
        have p0:=p7 0
        have p1:=p7 1
        have p2:=p7 2
        have p3:=p7 3
        have p4:=p7 4
        have p5:=p7 5
        have p6:=p7 6
        have f6:=fz 6
        have K9:=set_keep1 w9 PN 6 (.int .i64 k6)
        have nn:PB≠PN:=by omega
        have y0:=K9.cellOf z0 nn
        have y1:=K9.cellOf z1 nn
        have y2:=K9.cellOf z2 nn
        have y3:=K9.cellOf z3 nn
        have y4:=K9.cellOf z4 nn
        have y5:=K9.cellOf z5 nn
        have y6:=K9.cellOf z6 nn
        have ne:∀ {i:Nat},i≠6->(⟨PN,6,none⟩:Addr)≠⟨PN,i,none⟩:=fun h q=>h (Addr.mk.inj q).2.1.symm
        have r0:=(World.cell?_setCell_other w9 ⟨PN,6,none⟩ ⟨PN,0,none⟩ (.int .i64 k6) (ne (by decide))).trans p0
        have r1:=(World.cell?_setCell_other w9 ⟨PN,6,none⟩ ⟨PN,1,none⟩ (.int .i64 k6) (ne (by decide))).trans p1
        have r2:=(World.cell?_setCell_other w9 ⟨PN,6,none⟩ ⟨PN,2,none⟩ (.int .i64 k6) (ne (by decide))).trans p2
        have r3:=(World.cell?_setCell_other w9 ⟨PN,6,none⟩ ⟨PN,3,none⟩ (.int .i64 k6) (ne (by decide))).trans p3
        have r4:=(World.cell?_setCell_other w9 ⟨PN,6,none⟩ ⟨PN,4,none⟩ (.int .i64 k6) (ne (by decide))).trans p4
        have r5:=(World.cell?_setCell_other w9 ⟨PN,6,none⟩ ⟨PN,5,none⟩ (.int .i64 k6) (ne (by decide))).trans p5
        have r6:=World.cell?_setCell_same w9 ⟨PN,6,none⟩ (.int .i64 k6) p6
        have D10:Below wF.heap.size wF (w9.setCell ⟨PN,6,none⟩ (.int .i64 k6)):=D9.setCell (p:=⟨PN,6,none⟩) (by rw [<- hPN];exact D8.size) _
        clear p7 fz hfs K9 ne
        go_wp2
        go_ret
        exact ⟨rfl,BF.trans (D10.mono BF.size)⟩
end Go.Proofs.YtipbhlofbpnpjaaGreatDoor
