/- -/
import Derived.Test.YtmaefimaeelkbaaGreatDoorP28
import Derived.Test.YtmaefimaeelkbaaGreatDoorP29
import Derived.Test.YtmaefimaeelkbaaGreatDoorRs
namespace Go.Proofs.YtmaefimaeelkbaaGreatDoor
open Go.RowKit Go.Lib
set_option maxHeartbeats 8000000 in
set_option maxRecDepth 1000000 in
theorem topFrame_any (W H most:Int)(A:Option Addr)(n cap:Nat)(xs:Nat->Int)(a b:Int)(w:World)(E:Env w)(s:StepsAt w)(dg:DiagAt w)(hm:n<=maxLen)(hx:OldRow w A n xs) :
  Calls Tryz.prog 5 #[.agg #[.int .i64 W,.int .i64 H,.slice A n cap],.int .i64 most,.int .i64 a,.int .i64 b] w fun e w'=>e=.returned (.bool true)/\Below w.heap.size w w':=by
 have hsp:=s.pos
 have b0:Below w.heap.size w (w.alloc (.cells #[.int .i64 W,.int .i64 H,.slice A n cap] 68)):=(Below.refl _ _).alloc (Nat.le_refl _) _
 have q:∀ o,(w.alloc (.cells #[.int .i64 W,.int .i64 H,.slice A n cap] 68)).cell? ⟨w.heap.size,o,none⟩=#[Value.int .i64 W,.int .i64 H,.slice A n cap][o]? := fun o=>World.cell?_alloc_new ..
 have hwk:=works_any _ (s.below b0 (by omega)) (dg.below b0)
 go_enter Tryz.func5,Tryz.ntmps5
 go_wp2_with fail
 have hz0:w.heap.size<(w.alloc (.cells #[.int .i64 W,.int .i64 H,.slice A n cap] 68)).heap.size:=by simp
 generalize w.alloc (.cells #[.int .i64 W,.int .i64 H,.slice A n cap] 68)=wa at *
 refine hwk.mono ?_
 rintro e wb ⟨rfl,hb1⟩
 have B1:=b0.trans (hb1.mono b0.size)
 have c0:=(hb1.cell (p:=⟨w.heap.size,0,none⟩) hz0).trans (q 0)
 have c1:=(hb1.cell (p:=⟨w.heap.size,1,none⟩) hz0).trans (q 1)
 have c2:=(hb1.cell (p:=⟨w.heap.size,2,none⟩) hz0).trans (q 2)
 have hsv:=serve_any W H most A n cap xs wb (E.grown B1) (s.below B1 (by omega)) hm (hx.below B1)
 clear hwk q b0 hb1 hz0
 go_wp2_with fail
 refine hsv.mono ?_
 rintro e wc ⟨hb2,hcs⟩
 have B2:=B1.trans (hb2.mono B1.size)
 clear hsv c0 c1 c2
 rcases hcs with ⟨p,rfl⟩|⟨sb,mb,lo,Wn,Hn,mN,V,bl,rfl,rfl,rfl,rfl,hmb,SR⟩
 ·go_wp2
  go_ret
  exact ⟨rfl,B2⟩
 ·obtain ⟨WS,hWS⟩:∃ WS,WS=wc:=⟨_,rfl⟩
  subst hWS
  have hS:=SR.sv
  have hR:=SR.ra
  have lmb:=World.block_lt_of_cell? _ _ hR.c0
  have hmw:w.heap.size<=mb:=by have h2:=B1.size;omega
  have z8:=E.z
  have dC:=dg.below B2
  have ra0:=hR.c0
  have ra1:=hR.c1
  have HW0:Hid (WS.cell? ⟨mb,0,none⟩=some (.int .i64 (Wn:Int))):=hR.c0
  obtain ⟨w1,w2,h1,h2⟩:=hS.side
  obtain ⟨m1,m6⟩:=hS.mst
  clear SR
  by_cases hW14:(14:Int)<(Wn:Int)
  ·clear hS hR
   go_wp2
   go_ret
   exact ⟨rfl,B2⟩
  by_cases hH14:(14:Int)<(Hn:Int)
  ·clear hS hR
   go_wp2
   go_ret
   exact ⟨rfl,B2⟩
  have hwh:=wh_bd w1 w2 h1 h2
  cases hia:inB Wn Hn a with
  |false =>
   have his:=ris_out a WS hR hia
   clear hia hS
   go_wp2_with fail
   refine his.mono ?_
   rintro e w3 ⟨rfl,m3,rfl⟩
   go_wp2
   go_ret
   exact ⟨rfl,below_drewN B2 _⟩
  |true =>
   have his:=ris_in a WS hR hia
   have HIA:Hid (inB Wn Hn a=true):=hia
   have ha:0<=a/\a<(Wn:Int)*(Hn:Int):=of_decide_eq_true hia
   clear hia
   go_wp2_with fail
   refine his.mono ?_
   rintro e w3 ⟨rfl,m3,hw3⟩
   have D3:Below WS.heap.size WS w3:=by rw [hw3];exact below_drewN (Below.refl _ _) _
   clear hw3 his
   cases hib:inB Wn Hn b with
   |false =>
    have his:=ris_out b w3 (hR.below D3 lmb) hib
    clear hib hS
    go_wp2_with fail
    refine his.mono ?_
    rintro e w4 ⟨rfl,m4,rfl⟩
    have B3:=B2.trans (D3.mono B2.size)
    go_wp2
    go_ret
    exact ⟨rfl,below_drewN B3 _⟩
   |true =>
    have his:=ris_in b w3 (hR.below D3 lmb) hib
    have HIB:Hid (inB Wn Hn b=true):=hib
    have hb_:0<=b/\b<(Wn:Int)*(Hn:Int):=of_decide_eq_true hib
    clear hib
    go_wp2_with fail
    refine his.mono ?_
    rintro e w4 ⟨rfl,m4,hw4⟩
    have D4:Below WS.heap.size WS w4:=by rw [hw4];exact below_drewN D3 _
    clear hw4 his
    have R4:=hR.below D4 lmb
    have ra0:=R4.c0
    have ra1:=R4.c1
    have hnw:=rnew_ok ((Wn:Int)+2) ((Hn:Int)+2) w4 (by omega) (by omega) (by omega) (by omega)
    have hw2:IntKind.i64.wrap ((Wn:Int)+2)=(Wn:Int)+2:=wrap_small (by omega) (by omega)
    have hh2:IntKind.i64.wrap ((Hn:Int)+2)=(Hn:Int)+2:=wrap_small (by omega) (by omega)
    go_wp2_with fail
    refine hnw.mono ?_
    rintro e w5 ⟨rfl,hw5⟩
    have b5:Below w4.heap.size w4 (w4.alloc (.cells (refC ((Wn:Int)+2) ((Hn:Int)+2)) 38)):=(Below.refl _ _).alloc (Nat.le_refl _) _
    have R5:=refAt_new ((Wn:Int)+2) ((Hn:Int)+2) w4 (decide_eq_true ⟨by omega,by omega⟩) (decide_eq_true ⟨by omega,by omega⟩)
    have F5:Free (w4.alloc (.cells (refC ((Wn:Int)+2) ((Hn:Int)+2)) 38)) w4.heap.size:=free_alloc w4 _ 38 w4.heap.size (Nat.le_refl _)
    rw [<- hw5] at b5 R5 F5
    clear hw5 hnw
    have D5:=D4.trans (b5.mono D4.size)
    have hob:=D4.size
    have hobl:w4.heap.size<w5.heap.size:=World.block_lt_of_cell? _ _ R5.c0
    generalize w4.heap.size=ob at *
    have RM:=hR.below D5 lmb
    have HRM:Hid (∀ wr,Keep (fun k=>k=ob) w5 wr->RefAt wr mb Wn Hn V bl):=fun wr K=>RM.keepO K (by omega)
    have HP0:Hid (FrP Wn Hn bl 0 0 (fun _=>false)):=fun X Y _ _ h=>by omega
    clear R4 ra0 ra1 hR b5 D3 D4
    go_wp2
    go_loopw [15] (fun yv wr=>∃ (y:Nat) (V':Int) (blo:Nat->Bool),y<=Hn+2/\yv=.int .i64 y/\RefAt wr ob ((Wn:Int)+2) ((Hn:Int)+2) V' blo/\Hid (FrP Wn Hn bl y 0 blo)/\Free wr ob/\Keep (fun k=>k=ob) w5 wr)
     (fun y _=>Hn+2 - (intOf y).toNat)
    case atStart=>exact ⟨0,0,_,Nat.zero_le _,rfl,R5,HP0.out,F5,Keep.refl _ _⟩
    case round =>
     clear R5 F5
     obtain ⟨y,V',blo,hy,rfl,RO,HP,FO,KO⟩:=hrel
     have Rm:=HRM.out _ KO
     have ra0:=Rm.c0
     have ra1:=Rm.c1
     by_cases hlt:y<Hn+2
     ·have y1:(y:Int)<(Hn:Int)+2:=by omega
      clear Rm
      go_wp2
      obtain ⟨WY,hWY⟩:∃ WY,WY=wr:=⟨_,rfl⟩
      subst hWY
      go_loopw [16] (fun xv wr=>∃ (x:Nat) (V':Int) (blo:Nat->Bool),x<=Wn+2/\xv=.int .i64 x/\RefAt wr ob ((Wn:Int)+2) ((Hn:Int)+2) V' blo/\Hid (FrP Wn Hn bl y x blo)/\Free wr ob/\Keep (fun k=>k=ob) w5 wr)
       (fun x _=>Wn+2 - (intOf x).toNat)
      case atStart=>exact ⟨0,V',blo,Nat.zero_le _,rfl,RO,HP.out,FO,KO⟩
      case round =>
       clear RO FO KO ra0 ra1
       obtain ⟨x,V2,blo2,hx,rfl,RO,HP2,FO,KO⟩:=hrel
       have Rm:=HRM.out _ KO
       have ra0:=Rm.c0
       have ra1:=Rm.c1
       by_cases hxt:x<Wn+2
       ·have x1:(x:Int)<(Wn:Int)+2:=by omega
        go_upto_region 15 with fail
        go_cut [17] from 89 to 110 (fun bv wd=>bv=.bool (decide (1<=x/\x<=Wn/\1<=y/\y<=Hn))/\wd=wr)
        case first =>
         clear Rm RO
         by_cases q1:1<=x
         ·have q1':(0:Int)<(x:Int):=by omega
          by_cases q2:x<=Wn
          ·have q2':(x:Int)<=(Wn:Int):=by omega
           by_cases q3:1<=y
           ·have q3':(0:Int)<(y:Int):=by omega
            by_cases q4:y<=Hn
            ·have q4':(y:Int)<=(Hn:Int):=by omega
             go_wp2_with fail
             go_meet
             exact ⟨by simp [q1,q2,q3,q4],rfl⟩
            ·have q4':¬ (y:Int)<=(Hn:Int):=by omega
             go_wp2_with fail
             go_meet
             exact ⟨by simp [q1,q2,q3,q4],rfl⟩
           ·have q3':¬ (0:Int)<(y:Int):=by omega
            go_wp2_with fail
            go_meet
            exact ⟨by simp [q1,q2,q3],rfl⟩
          ·have q2':¬ (x:Int)<=(Wn:Int):=by omega
           go_wp2_with fail
           go_meet
           exact ⟨by simp [q1,q2],rfl⟩
         ·have q1':¬ (0:Int)<(x:Int):=by omega
          go_wp2_with fail
          go_meet
          exact ⟨by simp [q1],rfl⟩
        case rest =>
         obtain ⟨rfl,hwd⟩:=hcut
         have hwd:wr=wc:=hwd.symm
         subst hwd
         have HST:=HP2.out.step hxt
         have hcell:inB ((Wn:Int)+2) ((Hn:Int)+2) ((y*(Wn+2)+x:Nat):Int)=true:=by
          refine decide_eq_true ⟨by omega,?_⟩
          have h1:(y+1)*(Wn+2)<=(Hn+2)*(Wn+2):=Nat.mul_le_mul_right _ (by omega)
          rw [Nat.add_mul,Nat.one_mul,Nat.mul_comm (Hn+2)] at h1
          have h2:((Wn:Int)+2)*((Hn:Int)+2)=(((Wn+2)*(Hn+2):Nat):Int):=by rw [Int.natCast_mul,Int.natCast_add,Int.natCast_add];rfl
          rw [h2]
          omega
         have hci:(y:Int)*((Wn:Int)+2)+(x:Int)=((y*(Wn+2)+x:Nat):Int):=by rw [Int.natCast_add,Int.natCast_mul,Int.natCast_add];rfl
         have hcs:((y*(Wn+2)+x:Nat):Int)<256+1:=by
          have q:0<=((y*(Wn+2)+x:Nat):Int)/\((y*(Wn+2)+x:Nat):Int)<((Wn:Int)+2)*((Hn:Int)+2):=of_decide_eq_true hcell
          have h3:((Wn:Int)+2)*((Hn:Int)+2)<=16*16:=Int.mul_le_mul (by omega) (by omega) (by omega) (by omega)
          omega
         have e0:Below wr.heap.size wr wr.drew:=(Below.refl _ _).drew
         obtain ⟨cN,hcN⟩:∃ cN:Nat,y*(Wn+2)+x=cN:=⟨_,rfl⟩
         rw [hcN] at HST hcell hci hcs
         have hm1:IntKind.i64.wrap ((y:Int)*((Wn:Int)+2))=(y:Int)*((Wn:Int)+2):=wrap_small (by have:0<=(y:Int)*((Wn:Int)+2):=Int.mul_nonneg (by omega) (by omega);omega) (by omega)
         have hm2:IntKind.i64.wrap ((y:Int)*((Wn:Int)+2)+(x:Int))=(cN:Int):=by rw [hci];exact wrap_small (by omega) (by omega)
         have RO0:=RO.below e0 (World.block_lt_of_cell? _ _ RO.c0)
         have hrs:=rset_any cN (frV Wn Hn bl x y) wr.drew RO0 (fun o=>FO o) hcell
         have HSTP:Hid (FrP Wn Hn bl y (x+1) (upd blo2 cN (frV Wn Hn bl x y))):=HST
         have hnm:mb≠ob:=by omega
         by_cases hin:1<=x/\x<=Wn/\1<=y/\y<=Hn
         ·have hfv:frV Wn Hn bl x y=bl ((y - 1)*Wn+(x - 1)):=if_pos hin
          rw [hfv] at hrs HSTP
          have din:decide (1<=x/\x<=Wn/\1<=y/\y<=Hn)=true:=decide_eq_true hin
          obtain ⟨iN,hiN⟩:∃ iN:Nat,(y - 1)*Wn+(x - 1)=iN:=⟨_,rfl⟩
          rw [hiN] at hrs HSTP
          have hi1:((y:Int) - 1)*(Wn:Int)+(x:Int) - 1=(iN:Int):=by
           rw [<- hiN,Int.natCast_add,Int.natCast_mul,Int.natCast_sub hin.2.2.1,Int.natCast_sub hin.1]
           show _=((y:Int) - 1)*(Wn:Int)+((x:Int) - 1)
           omega
          have hi2:(iN:Int)<=(Wn:Int)*(Hn:Int) - 1:=by
           have h1:(y - 1+1)*Wn<=Hn*Wn:=Nat.mul_le_mul_right _ (by omega)
           rw [Nat.add_mul,Nat.one_mul,Nat.mul_comm Hn] at h1
           have h2:(Wn:Int)*(Hn:Int)=((Wn*Hn:Nat):Int):=by rw [Int.natCast_mul]
           rw [h2]
           omega
          have i256:iN<256:=by omega
          have hp:0<=((y:Int) - 1)*(Wn:Int):=Int.mul_nonneg (by omega) (by omega)
          have k1:IntKind.i64.wrap ((y:Int) - 1)=(y:Int) - 1:=wrap_small (by omega) (by omega)
          have k2:IntKind.i64.wrap (((y:Int) - 1)*(Wn:Int))=((y:Int) - 1)*(Wn:Int):=wrap_small (by omega) (by omega)
          have k3:IntKind.i64.wrap (((y:Int) - 1)*(Wn:Int)+(x:Int))=((y:Int) - 1)*(Wn:Int)+(x:Int):=wrap_small (by omega) (by omega)
          have k4:IntKind.i64.wrap (((y:Int) - 1)*(Wn:Int)+(x:Int) - 1)=(iN:Int):=by rw [hi1];exact wrap_small (by omega) (by omega)
          have k5:IntKind.i64.wrap ((Wn:Int)*(Hn:Int))=(Wn:Int)*(Hn:Int):=wrap_small (by omega) (by omega)
          have k6:IntKind.i64.wrap ((Wn:Int)*(Hn:Int) - 1)=(Wn:Int)*(Hn:Int) - 1:=wrap_small (by omega) (by omega)
          have rcs:=Rm.cs iN i256
          have c0:wr.drew.cell? ⟨mb,0,none⟩=some (.int .i64 (Wn:Int)):=ra0
          have c1:wr.drew.cell? ⟨mb,1,none⟩=some (.int .i64 (Hn:Int)):=ra1
          have c2:wr.drew.cell? ⟨mb,2+iN,none⟩=some (.bool (bl iN)):=rcs
          have iN0:(0:Int)<=(iN:Int):=by omega
          have i256':(iN:Int)<256:=by omega
          have hmm:max (0:Int) (min (iN:Int) ((Wn:Int)*(Hn:Int) - 1))=(iN:Int):=by rw [Int.min_eq_left hi2,Int.max_eq_right iN0]
          have K0:=KO.below e0
          generalize bl iN=bi at *
          rw [din]
          clear hin hfv hiN hi1 hp Rm RO RO0 ra0 ra1 rcs HST HP2 hcell hci
          go_upto_region 16 with fail
          go_region_held3 (fun w'=>w'.cell? ⟨mb,0,none⟩=some (.int .i64 (Wn:Int))/\w'.cell? ⟨mb,1,none⟩=some (.int .i64 (Hn:Int))/\w'.cell? ⟨mb,2+iN,none⟩=some (.bool bi)) (first|with_reducible exact ⟨c0,c1,c2⟩)
           (first|(go_at_call 29;refine hrs.mono ?_;rintro r w6 ⟨rfl,K6,⟨V6,R6⟩,F6⟩;have c0:=K6.cellOf c0 hnm;have c1:=K6.cellOf c1 hnm;have c2:=K6.cellOf c2 hnm))
          have KF:=K0.trans K6 (fun _ _ h=>h)
          clear hrs K6 K0 c0 c1 c2
          go_wp2
          go_roundw
          case rel=>exact ⟨x+1,V6,_,by omega,by go_num,R6,HSTP.out,F6,KF⟩
          case measure=>simp [intOf];omega
         ·have hfv:frV Wn Hn bl x y=true:=if_neg hin
          rw [hfv] at hrs HSTP
          have din:decide (1<=x/\x<=Wn/\1<=y/\y<=Hn)=false:=decide_eq_false hin
          have K0:=KO.below e0
          rw [din]
          clear hin hfv Rm RO RO0 ra0 ra1 HST HP2 hcell hci
          go_upto_region 16 with fail
          refine wp_region_held_drew (S:=fun _=>True) (by kernel_rfl) trivial (fun hHeld=>?_)
          refine wpAnyH_take (i := 0) (oi := { dst := some 111, op := .move (.tmp 13), type := 39, pos := "top.go:349", after := #[], guard := none }) (v := .pointer (some ⟨ob, 0, none⟩)) rfl (by kernel_rfl) (by kernel_rfl) (by kernel_rfl) (fun _ _ _ h => h) (Or.inl ⟨by rfl, fun w7 _ => by go_simp⟩) hHeld ?_
          simp only [Act.put,List.setIfInBounds_toArray,List.set_cons_zero,List.set_cons_succ]
          refine wpAnyH_take (i := 1) (oi := { dst := some 112, op := .move (.tmp 15), type := 3, pos := "top.go:349", after := #[], guard := none }) (v := .int .i64 (y : Int)) rfl (by kernel_rfl) (by kernel_rfl) (by kernel_rfl) (fun _ _ _ h => h) (Or.inl ⟨by rfl, fun w7 _ => by go_simp⟩) hHeld ?_
          simp only [Act.put,List.setIfInBounds_toArray,List.set_cons_zero,List.set_cons_succ]
          refine wpAnyH_take (i := 2) (oi := { dst := some 113, op := .move (.tmp 12), type := 3, pos := "top.go:349", after := #[], guard := none }) (v := .int .i64 ((Wn : Int) + 2)) rfl (by kernel_rfl) (by kernel_rfl) (by kernel_rfl) (fun _ _ _ h => h) (Or.inl ⟨by rfl, fun w7 _ => by go_simp⟩) hHeld ?_
          simp only [Act.put,List.setIfInBounds_toArray,List.set_cons_zero,List.set_cons_succ]
          refine wpAnyH_take (i := 3) (oi := { dst := some 114, op := .binOp .mul 3 (.tmp 112) (.tmp 113) 3, type := 3, pos := "top.go:349", after := #[{ on := 1, ground := .data }, { on := 2, ground := .data }], guard := none }) (v := .int .i64 ((y : Int) * ((Wn : Int) + 2))) rfl (by kernel_rfl) (by kernel_rfl) (by kernel_rfl) (fun _ _ _ h => h) (Or.inl ⟨by rfl, fun w7 _ => by go_simp⟩) hHeld ?_
          simp only [Act.put,List.setIfInBounds_toArray,List.set_cons_zero,List.set_cons_succ]
          refine wpAnyH_take (i := 4) (oi := { dst := some 115, op := .move (.tmp 16), type := 3, pos := "top.go:349", after := #[], guard := none }) (v := .int .i64 (x : Int)) rfl (by kernel_rfl) (by kernel_rfl) (by kernel_rfl) (fun _ _ _ h => h) (Or.inl ⟨by rfl, fun w7 _ => by go_simp⟩) hHeld ?_
          simp only [Act.put,List.setIfInBounds_toArray,List.set_cons_zero,List.set_cons_succ]
          refine wpAnyH_take (i := 5) (oi := { dst := some 116, op := .binOp .add 3 (.tmp 114) (.tmp 115) 3, type := 3, pos := "top.go:349", after := #[{ on := 3, ground := .data }, { on := 4, ground := .data }], guard := none }) (v := .int .i64 (cN : Int)) rfl (by kernel_rfl) (by kernel_rfl) (by kernel_rfl) (fun _ _ _ h => h) (Or.inl ⟨by rfl, fun w7 _ => by go_simp⟩) hHeld ?_
          simp only [Act.put,List.setIfInBounds_toArray,List.set_cons_zero,List.set_cons_succ]
          refine wpAnyH_take (i := 6) (oi := { dst := some 117, op := .move (.tmp 17), type := 4, pos := "top.go:349", after := #[], guard := none }) (v := .bool false) rfl (by kernel_rfl) (by kernel_rfl) (by kernel_rfl) (fun _ _ _ h => h) (Or.inl ⟨by rfl, fun w7 _ => by go_simp⟩) hHeld ?_
          simp only [Act.put,List.setIfInBounds_toArray,List.set_cons_zero,List.set_cons_succ]
          refine wpAnyH_take (i := 7) (oi := { dst := some 118, op := .unOp .not 4 (.tmp 117), type := 4, pos := "top.go:349", after := #[{ on := 6, ground := .data }], guard := none }) (v := .bool true) rfl (by kernel_rfl) (by kernel_rfl) (by kernel_rfl) (fun _ _ _ h => h) (Or.inl ⟨by rfl, fun w7 _ => by go_simp⟩) hHeld ?_
          simp only [Act.put,List.setIfInBounds_toArray,List.set_cons_zero,List.set_cons_succ]
          refine wpAnyH_take (i := 8) (oi := { dst := some 119, op := .move (.tmp 118), type := 4, pos := "top.go:349", after := #[{ on := 7, ground := .data }], guard := none }) (v := .bool true) rfl (by kernel_rfl) (by kernel_rfl) (by kernel_rfl) (fun _ _ _ h => h) (Or.inl ⟨by rfl, fun w7 _ => by go_simp⟩) hHeld ?_
          simp only [Act.put,List.setIfInBounds_toArray,List.set_cons_zero,List.set_cons_succ]
          refine wpAnyH_take (i := 9) (oi := { dst := some 120, op := .move (.tmp 11), type := 39, pos := "top.go:349", after := #[{ on := 8, ground := .guard }], guard := some (8, false) }) (v := undef) rfl (by kernel_rfl) (by kernel_rfl) (by kernel_rfl) (fun _ _ _ h => h) (Or.inr ⟨by rfl, rfl⟩) hHeld ?_
          simp only [Act.put,List.setIfInBounds_toArray,List.set_cons_zero,List.set_cons_succ]
          refine wpAnyH_take (i := 10) (oi := { dst := some 121, op := .move (.tmp 15), type := 3, pos := "top.go:349", after := #[{ on := 8, ground := .guard }], guard := some (8, false) }) (v := undef) rfl (by kernel_rfl) (by kernel_rfl) (by kernel_rfl) (fun _ _ _ h => h) (Or.inr ⟨by rfl, rfl⟩) hHeld ?_
          simp only [Act.put,List.setIfInBounds_toArray,List.set_cons_zero,List.set_cons_succ]
          refine wpAnyH_take (i := 11) (oi := { dst := some 122, op := .binOp .sub 3 (.tmp 121) (.const (.int .i64 1)) 3, type := 3, pos := "top.go:349", after := #[{ on := 10, ground := .data }, { on := 8, ground := .guard }], guard := some (8, false) }) (v := undef) rfl (by kernel_rfl) (by kernel_rfl) (by kernel_rfl) (fun _ _ _ h => h) (Or.inr ⟨by rfl, rfl⟩) hHeld ?_
          simp only [Act.put,List.setIfInBounds_toArray,List.set_cons_zero,List.set_cons_succ]
          refine wpAnyH_take (i := 12) (oi := { dst := some 123, op := .move (.tmp 11), type := 39, pos := "top.go:349", after := #[{ on := 8, ground := .guard }], guard := some (8, false) }) (v := undef) rfl (by kernel_rfl) (by kernel_rfl) (by kernel_rfl) (fun _ _ _ h => h) (Or.inr ⟨by rfl, rfl⟩) hHeld ?_
          simp only [Act.put,List.setIfInBounds_toArray,List.set_cons_zero,List.set_cons_succ]
          refine wpAnyH_take (i := 13) (oi := { dst := some 124, op := .nilCheck (.tmp 123), type := 0, pos := "top.go:349", after := #[{ on := 12, ground := .data }, { on := 8, ground := .guard }], guard := some (8, false) }) (v := undef) rfl (by kernel_rfl) (by kernel_rfl) (by kernel_rfl) (fun _ _ _ h => h) (Or.inr ⟨by rfl, rfl⟩) hHeld ?_
          simp only [Act.put,List.setIfInBounds_toArray,List.set_cons_zero,List.set_cons_succ]
          refine wpAnyH_take (i := 14) (oi := { dst := some 125, op := .fieldAddr 38 (.tmp 124) 0, type := 0, pos := "top.go:349", after := #[{ on := 13, ground := .data }, { on := 8, ground := .guard }], guard := some (8, false) }) (v := undef) rfl (by kernel_rfl) (by kernel_rfl) (by kernel_rfl) (fun _ _ _ h => h) (Or.inr ⟨by rfl, rfl⟩) hHeld ?_
          simp only [Act.put,List.setIfInBounds_toArray,List.set_cons_zero,List.set_cons_succ]
          refine wpAnyH_take (i := 15) (oi := { dst := some 126, op := .load 3 (.tmp 125), type := 3, pos := "top.go:349", after := #[{ on := 14, ground := .data }, { on := 8, ground := .guard }], guard := some (8, false) }) (v := undef) rfl (by kernel_rfl) (by kernel_rfl) (by kernel_rfl) (fun _ _ _ h => h) (Or.inr ⟨by rfl, rfl⟩) hHeld ?_
          simp only [Act.put,List.setIfInBounds_toArray,List.set_cons_zero,List.set_cons_succ]
          refine wpAnyH_take (i := 16) (oi := { dst := some 127, op := .binOp .mul 3 (.tmp 122) (.tmp 126) 3, type := 3, pos := "top.go:349", after := #[{ on := 11, ground := .data }, { on := 15, ground := .data }, { on := 8, ground := .guard }], guard := some (8, false) }) (v := undef) rfl (by kernel_rfl) (by kernel_rfl) (by kernel_rfl) (fun _ _ _ h => h) (Or.inr ⟨by rfl, rfl⟩) hHeld ?_
          simp only [Act.put,List.setIfInBounds_toArray,List.set_cons_zero,List.set_cons_succ]
          refine wpAnyH_take (i := 17) (oi := { dst := some 128, op := .move (.tmp 16), type := 3, pos := "top.go:349", after := #[{ on := 8, ground := .guard }], guard := some (8, false) }) (v := undef) rfl (by kernel_rfl) (by kernel_rfl) (by kernel_rfl) (fun _ _ _ h => h) (Or.inr ⟨by rfl, rfl⟩) hHeld ?_
          simp only [Act.put,List.setIfInBounds_toArray,List.set_cons_zero,List.set_cons_succ]
          refine wpAnyH_take (i := 18) (oi := { dst := some 129, op := .binOp .add 3 (.tmp 127) (.tmp 128) 3, type := 3, pos := "top.go:349", after := #[{ on := 16, ground := .data }, { on := 17, ground := .data }, { on := 8, ground := .guard }], guard := some (8, false) }) (v := undef) rfl (by kernel_rfl) (by kernel_rfl) (by kernel_rfl) (fun _ _ _ h => h) (Or.inr ⟨by rfl, rfl⟩) hHeld ?_
          simp only [Act.put,List.setIfInBounds_toArray,List.set_cons_zero,List.set_cons_succ]
          refine wpAnyH_take (i := 19) (oi := { dst := some 130, op := .binOp .sub 3 (.tmp 129) (.const (.int .i64 1)) 3, type := 3, pos := "top.go:349", after := #[{ on := 18, ground := .data }, { on := 8, ground := .guard }], guard := some (8, false) }) (v := undef) rfl (by kernel_rfl) (by kernel_rfl) (by kernel_rfl) (fun _ _ _ h => h) (Or.inr ⟨by rfl, rfl⟩) hHeld ?_
          simp only [Act.put,List.setIfInBounds_toArray,List.set_cons_zero,List.set_cons_succ]
          refine wpAnyH_take (i := 20) (oi := { dst := some 131, op := .move (.tmp 11), type := 39, pos := "top.go:349", after := #[{ on := 8, ground := .guard }], guard := some (8, false) }) (v := undef) rfl (by kernel_rfl) (by kernel_rfl) (by kernel_rfl) (fun _ _ _ h => h) (Or.inr ⟨by rfl, rfl⟩) hHeld ?_
          simp only [Act.put,List.setIfInBounds_toArray,List.set_cons_zero,List.set_cons_succ]
          refine wpAnyH_take (i := 21) (oi := { dst := some 132, op := .nilCheck (.tmp 131), type := 0, pos := "top.go:349", after := #[{ on := 20, ground := .data }, { on := 8, ground := .guard }], guard := some (8, false) }) (v := undef) rfl (by kernel_rfl) (by kernel_rfl) (by kernel_rfl) (fun _ _ _ h => h) (Or.inr ⟨by rfl, rfl⟩) hHeld ?_
          simp only [Act.put,List.setIfInBounds_toArray,List.set_cons_zero,List.set_cons_succ]
          refine wpAnyH_take (i := 22) (oi := { dst := some 133, op := .fieldAddr 38 (.tmp 132) 0, type := 0, pos := "top.go:349", after := #[{ on := 21, ground := .data }, { on := 8, ground := .guard }], guard := some (8, false) }) (v := undef) rfl (by kernel_rfl) (by kernel_rfl) (by kernel_rfl) (fun _ _ _ h => h) (Or.inr ⟨by rfl, rfl⟩) hHeld ?_
          simp only [Act.put,List.setIfInBounds_toArray,List.set_cons_zero,List.set_cons_succ]
          refine wpAnyH_take (i := 23) (oi := { dst := some 134, op := .load 3 (.tmp 133), type := 3, pos := "top.go:349", after := #[{ on := 22, ground := .data }, { on := 8, ground := .guard }], guard := some (8, false) }) (v := undef) rfl (by kernel_rfl) (by kernel_rfl) (by kernel_rfl) (fun _ _ _ h => h) (Or.inr ⟨by rfl, rfl⟩) hHeld ?_
          simp only [Act.put,List.setIfInBounds_toArray,List.set_cons_zero,List.set_cons_succ]
          refine wpAnyH_take (i := 24) (oi := { dst := some 135, op := .move (.tmp 11), type := 39, pos := "top.go:349", after := #[{ on := 8, ground := .guard }], guard := some (8, false) }) (v := undef) rfl (by kernel_rfl) (by kernel_rfl) (by kernel_rfl) (fun _ _ _ h => h) (Or.inr ⟨by rfl, rfl⟩) hHeld ?_
          simp only [Act.put,List.setIfInBounds_toArray,List.set_cons_zero,List.set_cons_succ]
          refine wpAnyH_take (i := 25) (oi := { dst := some 136, op := .nilCheck (.tmp 135), type := 0, pos := "top.go:349", after := #[{ on := 24, ground := .data }, { on := 8, ground := .guard }], guard := some (8, false) }) (v := undef) rfl (by kernel_rfl) (by kernel_rfl) (by kernel_rfl) (fun _ _ _ h => h) (Or.inr ⟨by rfl, rfl⟩) hHeld ?_
          simp only [Act.put,List.setIfInBounds_toArray,List.set_cons_zero,List.set_cons_succ]
          refine wpAnyH_take (i := 26) (oi := { dst := some 137, op := .fieldAddr 38 (.tmp 136) 1, type := 0, pos := "top.go:349", after := #[{ on := 25, ground := .data }, { on := 8, ground := .guard }], guard := some (8, false) }) (v := undef) rfl (by kernel_rfl) (by kernel_rfl) (by kernel_rfl) (fun _ _ _ h => h) (Or.inr ⟨by rfl, rfl⟩) hHeld ?_
          simp only [Act.put,List.setIfInBounds_toArray,List.set_cons_zero,List.set_cons_succ]
          refine wpAnyH_take (i := 27) (oi := { dst := some 138, op := .load 3 (.tmp 137), type := 3, pos := "top.go:349", after := #[{ on := 26, ground := .data }, { on := 8, ground := .guard }], guard := some (8, false) }) (v := undef) rfl (by kernel_rfl) (by kernel_rfl) (by kernel_rfl) (fun _ _ _ h => h) (Or.inr ⟨by rfl, rfl⟩) hHeld ?_
          simp only [Act.put,List.setIfInBounds_toArray,List.set_cons_zero,List.set_cons_succ]
          refine wpAnyH_take (i := 28) (oi := { dst := some 139, op := .binOp .mul 3 (.tmp 134) (.tmp 138) 3, type := 3, pos := "top.go:349", after := #[{ on := 23, ground := .data }, { on := 27, ground := .data }, { on := 8, ground := .guard }], guard := some (8, false) }) (v := undef) rfl (by kernel_rfl) (by kernel_rfl) (by kernel_rfl) (fun _ _ _ h => h) (Or.inr ⟨by rfl, rfl⟩) hHeld ?_
          simp only [Act.put,List.setIfInBounds_toArray,List.set_cons_zero,List.set_cons_succ]
          refine wpAnyH_take (i := 29) (oi := { dst := some 140, op := .binOp .sub 3 (.tmp 139) (.const (.int .i64 1)) 3, type := 3, pos := "top.go:349", after := #[{ on := 28, ground := .data }, { on := 8, ground := .guard }], guard := some (8, false) }) (v := undef) rfl (by kernel_rfl) (by kernel_rfl) (by kernel_rfl) (fun _ _ _ h => h) (Or.inr ⟨by rfl, rfl⟩) hHeld ?_
          simp only [Act.put,List.setIfInBounds_toArray,List.set_cons_zero,List.set_cons_succ]
          refine wpAnyH_take (i := 30) (oi := { dst := some 141, op := .call { callee := .builtin .min, args := #[.tmp 130, .tmp 140], argTypes := #[3, 3] }, type := 3, pos := "top.go:349", after := #[{ on := 19, ground := .data }, { on := 29, ground := .data }, { on := 8, ground := .guard }], guard := some (8, false) }) (v := undef) rfl (by kernel_rfl) (by kernel_rfl) (by kernel_rfl) (fun _ _ _ h => h) (Or.inr ⟨by rfl, rfl⟩) hHeld ?_
          simp only [Act.put,List.setIfInBounds_toArray,List.set_cons_zero,List.set_cons_succ]
          refine wpAnyH_take (i := 31) (oi := { dst := some 142, op := .call { callee := .builtin .max, args := #[.const (.int .i64 0), .tmp 141], argTypes := #[3, 3] }, type := 3, pos := "top.go:349", after := #[{ on := 30, ground := .data }, { on := 8, ground := .guard }], guard := some (8, false) }) (v := undef) rfl (by kernel_rfl) (by kernel_rfl) (by kernel_rfl) (fun _ _ _ h => h) (Or.inr ⟨by rfl, rfl⟩) hHeld ?_
          simp only [Act.put,List.setIfInBounds_toArray,List.set_cons_zero,List.set_cons_succ]
          refine wpAnyH_take (i := 32) (oi := { dst := some 143, op := .nilCheck (.tmp 120), type := 0, pos := "top.go:349", after := #[{ on := 9, ground := .data }, { on := 8, ground := .guard }], guard := some (8, false) }) (v := undef) rfl (by kernel_rfl) (by kernel_rfl) (by kernel_rfl) (fun _ _ _ h => h) (Or.inr ⟨by rfl, rfl⟩) hHeld ?_
          simp only [Act.put,List.setIfInBounds_toArray,List.set_cons_zero,List.set_cons_succ]
          refine wpAnyH_take (i := 33) (oi := { dst := some 144, op := .fieldAddr 38 (.tmp 143) 2, type := 0, pos := "top.go:349", after := #[{ on := 32, ground := .data }, { on := 8, ground := .guard }], guard := some (8, false) }) (v := undef) rfl (by kernel_rfl) (by kernel_rfl) (by kernel_rfl) (fun _ _ _ h => h) (Or.inr ⟨by rfl, rfl⟩) hHeld ?_
          simp only [Act.put,List.setIfInBounds_toArray,List.set_cons_zero,List.set_cons_succ]
          refine wpAnyH_take (i := 34) (oi := { dst := some 145, op := .indexAddr 36 (.tmp 144) (.tmp 142), type := 0, pos := "top.go:349", after := #[{ on := 33, ground := .data }, { on := 31, ground := .data }, { on := 8, ground := .guard }], guard := some (8, false) }) (v := undef) rfl (by kernel_rfl) (by kernel_rfl) (by kernel_rfl) (fun _ _ _ h => h) (Or.inr ⟨by rfl, rfl⟩) hHeld ?_
          simp only [Act.put,List.setIfInBounds_toArray,List.set_cons_zero,List.set_cons_succ]
          refine wpAnyH_take (i := 35) (oi := { dst := some 146, op := .load 4 (.tmp 145), type := 4, pos := "top.go:349", after := #[{ on := 34, ground := .data }, { on := 8, ground := .guard }], guard := some (8, false) }) (v := undef) rfl (by kernel_rfl) (by kernel_rfl) (by kernel_rfl) (fun _ _ _ h => h) (Or.inr ⟨by rfl, rfl⟩) hHeld ?_
          simp only [Act.put,List.setIfInBounds_toArray,List.set_cons_zero,List.set_cons_succ]
          refine wpAnyH_take (i := 36) (oi := { dst := some 147, op := .pick (.tmp 119) (.const (.bool true)) (.tmp 146), type := 4, pos := "top.go:349", after := #[{ on := 8, ground := .data }, { on := 35, ground := .data }], guard := none }) (v := .bool true) rfl (by kernel_rfl) (by kernel_rfl) (by kernel_rfl) (fun _ _ _ h => h) (Or.inl ⟨by rfl, fun w7 _ => by go_simp⟩) hHeld ?_
          simp only [Act.put,List.setIfInBounds_toArray,List.set_cons_zero,List.set_cons_succ]
          refine wpAnyH_ready (rs:=[37]) (by kernel_rfl) (by simp) ?_
          refine AllReadyH.cons rfl (fun K hK=>?_) AllReadyH.nil
          go_simp
          go_at_call 29
          refine hrs.mono ?_
          rintro r w6 ⟨rfl,K6,⟨V6,R6⟩,F6⟩
          go_wp2_with fail
          refine hK.out _ _ trivial (fun hHeld2=>?_)
          clear hHeld hK K
          refine wpAnyH_done (by kernel_rfl) ?_ _
          have KF:=K0.trans K6 (fun _ _ h=>h)
          clear hrs K6 K0
          go_wp2
          go_roundw
          case rel=>exact ⟨x+1,V6,_,by omega,by go_num,R6,HSTP.out,F6,KF⟩
          case measure=>simp [intOf];omega
       ·have e:x=Wn+2:=by omega
        subst e
        have HPR:Hid (FrP Wn Hn bl (y+1) 0 blo2):=HP2.out.row
        clear Rm
        go_wp2
        go_roundw
        case rel=>exact ⟨y+1,V2,blo2,by omega,by go_num,RO,HPR.out,FO,KO⟩
        case measure=>simp [intOf];omega
     ·have e:y=Hn+2:=by omega
      subst e
      have HG:Hid (GIso 0 1 1 (Wn:Int) (Hn:Int) (nrm Wn Hn bl) ((Wn:Int)+2) ((Hn:Int)+2) (nrm (Wn+2) (Hn+2) blo)):=frame_of (by omega) HP.out
      have D6:Below WS.heap.size WS wr:=D5.trans (KO.to_below (by have:=D5.size;omega) (fun k h=>by omega))
      have B6:=B2.trans (D6.mono B2.size)
      have lob:ob<wr.heap.size:=World.block_lt_of_cell? _ _ RO.c0
      have hpr:=rprint_any (W:=Wn+2) (H:=Hn+2) wr RO lob
      have hrd:=read_print blo (Wn+2) (Hn+2) (by omega) (by omega) (by omega) (by omega)
      generalize printL blo (Wn+2) (Hn+2)=tx at *
      clear Rm RO FO KO HRM
      go_wp2_with fail
      refine hpr.mono ?_
      rintro e w6 ⟨rfl,hb6⟩
      clear ra0 ra1
      have D7:=D6.trans (hb6.mono D6.size)
      have B7:=B2.trans (D7.mono B2.size)
      have hld:=nload_any w6 (E.grown B7) (s.below B7 (by omega)) hrd m1 m6
      clear hpr hrd
      go_wp2_with fail
      refine hld.mono ?_
      rintro e w7 ⟨tb_,rfl,ST0,hb7⟩
      have ST:Sv w7 w6.heap.size w7.heap.size tb_ ((Wn:Int)+2) ((Hn:Int)+2) (blocks ((List.range ((Hn+2)*(Wn+2))).map blo)) (nrm (Wn+2) (Hn+2) blo) mN:=ST0
      have D8:=D7.trans (hb7.mono D7.size)
      have B8:=B2.trans (D8.mono B2.size)
      have S8:=hS.below D8
      have d8:=dC.below D8
      have R8:=RM.c0
      have HR0:Hid (∀ w',Below WS.heap.size WS w'->w'.cell? ⟨mb,0,none⟩=some (.int .i64 (Wn:Int))):=fun w' h=>(h.cell (World.block_lt_of_cell? _ _ HW0.out)).trans HW0.out
      have HNOD:=HG.out.nodes
      have HSAME:Hid (∀ {way way':List Nat}{s d err s' d' err':Int},Rt (Wn:Int) (Hn:Int) (nrm Wn Hn bl) a b way s d err->Rt ((Wn:Int)+2) ((Hn:Int)+2) (nrm (Wn+2) (Hn+2) blo) (ph 0 1 1 (Wn:Int) ((Wn:Int)+2) a) (ph 0 1 1 (Wn:Int) ((Wn:Int)+2) b) way' s' d' err'->s=s'/\d=d'/\err=err'):=fun {way way' s d err s' d' err'} r r'=>HG.out.same HIA.out HIB.out r r'
      have hs1:=fun w' (h:Below w7.heap.size w7 w')=>stats_any w' (S8.below h)
      have hs2:=fun w' (h:Below w7.heap.size w7 w')=>stats_any w' (ST.below h)
      unfold stV at hs1 hs2
      rw [<- HNOD] at hs2
      have HS1:Hid (∀ w',Below w7.heap.size w7 w'->_):=hs1
      have HS2:Hid (∀ w',Below w7.heap.size w7 w'->_):=hs2
      have HA:Hid (∀ w',Below w7.heap.size w7 w'->∀ a t,_):=fun w' hb a t=>ask_rt a t w' (S8.below hb) (d8.below hb)
      have HT:Hid (∀ w',Below w7.heap.size w7 w'->∀ a t,_):=fun w' hb a t=>ask_rt a t w' (ST.below hb) (d8.below hb)
      have H0:Below w7.heap.size w7 w7:=Below.refl _ _
      obtain ⟨ax1,ax2,ay1,ay2⟩:=place_bd w1 HIA.out
      obtain ⟨bx1,bx2,by1,by2⟩:=place_bd w1 HIB.out
      have ta1:Int.tmod a Wn=a % Wn:=Int.tmod_eq_emod_of_nonneg ha.1
      have ta2:Int.tdiv a Wn=a / Wn:=Int.tdiv_eq_ediv_of_nonneg ha.1
      have tb1:Int.tmod b Wn=b % Wn:=Int.tmod_eq_emod_of_nonneg hb_.1
      have tb2:Int.tdiv b Wn=b / Wn:=Int.tdiv_eq_ediv_of_nonneg hb_.1
      have hne:(Wn:Int)≠0:=by omega
      have hne2:¬ Wn=0:=by omega
      have hpa:ph 0 1 1 (Wn:Int) ((Wn:Int)+2) a=(a / Wn+1)*((Wn:Int)+2)+a % Wn+1:=by
       show (a / Wn+1)*((Wn:Int)+2)+(a % Wn+1)=_
       omega
      have hpb:ph 0 1 1 (Wn:Int) ((Wn:Int)+2) b=(b / Wn+1)*((Wn:Int)+2)+b % Wn+1:=by
       show (b / Wn+1)*((Wn:Int)+2)+(b % Wn+1)=_
       omega
      rw [hpa,hpb] at HSAME
      generalize a % (Wn:Int)=ax at *
      generalize a / (Wn:Int)=ay at *
      generalize b % (Wn:Int)=bx at *
      generalize b / (Wn:Int)=by_ at *
      have pa0:0<=(ay+1)*((Wn:Int)+2):=Int.mul_nonneg (by omega) (by omega)
      have pa1:(ay+1)*((Wn:Int)+2)<=15*16:=Int.mul_le_mul (by omega) (by omega) (by omega) (by omega)
      have pb0:0<=(by_+1)*((Wn:Int)+2):=Int.mul_nonneg (by omega) (by omega)
      have pb1:(by_+1)*((Wn:Int)+2)<=15*16:=Int.mul_le_mul (by omega) (by omega) (by omega) (by omega)
      have u1:IntKind.i64.wrap ay=ay:=wrap_small (by omega) (by omega)
      have u2:IntKind.i64.wrap by_=by_:=wrap_small (by omega) (by omega)
      have g1:IntKind.i64.wrap (ay+1)=ay+1:=wrap_small (by omega) (by omega)
      have g2:IntKind.i64.wrap (by_+1)=by_+1:=wrap_small (by omega) (by omega)
      have g3:IntKind.i64.wrap ((ay+1)*((Wn:Int)+2))=(ay+1)*((Wn:Int)+2):=wrap_small (by omega) (by omega)
      have g4:IntKind.i64.wrap ((by_+1)*((Wn:Int)+2))=(by_+1)*((Wn:Int)+2):=wrap_small (by omega) (by omega)
      have g5:IntKind.i64.wrap ((ay+1)*((Wn:Int)+2)+ax)=(ay+1)*((Wn:Int)+2)+ax:=wrap_small (by omega) (by omega)
      have g6:IntKind.i64.wrap ((by_+1)*((Wn:Int)+2)+bx)=(by_+1)*((Wn:Int)+2)+bx:=wrap_small (by omega) (by omega)
      have g7:IntKind.i64.wrap ((ay+1)*((Wn:Int)+2)+ax+1)=(ay+1)*((Wn:Int)+2)+ax+1:=wrap_small (by omega) (by omega)
      have g8:IntKind.i64.wrap ((by_+1)*((Wn:Int)+2)+bx+1)=(by_+1)*((Wn:Int)+2)+bx+1:=wrap_small (by omega) (by omega)
      clear hld ST0 ST S8 d8 hs1 hs2 HNOD HG hpa hpb pa0 pa1 pb0 pb1
      go_wp2_with fail
      refine (HA.out _ H0 _ _).mono ?_
      rintro e v1 ⟨A1,cap1,way1,s1,d1,r1,rfl,own1,old1,ans1,rt1,hb1'⟩
      have E1:=H0.trans (hb1'.mono H0.size)
      have D1:Below w7.heap.size w7 (v1.alloc (.cells #[.slice A1 way1.length cap1,.int .i64 s1,.int .i64 d1,.int .i64 r1] 56)):=E1.alloc E1.size _
      have n1:=An.new v1 (.slice A1 way1.length cap1) s1 d1 r1
      have g1_:Below v1.heap.size v1 (v1.alloc (.cells #[.slice A1 way1.length cap1,.int .i64 s1,.int .i64 d1,.int .i64 r1] 56)):=(Below.refl _ _).alloc (Nat.le_refl _) _
      go_upto_region 21 with fail
      generalize v1.alloc (.cells #[.slice A1 way1.length cap1,.int .i64 s1,.int .i64 d1,.int .i64 r1] 56)=u1w at *
      generalize v1.heap.size=P1 at *
      have HR1:=rt1
      clear own1 old1 ans1 g1_ E1 hb1' rt1
      have r0:=HR0.out _ (D8.trans (D1.mono D8.size))
      go_cut [21] from 166 to 201 (fun pv wd=>∃ T A cap way s d r,pv=.pointer (some ⟨T,0,none⟩)/\An wd T (.slice A (List.length way) cap) s d r/\Rt ((Wn:Int)+2) ((Hn:Int)+2) (nrm (Wn+2) (Hn+2) blo) ((ay+1)*((Wn:Int)+2)+ax+1) ((by_+1)*((Wn:Int)+2)+bx+1) way s d r/\Below u1w.heap.size u1w wd)
      case first =>
       have e0:Below u1w.heap.size u1w u1w.drew:=(Below.refl _ _).drew
       have eA:Below u1w.heap.size u1w (u1w.drew.alloc (.cells #[.slice none 0 0,.int .i64 0,.int .i64 0,.int .i64 0] 56)):=e0.alloc e0.size _
       have sA:An (u1w.drew.alloc (.cells #[.slice none 0 0,.int .i64 0,.int .i64 0,.int .i64 0] 56)) u1w.heap.size (.slice none 0 0) 0 0 0:=An.new u1w.drew _ _ _ _
       have CC:Hid (∀ w',Below u1w.heap.size u1w w'->w'.cell? ⟨mb,0,none⟩=some (.int .i64 (Wn:Int))):=fun w' h=>(h.cell (World.block_lt_of_cell? u1w _ r0)).trans r0
       have HC:Hid (∀ w',Below u1w.heap.size u1w w'->_):=fun w' hb=>HT.out w' (D1.trans (hb.mono D1.size)) ((ay+1)*((Wn:Int)+2)+ax+1) ((by_+1)*((Wn:Int)+2)+bx+1)
       clear r0 n1 HSAME HR1
       go_region_held3 (fun w'=>w'.cell? ⟨mb,0,none⟩=some (.int .i64 (Wn:Int))) (first|with_reducible exact CC.out _ e0|with_reducible exact CC.out _ e6|exact CC.out _ eA|exact CC.out _ (e6.alloc e6.size _)|exact CC.out _ (an_below e6 (Nat.le_refl _) _ _ _ _))
        (first|(go_at_call 16;first|(refine (HC.out _ e0).mono ?_;rintro r w9 ⟨A9,cap9,way9,s9,d9,r9,rfl,_,_,_,rt9,hb9⟩;have e6:=e0.trans (hb9.mono e0.size))|(refine (HC.out _ eA).mono ?_;rintro r w9 ⟨A9,cap9,way9,s9,d9,r9,rfl,_,_,_,rt9,hb9⟩;have e6:=eA.trans (hb9.mono eA.size);have s6:=sA.below hb9;have x0:=s6.c0;have x1:=s6.c1;have x2:=s6.c2;have x3:=s6.c3;have y0:=s6.z0;have y1:=s6.z1;have y2:=s6.z2;have y3:=s6.z3)))
       all_goals
        go_wp2_with fail
        go_meet
        first
         |exact ⟨w9.heap.size,A9,cap9,way9,s9,d9,r9,(by first|rfl|simp),An.new w9 _ _ _ _,rt9,e6.alloc e6.size _⟩
         |exact ⟨u1w.heap.size,A9,cap9,way9,s9,d9,r9,(by first|rfl|simp),s6.set _ _ _ _,rt9,an_below e6 (Nat.le_refl _) _ _ _ _⟩
      case rest =>
       obtain ⟨T,A9,cap9,way9,s9,d9,r9,rfl,an9,rt9,hb9⟩:=hcut
       obtain ⟨rfl,rfl,rfl⟩:=HSAME.out HR1 rt9
       have n9:=n1.below hb9
       have D9:=D1.trans (hb9.mono D1.size)
       have x1:=n9.c1
       have x2:=n9.c2
       have x3:=n9.c3
       have y1:=an9.c1
       have y2:=an9.c2
       have y3:=an9.c3
       have hst:=HS1.out _ D9
       have qN:=fldN
       clear r0 n1 n9 an9 HR1 rt9 HSAME HA HT
       go_wp2_with fail
       refine hst.mono ?_
       rintro e w10 ⟨rfl,hb10⟩
       have D10:=D9.trans (hb10.mono D9.size)
       have hst2:=HS2.out _ D10
       clear hst
       go_wp2_with fail
       refine hst2.mono ?_
       rintro e w11 ⟨rfl,hb11⟩
       have D11:=D10.trans (hb11.mono D10.size)
       clear hst2
       go_wp2
       go_ret
       exact ⟨rfl,B8.trans (D11.mono B8.size)⟩
end Go.Proofs.YtmaefimaeelkbaaGreatDoor
