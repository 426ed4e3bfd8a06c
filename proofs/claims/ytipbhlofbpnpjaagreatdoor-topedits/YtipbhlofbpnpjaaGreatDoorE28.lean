/-
  Texts laid together: Labs, Nv7, EnvOf, Fr, Nv8, AddM.
-/
import Derived.Test.YtipbhlofbpnpjaaGreatDoorE10
import Derived.Test.YtipbhlofbpnpjaaGreatDoorE7
import Derived.Test.YtipbhlofbpnpjaaGreatDoorE27
import Derived.Test.YtipbhlofbpnpjaaGreatDoorE24
import Derived.Test.YtipbhlofbpnpjaaGreatDoorE6
import Derived.Test.YtipbhlofbpnpjaaGreatDoorE18
import Derived.Deep.CutRange
import Derived.Test.YtipbhlofbpnpjaaGreatDoorRows
import Derived.ProofKit
import Derived.LaidMore
import Derived.OpenShut
import Derived.Stop.Joined
import Derived.Stop.LaidErr
import Derived.Lib.LaidTab
import Derived.Test.YtipbhlofbpnpjaaGreatDoorTie
import Derived.Test.YtipbhlofbpnpjaaGreatDoorCards
import Derived.ChangeMaps5
import Derived.SevenTiedAt
import Derived.Lib.SmallJoins
import Derived.Deep.Slices
namespace Go.Proofs.YtipbhlofbpnpjaaGreatDoor
section
open Go.RowKit
theorem lab_laid (w:World)(F:Int->Option (Int × Int)) :
  ((w.alloc (.cells zC 88)).alloc (.cells zB 63)).there w.heap.size 0 512/\(((w.alloc (.cells zC 88)).alloc (.cells zB 63)).setCells w.heap.size 0 (costL F)).there (w.heap.size+1) 0 256 /\
    LabAt ((((w.alloc (.cells zC 88)).alloc (.cells zB 63)).setCells w.heap.size 0 (costL F)).setCells (w.heap.size+1) 0 (isL F)) w.heap.size (w.heap.size+1) F /\
    Below w.heap.size w ((((w.alloc (.cells zC 88)).alloc (.cells zB 63)).setCells w.heap.size 0 (costL F)).setCells (w.heap.size+1) 0 (isL F)):=by
 have L:=LabAt.new w
 have hB:Below w.heap.size w ((w.alloc (.cells zC 88)).alloc (.cells zB 63)):=((Below.refl _ _).alloc (Nat.le_refl _) _).alloc (by simp) _
 have t0:((w.alloc (.cells zC 88)).alloc (.cells zB 63)).there w.heap.size 0 512:=World.there_alloc (new_there w (List.replicate 512 (Value.int .i64 0)) 88 512 List.length_replicate) _
 have t1:((w.alloc (.cells zC 88)).alloc (.cells zB 63)).there (w.heap.size+1) 0 256:=by
  have:=new_there (w.alloc (.cells zC 88)) (List.replicate 256 (Value.bool false)) 63 256 List.length_replicate
  rw [show (w.alloc (.cells zC 88)).heap.size=w.heap.size+1 by simp] at this
  exact this
 have t2:(((w.alloc (.cells zC 88)).alloc (.cells zB 63)).setCells w.heap.size 0 (costL F)).there (w.heap.size+1) 0 256:=World.there_setCells t1 _ _ _
 refine ⟨t0,t2,?_,below_setCells _ (by omega) _ _ (below_setCells _ (Nat.le_refl _) _ _ hB)⟩
 refine labAt_range ?_ ?_ (fun o=>?_) (fun o=>?_) (by omega)
 ·exact World.rangeAt_setCells_apart (World.rangeAt_setCells_same _ _ _ _ (by rw [costL_len];exact t0)) _ _ _ (Or.inl (by omega))
 ·exact World.rangeAt_setCells_same _ _ _ _ (by rw [isL_len];exact t2)
 ·rw [World.frozen?_setCells,World.frozen?_setCells];exact L.zc o
 ·rw [World.frozen?_setCells,World.frozen?_setCells];exact L.zi o
theorem th_of {w:World}{b o n:Nat}{l:List Value}(hl:l.length=n)(h:w.there b o n):w.there b o l.toArray.size:=by rw [List.size_toArray,hl];exact h
theorem in_of {P:Program}{t:TypeId}{n:Nat}{l:List Value}(hl:l.length=n)(h:(P.info? t).map (·.size)=some n):(P.info? t).map (·.size)=some l.toArray.size:=by rw [List.size_toArray,hl];exact h
end
section
open Go.RowKit Go.Lib
theorem oldRow_of {w:World}{base:Nat}{v:Value}{l:List Nat}(h:w.ownsRow base 3 1 v l.length (vals l)):∃ A cap,v=.slice A l.length cap/\OldRow w A l.length (fun i=>((l.getD i 0:Nat):Int))/\(l=[]->True):=by
 rcases Nat.eq_zero_or_pos l.length with h0|h0
 ·have e:l=[]:=List.length_eq_zero_iff.1 h0
  subst e
  rcases h.2 with ⟨rfl,_⟩|⟨g,cap,_,rfl,_⟩
  ·exact ⟨none,0,rfl,fun i hi=>absurd hi (Nat.not_lt_zero i),fun _=>trivial⟩
  ·exact ⟨_,cap,rfl,fun i hi=>absurd hi (Nat.not_lt_zero i),fun _=>trivial⟩
 ·obtain ⟨g,cap,rfl,hr,_,hg,_⟩:=rowN_of h h0
  refine ⟨_,cap,rfl,fun i hi=>⟨g,0,rfl,hg,?_⟩,fun _=>trivial⟩
  have e:l[i]? = some (l.getD i 0):=by
   rw [List.getD_eq_getElem?_getD,List.getElem?_eq_getElem hi];rfl
  have:=hr i _ (vals_at e)
  rwa [Addr.add_lit] at this
theorem Rt.reads {W H:Int}{bl:Nat->Bool}{a t s d err:Int}{way:List Nat}{F:Int->Option (Int × Int)}(R:Rt W H bl a t way s d err)(w1:1<=W)(hf:ff2 W H bl a t=0)(B:Best (Edge W H bl) a F):(F t=none/\err=5/\way=[]/\s=0/\d=0) \/
  (F t=some (s,d)/\err=0/\0<way.length/\wkV W H bl (fun i=>((way.getD i 0:Nat):Int)) way.length=((s,d),0)/\((way.getD 0 0:Nat):Int)=a/\((way.getD (way.length - 1) 0:Nat):Int)=t):=by
 cases hF:F t with
 |none =>
  left
  refine ⟨rfl,R.no hf (fun p q hw=>?_)⟩
  obtain ⟨s',d',e,_⟩:=B.least hw
  rw [hF] at e
  cases e
 |some c =>
  right
  obtain ⟨s',d'⟩:=c
  obtain ⟨z,hv⟩:=R.yes hf (B.sound hF)
  obtain ⟨l,rfl,hc,b1,b2,b3,b4⟩:=R.path hf z
  obtain ⟨s2,d2,e1,e2⟩:=B.least hc.walk
  rw [hF] at e1
  cases e1
  obtain ⟨q1,q2,q3⟩:=B.small hF
  obtain ⟨q4,q5⟩:=val_small q1 q2 q3
  obtain ⟨r1,r2⟩:=two_same b2 b4 q2 q5 hv e2
  subst r1 r2
  obtain ⟨⟨i1,i2⟩,_⟩:=ff2_ok hf
  have i3:0<=a/\a<W*H:=of_decide_eq_true i1
  obtain ⟨aN,rfl⟩:∃ aN:Nat,a=(aN:Int):=⟨a.toNat,by omega⟩
  rw [Int.toNat_natCast] at *
  obtain ⟨k1,k2⟩:=hc.wkV w1 i1 i2
  exact ⟨rfl,z,Nat.succ_pos _,k1,rfl,k2⟩
set_option maxHeartbeats 8000000 in
set_option maxRecDepth 1000000 in
theorem right_any {xb mb base:Nat}{W H V a t s d err:Int}{bl:Nat->Bool}{way:List Nat}{v:Value}(w:World)(cx:w.cell? ⟨xb,0,none⟩=some (.pointer (some ⟨mb,0,none⟩)))(g:RefAt w mb W H V bl)(hown:w.ownsRow base 3 1 v way.length (vals way))(R:Rt W H bl a t way s d err) :
  Calls Tryz.prog 17 #[.pointer (some ⟨xb,0,none⟩),.int .i64 a,.int .i64 t,.agg #[v,.int .i64 s,.int .i64 d,.int .i64 err]] w fun e w'=>e=.returned (.bool true)/\Below w.heap.size w w':=by
 obtain ⟨A,cap,rfl,hold,_⟩:=oldRow_of hown
 have hlx:=World.block_lt_of_cell? _ _ cx
 have hlm:=World.block_lt_of_cell? _ _ g.c0
 have b0:Below w.heap.size w (w.alloc (.cells #[.slice A way.length cap,.int .i64 s,.int .i64 d,.int .i64 err] 41)):=(Below.refl _ _).alloc (Nat.le_refl _) _
 have an0:=An.new w (.slice A way.length cap) s d err
 have cx0:=(b0.cell hlx).trans cx
 have hf1:=ff_any a _ (g.below b0 hlm)
 have hln:=R.len
 go_enter Tryz.func17,Tryz.ntmps17
 go_wp2_with fail
 generalize w.alloc (.cells #[.slice A way.length cap,.int .i64 s,.int .i64 d,.int .i64 err] 41)=wa at *
 refine hf1.mono ?_
 rintro e wb ⟨rfl,hb1⟩
 have B1:=b0.trans (hb1.mono b0.size)
 have an1:=an0.below hb1
 have cx1:=(B1.cell hlx).trans cx
 clear hf1 an0 cx0 hb1 b0
 have ffp:∀ c,¬ ffv W H bl c=0->0<ffv W H bl c:=fun c h=>by unfold ffv at h ⊢;split <;> (try split) <;> simp_all
 by_cases hza:ffv W H bl a=0
 ·have hf2:=ff_any t wb (g.below B1 hlm)
  rw [hza]
  go_wp2_with fail
  refine hf2.mono ?_
  rintro e wd ⟨rfl,hb2⟩
  have B2:=B1.trans (hb2.mono B1.size)
  have an2:=an1.below hb2
  have cx2:=(B2.cell hlx).trans cx
  clear hf2 an1 cx1 hb2
  by_cases hzt:ffv W H bl t=0
  ·have hf:ff2 W H bl a t=0:=by unfold ff2;rw [if_pos hza];exact hzt
   obtain ⟨⟨hia,hfa⟩,⟨hit,hft⟩⟩:=ff2_ok hf
   have ja:0<=a/\a<W*H:=of_decide_eq_true hia
   have jt:0<=t/\t<W*H:=of_decide_eq_true hit
   obtain ⟨aN,rfl⟩:∃ aN:Nat,a=(aN:Int):=⟨a.toNat,by omega⟩
   obtain ⟨tN,rfl⟩:∃ tN:Nat,t=(tN:Int):=⟨t.toNat,by omega⟩
   have w1':=g.w1
   have hwh:=wh_bd g.w1 g.w2 g.h1 g.h2
   rw [hzt]
   have sl3:=Slot.new wd 0 0
   have b3:Below wd.heap.size wd (wd.alloc (.cells #[.int .i64 0,.int .i64 0] 38)):=(Below.refl _ _).alloc (Nat.le_refl _) _
   have B3:=B2.trans (b3.mono B2.size)
   have an3:=an2.below b3
   have cx3:=(B3.cell hlx).trans cx
   have hfl:=rflood_any aN _ (g.below B3 hlm) (Nat.lt_of_lt_of_le hlm B3.size) hia
   have hwC:w.heap.size<wd.heap.size:=World.block_lt_of_cell? _ _ an2.c0
   clear an2 cx2 b3
   go_wp2_with fail
   generalize wd.alloc (.cells #[.int .i64 0,.int .i64 0] 38)=we at *
   generalize wd.heap.size=C at *
   refine hfl.mono ?_
   rintro e w21 ⟨F,rfl,BF,hb21⟩
   obtain ⟨t54,t55,LA,hbL⟩:=lab_laid w21 F
   have o1:=costL_one F
   have o2:=isL_one F
   have hcl:=costL_len F
   have hil:=isL_len F
   have hb22:=hb21.trans (hbL.mono hb21.size)
   have B22:=B3.trans (hb22.mono B3.size)
   have an4:=an3.below hb22
   have sl4:=sl3.below hb22
   have cx4:=(B22.cell hlx).trans cx
   have x0:=sl4.c0
   have x1:=sl4.c1
   have x2:=sl4.z0
   have x3:=sl4.z1
   have tlt:tN<256:=by omega
   have y0:=LA.i0 tN tlt
   have y1:=LA.c0 tN tlt
   have y2:=LA.c1 tN tlt
   have i1:(0:Int)<=(tN:Int):=by omega
   have i2:(tN:Int)<256:=by omega
   have hcib:∀ {q:Nat},q=w21.heap.size\/q=w21.heap.size+1->q≠C:=fun {q} h e=>by
    have l1:C<we.heap.size:=World.block_lt_of_cell? _ _ sl3.c0
    have l2:=hb21.size
    omega
   have hrd:=R.reads w1' hf BF
   clear hfl hb21 hbL hb22 BF an3 sl3 cx3
   generalize costL F=cs at *
   generalize isL F=is' at *
   have hsc:=run_storeCells_cells (P:=Tryz.prog) (w21.heap.size+1) 0 is' 0 (((w21.alloc (.cells zC 88)).alloc (.cells zB 63)).setCells w21.heap.size 0 cs) (fun j hj=>by simpa using (t55 j (by omega)).1) (fun j hj=>by simpa using (t55 j (by omega)).2) o2
   simp only [Nat.add_zero] at hsc
   go_upto_region 7 with (first|(refine wpList_alloc54 rfl rfl ?_)|(refine wpList_alloc55 rfl rfl ?_)|(refine wpList_store_mid rfl 88 _ _ rfl _ _ cs.toArray rfl rfl (th_of hcl t54) (in_of hcl info54) (all_oneCell_toArray o1) ?_)|(refine wpList_store_mid rfl 63 _ _ rfl _ _ is'.toArray rfl rfl (th_of hil t55) (in_of hil info55) (all_oneCell_toArray o2) ?_))
   clear hsc o1 o2 hcl hil t54 t55
   generalize (((w21.alloc (.cells zC 88)).alloc (.cells zB 63)).setCells w21.heap.size 0 cs).setCells (w21.heap.size+1) 0 is'=w22 at *
   generalize w21.heap.size+1=IB at *
   generalize w21.heap.size=CB at *
   have hCI:=hcib (Or.inr rfl)
   have hCC:=hcib (Or.inl rfl)
   clear hcib
   rcases hrd with ⟨hF,rfl,rfl,rfl,rfl⟩|⟨hF,rfl,hl0,hwk,hfst,hlst⟩
   ·obtain ⟨e1,e2⟩:=lab_none hF
    rw [e1] at y1
    rw [e2] at y2
    rw [hF] at y0
    simp only [Option.isSome_none] at y0
    have S5:=sl4.set 0 0
    have K5:=set_keep w22 C 0 0
    have y0':=K5.cellOf y0 hCI
    have an5:=an4.keep K5 (Nat.ne_of_lt hwC)
    have u0:=an5.c0
    have u1:=an5.c1
    have u2:=an5.c2
    have u3:=an5.c3
    have B5:Below w.heap.size w ((w22.setCell ⟨C,0,none⟩ (.int .i64 0)).setCell ⟨C,1,none⟩ (.int .i64 0)):=(B22.setCell (p:=⟨C,0,none⟩) (Nat.le_of_lt hwC) _).setCell (p:=⟨C,1,none⟩) (Nat.le_of_lt hwC) _
    clear K5 S5
    go_wp2
    go_ret
    exact ⟨rfl,B5⟩
   ·obtain ⟨e1,e2⟩:=lab_some hF
    rw [e1] at y1
    rw [e2] at y2
    rw [hF] at y0
    simp only [Option.isSome_some] at y0
    have S5:=sl4.set s d
    have K5:=set_keep w22 C s d
    have y0':=K5.cellOf y0 hCI
    have an5:=an4.keep K5 (Nat.ne_of_lt hwC)
    have B5:Below w.heap.size w ((w22.setCell ⟨C,0,none⟩ (.int .i64 s)).setCell ⟨C,1,none⟩ (.int .i64 d)):=(B22.setCell (p:=⟨C,0,none⟩) (Nat.le_of_lt hwC) _).setCell (p:=⟨C,1,none⟩) (Nat.le_of_lt hwC) _
    have cx5:=(B5.cell hlx).trans cx
    obtain ⟨n,hn⟩:∃ n,way.length=n+1:=⟨way.length - 1,by omega⟩
    obtain ⟨bA,oA,rfl,hbA,r0⟩:=hold 0 hl0
    obtain ⟨bA',oA',eA,_,rn⟩:=hold (way.length - 1) (by omega)
    cases eA
    have q0:w.cell? ⟨bA,oA,none⟩=some (.int .i64 (aN:Int)):=by rw [<- hfst];exact r0
    have qn:w.cell? ⟨bA,oA+n,none⟩=some (.int .i64 (tN:Int)):=by
     rw [<- hlst,show n=way.length - 1 by omega];exact rn
    have HW:Hid (∀ w',Below w.heap.size w w'->Calls Tryz.prog 33 #[.pointer (some ⟨mb,0,none⟩),.slice (some ⟨bA,oA,none⟩) (n+1) cap] w' fun e w''=>e=.returned (.tuple #[.agg #[.int .i64 s,.int .i64 d],.int .i64 0])/\Below w'.heap.size w' w''):=fun w' hb=>by
     have h:=rwalk_any (cap:=cap) w' (g.below hb hlm) (Nat.lt_of_lt_of_le hlm hb.size) (hold.below hb) (show way.length<=1000 by omega)
     rw [hwk,hn] at h
     exact h
    rw [hn] at an5 ⊢
    clear K5 an4 cx4 r0 rn hwk hfst hlst hold hown sl4 LA y0 hza hzt ffp
    go_upto_region 12 with fail
    clear y0' y1 y2 x0 x1 x2 x3
    generalize (w22.setCell ⟨C,0,none⟩ (.int .i64 s)).setCell ⟨C,1,none⟩ (.int .i64 d)=W5 at *
    have z5:=B5.size
    go_cut [13,14] from 66 to 75 (fun pv fv wd=>∃ T,pv=.pointer (some ⟨T,0,none⟩)/\fv=.int .i64 0/\Slot wd T s d/\Below W5.heap.size W5 wd)
    case first =>
     have c0:=an5.c0
     have e0:Below W5.heap.size W5 W5.drew:=(Below.refl _ _).drew
     have eA:Below W5.heap.size W5 (W5.drew.alloc (.cells #[.int .i64 0,.int .i64 0] 38)):=e0.alloc e0.size _
     have sA:Slot (W5.drew.alloc (.cells #[.int .i64 0,.int .i64 0] 38)) W5.heap.size 0 0:=Slot.new W5.drew 0 0
     have CC:Hid (∀ w',Below W5.heap.size W5 w'->w'.cell? ⟨xb,0,none⟩=some (.pointer (some ⟨mb,0,none⟩))/\w'.cell? ⟨w.heap.size,0,none⟩=some (.slice (some ⟨bA,oA,none⟩) (n+1) cap)):=fun w' h=>⟨(h.cell (World.block_lt_of_cell? W5 _ cx5)).trans cx5,(h.cell (World.block_lt_of_cell? W5 _ c0)).trans c0⟩
     have HW2:Hid (∀ w',Below W5.heap.size W5 w'->_):=fun w' hb=>HW.out w' (B5.trans (hb.mono z5))
     clear c0 cx5 an5 S5
     go_region_held3 (fun w'=>w'.cell? ⟨xb,0,none⟩=some (.pointer (some ⟨mb,0,none⟩))/\w'.cell? ⟨w.heap.size,0,none⟩=some (.slice (some ⟨bA,oA,none⟩) (n+1) cap)) (first|exact CC.out _ e0|exact CC.out _ eA|exact CC.out _ e6|exact CC.out _ (e6.alloc e6.size _)|exact CC.out _ ((e6.setCell (p:=⟨W5.heap.size,0,none⟩) (Nat.le_refl _) _).setCell (p:=⟨W5.heap.size,1,none⟩) (Nat.le_refl _) _))
      (first|(go_at_call 33;first|(refine (HW2.out _ e0).mono ?_;rintro r w6 ⟨rfl,hb6⟩;have e6:=e0.trans (hb6.mono e0.size))|(refine (HW2.out _ eA).mono ?_;rintro r w6 ⟨rfl,hb6⟩;have e6:=eA.trans (hb6.mono eA.size);have s6:=sA.below hb6;have g0:=s6.c0;have g1:=s6.c1;have g2:=s6.z0;have g3:=s6.z1)))
     all_goals
      go_wp2_with fail
      go_meet
      first
       |exact ⟨_,rfl,rfl,Slot.new w6 _ _,e6.alloc e6.size _⟩
       |exact ⟨_,rfl,rfl,s6.set _ _,(e6.setCell (p:=⟨W5.heap.size,0,none⟩) (Nat.le_refl _) _).setCell (p:=⟨W5.heap.size,1,none⟩) (Nat.le_refl _) _⟩
    case rest =>
     obtain ⟨T,rfl,rfl,slT,hb7⟩:=hcut
     have B7:=B5.trans (hb7.mono z5)
     have an7:=an5.below hb7
     have s7:=S5.below hb7
     have u0:=an7.c0
     have u1:=an7.c1
     have u2:=an7.c2
     have u3:=an7.c3
     have v0:=s7.c0
     have v1:=s7.c1
     have t0:=slT.c0
     have t1:=slT.c1
     have q0':=(B7.cell (World.block_lt_of_cell? _ _ q0)).trans q0
     have qn':=(B7.cell (World.block_lt_of_cell? _ _ qn)).trans qn
     clear an5 S5 cx5 HW hb7 q0 qn slT s7 an7
     go_wp2
     go_ret
     exact ⟨rfl,B7⟩
  ·have hbd:ff2 W H bl a t≠0:=by unfold ff2;rw [if_pos hza];exact hzt
   obtain ⟨e1,e2,e3,e4⟩:=R.bad hbd
   have e5:err=ffv W H bl t:=by rw [e1];unfold ff2;rw [if_pos hza]
   have hp:=ffp t hzt
   clear e1 hbd
   subst e2 e3 e4
   rw [e5] at an2
   generalize ffv W H bl t=n at *
   have b3:Below wd.heap.size wd (wd.alloc (.cells #[.int .i64 0,.int .i64 0] 38)):=(Below.refl _ _).alloc (Nat.le_refl _) _
   have B3:=B2.trans (b3.mono B2.size)
   have an3:=an2.below b3
   have x0:=an3.c0
   have x1:=an3.c1
   have x2:=an3.c2
   have x3:=an3.c3
   clear b3 an2 e5
   go_wp2
   go_ret
   exact ⟨rfl,B3⟩
 ·have hbd:ff2 W H bl a t≠0:=by unfold ff2;rw [if_neg hza];exact hza
  obtain ⟨e1,e2,e3,e4⟩:=R.bad hbd
  have e5:err=ffv W H bl a:=by rw [e1];unfold ff2;rw [if_neg hza]
  have hp:=ffp a hza
  clear e1 hbd
  subst e2 e3 e4
  rw [e5] at an1
  generalize ffv W H bl a=n at *
  have b3:Below wb.heap.size wb (wb.alloc (.cells #[.int .i64 0,.int .i64 0] 38)):=(Below.refl _ _).alloc (Nat.le_refl _) _
  have B3:=B1.trans (b3.mono B1.size)
  have an3:=an1.below b3
  have x0:=an3.c0
  have x1:=an3.c1
  have x2:=an3.c2
  have x3:=an3.c3
  clear b3 an1 e5 cx1
  go_wp2
  go_ret
  exact ⟨rfl,B3⟩
end
section
open Go.ChangeShapes Go.WideShapes Go.ChangeAt Go.RowKit
theorem gSyn : Tryz.prog.globalNamed "strconv.ErrSyntax" = some 3 := by kernel_rfl
theorem gSynT:(Tryz.prog.globals[3]?).map (·.type)=some 46:=by kernel_rfl
theorem gRng : Tryz.prog.globalNamed "strconv.ErrRange" = some 4 := by kernel_rfl
theorem gRngT:(Tryz.prog.globals[4]?).map (·.type)=some 46:=by kernel_rfl
theorem gPowT:(Tryz.prog.globals[5]?).map (·.type)=some 308:=by kernel_rfl
theorem gBru : Tryz.prog.globalNamed "math/bits.deBruijn64tab" = some 7 := by kernel_rfl
theorem star : "*" ++ "errors.errorString" = "*errors.errorString" := by decide
theorem row137 (u : TypeId) (h : Tryz.prog.typeName? 3 u = some "*errors.errorString") : u = 304 :=
 typeName_ptr_named (nm := "errors.errorString") (by rw [star]; kernel_rfl) (by kernel_rfl) (by decide) u (by rw [star]; exact h)
theorem cells139:Tryz.prog.cellsOf 306=1:=by kernel_rfl
theorem cells9':Tryz.prog.cellsOf 9=1:=by kernel_rfl
theorem cells129:Tryz.prog.cellsOf 308=20:=by kernel_rfl
theorem pow_tab:(Rows.laid_internal_strconv_uint64pow10:DataW Unit)=Lib.tabData .u64 Lib.pow10Tab:=by kernel_rfl
theorem lt_of_var {W:World}{n:String}{g:Nat}{cs:Array Value}(hg:Tryz.prog.globalNamed n=some g)(hv:W.var? Tryz.prog n=some cs):g<W.heap.size:=by
 rcases Nat.lt_or_ge g W.heap.size with h|h
 ·exact h
 ·exfalso
  unfold World.var? at hv
  simp [hg,Array.getElem?_eq_none h] at hv
theorem env_of {W : World} {r : List (String × DataW Unit)} (h : laidMet Tryz.prog (("math/bits.deBruijn32tab", Rows.laid_math_bits_deBruijn32tab) :: ("math/bits.deBruijn64tab", Rows.laid_math_bits_deBruijn64tab) :: ("internal/strconv.uint64pow10", Rows.laid_internal_strconv_uint64pow10) :: ("strconv.ErrRange", Rows.laid_strconv_ErrRange) :: ("strconv.ErrSyntax", Rows.laid_strconv_ErrSyntax) :: r) W) : Env W := by
 have h2:=h.tail
 have h3:=h2.tail
 have h4:=h3.tail
 have h5:=h4.tail
 have hz:7<W.heap.size:=by
  obtain ⟨ps,⟨g0,t0,cs0,f0,p0,q0,hg0,ht0,hv0,hd0,_,_⟩,_,_⟩:=h2
  exact lt_of_var gBru hv0
 rw [pow_tab] at h3
 have ht:=Lib.tabIs_of_head gPow gPowT Tryz.underlying308 Tryz.underlying276 (by kernel_rfl) cells129 h3
 obtain ⟨a0,s0,hv0,-,-,-⟩:=laid_sentinel (ti:=46) (tp:=304) (te:=306) (ts:=9) h4 gRng gRngT Tryz.underlying46 row137 Tryz.underlying304 Tryz.underlying306 rfl rfl Tryz.underlying9 cells139 cells9'
 obtain ⟨a1,s1,hv1,-,-,-⟩:=laid_sentinel (ti:=46) (tp:=304) (te:=306) (ts:=9) h5 gSyn gSynT Tryz.underlying46 row137 Tryz.underlying304 Tryz.underlying306 rfl rfl Tryz.underlying9 cells139 cells9'
 exact ⟨⟨_,_,by have h0:=World.var?_cell gSyn hv1 0;simpa using h0⟩,⟨_,_,by have h0:=World.var?_cell gRng hv0 0;simpa using h0⟩,ht,hz⟩
end
section
open Go.ChangeShapes Go.WideShapes Go.ChangeAt Go.RowKit Go.Joins
theorem Tryz.own:ownKnob Tryz.prog.godebug=none:=by kernel_rfl
theorem Tryz.laidOut:laidOutB Tryz.prog=true:=by kernel_rfl
theorem Tryz.cells24:Tryz.prog.cellsOf 24=3:=by kernel_rfl
theorem gSteps : Tryz.prog.globalNamed "fellrunner/grid.steps" = some 1 := by kernel_rfl
theorem tSteps:(Tryz.prog.globals[1]?).map (·.type)=some 253:=by kernel_rfl
theorem c252:Tryz.prog.cellsOf 252=2:=by kernel_rfl
theorem c3':Tryz.prog.cellsOf 3=1:=by kernel_rfl
theorem gDiag : Tryz.prog.globalNamed "fellrunner/reach.diagonalFirst" = some 0 := by kernel_rfl
theorem tDiag:(Tryz.prog.globals[0]?).map (·.type)=some 179:=by kernel_rfl
theorem c179:Tryz.prog.cellsOf 179=8:=by kernel_rfl
theorem lt_of_cell {w:World}{b o:Nat}{v:Value}(h:w.cell? ⟨b,o,none⟩=some v):b<w.heap.size:=World.block_lt_of_cell? w _ h
theorem steps_of {W : World} {r : List (String × DataW Unit)} (h : laidMet Tryz.prog (("fellrunner/grid.steps", Rows.laid_fellrunner_grid_steps) :: r) W) : StepsAt W := by
 obtain ⟨ps,⟨g0,t0,cs0,f0,p0,q0,hg0,ht0,hv0,hd0,_,_⟩,_,_⟩:=h
 obtain rfl:=Option.some.inj (gSteps.symm.trans hg0)
 obtain rfl:=Option.some.inj (tSteps.symm.trans ht0)
 obtain ⟨xs,m,_,hx1,hlen,hn,hel⟩:=DataW.trod_array Tryz.underlying253 hd0
 simp only [Prod.mk.injEq] at hx1
 have hxa:=hx1.1
 have key:∀ i,i<8->cs0.toList[2*i]? = some (.int .i64 (stepX i))/\cs0.toList[2*i+1]? = some (.int .i64 (stepY i)):=by
  intro i hi
  have h1:=hel i hi
  rw [c252] at h1
  have hxi:∃ p,xs[i]? = some (Lib.tabData .i64 [stepX i,stepY i],p):=by
   have hlt:i<xs.length:=by omega
   refine ⟨xs[i].2,?_⟩
   rw [List.getElem?_eq_getElem hlt]
   have e2:(xs.map (·.1))[i]? = some xs[i].1:=by rw [List.getElem?_map,List.getElem?_eq_getElem hlt];rfl
   simp only [Rows.laid_fellrunner_grid_steps,DataW.agg.injEq] at hxa
   rw [<- hxa] at e2
   have hks:i=0\/i=1\/i=2\/i=3\/i=4\/i=5\/i=6\/i=7:=by omega
   rcases hks with rfl|rfl|rfl|rfl|rfl|rfl|rfl|rfl <;>
    (simp at e2;exact congrArg some (Prod.ext e2.symm rfl))
  obtain ⟨p,hp⟩:=hxi
  rw [hp] at h1
  have h2:=Lib.cells_of_tab Tryz.underlying252 Tryz.underlying3 c3' c252 h1
  have a0:((cs0.toList.drop (i*2)).take 2)[0]? = cs0.toList[2*i]? := by
   rw [List.getElem?_take_of_lt (by decide),List.getElem?_drop];congr 1;omega
  have a1:((cs0.toList.drop (i*2)).take 2)[1]? = cs0.toList[2*i+1]? := by
   rw [List.getElem?_take_of_lt (by decide),List.getElem?_drop];congr 1;omega
  rw [h2] at a0 a1
  exact ⟨a0.symm,a1.symm⟩
 have cell:∀ i,W.cell? ⟨1,i,none⟩=cs0.toList[i]? := fun i=>by
  have:=World.var?_cell hg0 hv0 i
  rw [this];simp
 exact fun i hi=>⟨by rw [cell];exact (key i hi).1,by rw [cell];exact (key i hi).2⟩
theorem diag_of {W : World} {r : List (String × DataW Unit)} (h : laidMet Tryz.prog (("fellrunner/reach.diagonalFirst", Rows.laid_fellrunner_reach_diagonalFirst) :: r) W) : DiagAt W := by
 obtain ⟨ps,⟨g0,t0,cs0,f0,p0,q0,hg0,ht0,hv0,hd0,_,_⟩,_,_⟩:=h
 obtain rfl:=Option.some.inj (gDiag.symm.trans hg0)
 obtain rfl:=Option.some.inj (tDiag.symm.trans ht0)
 have hd1:DataW.trod (fun _=>()) Tryz.prog W 0 (fun _=>true) false f0 179 cs0.toList=some (Lib.tabData .i64 [1,3,5,7,0,2,4,6],p0):=hd0
 have h2:=Lib.cells_of_tab Tryz.underlying179 Tryz.underlying3 c3' c179 hd1
 intro i hi
 have:=World.var?_cell hg0 hv0 i
 rw [this]
 have e:cs0[i]? = cs0.toList[i]? := by simp
 rw [e,h2]
 have hks:i=0\/i=1\/i=2\/i=3\/i=4\/i=5\/i=6\/i=7:=by omega
 rcases hks with rfl|rfl|rfl|rfl|rfl|rfl|rfl|rfl <;> rfl
abbrev allLaid : List (String × DataW Unit) := [("math/bits.deBruijn32tab", Rows.laid_math_bits_deBruijn32tab), ("math/bits.deBruijn64tab", Rows.laid_math_bits_deBruijn64tab), ("internal/strconv.uint64pow10", Rows.laid_internal_strconv_uint64pow10), ("strconv.ErrRange", Rows.laid_strconv_ErrRange), ("strconv.ErrSyntax", Rows.laid_strconv_ErrSyntax), ("fellrunner/grid.steps", Rows.laid_fellrunner_grid_steps), ("fellrunner/reach.diagonalFirst", Rows.laid_fellrunner_reach_diagonalFirst)]
theorem all_of {W:World}(h:laidMetH Tryz.prog allLaid W):Env W/\StepsAt W/\DiagAt W:=by
 rw [MakeChecks.laidMetH_plain _ _ _ (by kernel_rfl)] at h
 have h5:=h.tail.tail.tail.tail.tail
 exact ⟨env_of h,steps_of h5,diag_of h5.tail⟩
theorem law_met (os:Os)(args:Array Value):laidMetH Tryz.prog allLaid ((World.doorLaid Tryz.prog 80 os).forCall (fun _ _=>0) ⟨#[],args,[]⟩).memory :=
 laidMetH_of_parts3 (fuel:=8) (laidMet_of_run' 8 (by kernel_rfl) (by kernel_rfl)) (by kernel_rfl) (by kernel_rfl)
theorem row_in {H:Type}{enc:TypeId × Value->H}{W:World}{sp:Nat->Bool}{held:Bool}{fuel:Nat}{c:Value}{x:DataW H × List MemPlace}(h:DataW.trod enc Tryz.prog W 0 sp held fuel 22 [c]=some x) :
  ∃ A n cap xs,c=.slice A n cap/\n<=maxLen/\OldRow W A n xs:=by
 rcases open_ints Tryz.underlying22 Tryz.underlying3 (by kernel_rfl) h with ⟨hcs,_⟩|⟨a,l,cap,zs,hcs,_,hl,hm,hz,_,hcell,_⟩
 ·simp at hcs
  exact ⟨none,0,0,fun _=>0,hcs,by unfold maxLen;omega,fun i hi=>absurd hi (Nat.not_lt_zero i)⟩
 ·simp at hcs
  refine ⟨some a,l,cap,fun i=>zs.getD i 0,hcs,Nat.le_trans hl hm,fun i hi=>?_⟩
  have hzl:i<zs.length:=by rw [hz];split <;> omega
  obtain ⟨b,off,rfl,hc⟩:=ints_at hcell (by omega)
  exact ⟨b,off,rfl,lt_of_cell (hc i hzl),hc i hzl⟩
theorem c36:Tryz.prog.cellsOf 36=2:=by kernel_rfl
theorem c62:Tryz.prog.cellsOf 62=2:=by kernel_rfl
theorem c4':Tryz.prog.cellsOf 4=1:=by kernel_rfl
def OldAsk (w:World) (A:Option Addr) (n:Nat) (fs ts:Nat->Int):Prop:=∀ i,i<n->∃ b o,A=some ⟨b,o,none⟩/\b<w.heap.size/\w.cell? ⟨b,o+i*2,none⟩=some (.int .i64 (fs i))/\w.cell? ⟨b,o+i*2+1,none⟩=some (.int .i64 (ts i))
theorem OldAsk.below {w w':World}{A:Option Addr}{n:Nat}{fs ts:Nat->Int}(h:OldAsk w A n fs ts)(hb:Below w.heap.size w w'):OldAsk w' A n fs ts:=fun i hi=>by
 obtain ⟨b,o,h1,h2,h3,h4⟩:=h i hi
 exact ⟨b,o,h1,Nat.lt_of_lt_of_le h2 hb.size,(hb.cell (p:=⟨b,o+i*2,none⟩) h2).trans h3,(hb.cell (p:=⟨b,o+i*2+1,none⟩) h2).trans h4⟩
def OldEd (w:World) (A:Option Addr) (n:Nat) (cs:Nat->Int) (bs:Nat->Bool):Prop:=∀ i,i<n->∃ b o,A=some ⟨b,o,none⟩/\b<w.heap.size/\w.cell? ⟨b,o+i*2,none⟩=some (.int .i64 (cs i))/\w.cell? ⟨b,o+i*2+1,none⟩=some (.bool (bs i))
theorem OldEd.below {w w':World}{A:Option Addr}{n:Nat}{cs:Nat->Int}{bs:Nat->Bool}(h:OldEd w A n cs bs)(hb:Below w.heap.size w w'):OldEd w' A n cs bs:=fun i hi=>by
 obtain ⟨b,o,h1,h2,h3,h4⟩:=h i hi
 exact ⟨b,o,h1,Nat.lt_of_lt_of_le h2 hb.size,(hb.cell (p:=⟨b,o+i*2,none⟩) h2).trans h3,(hb.cell (p:=⟨b,o+i*2+1,none⟩) h2).trans h4⟩
section
variable {H : Type} {enc : TypeId × Value → H} {W : World} {sp : Nat → Bool} {held : Bool}
theorem ask_in {fuel:Nat}{c1 c2:Value}{x:DataW H × List MemPlace}(h:DataW.trod enc Tryz.prog W 0 sp held fuel 36 [c1,c2]=some x):∃ s d,c1=.int .i64 s/\c2=.int .i64 d:=by
 obtain ⟨xs,n,_,_,_,hl,hf⟩:=DataW.trod_struct Tryz.underlying36 h
 have f0:DataW.trod enc Tryz.prog W 0 sp held n 3 (([c1,c2].drop 0).take (Tryz.prog.cellsOf 3))=xs[0]? := hf 0 _ rfl
 have f1:DataW.trod enc Tryz.prog W 0 sp held n 3 (([c1,c2].drop 1).take (Tryz.prog.cellsOf 3))=xs[1]? := hf 1 _ rfl
 have hl':xs.length=2:=hl
 rw [List.getElem?_eq_getElem (by omega),c3'] at f0 f1
 obtain ⟨s,e0,_⟩:=DataW.trod_int Tryz.underlying3 f0
 obtain ⟨d,e1,_⟩:=DataW.trod_int Tryz.underlying3 f1
 simp at e0 e1
 exact ⟨s,d,e0,e1⟩
theorem edit_in {fuel:Nat}{c1 c2:Value}{x:DataW H × List MemPlace}(h:DataW.trod enc Tryz.prog W 0 sp held fuel 62 [c1,c2]=some x):∃ s d,c1=.int .i64 s/\c2=.bool d:=by
 obtain ⟨xs,n,_,_,_,hl,hf⟩:=DataW.trod_struct Tryz.underlying62 h
 have f0:DataW.trod enc Tryz.prog W 0 sp held n 3 (([c1,c2].drop 0).take (Tryz.prog.cellsOf 3))=xs[0]? := hf 0 _ rfl
 have f1:DataW.trod enc Tryz.prog W 0 sp held n 4 (([c1,c2].drop 1).take (Tryz.prog.cellsOf 4))=xs[1]? := hf 1 _ rfl
 have hl':xs.length=2:=hl
 rw [List.getElem?_eq_getElem (by omega)] at f0 f1
 rw [c3'] at f0
 rw [c4'] at f1
 obtain ⟨s,e0,_⟩:=DataW.trod_int Tryz.underlying3 f0
 obtain ⟨d,e1,_⟩:=DataW.trod_bool Tryz.underlying4 f1
 simp at e0 e1
 exact ⟨s,d,e0,e1⟩
theorem asks_in {fuel:Nat}{c:Value}{x:DataW H × List MemPlace}(h:DataW.trod enc Tryz.prog W 0 sp held fuel 25 [c]=some x) :
  ∃ A n cap fs ts,c=.slice A n cap/\n<=maxLen/\OldAsk W A n fs ts:=by
 rcases Go.Deep.open_slice Tryz.underlying25 h with ⟨hcs,_⟩|⟨a,len,cap,m,k,D,Pl,hcs,_,hl,hm,hmm,_,hx⟩
 ·simp at hcs
  exact ⟨none,0,0,fun _=>0,fun _=>0,hcs,by unfold maxLen;simp,fun i hi=>absurd hi (Nat.not_lt_zero i)⟩
 ·simp at hcs
  have hlm:len<=m:=by rw [hmm];split <;> omega
  rw [c36] at hx
  have hspot:0<len->a.spot=none:=by
   intro h0
   obtain ⟨cs',h1,_⟩:=hx 0 (by omega)
   obtain ⟨_,hlen,hc⟩:=World.cells?_some h1
   have g0:=hc 0 (by omega)
   rw [Go.Deep.add_add,List.getElem?_eq_getElem (by omega)] at g0
   simpa [Addr.add] using World.cell?_spot g0
  have key:∀ i,i<len->∃ y:Int × Int,∃ b o,a=⟨b,o,none⟩/\W.cell? ⟨b,o+i*2,none⟩=some (.int .i64 y.1)/\W.cell? ⟨b,o+i*2+1,none⟩=some (.int .i64 y.2):=by
   intro i hi
   obtain ⟨cs',h1,h2⟩:=hx i (by omega)
   obtain ⟨_,hlen,hc⟩:=World.cells?_some h1
   match cs',hlen with
   |[c0,c1],_ =>
    obtain ⟨y1,y2,rfl,rfl⟩:=ask_in h2
    have g0:=hc 0 (by omega)
    have g1:=hc 1 (by omega)
    rw [Go.Deep.add_add] at g0 g1
    simp at g0 g1
    have hs:=hspot (by omega)
    obtain ⟨b,o,spot⟩:=a
    simp only at hs
    subst hs
    rw [Go.WideShapes.add_plain] at g0 g1
    exact ⟨(y1,y2),b,o,rfl,g0,by rw [Nat.add_assoc];exact g1⟩
  obtain ⟨xs,hxs⟩:=@Go.Deep.choose_lt (Int × Int) ⟨(0,0)⟩ len _ key
  refine ⟨some a,len,cap,fun i=>(xs i).1,fun i=>(xs i).2,hcs,Nat.le_trans hl hm,fun i hi=>?_⟩
  obtain ⟨b,o,rfl,h0,h1⟩:=hxs i hi
  exact ⟨b,o,rfl,lt_of_cell h0,h0,h1⟩
theorem edits_in {fuel:Nat}{c:Value}{x:DataW H × List MemPlace}(h:DataW.trod enc Tryz.prog W 0 sp held fuel 44 [c]=some x) :
  ∃ A n cap fs ts,c=.slice A n cap/\n<=maxLen/\OldEd W A n fs ts:=by
 rcases Go.Deep.open_slice Tryz.underlying44 h with ⟨hcs,_⟩|⟨a,len,cap,m,k,D,Pl,hcs,_,hl,hm,hmm,_,hx⟩
 ·simp at hcs
  exact ⟨none,0,0,fun _=>0,fun _=>false,hcs,by unfold maxLen;simp,fun i hi=>absurd hi (Nat.not_lt_zero i)⟩
 ·simp at hcs
  have hlm:len<=m:=by rw [hmm];split <;> omega
  rw [c62] at hx
  have hspot:0<len->a.spot=none:=by
   intro h0
   obtain ⟨cs',h1,_⟩:=hx 0 (by omega)
   obtain ⟨_,hlen,hc⟩:=World.cells?_some h1
   have g0:=hc 0 (by omega)
   rw [Go.Deep.add_add,List.getElem?_eq_getElem (by omega)] at g0
   simpa [Addr.add] using World.cell?_spot g0
  have key:∀ i,i<len->∃ y:Int × Bool,∃ b o,a=⟨b,o,none⟩/\W.cell? ⟨b,o+i*2,none⟩=some (.int .i64 y.1)/\W.cell? ⟨b,o+i*2+1,none⟩=some (.bool y.2):=by
   intro i hi
   obtain ⟨cs',h1,h2⟩:=hx i (by omega)
   obtain ⟨_,hlen,hc⟩:=World.cells?_some h1
   match cs',hlen with
   |[c0,c1],_ =>
    obtain ⟨y1,y2,rfl,rfl⟩:=edit_in h2
    have g0:=hc 0 (by omega)
    have g1:=hc 1 (by omega)
    rw [Go.Deep.add_add] at g0 g1
    simp at g0 g1
    have hs:=hspot (by omega)
    obtain ⟨b,o,spot⟩:=a
    simp only at hs
    subst hs
    rw [Go.WideShapes.add_plain] at g0 g1
    exact ⟨(y1,y2),b,o,rfl,g0,by rw [Nat.add_assoc];exact g1⟩
  obtain ⟨xs,hxs⟩:=@Go.Deep.choose_lt (Int × Bool) ⟨(0,false)⟩ len _ key
  refine ⟨some a,len,cap,fun i=>(xs i).1,fun i=>(xs i).2,hcs,Nat.le_trans hl hm,fun i hi=>?_⟩
  obtain ⟨b,o,rfl,h0,h1⟩:=hxs i hi
  exact ⟨b,o,rfl,lt_of_cell h0,h0,h1⟩
end
end
section
open Go.RowKit Go.Lib
theorem ask_rt {lo hi sb most:Nat}{W H V:Int}{bl:Nat->Bool}(a t:Int)(w:World)(S:Sv w lo hi sb W H V bl most)(d:DiagAt w) :
  Calls Tryz.prog 18 #[.pointer (some ⟨sb,0,none⟩),.int .i64 a,.int .i64 t] w fun e w'=>∃ A cap way s d err,e=.returned (.agg #[.slice A way.length cap,.int .i64 s,.int .i64 d,.int .i64 err])/\w'.ownsRow w.heap.size 3 1 (.slice A way.length cap) way.length (vals way)/\OldRow w' A way.length (fun i=>((way.getD i 0:Nat):Int))/\AnsR W H bl most a t way s d err/\Rt W H bl a t way s d err/\Below w.heap.size w w':=by
 obtain ⟨w1,w2,h1,h2⟩:=S.side
 obtain ⟨m1,m6⟩:=S.mst
 refine (ask_any a t w S d).mono ?_
 rintro e w' ⟨v,way,s,dd,err,rfl,ho,hA,hb⟩
 obtain ⟨A,cap,rfl,hold,_⟩:=oldRow_of ho
 exact ⟨A,cap,way,s,dd,err,rfl,ho,hold,hA,hA.right w w1 w2 h1 h2 m1 m6,hb⟩
end
section
def sumB (h:Nat->Nat) (S:Int->Bool):Nat->Nat
 |0=>0
 |N+1=>sumB h S N+if S (N:Int) then h N else 0
theorem sumB_same (h:Nat->Nat)(S:Int->Bool)(a:Int)(N:Nat)(hN:(N:Int)<=a):sumB h (insS S a) N=sumB h S N:=by
 induction N with
 |zero=>rfl
 |succ N ih =>
  have e:insS S a (N:Int)=S (N:Int):=by
   unfold insS
   rw [decide_eq_false (by omega),Bool.false_or]
  show sumB h (insS S a) N+(if insS S a (N:Int) then h N else 0)=_
  rw [e,ih (by omega)]
  rfl
theorem sumB_put (h:Nat->Nat)(S:Int->Bool)(a:Nat)(N:Nat)(hl:a<N)(hn:S (a:Int)=false):sumB h (insS S (a:Int)) N=sumB h S N+h a:=by
 induction N with
 |zero=>omega
 |succ N ih =>
  show sumB h (insS S (a:Int)) N+(if insS S (a:Int) (N:Int) then h N else 0)=sumB h S N+(if S (N:Int) then h N else 0)+h a
  by_cases e:a=N
  ·subst e
   have e1:insS S (a:Int) (a:Int)=true:=by unfold insS;rw [decide_eq_true rfl,Bool.true_or]
   rw [sumB_same h S (a:Int) a (Int.le_refl _),e1,hn]
   simp
  ·have e1:insS S (a:Int) (N:Int)=S (N:Int):=by
    unfold insS
    rw [decide_eq_false (by omega),Bool.false_or]
   rw [ih (by omega),e1]
   omega
theorem sumB_none (h:Nat->Nat)(N:Nat):sumB h (fun _=>false) N=0:=by
 induction N with
 |zero=>rfl
 |succ N ih =>
  show sumB h (fun _=>false) N+(if false then h N else 0)=0
  rw [ih];rfl
theorem sumB_le (h:Nat->Nat)(S:Int->Bool)(K:Nat)(hK:∀ n,h n<=K)(N:Nat):sumB h S N<=N*K:=by
 induction N with
 |zero=>exact Nat.zero_le _
 |succ N ih =>
  show sumB h S N+(if S (N:Int) then h N else 0)<=(N+1)*K
  rw [Nat.succ_mul]
  have h2:=hK N
  split <;> omega
def addA (es:Nat->List LE) (n:Nat):Nat:=((es n).filter (fun e=>decide (0<=e.mid))).length
end
end Go.Proofs.YtipbhlofbpnpjaaGreatDoor
