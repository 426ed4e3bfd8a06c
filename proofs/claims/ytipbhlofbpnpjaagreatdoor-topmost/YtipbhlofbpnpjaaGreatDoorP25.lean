/-
  Texts laid together: Nv3, Nv4, Fill, Print, Parse, Size.
-/
import Derived.Test.YtipbhlofbpnpjaaGreatDoorP23
import Derived.Test.YtipbhlofbpnpjaaGreatDoorP24
import Derived.Test.YtipbhlofbpnpjaaGreatDoorP3
import Derived.Test.YtipbhlofbpnpjaaGreatDoorP8
import Derived.Deep.AppendLies
import Derived.Deep.LoopGhost
import Derived.Deep.Light
import Derived.ChangeKeysEq
namespace Go.Proofs.YtipbhlofbpnpjaaGreatDoor
section
open Go.RowKit Go.Lib
theorem Bst.ov {W H:Int}{bl:Nat->Bool}{most a t:Nat}{la lb stops way:List Nat}{s d:Int}{f:Bool}(h:Bst W H bl most a t la lb stops s d f)(h1:Cnp W H bl a la)(h2:Cnp W H bl t lb)(h3:stops.length<=40000)(h4:f=false->way=[])(h5:f=true->∃ l,way=a::l/\JnR W H bl a (stops++[t]) l):OvR W H bl most a t way s d f:=by
 obtain ⟨k,st,r1,r2,r3⟩:=h
 exact ⟨k,st,la,lb,stops,r1,r2,h1,h2,r3,h3,h4,h5⟩
theorem Bst.near {W H:Int}{bl:Nat->Bool}(w1:1<=W)(w2:W<=16)(h1:1<=H)(h2:H<=16){most a t:Nat}(m1:1<=most)(m6:most<=6){la lb stops:List Nat}{s d:Int}(h:Bst W H bl most a t la lb stops s d true)(ha:inB W H a=true)(hfa:bl a=false)(ht:inB W H t=true)(hft:bl t=false)(k1:Cnp W H bl a la)(k2:Cnp W H bl t lb):NrC W H bl a (stops++[t]):=by
 obtain ⟨k,st,r1,r2,r3⟩:=h
 exact (OvR.stops w1 w2 h1 h2 m1 m6 ha hfa ht hft r1 k1 k2 r3).1
theorem Bst.no {W H:Int}{bl:Nat->Bool}{most a t:Nat}{la lb stops:List Nat}{s d:Int}(h:Bst W H bl most a t la lb stops s d false):s=0/\d=0:=by
 obtain ⟨k,st,_,_,r3⟩:=h
 obtain ⟨_,_,_,_,_,_,_,_,h4,_⟩:=r3
 exact (h4 rfl).2
set_option maxHeartbeats 4000000 in
set_option maxRecDepth 1000000 in
theorem overC_any {lo hi sb rb pb mb lb tb gb N x M most a t:Nat}{W H V V2 V3:Int}{bl:Nat->Bool}(w:World)(S:SvAt w lo hi sb rb pb mb lb tb gb N x W H V V2 bl most)(d:DiagAt w)(g:GridAt w M W H V3 bl)(ha:inB W H a=true)(hfa:bl a=false)(ht:inB W H t=true)(hft:bl t=false) :
  Calls Tryz.prog 44 #[.pointer (some ⟨sb,0,none⟩),.pointer (some ⟨M,0,none⟩),.int .i64 (a:Int),.int .i64 (t:Int)] w fun e w'=>∃ v way s d f,e=.returned (.agg #[v,.int .i64 s,.int .i64 d,.int .i64 (if f then 0 else 5)])/\w'.ownsRow w.heap.size 3 1 v way.length (vals way)/\OvR W H bl most a t way s d f/\Below w.heap.size w w':=by
 obtain ⟨w1,w2,h1,h2⟩:=S.side
 obtain ⟨i0,hi,hz0,hz1,hz2⟩:=info_parts Tryz.info3
 have hM:=World.block_lt_of_cell? _ _ g.c0
 have b0:Below w.heap.size w (w.alloc (.cells #[.slice none 0 0,.int .i64 0,.int .i64 0,.int .i64 0] 41)):=(Below.refl _ _).alloc (Nat.le_refl _) _
 have an0:=An.new w (.slice none 0 0) 0 0 0
 have S0:=S.below b0
 have q1:=S0.c1
 have hc1:=conn_rows' _ S0.gr S0.st w1 w2 h1 h2 ha hfa
 go_enter Tryz.func44,Tryz.ntmps44
 go_wp2_with fail
 generalize w.alloc (.cells #[.slice none 0 0,.int .i64 0,.int .i64 0,.int .i64 0] 41)=wa at *
 refine hc1.mono ?_
 rintro e wb ⟨A1,cap1,la,rfl,r1,cn1,le1,hb1⟩
 have S1:=S0.below hb1
 have an1:=an0.below hb1
 have B1:=b0.trans (hb1.mono b0.size)
 have q1:=S1.c1
 have hc2:=conn_rows' _ S1.gr S1.st w1 w2 h1 h2 ht hft
 clear hc1 S0 an0 hb1 b0
 go_wp2_with fail
 refine hc2.mono ?_
 rintro e wr ⟨A2,cap2,lt,rfl,r2,cn2,le2,hb2⟩
 have S2:=S1.below hb2
 have an2:=an1.below hb2
 have B2:=B1.trans (hb2.mono B1.size)
 have r1:=r1.below (Nat.le_refl _) hb2
 have HC:Hid (Cnp W H bl a la/\Cnp W H bl t lt):=⟨cn1,cn2⟩
 have c2:=S2.c2
 have g2:=g.below B2 hM
 have hM2:M<wr.heap.size:=Nat.lt_of_lt_of_le hM B2.size
 have sz2:w.heap.size<wr.heap.size:=World.block_lt_of_cell? _ _ an2.c0
 clear hc2 S1 an1 hb2 B1 cn1 cn2 q1
 have HG:Hid (∀ w',Below wr.heap.size wr w'->_):=fun w' hb=>guessTo_any w' (g2.below hb hM2) ht
 have HB:Hid (∀ w' gc xc yc,Below wr.heap.size wr w'->GsAt w' gc xc yc M W (t:Int)->_):=fun w' gc xc yc hb G=>sbest_any (cap:=cap1) (cap2:=cap2) w' (S2.lv.below hb) (g2.below hb hM2) G ht S2.m1 S2.m6 (r1.below (Nat.le_refl _) hb) (r2.below (Nat.le_refl _) hb) le1 le2
 go_upto_region 3 with fail
 go_cut [13,14,15] from 34 to 47 (fun cv pv fv wd=>∃ stops s d f T vS,vS=cv/\pv=.pointer (some ⟨T,0,none⟩)/\fv=.bool f/\Slot wd T s d/\w.heap.size<T/\wd.ownsRow (w.heap.size+1) 3 1 vS stops.length (vals stops)/\(∀ q,vS.ownBlock=some q->q≠T)/\Bst W H bl most a t la lt stops s d f/\stops.length<=40000/\Below wr.heap.size wr wd)
 case first =>
  have e0:Below wr.heap.size wr wr.drew:=(Below.refl _ _).drew
  have eA:Below wr.heap.size wr (wr.drew.alloc (.cells #[.int .i64 0,.int .i64 0] 38)):=e0.alloc e0.size _
  have sA:Slot (wr.drew.alloc (.cells #[.int .i64 0,.int .i64 0] 38)) wr.heap.size 0 0:=Slot.new wr.drew 0 0
  have CC:Hid (∀ w',Below wr.heap.size wr w'->w'.cell? ⟨sb,2,none⟩=some (.pointer (some ⟨lb,0,none⟩))):=fun w' h=>(h.cell (World.block_lt_of_cell? wr _ c2)).trans c2
  clear c2 r1 r2 S2 g2 an2
  go_region_held3 (fun w'=>w'.cell? ⟨sb,2,none⟩=some (.pointer (some ⟨lb,0,none⟩))) (first|exact CC.out _ e0|exact CC.out _ eA|exact CC.out _ e5|exact CC.out _ (e5.alloc e5.size _)|exact CC.out _ e6|exact CC.out _ (e6.alloc e6.size _)|exact CC.out _ ((e6.setCell (p:=⟨_,0,none⟩) (by first|exact Nat.le_refl _|exact e5.size) _).setCell (p:=⟨_,1,none⟩) (by first|exact Nat.le_refl _|exact e5.size) _)|exact CC.out _ (((e6.alloc e6.size _).setCell (p:=⟨_,0,none⟩) e6.size _).setCell (p:=⟨_,1,none⟩) e6.size _))
   (first
    |(go_at_call 43;first|(refine (HG.out _ e0).mono ?_;rintro r w5 ⟨gc,xc,yc,rfl,G5,hb5⟩;have e5:=e0.trans (hb5.mono e0.size))|(refine (HG.out _ eA).mono ?_;rintro r w5 ⟨gc,xc,yc,rfl,G5,hb5⟩;have e5:=eA.trans (hb5.mono eA.size);have sl:=sA.below hb5))
    |(go_at_call 80;first|(refine (HB.out _ _ _ _ e5 G5).mono ?_;rintro r w6 ⟨stops,s,d',f,v,rfl,hBst,hown,hsl,hb6⟩;have e6:=e5.trans (hb6.mono e5.size);first|(have s6:=sl.below hb6;have g0:=s6.c0;have g1:=s6.c1;have g2:=s6.z0;have g3:=s6.z1)|skip)|(refine (HB.out _ _ _ _ (e5.alloc e5.size _) (G5.below ((Below.refl _ _).alloc (Nat.le_refl _) _))).mono ?_;rintro r w6 ⟨stops,s,d',f,v,rfl,hBst,hown,hsl,hb6⟩;have e6:=(e5.alloc e5.size _).trans (hb6.mono (e5.alloc e5.size _).size);have s6:=(Slot.new w5 0 0).below hb6;have g0:=s6.c0;have g1:=s6.c1;have g2:=s6.z0;have g3:=s6.z1)))
  all_goals
   go_wp2_with fail
   go_meet
  ·exact ⟨stops,s,d',f,_,_,rfl,rfl,rfl,Slot.new w6 _ _,by have:=e6.size;omega,own_base (World.ownsRow.alloc hown _) (by have:=e5.size;omega),fun q hq=>Nat.ne_of_lt (hown.lt q hq).2,hBst,hsl,e6.alloc e6.size _⟩
  ·have z5:=e5.size
   refine ⟨stops,s,d',f,_,_,rfl,rfl,rfl,s6.set _ _,by omega,own_base (own_keep hown (set_keep w6 w5.heap.size s d') (fun q hq=>by have:=(hown.lt q hq).1;simp at this;omega)) (by simp;omega),(fun q hq=>by have:=(hown.lt q hq).1;simp at this;omega),hBst,hsl,?_⟩
   exact (e6.setCell (p:=⟨w5.heap.size,0,none⟩) z5 _).setCell (p:=⟨w5.heap.size,1,none⟩) z5 _
  ·have z5:=e5.size
   have z6:wr.heap.size<w5.heap.size:=World.block_lt_of_cell? _ _ sl.c0
   refine ⟨stops,s,d',f,_,_,rfl,rfl,rfl,s6.set _ _,by omega,own_base (own_keep hown (set_keep w6 wr.heap.size s d') (fun q hq=>by have:=(hown.lt q hq).1;omega)) (by omega),(fun q hq=>by have:=(hown.lt q hq).1;omega),hBst,hsl,?_⟩
   exact (e6.setCell (p:=⟨wr.heap.size,0,none⟩) (Nat.le_refl _) _).setCell (p:=⟨wr.heap.size,1,none⟩) (Nat.le_refl _) _
 case rest =>
  obtain ⟨stops,s,d',f,T,vS,rfl,rfl,rfl,slT,hT,hown,hqT,hBst,hsl,hb3⟩:=hcut
  have an3:=an2.below hb3
  have B3:=B2.trans (hb3.mono B2.size)
  have x0:=an3.c0
  have x1:=an3.c1
  have x2:=an3.c2
  have x3:=an3.c3
  have y0:=an3.z0
  have y1:=an3.z1
  have y2:=an3.z2
  have y3:=an3.z3
  clear HG HB r1 r2 an2 c2 hb3
  cases f with
  |false =>
   obtain ⟨e1,e2⟩:=hBst.no
   subst e1 e2
   clear slT hown
   go_wp2
   have r:=an3.set (.slice none 0 0) 0 0 5
   refine bodyPost_ret (v:=.agg #[.slice none 0 0,.int .i64 0,.int .i64 0,.int .i64 5]) (by simp [results,Tryz.results44,go_sem,r.c0,r.c1,r.c2,r.c3]) rfl ?_
   exact ⟨_,[],0,0,false,rfl,World.ownsRow_nil _ _ _ _,hBst.ov HC.out.1 HC.out.2 hsl (fun _=>rfl) (fun q=>by cases q),an_below B3 (Nat.le_refl _) _ _ _ _⟩
  |true =>
   have HNR:=Bst.near w1 w2 h1 h2 S.m1 S.m6 hBst ha hfa ht hft HC.out.1 HC.out.2
   have g3:=g.below B3 hM
   have s3:StepsAt wc:=S.st.below B3 (by omega)
   have d3:=d.below B3
   have t0:=slT.c0
   have t1:=slT.c1
   have hTl:T<wc.heap.size:=World.block_lt_of_cell? _ _ t0
   have hlw:w.heap.size<wc.heap.size:=World.block_lt_of_cell? _ _ x0
   have HJ:Hid (∀ (w7:World) (g7 c7:Nat),Below w.heap.size w w7->w7.ownsRow (w.heap.size+1) 3 1 (.slice (some ⟨g7,0,none⟩) (stops.length+1) c7) (stops.length+1) (vals stops++[.int .i64 (t:Int)])->Calls Tryz.prog 81 #[.pointer (some ⟨M,0,none⟩),.int .i64 (a:Int),.slice (some ⟨g7,0,none⟩) (stops.length+1) c7] w7 fun e w'=>∃ g8 c8 l,e=.returned (.slice (some ⟨g8,0,none⟩) (l.length+1) c8)/\w'.ownsRow w7.heap.size 3 1 (.slice (some ⟨g8,0,none⟩) (l.length+1) c8) (a::l).length (vals (a::l))/\JnR W H bl a (stops++[t]) l/\Below w7.heap.size w7 w'):=fun w7 g7 c7 hb ho=>by
    have e1:stops.length+1=(stops++[t]).length:=by simp
    have e2:vals stops++[.int .i64 (t:Int)]=vals (stops++[t]):=by simp [vals]
    rw [e1,e2] at ho
    rw [e1]
    obtain ⟨g9,c9,q1,q2,_⟩:=rowN_of ho (by simp)
    cases q1
    refine (njoin_any w7 (g.below hb hM) (S.st.below hb (by omega)) (d.below hb) q2 HNR (by simp;omega)).mono ?_
    rintro e w' ⟨v,l,h1,h2,h3,_,h4⟩
    obtain ⟨g8,c8,rfl,_⟩:=rowN_of h2 (by simp)
    exact ⟨g8,c8,l,h1,h2,h3,h4⟩
   clear g3 s3 d3 HNR
   go_upto_region 6 with fail
   have e0:Below wc.heap.size wc wc.drew:=(Below.refl _ _).drew
   have B0:=B3.trans (e0.mono B3.size)
   have o0:=own_below hown e0
   have k0:Keep (fun k=>vS.ownBlock=some k) wc wc.drew:=Keep.of_below e0
   have CC:Hid (∀ w',Keep (fun k=>vS.ownBlock=some k) wc w'->w'.cell? ⟨T,0,none⟩=some (.int .i64 s)/\w'.cell? ⟨T,1,none⟩=some (.int .i64 d')):=fun w' h=>⟨h.cellOf t0 (fun q=>hqT T q rfl),h.cellOf t1 (fun q=>hqT T q rfl)⟩
   have hqw:∀ q,vS.ownBlock=some q->w.heap.size<q:=fun q hq=>(hown.lt q hq).1
   have zc:w.heap.size<=wc.heap.size:=B3.size
   have o6:=o0.alloc (.cells #[.int .i64 (t:Int)] 3)
   have B6:Below w.heap.size w (wc.drew.alloc (.cells #[.int .i64 (t:Int)] 3)):=B0.alloc zc _
   have kA:=k0.alloc (.cells #[.int .i64 (t:Int)] 3)
   have a1:∀ j u,[Value.int .i64 (t:Int)][j]? = some u->(wc.drew.alloc (.cells #[.int .i64 (t:Int)] 3)).cell? ((⟨wc.heap.size,0,none⟩:Addr).add j)=some u:=fun j u hj=>by
    match j,hj with
    |0,hj =>
     cases hj
     exact World.cell?_alloc_at (w:=wc.drew) #[.int .i64 (t:Int)] 3 wc.heap.size 0 rfl
   have a2:∀ u ∈ [Value.int .i64 (t:Int)],u.oneCell'=true:=fun u hu=>by simp at hu;subst hu;rfl
   have a3:stops.length+1<=maxLen:=by unfold maxLen;omega
   have a4:(stops.length+1)*8<=140737488355328:=by omega
   have a5:w.heap.size+1<=(wc.drew.alloc (.cells #[.int .i64 (t:Int)] 3)).heap.size:=by simp;omega
   clear t0 t1 slT hown x0 x1 x2 x3 y0 y1 y2 y3
   go_region_held3 (fun w'=>w'.cell? ⟨T,0,none⟩=some (.int .i64 s)/\w'.cell? ⟨T,1,none⟩=some (.int .i64 d')) (first|exact CC.out _ k0|exact CC.out _ kA|exact CC.out _ k7|exact CC.out _ k8|exact ⟨(an_keep w8 w.heap.size _ _ _ _).cellOf (CC.out _ k8).1 (Nat.ne_of_gt hT),(an_keep w8 w.heap.size _ _ _ _).cellOf (CC.out _ k8).2 (Nat.ne_of_gt hT)⟩)
    (first
     |(refine step_append_lies _ rfl (.tmp 53) (.tmp 55) 22 rfl (w.heap.size+1) 3 i0 (.int .i64 0) 1 8 Tryz.underlying22 hi hz0 hz1 hz2 rfl (by decide) _ _ _ rfl o6 ⟨wc.heap.size,0,none⟩ 1 1 [.int .i64 (t:Int)] rfl rfl a1 a2 (by decide) a3 a4 a5 _ rfl ?_;intro g7 c7 w7 hown7 hg7 _ hlt7;have B7:Below w.heap.size w w7:=(B6.grown hg7 (by simp;omega) (fun q hq=>Nat.le_of_lt (hqw q hq)));have k7:=kA.grown hg7 (fun k hk _=>hk);have h8:=HJ.out w7 g7 c7 B7 hown7)
     |(go_at_call 81;refine h8.mono ?_;rintro r w8 ⟨g8,c8,l8,rfl,hown8,hj8,hb8⟩;have k8:=k7.below hb8;have an8:=an3.keep k8 (fun q=>absurd (hqw _ q) (Nat.lt_irrefl _));have x0:=an8.c0;have x1:=an8.c1;have x2:=an8.c2;have x3:=an8.c3;have y0:=an8.z0;have y1:=an8.z1;have y2:=an8.z2;have y3:=an8.z3;have B8:=B7.trans (hb8.mono B7.size)))
   go_wp2
   have r:=an8.set (.slice (some ⟨g8,0,none⟩) (l8.length+1) c8) s d' 0
   refine bodyPost_ret (v:=.agg #[.slice (some ⟨g8,0,none⟩) (l8.length+1) c8,.int .i64 s,.int .i64 d',.int .i64 0]) (by simp [results,Tryz.results44,go_sem,r.c0,r.c1,r.c2,r.c3]) rfl ?_
   refine ⟨_,a::l8,s,d',true,rfl,own_base (own_keep hown8 (an_keep w8 w.heap.size _ _ _ _) (fun q hq=>by have:=(hown8.lt q hq).1;have:=B7.size;have:w.heap.size<w7.heap.size:=Nat.lt_of_lt_of_le hlw k7.size;omega)) B7.size,hBst.ov HC.out.1 HC.out.2 hsl (fun q=>by cases q) (fun _=>⟨l8,rfl,hj8⟩),an_below B8 (Nat.le_refl _) _ _ _ _⟩
end
section
open Go.RowKit Go.Lib
theorem ff2_cases (W H:Int)(bl:Nat->Bool)(a t:Int):ff2 W H bl a t=0\/ff2 W H bl a t=1\/ff2 W H bl a t=4:=by
 have h:∀ c,ffv W H bl c=0\/ffv W H bl c=1\/ffv W H bl c=4:=fun c=>by
  unfold ffv
  split
  ·split
   ·exact .inr (.inr rfl)
   ·exact .inl rfl
  ·exact .inr (.inl rfl)
 unfold ff2
 split
 ·exact h t
 ·exact h a
set_option maxHeartbeats 400000 in
theorem nnum_any (w:World)(n:Int):Calls Tryz.prog 45 #[.iface 39 (.int .i64 n)] w fun e w'=>e=.returned (.int .i64 n)/\w'=w:=by
 have h:∀ (v:Value) (w:World),(Instr.typeAssert (.iface 39 v) 46 39 true).run Tryz.prog w=.ok (.tuple #[v,.bool true]) w:=fun v w=>by kernel_rfl
 go_enter Tryz.func45,Tryz.ntmps45
 go_wp2
 go_ret
 exact ⟨rfl,rfl⟩
theorem eq5 (w:World):(binOp .eql 46 (.iface 39 (.int .i64 5)) (.iface 39 (.int .i64 5))).run Tryz.prog w=.ok (.bool true) w:=by kernel_rfl
theorem eq1 (w:World):(binOp .eql 46 (.iface 39 (.int .i64 1)) (.iface 39 (.int .i64 5))).run Tryz.prog w=.ok (.bool false) w:=by kernel_rfl
theorem eq4 (w:World):(binOp .eql 46 (.iface 39 (.int .i64 4)) (.iface 39 (.int .i64 5))).run Tryz.prog w=.ok (.bool false) w:=by kernel_rfl
set_option maxHeartbeats 4000000 in
set_option maxRecDepth 1000000 in
theorem ask_any {lo hi sb most:Nat}{W H V:Int}{bl:Nat->Bool}(a t:Int)(w:World)(S:Sv w lo hi sb W H V bl most)(d:DiagAt w) :
  Calls Tryz.prog 18 #[.pointer (some ⟨sb,0,none⟩),.int .i64 a,.int .i64 t] w fun e w'=>∃ v way s d err,e=.returned (.agg #[v,.int .i64 s,.int .i64 d,.int .i64 err])/\w'.ownsRow w.heap.size 3 1 v way.length (vals way)/\AnsR W H bl most a t way s d err/\Below w.heap.size w w':=by
 obtain ⟨rb,pb,mb,lb,tb,gb,N,x,V2,S⟩:=S
 obtain ⟨w1,w2,h1,h2⟩:=S.side
 have b0:Below w.heap.size w (w.alloc (.cells #[.slice none 0 0,.int .i64 0,.int .i64 0,.int .i64 0] 41)):=(Below.refl _ _).alloc (Nat.le_refl _) _
 have an0:=An.new w (.slice none 0 0) 0 0 0
 have S0:=S.below b0
 have q1:=S0.c1
 have hgg:=ggrid_any _ S0.gr
 have hsp:=S.st.pos
 have q5:=eq5
 have q4:=eq4
 have q1':=eq1
 go_enter Tryz.func18,Tryz.ntmps18
 go_wp2_with fail
 generalize w.alloc (.cells #[.slice none 0 0,.int .i64 0,.int .i64 0,.int .i64 0] 41)=wa at *
 refine hgg.mono ?_
 rintro e wb ⟨rfl,hb1,hz1,g1,_⟩
 have S1:=S0.below hb1
 have an1:=an0.below hb1
 have B1:=b0.trans (hb1.mono b0.size)
 have d1:=d.below B1
 generalize hMw:wa.heap.size=M at *
 clear hgg S0 an0 q1 hb1 hMw b0
 rcases ff2_cases W H bl a t with hf|hf
 ·obtain ⟨⟨hia,hfa⟩,⟨hit,hft⟩⟩:=ff2_ok hf
  have ja:0<=a/\a<W*H:=of_decide_eq_true hia
  have jt:0<=t/\t<W*H:=of_decide_eq_true hit
  obtain ⟨aN,rfl⟩:∃ aN:Nat,a=(aN:Int):=⟨a.toNat,by omega⟩
  obtain ⟨tN,rfl⟩:∃ tN:Nat,t=(tN:Int):=⟨t.toNat,by omega⟩
  rw [Int.toNat_natCast] at hfa hft
  by_cases hn:∃ z,On W H bl (aN:Int) (tN:Int) z
  ·have hw:=rway_ok aN (tN:Int) wb g1 S1.st d1 hz1 hf hn
   go_wp2_with fail
   refine hw.mono ?_
   rintro e wd ⟨v,l,rfl,hown,hch,hl,hb2⟩
   obtain ⟨g3,cap3,rfl,_,hg3,_⟩:=rowN_of hown (by simp)
   have B2:=B1.trans (hb2.mono B1.size)
   have an2:=an1.below hb2
   have g2:=g1.below hb2 hz1
   have hgt:=guessTo_any wd g2 hit
   have HA:Hid (AnsR W H bl most (aN:Int) (tN:Int) (aN::l) (octS W aN tN) (octD W aN tN) 0):=Or.inr ⟨hf,Or.inl ⟨hn,rfl,⟨l,rfl,hch⟩,rfl,rfl⟩⟩
   have hlt:w.heap.size<wb.heap.size:=World.block_lt_of_cell? _ _ an1.c0
   have hM2:=Nat.lt_of_lt_of_le hz1 hb2.size
   clear hw an1 S1 hch hn
   go_wp2_with fail
   refine hgt.mono ?_
   rintro e we ⟨gc,xc,yc,rfl,G3,hb3⟩
   have B3:=B2.trans (hb3.mono B2.size)
   have an3:=an2.below hb3
   have own3:=own_below hown hb3
   have hgs:=gs_call (n:=(aN:Int)) we G3.1 G3.2.1 G3.2.2 (g2.below hb3 hM2) hit
   have hgn:gsN W H (tN:Int) (aN:Int)=(octS W aN tN,octD W aN tN):=by unfold gsN;rw [if_pos hia]
   rw [hgn] at hgs
   clear hgt an2 G3 hb3 hown hgn
   go_wp2_with fail
   refine hgs.mono ?_
   rintro e wf ⟨rfl,hb4⟩
   have B4:=B3.trans (hb4.mono B3.size)
   have an4:=an3.below hb4
   have own4:=own_below own3 hb4
   have x0:=an4.c0
   have x1:=an4.c1
   have x2:=an4.c2
   have x3:=an4.c3
   have y0:=an4.z0
   have y1:=an4.z1
   have y2:=an4.z2
   have y3:=an4.z3
   clear hgs an3 own3 hb4
   generalize octS W (aN:Int) (tN:Int)=os at *
   generalize octD W (aN:Int) (tN:Int)=od at *
   go_wp2
   have r:=an4.set (.slice (some ⟨g3,0,none⟩) (l.length+1) cap3) os od 0
   refine bodyPost_ret (v:=.agg #[.slice (some ⟨g3,0,none⟩) (l.length+1) cap3,.int .i64 os,.int .i64 od,.int .i64 0]) (by simp [results,Tryz.results18,go_sem,r.c0,r.c1,r.c2,r.c3]) rfl ?_
   exact ⟨_,aN::l,os,od,0,rfl,own_base (own_keep own4 (an_keep wf w.heap.size _ _ _ _) (fun q hq=>by have:=(own4.lt q hq).1;omega)) (by omega),HA.out,an_below B4 (Nat.le_refl _) _ _ _ _⟩
  ·have hw:=rway_none (aN:Int) (tN:Int) wb g1 S1.st d1 hz1 hf hn
   go_wp2_with fail
   refine hw.mono ?_
   rintro e wd ⟨rfl,hb2⟩
   have B2:=B1.trans (hb2.mono B1.size)
   have an2:=an1.below hb2
   have hov:=overC_any wd (S1.below hb2) (d1.below hb2) (g1.below hb2 hz1) hia hfa hit hft
   have hlt:w.heap.size<wd.heap.size:=World.block_lt_of_cell? _ _ an2.c0
   have HN:Hid (¬ ∃ z,On W H bl (aN:Int) (tN:Int) z):=hn
   clear hw an1 S1 hn hb2
   go_wp2_with fail
   refine hov.mono ?_
   rintro e we ⟨v,way,s,dd,f,rfl,hown,hO,hb3⟩
   have B3:=B2.trans (hb3.mono B2.size)
   have an3:=an2.below hb3
   have x0:=an3.c0
   have x1:=an3.c1
   have x2:=an3.c2
   have x3:=an3.c3
   have y0:=an3.z0
   have y1:=an3.z1
   have y2:=an3.z2
   have y3:=an3.z3
   have HA:Hid (AnsR W H bl most (aN:Int) (tN:Int) way s dd (if f then 0 else 5)):=Or.inr ⟨hf,Or.inr ⟨HN.out,f,by rw [Int.toNat_natCast,Int.toNat_natCast];exact hO,rfl⟩⟩
   obtain ⟨n,A,cap,rfl⟩:∃ (n:Nat) (A:Option Addr) (cap:Nat),v=.slice A n cap:=by
    rcases hown.2 with ⟨rfl,_⟩|⟨g9,cap9,_,rfl,_⟩
    ·exact ⟨_,_,_,rfl⟩
    ·exact ⟨_,_,_,rfl⟩
   generalize (if f then (0:Int) else 5)=er at *
   clear hov an2 hb3 hO
   go_wp2
   have r:=an3.set (.slice A n cap) s dd er
   refine bodyPost_ret (v:=.agg #[.slice A n cap,.int .i64 s,.int .i64 dd,.int .i64 er]) (by simp [results,Tryz.results18,go_sem,r.c0,r.c1,r.c2,r.c3]) rfl ?_
   exact ⟨_,way,s,dd,er,rfl,own_base (own_keep hown (an_keep we w.heap.size _ _ _ _) (fun q hq=>by have:=(hown.lt q hq).1;omega)) (by omega),HA.out,an_below B3 (Nat.le_refl _) _ _ _ _⟩
 ·have hne:ff2 W H bl a t≠0:=by omega
  have hw:=rway_err a t wb g1 hz1 hne
  have HA:Hid (AnsR W H bl most a t [] 0 0 (ff2 W H bl a t)):=Or.inl ⟨hne,rfl,rfl,rfl,rfl⟩
  rw [errV_some hne] at hw
  generalize ff2 W H bl a t=n at *
  go_wp2_with fail
  refine hw.mono ?_
  rintro e wd ⟨rfl,hb2⟩
  have B2:=B1.trans (hb2.mono B1.size)
  have an2:=an1.below hb2
  have hnm:=nnum_any wd n
  have x0:=an2.c0
  have x1:=an2.c1
  have x2:=an2.c2
  have x3:=an2.c3
  have y0:=an2.z0
  have y1:=an2.z1
  have y2:=an2.z2
  have y3:=an2.z3
  clear hw an1 S1 hb2 hne
  rcases hf with rfl|rfl
  ·go_wp2_with fail
   refine hnm.mono ?_
   rintro e w' ⟨rfl,rfl⟩
   go_wp2
   have r:=an2.set (.slice none 0 0) 0 0 1
   refine bodyPost_ret (v:=.agg #[.slice none 0 0,.int .i64 0,.int .i64 0,.int .i64 1]) (by simp [results,Tryz.results18,go_sem,r.c0,r.c1,r.c2,r.c3]) rfl ?_
   exact ⟨_,[],0,0,1,rfl,World.ownsRow_nil _ _ _ _,HA.out,an_below B2 (Nat.le_refl _) _ _ _ _⟩
  ·go_wp2_with fail
   refine hnm.mono ?_
   rintro e w' ⟨rfl,rfl⟩
   go_wp2
   have r:=an2.set (.slice none 0 0) 0 0 4
   refine bodyPost_ret (v:=.agg #[.slice none 0 0,.int .i64 0,.int .i64 0,.int .i64 4]) (by simp [results,Tryz.results18,go_sem,r.c0,r.c1,r.c2,r.c3]) rfl ?_
   exact ⟨_,[],0,0,4,rfl,World.ownsRow_nil _ _ _ _,HA.out,an_below B2 (Nat.le_refl _) _ _ _ _⟩
end
section
open Go.RowKit
theorem cellB_none {c:UInt8}(h:cellB c=none):((c.toNat:Int) == 46)=false/\((c.toNat:Int) == 71)=false/\((c.toNat:Int) == 83)=false/\((c.toNat:Int) == 64)=false/\((c.toNat:Int) == 79)=false/\((c.toNat:Int) == 84)=false/\((c.toNat:Int) == 87)=false:=by
 have key:∀ d:UInt8,c≠d->((c.toNat:Int) == (d.toNat:Int))=false:=fun d hd=>by
  rw [beq_eq_false_iff_ne]
  intro e
  exact hd (UInt8.toNat_inj.1 (by omega))
 unfold cellB at h
 split at h
 ·cases h
 ·rename_i h1
  split at h
  ·cases h
  ·rename_i h2
   simp only [not_or] at h1 h2
   exact ⟨key 46 h1.1,key 71 h1.2.1,key 83 h1.2.2,key 64 h2.1,key 79 h2.2.1,key 84 h2.2.2.1,key 87 h2.2.2.2⟩
theorem cellB_some {c:UInt8}{b:Bool}(h:cellB c=some b):(b=false/\(c=46\/c=71\/c=83))\/(b=true/\(c=64\/c=79\/c=84\/c=87)):=by
 unfold cellB at h
 split at h
 ·rename_i h1
  exact .inl ⟨by simpa using h.symm,h1⟩
 ·split at h
  ·rename_i h2
   exact .inr ⟨by simpa using h.symm,h2⟩
  ·cases h
set_option maxHeartbeats 1000000 in
theorem cellOf_none {c:UInt8}(h:cellB c=none)(w:World) :
  Calls Tryz.prog 170 #[.int .u8 c.toNat] w fun e w'=>e=.returned (.tuple #[.bool false,.bool false])/\w'=w:=by
 obtain ⟨h1,h2,h3,h4,h5,h6,h7⟩:=cellB_none h
 clear h
 generalize (c.toNat:Int)=n at *
 go_enter Tryz.func170,Tryz.ntmps170
 go_wp2
 go_ret2
 exact ⟨rfl,rfl⟩
set_option maxHeartbeats 1000000 in
theorem cellOf_some {c:UInt8}{b:Bool}(h:cellB c=some b)(w:World) :
  Calls Tryz.prog 170 #[.int .u8 c.toNat] w fun e w'=>e=.returned (.tuple #[.bool b,.bool true])/\w'=w:=by
 rcases cellB_some h with ⟨rfl,rfl|rfl|rfl⟩|⟨rfl,rfl|rfl|rfl|rfl⟩
 all_goals
  clear h
  go_enter Tryz.func170,Tryz.ntmps170
  go_wp2
  go_ret2
  exact ⟨rfl,rfl⟩
theorem Touch.trans {b:Nat}{u v w:World}(h:Touch b u v)(k:Touch b v w):Touch b u w :=
 ⟨k.os.trans h.os,k.tape.trans h.tape,k.output.trans h.output,k.size.trans h.size,fun i hi=>(k.other i hi).trans (h.other i hi)⟩
def cellsF (cs:List Bool) (i:Nat):Bool:=cs.getD i false
theorem cellsF_false (cs:List Bool):cellsF (cs++[false])=cellsF cs:=by
 funext i
 unfold cellsF
 simp only [List.getD_eq_getElem?_getD]
 rcases Nat.lt_trichotomy i cs.length with h|h|h
 ·rw [List.getElem?_append_left h]
 ·subst h
  simp
 ·rw [List.getElem?_eq_none (by simp;omega),List.getElem?_eq_none (by omega)]
theorem cellsF_true (cs:List Bool):upd (cellsF cs) cs.length true=cellsF (cs++[true]):=by
 funext i
 unfold upd cellsF
 simp only [List.getD_eq_getElem?_getD]
 rcases Nat.lt_trichotomy i cs.length with h|h|h
 ·rw [if_neg (by omega),List.getElem?_append_left h]
 ·subst h
  simp
 ·rw [if_neg (by omega),List.getElem?_eq_none (show cs.length<=i by omega),List.getElem?_eq_none (by rw [List.length_append];simp;omega)]
theorem cellsF_at (cs:List Bool):cellsF cs cs.length=false:=by
 unfold cellsF
 simp
def blocks (cs:List Bool):Nat:=cs.count true
theorem blocks_true (cs:List Bool):(blocks (cs++[true]):Int)=blocks cs+1:=by
 unfold blocks
 rw [List.count_append]
 simp
theorem blocks_false (cs:List Bool):blocks (cs++[false])=blocks cs:=by
 unfold blocks
 rw [List.count_append]
 simp
theorem blocks_le (cs:List Bool):blocks cs<=cs.length:=List.count_le_length
def CellsAt (w:World) (b:Nat) (W H:Nat) (cs:List Bool):Prop:=GridAt w b W H (blocks cs) (cellsF cs)/\Free w b
theorem rowB_take {row:List UInt8}{j:Nat}{a:List Bool}(h:rowB (row.take j)=some a)(hj:j<row.length):rowB (row.take (j+1))=(cellB row[j]).map (fun b=>a++[b]):=by
 have key:∀ (l:List UInt8) (a:List Bool) (c:UInt8),rowB l=some a->rowB (l++[c])=(cellB c).map fun b=>a++[b]:=by
  intro l
  induction l with
  |nil =>
   intro a c ha
   simp [rowB] at ha
   subst ha
   simp only [List.nil_append,rowB]
   cases cellB c <;> rfl
  |cons x l ih =>
   intro a c ha
   simp only [List.cons_append,rowB] at ha ⊢
   cases hx:cellB x with
   |none=>simp [hx] at ha
   |some b =>
    simp only [hx] at ha ⊢
    cases hl:rowB l with
    |none=>simp [hl] at ha
    |some m =>
     simp only [hl,Option.some.injEq] at ha
     subst ha
     rw [ih m c hl]
     cases cellB c <;> rfl
 rw [List.take_add_one,List.getElem?_eq_getElem hj]
 exact key _ _ _ h
theorem rowB_none {row:List UInt8}:∀ {j:Nat},rowB (row.take j)=none->rowB row=none:=by
 have key:∀ (l m:List UInt8),rowB l=none->rowB (l++m)=none:=by
  intro l m
  induction l with
  |nil=>intro h;simp [rowB] at h
  |cons x l ih =>
   intro h
   simp only [List.cons_append,rowB] at h ⊢
   cases hx:cellB x with
   |none=>simp
   |some b =>
    simp only [hx] at h ⊢
    cases hl:rowB l with
    |none=>rw [ih hl]
    |some q=>simp [hl] at h
 intro j h
 have:=key _ (row.drop j) h
 rwa [List.take_append_drop] at this
theorem inB_nat {W H c:Nat}(h:c<W*H):inB W H c=true:=decide_eq_true ⟨by omega,by rw [<- Int.natCast_mul];omega⟩
theorem set_false {b W H:Nat}{cs:List Bool}{i:Int}(hi:i=cs.length)(w:World)(g:CellsAt w b W H cs)(hlt:cs.length<W*H) :
  Calls Tryz.prog 70 #[.pointer (some ⟨b,0,none⟩),.int .i64 i,.bool false] w fun e w'=>e=.returned (.tuple #[.bool false,.nilIface])/\∃ m,w'=w.drewN m:=by
 subst hi
 exact set_same cs.length false w g.1 (inB_nat hlt) (cellsF_at cs)
theorem set_true {b W H:Nat}{cs:List Bool}{i:Int}(hi:i=cs.length)(w:World)(g:CellsAt w b W H cs)(hlt:cs.length<W*H)(hm:cs.length<=1000000) :
  Calls Tryz.prog 70 #[.pointer (some ⟨b,0,none⟩),.int .i64 i,.bool true] w fun e w'=>e=.returned (.tuple #[.bool true,.nilIface])/\Touch b w w'/\CellsAt w' b W H (cs++[true]):=by
 subst hi
 have hb:=blocks_le cs
 refine (set_new cs.length true w g.1 g.2 (inB_nat hlt) (cellsF_at cs) (by omega) (by omega)).mono fun e w' ⟨he,hT,hG,hF⟩=>⟨he,hT,?_,hF⟩
 rw [cellsF_true,<- blocks_true] at hG
 exact hG
theorem CellsAt.false {w:World}{b W H:Nat}{cs:List Bool}(g:CellsAt w b W H cs):CellsAt w b W H (cs++[false]):=by
 unfold CellsAt
 rw [cellsF_false,blocks_false]
 exact g
theorem CellsAt.drewN {w:World}{b W H:Nat}{cs:List Bool}(g:CellsAt w b W H cs)(m:Nat):CellsAt (w.drewN m) b W H cs:=⟨g.1.drewN m,g.2⟩
theorem idx_str (l:List UInt8)(j:Nat)(hj:j<l.length)(w:World):(Instr.index 9 (.string (str l)) (.int .i64 j)).run Tryz.prog w=.ok (.int .u8 (l[j]).toNat) w:=by
 rw [run_index_string w 9 (str l) .i64 j Tryz.underlying9,dif_pos ⟨by omega,by rw [str_size];omega⟩]
 congr 1
set_option maxHeartbeats 2000000 in
set_option maxRecDepth 100000 in
theorem fillRow_any {b W H:Nat}{cs:List Bool}(row:List UInt8)(w:World)(g:CellsAt w b W H cs)(hl:cs.length+row.length<=W*H) :
  Calls Tryz.prog 129 #[.pointer (some ⟨b,0,none⟩),.int .i64 cs.length,.string (str row)] w fun e w'=>e=.returned (.bool (rowB row).isSome)/\Touch b w w'/\(∀ a,rowB row=some a->CellsAt w' b W H (cs++a)):=by
 have w1:=g.1.w1
 have w2:=g.1.w2
 have h1:=g.1.h1
 have h2:=g.1.h2
 have k2:W*H<=16*16:=Nat.mul_le_mul (by omega) (by omega)
 have hsz:=str_size row
 obtain ⟨N,hN⟩:∃ N,W*H=N:=⟨_,rfl⟩
 have HN:Hid (W*H=N):=hN
 rw [hN] at hl k2
 clear hN
 go_enter Tryz.func129,Tryz.ntmps129
 go_wp2
 go_loopw [14] (fun i wr=>∃ (j:Nat) (a:List Bool),j<=row.length/\i=.int .i64 j/\rowB (row.take j)=some a/\Touch b w wr/\CellsAt wr b W H (cs++a))
  (fun i _=>row.length - (intOf i).toNat)
 case atStart=>exact ⟨0,[],by omega,rfl,rfl,Touch.refl b w,by simpa using g⟩
 case round =>
  obtain ⟨j,a,hj,rfl,ha,hT,hC⟩:=hrel
  by_cases hlt:j<row.length
  ·have hal:=rowB_len ha
   rw [List.length_take,Nat.min_eq_left hj] at hal
   have hcl:(cs++a).length=cs.length+j:=by rw [List.length_append,hal]
   have hta:=rowB_take ha hlt
   have hix:=idx_str row j hlt
   have hno:rowB (row.take (j+1))=none->rowB row=none:=rowB_none
   generalize row[j]=c at hta hix
   have hi:(cs.length:Int)+j=((cs++a).length:Nat):=by rw [hcl];omega
   have hin:(cs++a).length<W*H:=by rw [hcl,HN.out];omega
   have him:(cs++a).length<=1000000:=by rw [hcl];omega
   have HI:Hid ((cs.length:Int)+j=((cs++a).length:Nat)):=hi
   have j1:(0:Int)<=(cs.length:Int)+j/\(cs.length:Int)+j<=1000000:=by omega
   clear hi hcl hal
   cases hc:cellB c with
   |none =>
    have hbad:rowB row=none:=hno (by rw [hta,hc];rfl)
    clear hta
    go_wp2_with (first|(go_at_call 170;refine (cellOf_none hc _).mono ?_;rintro e w' ⟨rfl,rfl⟩)|(go_at_call 70;refine (set_false HI.out _ hC hin).mono ?_;rintro e w' ⟨rfl,m,rfl⟩))
    go_ret
    exact ⟨by rw [hbad];rfl,hT.drewN m,fun a' h'=>by rw [hbad] at h';cases h'⟩
   |some v =>
    rw [hc] at hta
    have HTA:Hid (rowB (row.take (j+1))=some (a++[v])):=hta
    clear hta
    cases v with
    |false =>
     go_wp2_with (first|(go_at_call 170;refine (cellOf_some hc _).mono ?_;rintro e w' ⟨rfl,rfl⟩)|(go_at_call 70;refine (set_false HI.out _ hC hin).mono ?_;rintro e w' ⟨rfl,m,rfl⟩))
     go_roundw
     case rel=>exact ⟨j+1,a++[false],by omega,by go_num,HTA.out,hT.drewN m,by rw [<- List.append_assoc];exact (hC.drewN m).false⟩
     case measure=>simp [intOf];omega
    |true =>
     go_wp2_with (first|(go_at_call 170;refine (cellOf_some hc _).mono ?_;rintro e w' ⟨rfl,rfl⟩)|(go_at_call 70;refine (set_true HI.out _ hC hin him).mono ?_;rintro e w3 ⟨rfl,T3,C3⟩))
     go_roundw
     case rel=>exact ⟨j+1,a++[true],by omega,by go_num,HTA.out,hT.trans T3,by rw [<- List.append_assoc];exact C3⟩
     case measure=>simp [intOf];omega
  ·have hjl:j=row.length:=by omega
   subst hjl
   rw [List.take_length] at ha
   go_wp2
   go_ret
   exact ⟨by rw [ha];rfl,hT,fun a' h'=>by rw [ha] at h';cases h';exact hC⟩
end
section
open Go.RowKit
theorem byteOf_any (b:Bool)(w:World) :
  Calls Tryz.prog 96 #[.bool b] w fun e w'=>e=.returned (.int .u8 (byteL (!b)).toNat)/\w'=w:=by
 cases b
 ·go_enter Tryz.func96,Tryz.ntmps96
  go_wp2
  go_ret
  exact ⟨rfl,rfl⟩
 ·go_enter Tryz.func96,Tryz.ntmps96
  go_wp2
  go_ret
  exact ⟨rfl,rfl⟩
def THolds (w:World) (b:Nat) (l:List UInt8):Prop:=Lib.IsBuilder 162 5 b b (Lib.byteCells l) w
theorem THolds.drewN {w:World}{b:Nat}{l:List UInt8}(h:THolds w b l)(m:Nat):THolds (w.drewN m) b l:=h
theorem THolds.lt {w:World}{b:Nat}{l:List UInt8}(h:THolds w b l):b<w.heap.size:=by
 rcases h with h|h
 ·exact h.lt
 ·exact h.lt
theorem put_string {b:Nat}{l:List UInt8}(s:List UInt8)(w:World)(h:THolds w b l)(hl:l.length+s.length<=1000000) :
  Calls Tryz.prog 94 #[.pointer (some ⟨b,0,none⟩),.string (str s)] w fun e w'=>e=.returned (.tuple #[.int .i64 s.length,.nilIface])/\THolds w' b (l++s)/\Below b w w' :=
 (writeString b b (Lib.byteCells l) (str s) w h (by rw [Lib.byteCells_length,str_size];exact hl) (Nat.le_of_lt h.lt)).mono fun e w' ⟨he,h1,h2⟩ =>
  ⟨by rw [he,str_size],by unfold THolds;rw [Lib.byteCells_append];exact h1,h2⟩
theorem put_byte {b:Nat}{l:List UInt8}(c:UInt8)(w:World)(h:THolds w b l)(hl:l.length+1<=1000000) :
  Calls Tryz.prog 95 #[.pointer (some ⟨b,0,none⟩),.int .u8 c.toNat] w fun e w'=>e=.returned .nilIface/\THolds w' b (l++[c])/\Below b w w' :=
 (writeByte b b (Lib.byteCells l) c.toNat w h (by rw [Lib.byteCells_length];exact hl) (Nat.le_of_lt h.lt)).mono fun e w' ⟨he,h1,h2⟩ =>
  ⟨he,by unfold THolds;rw [Lib.byteCells_append];exact h1,h2⟩
theorem put_nl {b:Nat}{l:List UInt8}(w:World)(h:THolds w b l)(hl:l.length+1<=1000000) :
  Calls Tryz.prog 95 #[.pointer (some ⟨b,0,none⟩),.int .u8 10] w fun e w'=>e=.returned .nilIface/\THolds w' b (l++[10])/\Below b w w':=put_byte 10 w h hl
theorem take_string {b:Nat}{l:List UInt8}(w:World)(h:THolds w b l) :
  Calls Tryz.prog 98 #[.pointer (some ⟨b,0,none⟩)] w fun e w'=>e=.returned (.string (str l))/\Below b w w' :=
 Tryz.Builder_String_any b b l w h (Nat.le_of_lt h.lt)
theorem holds_new (w w':World)(hb:Below (w.heap.size+1) (w.alloc (.cells #[.pointer none,.slice none 0 0] 162)) w'):THolds w' w.heap.size []:=by
 refine .inl ⟨Nat.le_refl _,.slice none 0 0,?_,?_,by simp [Value.ownBlock]⟩
 ·rw [hb.block _ (Nat.lt_succ_self _)]
  exact heap_alloc_new w _
 ·refine ⟨by simp [Lib.byteCells],.inl ⟨rfl,rfl⟩⟩
def upTo (a b c d:List UInt8) (j:Nat):List UInt8:=([a,b,c,d].take j).flatMap fun l=>l++[10]
theorem idx60 (v0 v1 v2 v3:Value)(w:World):(Instr.index 150 (.agg #[v0,v1,v2,v3]) (.int .i64 0)).run Tryz.prog w=.ok v0 w/\(Instr.index 150 (.agg #[v0,v1,v2,v3]) (.int .i64 1)).run Tryz.prog w=.ok v1 w/\(Instr.index 150 (.agg #[v0,v1,v2,v3]) (.int .i64 2)).run Tryz.prog w=.ok v2 w/\(Instr.index 150 (.agg #[v0,v1,v2,v3]) (.int .i64 3)).run Tryz.prog w=.ok v3 w :=
 ⟨by kernel_rfl,by kernel_rfl,by kernel_rfl,by kernel_rfl⟩
theorem headV_str (w h:Int):headV w h=#[.string (str typeW),.string (str (heightW++Lib.itoa h)),.string (str (widthW++Lib.itoa w)),.string (str mapW)]:=by
 unfold headV
 rw [str_append,str_append]
theorem headL_upTo (w h:Int):headL w h=upTo typeW (heightW++Lib.itoa h) (widthW++Lib.itoa w) mapW 4:=by
 unfold headL upTo
 simp
theorem headOf_v {W H:Int}{a b c d:List UInt8}(ha:typeW=a)(hb:heightW++Lib.itoa H=b)(hc:widthW++Lib.itoa W=c)(hd:mapW=d)(a0:-9223372036854775808<=W)(a1:W<=9223372036854775807)(b0:-9223372036854775808<=H)(b1:H<=9223372036854775807)(w:World)(E:Env w) :
  Calls Tryz.prog 93 #[.int .i64 W,.int .i64 H] w fun e w'=>e=.returned (.agg #[.string (str a),.string (str b),.string (str c),.string (str d)])/\Below w.heap.size w w':=by
 subst ha hb hc hd
 exact (headOf_any W H a0 a1 b0 b1 w E).mono fun e w' ⟨he,h⟩=>⟨by rw [he,headV_str],h⟩
theorem upTo_len {a b c d:List UInt8}{n:Nat}(ha:a.length<=n)(hb:b.length<=n)(hc:c.length<=n)(hd:d.length<=n)(j:Nat):(upTo a b c d j).length<=4*n+4:=by
 unfold upTo
 match j with
 |0=>simp
 |1=>simp;omega
 |2=>simp;omega
 |3=>simp;omega
 |j+4=>simp;omega
theorem rowsL_len (bl:Nat->Bool)(W y:Nat)(hw:W<=16)(hy:y<=16):(rowsL bl W y).length<=272:=by
 rw [rowsL_from,rowsFrom_len]
 have:y*(W+1)<=16*17:=Nat.mul_le_mul hy (by omega)
 omega
theorem rowL_snoc (bl:Nat->Bool)(c x:Nat):rowL bl c (x+1)=rowL bl c x++[byteL (bl (c+x))]:=by
 unfold rowL
 rw [List.range_succ,List.map_append]
 rfl
theorem open_nat {W H:Nat}{bl:Nat->Bool}{x y:Nat}(hx:x<W)(hy:y<H):openB W H bl x y=!bl (y*W+x):=by
 unfold openB
 rw [show atB W H x y=true from decide_eq_true (by omega),Bool.true_and]
 congr 2
theorem byteOf_v {b:Bool}{c:UInt8}(hc:byteL (!b)=c)(w:World) :
  Calls Tryz.prog 96 #[.bool b] w fun e w'=>e=.returned (.int .u8 c.toNat)/\w'=w:=hc ▸ byteOf_any b w
set_option maxHeartbeats 2000000 in
set_option maxRecDepth 100000 in
theorem print_any {b:Nat}{W H:Nat}{V:Int}{bl:Nat->Bool}(w:World)(E:Env w)(g:GridAt w b W H V bl)(hbw:b<w.heap.size) :
  Calls Tryz.prog 52 #[.pointer (some ⟨b,0,none⟩)] w fun e w'=>e=.returned (.string (str (printL bl W H)))/\Below w.heap.size w w':=by
 have w1:=g.w1
 have w2:=g.w2
 have h1:=g.h1
 have h2:=g.h2
 have i1:=itoa_len W (by omega) (by omega)
 have i2:=itoa_len H (by omega) (by omega)
 unfold printL
 rw [headL_upTo]
 obtain ⟨la,ea⟩:∃ l,typeW=l:=⟨_,rfl⟩
 obtain ⟨lb,eb⟩:∃ l,heightW++Lib.itoa H=l:=⟨_,rfl⟩
 obtain ⟨lc,ec⟩:∃ l,widthW++Lib.itoa W=l:=⟨_,rfl⟩
 obtain ⟨ld,ed⟩:∃ l,mapW=l:=⟨_,rfl⟩
 have na:la.length<=20:=by rw [<- ea];decide
 have nb:lb.length<=20:=by rw [<- eb,List.length_append];have:heightW.length=7:=rfl;omega
 have nc:lc.length<=20:=by rw [<- ec,List.length_append];have:widthW.length=6:=rfl;omega
 have nd:ld.length<=20:=by rw [<- ed];decide
 rw [ea,eb,ec,ed]
 have HA:Hid (typeW=la):=ea
 have HB:Hid (heightW++Lib.itoa H=lb):=eb
 have HC:Hid (widthW++Lib.itoa W=lc):=ec
 have HD:Hid (mapW=ld):=ed
 clear ea eb ec ed i1 i2
 have hul:=upTo_len na nb nc nd
 go_enter Tryz.func52,Tryz.ntmps52
 go_wp2_with (go_at_call 92;refine (size_any _ g).mono ?_;rintro e w' ⟨rfl,m,rfl⟩)
 have hba:Below w.heap.size w ((w.drewN m).alloc (.cells #[.pointer none,.slice none 0 0] 162)):=(below_drewN (Below.refl _ _) m).alloc (Nat.le_refl _) _
 go_wp2_with (go_at_call 93;refine (headOf_v HA.out HB.out HC.out HD.out (by omega) (by omega) (by omega) (by omega) _ (E.grown hba)).mono ?_)
 rintro e wa ⟨rfl,hb1⟩
 have sz1:=hb1.size
 simp only [World.size_alloc,World.heap_drewN] at sz1
 have hH:THolds wa w.heap.size []:=holds_new (w.drewN m) wa (by simpa using hb1)
 have hwa:Below w.heap.size w wa:=hba.trans (hb1.mono (by simp))
 clear hb1 hba E
 go_wp2
 go_loopw [18] (fun i wr=>∃ j:Nat,j<=4/\i=.int .i64 j/\THolds wr w.heap.size (upTo la lb lc ld j)/\Below w.heap.size w wr)
  (fun i _=>4 - (intOf i).toNat)
 case atStart=>exact ⟨0,by omega,rfl,hH,hwa⟩
 case round =>
  obtain ⟨j,hj,rfl,hh,hw⟩:=hrel
  have hl:=hul j
  obtain ⟨x0,x1,x2,x3⟩:_/\_/\_/\_:=⟨fun w=>(idx60 (.string (str la)) (.string (str lb)) (.string (str lc)) (.string (str ld)) w).1,fun w=>(idx60 (.string (str la)) (.string (str lb)) (.string (str lc)) (.string (str ld)) w).2.1,fun w=>(idx60 (.string (str la)) (.string (str lb)) (.string (str lc)) (.string (str ld)) w).2.2.1,fun w=>(idx60 (.string (str la)) (.string (str lb)) (.string (str lc)) (.string (str ld)) w).2.2.2⟩
  by_cases hlt:j<4
  ·have hcs:j=0\/j=1\/j=2\/j=3:=by omega
   rcases hcs with rfl|rfl|rfl|rfl
   ·go_wp2_with (first|(go_at_call 94;refine (put_string la _ hh (by omega)).mono ?_;rintro e w3 ⟨rfl,h3,b3⟩)|(go_at_call 95;refine (put_nl _ h3 (by simp;omega)).mono ?_;rintro e w4 ⟨rfl,h4,b4⟩))
    go_roundw
    case rel=>exact ⟨1,by omega,by go_num,by simpa [upTo] using h4,hw.trans (b3.trans b4)⟩
    case measure=>simp [intOf]
   ·go_wp2_with (first|(go_at_call 94;refine (put_string lb _ hh (by omega)).mono ?_;rintro e w3 ⟨rfl,h3,b3⟩)|(go_at_call 95;refine (put_nl _ h3 (by simp;omega)).mono ?_;rintro e w4 ⟨rfl,h4,b4⟩))
    go_roundw
    case rel=>exact ⟨2,by omega,by go_num,by simpa [upTo] using h4,hw.trans (b3.trans b4)⟩
    case measure=>simp [intOf]
   ·go_wp2_with (first|(go_at_call 94;refine (put_string lc _ hh (by omega)).mono ?_;rintro e w3 ⟨rfl,h3,b3⟩)|(go_at_call 95;refine (put_nl _ h3 (by simp;omega)).mono ?_;rintro e w4 ⟨rfl,h4,b4⟩))
    go_roundw
    case rel=>exact ⟨3,by omega,by go_num,by simpa [upTo] using h4,hw.trans (b3.trans b4)⟩
    case measure=>simp [intOf]
   ·go_wp2_with (first|(go_at_call 94;refine (put_string ld _ hh (by omega)).mono ?_;rintro e w3 ⟨rfl,h3,b3⟩)|(go_at_call 95;refine (put_nl _ h3 (by simp;omega)).mono ?_;rintro e w4 ⟨rfl,h4,b4⟩))
    go_roundw
    case rel=>exact ⟨4,by omega,by go_num,by simpa [upTo] using h4,hw.trans (b3.trans b4)⟩
    case measure=>simp [intOf]
  ·have:j=4:=by omega
   subst this
   clear x0 x1 x2 x3 hul hH hwa
   obtain ⟨U,hU⟩:∃ U,upTo la lb lc ld 4=U:=⟨_,rfl⟩
   rw [hU] at hh hl
   have HU:Hid (upTo la lb lc ld 4=U):=hU
   clear hU
   clear na nb nc nd HA HB HC HD
   rw [show ((4:Nat):Int)=4 from rfl]
   go_wp2
   go_loopw [26] (fun i wr=>∃ y:Nat,y<=H/\i=.int .i64 y/\THolds wr w.heap.size (U++rowsL bl W y)/\Below w.heap.size w wr)
    (fun i _=>H - (intOf i).toNat)
   case atStart=>exact ⟨0,by omega,rfl,by simpa [rowsL] using hh,hw⟩
   case round =>
    obtain ⟨y,hy,rfl,hh2,hw2⟩:=hrel
    have hR:=rowsL_len bl W y (by omega) (by omega)
    by_cases hylt:y<H
    ·have y1:(y:Int)<(H:Int):=by omega
     go_wp2
     go_loopw [30] (fun i wr=>∃ x:Nat,x<=W/\i=.int .i64 x/\THolds wr w.heap.size (U++rowsL bl W y++rowL bl (y*W) x)/\Below w.heap.size w wr)
      (fun i _=>W - (intOf i).toNat)
     case atStart=>exact ⟨0,by omega,rfl,by simpa [rowL] using hh2,hw2⟩
     case round =>
      obtain ⟨x,hx,rfl,hh3,hw3⟩:=hrel
      have hQ:=rowL_len bl (y*W) x
      have hlen:(U++rowsL bl W y++rowL bl (y*W) x).length+1<=1000000:=by
       rw [List.length_append,List.length_append,hQ]
       omega
      by_cases hxlt:x<W
      ·have x1:(x:Int)<(W:Int):=by omega
       have ho:=open_nat (bl:=bl) hxlt hylt
       have gr:=g.below hw3 hbw
       obtain ⟨c,hc⟩:∃ c,byteL (bl (y*W+x))=c:=⟨_,rfl⟩
       have hby:byteL (!(!bl (y*W+x)))=c:=by rw [Bool.not_not,hc]
       have hrs:U++rowsL bl W y++rowL bl (y*W) (x+1)=U++rowsL bl W y++rowL bl (y*W) x++[c]:=by rw [rowL_snoc,hc,<- List.append_assoc]
       have HRS:Hid (U++rowsL bl W y++rowL bl (y*W) (x+1)=U++rowsL bl W y++rowL bl (y*W) x++[c]):=hrs
       clear hrs hc
       generalize (!bl (y*W+x))=ob at ho hby
       go_wp2_with (first|(go_at_call 97;refine (open_v ho _ gr).mono ?_;rintro e w' ⟨rfl,m3,rfl⟩)|(go_at_call 96;refine (byteOf_v hby _).mono ?_;rintro e w' ⟨rfl,rfl⟩)|(go_at_call 95;refine (put_byte c _ (hh3.drewN m3) hlen).mono ?_;rintro e w4 ⟨rfl,h4,b4⟩))
       go_roundw
       case rel=>exact ⟨x+1,by omega,by go_num,by rw [HRS.out];exact h4,(below_drewN hw3 _).trans b4⟩
       case measure=>simp [intOf];omega
      ·have:x=W:=by omega
       subst this
       go_wp2_with (go_at_call 95;refine (put_nl _ hh3 hlen).mono ?_;rintro e w4 ⟨rfl,h4,b4⟩)
       go_roundw
       case rel=>exact ⟨y+1,by omega,by go_num,by simpa [rowsL] using h4,hw3.trans b4⟩
       case measure=>simp [intOf];omega
    ·have:y=H:=by omega
     subst this
     go_wp2_with (go_at_call 98;refine (take_string _ hh2).mono ?_;rintro e w4 ⟨rfl,b4⟩)
     go_ret
     exact ⟨by rw [HU.out];rfl,hw2.trans b4⟩
end
section
open Go.RowKit
theorem Touch.under {b:Nat}{w w':World}(h:Touch b w w'):Below b w w':=h.below (Below.refl _ _) (Nat.le_refl _)
theorem Env.touch {b:Nat}{w w':World}(h:Env w)(t:Touch b w w')(hb:8<=b):Env w':=h.below t.under hb
theorem cutL_len {s a b:List UInt8}(h:cutL s=some (a,b)):a.length+b.length+1=s.length:=by
 obtain ⟨e,_⟩:=cutL_some h
 rw [e]
 simp
 omega
theorem byte_nl:∀ (s:List UInt8),match cutL s with|none=>Lib.indexByte s 10=-1|some p=>Lib.indexByte s 10=(p.1.length:Int)
 |[]=>rfl
 |c::r=>by
  have ih:=byte_nl r
  unfold cutL
  by_cases hc:c=10
  ·rw [if_pos hc]
   subst hc
   simp [Lib.indexByte]
  ·rw [if_neg hc]
   have hb:(c == 10)=false:=by simpa using hc
   cases h:cutL r with
   |none =>
    rw [h] at ih
    simp only at ih ⊢
    unfold Lib.indexByte
    rw [hb,ih]
    rfl
   |some p =>
    rw [h] at ih
    simp only at ih ⊢
    unfold Lib.indexByte
    rw [hb,ih]
    have e:((p.1.length:Int) == -1)=false:=by
     rw [beq_eq_false_iff_ne]
     omega
    simp [e]
theorem index_v {s:List UInt8}{i:Int}(hi:Lib.indexByte s 10=i)(w:World) :
  Calls Tryz.prog 187 #[.string (str s),.string ⟨#[10]⟩] w fun e w'=>e=.returned (.int .i64 i)/\w'=w:=by
 subst hi
 exact Tryz.stringslite_Index_one (str s) 10 w
theorem ext_head (a b:List UInt8):(str (a++10::b)).extract 0 a.length=str a:=by
 rw [Lib.extract_eq,str_data]
 simp [str]
theorem ext_tail (a b:List UInt8)(n:Nat)(hn:n=a.length+1+b.length):(str (a++10::b)).extract (a.length+1) n=str b:=by
 subst hn
 rw [Lib.extract_eq,str_data]
 rw [show a.length+1+b.length - (a.length+1)=b.length by omega]
 simp [str]
set_option maxHeartbeats 2000000 in
set_option maxRecDepth 100000 in
theorem lcut_some {s a b:List UInt8}(h:cutL s=some (a,b))(hs:s.length<4294967281)(w:World) :
  Calls Tryz.prog 166 #[.string (str s),.string ⟨#[10]⟩] w fun e w'=>e=.returned (.tuple #[.string (str a),.string (str b),.bool true])/\∃ n,w'=w.drewN n:=by
 obtain ⟨e,_⟩:=cutL_some h
 have hi:=byte_nl s
 rw [h] at hi
 simp only at hi
 have HI:Hid (Lib.indexByte s 10=(a.length:Int)):=hi
 have hsz:=str_size s
 have hl:=cutL_len h
 have x1:(str s).extract 0 a.length=str a:=by rw [e];exact ext_head a b
 have x2:(str s).extract (a.length+1) s.length=str b:=by rw [e];exact ext_tail a b _ (by simp;omega)
 clear hi h e
 have s1:(⟨#[10]⟩:ByteArray).size=1:=rfl
 have c1:(0:Int)<=(a.length:Int):=by omega
 have c2:(a.length:Int)<=(s.length:Int):=by omega
 have c3:(0:Int)<=(a.length:Int)+1:=by omega
 have c4:(a.length:Int)+1<=(s.length:Int):=by omega
 have t1:((a.length:Int)+1).toNat=a.length+1:=by omega
 go_enter Tryz.func166,Tryz.ntmps166
 go_wp2_with (go_at_call 187;refine (index_v HI.out _).mono ?_;rintro e w' ⟨rfl,rfl⟩)
 go_quiet (fail)
 go_wp2
 go_ret3
 exact ⟨rfl,_,rfl⟩
set_option maxHeartbeats 2000000 in
set_option maxRecDepth 100000 in
theorem lcut_none {s:List UInt8}(h:cutL s=none)(w:World) :
  Calls Tryz.prog 166 #[.string (str s),.string ⟨#[10]⟩] w fun e w'=>e=.returned (.tuple #[.string (str s),.string (str []),.bool false])/\∃ n,w'=w.drewN n:=by
 have hi:=byte_nl s
 rw [h] at hi
 simp only at hi
 have HI:Hid (Lib.indexByte s 10=-1):=hi
 clear hi h
 go_enter Tryz.func166,Tryz.ntmps166
 go_wp2_with (go_at_call 187;refine (index_v HI.out _).mono ?_;rintro e w' ⟨rfl,rfl⟩)
 go_ret3
 exact ⟨rfl,0,rfl⟩
set_option maxHeartbeats 1000000 in
theorem cut_some {s a b:List UInt8}(h:cutL s=some (a,b))(hs:s.length<4294967281)(w:World)(_E:Env w) :
  Calls Tryz.prog 126 #[.string (str s),.string ⟨#[10]⟩] w fun e w'=>e=.returned (.tuple #[.string (str a),.string (str b),.bool true])/\∃ n,w'=w.drewN n:=by
 have H:Hid (cutL s=some (a,b)):=h
 clear h
 go_enter Tryz.func126,Tryz.ntmps126
 go_wp2_with (go_at_call 166;refine (lcut_some H.out hs _).mono ?_;rintro e w' ⟨rfl,m,rfl⟩)
 go_ret3
 exact ⟨rfl,_,rfl⟩
set_option maxHeartbeats 1000000 in
theorem cut_none {s:List UInt8}(h:cutL s=none)(_hs:s.length<4294967281)(w:World)(_E:Env w) :
  Calls Tryz.prog 126 #[.string (str s),.string ⟨#[10]⟩] w fun e w'=>e=.returned (.tuple #[.string (str s),.string (str []),.bool false])/\∃ n,w'=w.drewN n:=by
 have H:Hid (cutL s=none):=h
 clear h
 go_enter Tryz.func126,Tryz.ntmps126
 go_wp2_with (go_at_call 166;refine (lcut_none H.out _).mono ?_;rintro e w' ⟨rfl,m,rfl⟩)
 go_ret3
 exact ⟨rfl,_,rfl⟩
theorem fillRow_v {b W H:Nat}{cs:List Bool}{i:Int}{row:List UInt8}{r:Option (List Bool)}(hr:rowB row=r)(hi:i=cs.length)(w:World)(g:CellsAt w b W H cs)(hl:cs.length+row.length<=W*H) :
  Calls Tryz.prog 129 #[.pointer (some ⟨b,0,none⟩),.int .i64 i,.string (str row)] w fun e w'=>e=.returned (.bool r.isSome)/\Touch b w w'/\(∀ a,r=some a->CellsAt w' b W H (cs++a)):=by
 subst hr hi
 exact fillRow_any row w g hl
theorem toList_str (l:List UInt8):(str l).toList=l:=by
 rw [Lib.toList_data]
 rfl
theorem rowsB_step {W k:Nat}{rest row after:List UInt8}{x:List Bool}(hcut:cutL rest=some (row,after))(hw:row.length=W)(hro:rowB row=some x):rowsB W (k+1) rest=(rowsB W k after).map (fun l=>x++l):=by
 simp only [rowsB,hcut,hw,if_true,hro]
 cases rowsB W k after with
 |none=>rfl
 |some l=>rfl
set_option maxHeartbeats 2000000 in
set_option maxRecDepth 100000 in
theorem fill_any {b W H:Nat}(rows:List UInt8)(w:World)(E:Env w)(hb7:8<=b)(g:CellsAt w b W H [])(hl:rows.length<=1000) :
  Calls Tryz.prog 89 #[.pointer (some ⟨b,0,none⟩),.string (str rows)] w fun e w'=>e=.returned (.bool (rowsB W H rows).isSome)/\Touch b w w'/\(∀ a,rowsB W H rows=some a->CellsAt w' b W H a):=by
 have w1:=g.1.w1
 have w2:=g.1.w2
 have h1:=g.1.h1
 have h2:=g.1.h2
 go_enter Tryz.func89,Tryz.ntmps89
 go_wp2_with (go_at_call 92;refine (size_any _ g.1).mono ?_;rintro e w' ⟨rfl,m,rfl⟩)
 go_loopw [1,17] (fun r i wr=>∃ (y:Nat) (a:List Bool) (rest:List UInt8),y<=H/\i=.int .i64 y/\r=.string (str rest)/\Touch b w wr/\CellsAt wr b W H a/\a.length=y*W/\rowsB W H rows=(rowsB W (H - y) rest).map (fun l=>a++l)/\rest.length<=1000)
  (fun _ i _=>H - (intOf i).toNat)
 case atStart=>exact ⟨0,[],rows,by omega,rfl,rfl,(Touch.refl b w).drewN m,g.drewN m,by simp,by simp,hl⟩
 case round =>
  obtain ⟨y,a,rest,hy,rfl,rfl,hT,hC,hal,hrs,hrl⟩:=hrel
  have Er:=E.touch hT hb7
  by_cases hlt:y<H
  ·obtain ⟨k,hk⟩:∃ k,H - y=k+1:=⟨H - y - 1,by omega⟩
   have hk2:H - (y+1)=k:=by omega
   rw [hk] at hrs
   have y1:(y:Int)<(H:Int):=by omega
   have hyw:y*W+W<=W*H:=by
    have:=Nat.mul_le_mul_left W (show y+1<=H by omega)
    rw [Nat.mul_add,Nat.mul_comm W y] at this
    omega
   have hi:(y:Int)*(W:Int)=(a.length:Nat):=by rw [hal,Int.natCast_mul]
   have HI:Hid ((y:Int)*(W:Int)=(a.length:Nat)):=hi
   have j1:(0:Int)<=(y:Int)*W/\(y:Int)*W<=256:=by
    have:=Nat.mul_le_mul (show y<=16 by omega) (show W<=16 by omega)
    rw [<- Int.natCast_mul]
    omega
   clear hi
   cases hcut:cutL rest with
   |none =>
    have hbad:rowsB W H rows=none:=by rw [hrs];unfold rowsB;rw [hcut];rfl
    clear hrs
    go_wp2_with (go_at_call 126;refine (cut_none hcut (by omega) _ Er).mono ?_;rintro e w' ⟨rfl,m2,rfl⟩)
    go_ret
    exact ⟨by rw [hbad];rfl,hT.drewN m2,fun a' h'=>by rw [hbad] at h';cases h'⟩
   |some p =>
    obtain ⟨row,after⟩:=p
    have hcl:=cutL_len hcut
    have hsz:=str_size row
    by_cases hw:row.length=W
    ·cases hro:rowB row with
     |none =>
      have hbad:rowsB W H rows=none:=by rw [hrs];unfold rowsB;rw [hcut];simp [hw,hro]
      clear hrs
      go_wp2_with (first|(go_at_call 126;refine (cut_some hcut (by omega) _ Er).mono ?_;rintro e w' ⟨rfl,m2,rfl⟩)|(go_at_call 129;refine (fillRow_v hro HI.out _ (hC.drewN m2) (by rw [hal,hw];exact hyw)).mono ?_;rintro e w3 ⟨rfl,T3,C3⟩))
      go_ret
      exact ⟨by rw [hbad];rfl,(hT.drewN m2).trans T3,fun a' h'=>by rw [hbad] at h';cases h'⟩
     |some x =>
      have hxl:=rowB_len hro
      have hnx:rowsB W H rows=(rowsB W k after).map (fun l=>(a++x)++l):=by
       rw [hrs,rowsB_step hcut hw hro]
       cases rowsB W k after with
       |none=>rfl
       |some l=>simp
      have HX:Hid (rowsB W H rows=(rowsB W k after).map (fun l=>(a++x)++l)):=hnx
      clear hrs hnx
      go_wp2_with (first|(go_at_call 126;refine (cut_some hcut (by omega) _ Er).mono ?_;rintro e w' ⟨rfl,m2,rfl⟩)|(go_at_call 129;refine (fillRow_v hro HI.out _ (hC.drewN m2) (by rw [hal,hw];exact hyw)).mono ?_;rintro e w3 ⟨rfl,T3,C3⟩))
      go_roundw
      case rel=>exact ⟨y+1,a++x,after,by omega,by go_num,rfl,(hT.drewN m2).trans T3,C3 x rfl,by rw [List.length_append,hal,hxl,hw,Nat.succ_mul],by rw [hk2];exact HX.out,by omega⟩
      case measure=>simp [intOf];omega
    ·have hbad:rowsB W H rows=none:=by rw [hrs];unfold rowsB;rw [hcut];simp [hw]
     clear hrs
     have hne:((row.length:Int) == (W:Int))=false:=by rw [beq_eq_false_iff_ne];omega
     go_wp2_with (go_at_call 126;refine (cut_some hcut (by omega) _ Er).mono ?_;rintro e w' ⟨rfl,m2,rfl⟩)
     go_ret
     exact ⟨by rw [hbad];rfl,hT.drewN m2,fun a' h'=>by rw [hbad] at h';cases h'⟩
  ·have hyl:y=H:=by omega
   subst hyl
   rw [Nat.sub_self] at hrs
   have hts:=toList_str rest
   cases rest with
   |nil =>
    have hok:rowsB W y rows=some a:=by rw [hrs];simp [rowsB]
    clear hrs
    go_wp2
    go_ret
    exact ⟨by rw [hok];rfl,hT,fun a' h'=>by rw [hok] at h';cases h';exact hC⟩
   |cons c r =>
    have hbad:rowsB W y rows=none:=by rw [hrs];simp [rowsB]
    clear hrs
    go_wp2
    go_ret
    exact ⟨by rw [hbad];rfl,hT,fun a' h'=>by rw [hbad] at h';cases h'⟩
end
section
open Go.RowKit
theorem parts60 (v0 v1 v2 v3:Value)(_h0:v0.oneCell'=true)(w:World):(part 9 #[v0,v1,v2,v3] (0*1)).run Tryz.prog w=.ok v0 w/\(part 9 #[v0,v1,v2,v3] (1*1)).run Tryz.prog w=.ok v1 w/\(part 9 #[v0,v1,v2,v3] (2*1)).run Tryz.prog w=.ok v2 w/\(part 9 #[v0,v1,v2,v3] (3*1)).run Tryz.prog w=.ok v3 w :=
 ⟨by kernel_rfl,by kernel_rfl,by kernel_rfl,by kernel_rfl⟩
theorem cells9:Tryz.prog.cellsOf 9=1:=by kernel_rfl
theorem info9:(Tryz.prog.info? 9).isSome=true:=by kernel_rfl
theorem equalStr (d:Nat)(a b:ByteArray)(w:World):(Op.equalIn (d+1) 9 (.string a) (.string b)).run Tryz.prog w=.ok (a == b) w:=by
 simp [Op.equalIn,run_underlying Tryz.underlying9]
theorem items_step {P:Program}{d:Nat}{e:TypeId}{c i:Nat}{xs ys:Array Value}{is:List Nat}{a b:Value}{r:Bool}{w:World}(h1:(part e xs (i*c)).run P w=.ok a w)(h2:(part e ys (i*c)).run P w=.ok b w)(h3:(Op.equalIn d e a b).run P w=.ok r w) :
  (Op.eqItems d e c xs ys (i::is)).run P w=if r then (Op.eqItems d e c xs ys is).run P w else .ok false w:=by
 simp only [Op.eqItems,Sem.run_bind,h1,h2,h3,Result.andThen_ok]
 cases r <;> rfl
theorem eql60 (a0 a1 a2 a3 b0 b1 b2 b3:ByteArray)(w:World) :
  (binOp .eql 150 (.agg #[.string a0,.string a1,.string a2,.string a3]) (.agg #[.string b0,.string b1,.string b2,.string b3])).run Tryz.prog w=.ok (.bool (a0 == b0&&(a1 == b1&&(a2 == b2&&a3 == b3)))) w:=by
 obtain ⟨i,hi⟩:=Option.isSome_iff_exists.1 info9
 have h:(Op.equalIn (9999+1) 150 (.agg #[.string a0,.string a1,.string a2,.string a3]) (.agg #[.string b0,.string b1,.string b2,.string b3])).run Tryz.prog w=.ok (a0 == b0&&(a1 == b1&&(a2 == b2&&a3 == b3))) w:=by
  rw [run_equalIn_array w 9999 _ _ Tryz.underlying150 hi,cells9]
  obtain ⟨p0,p1,p2,p3⟩:=parts60 (.string a0) (.string a1) (.string a2) (.string a3) rfl w
  obtain ⟨q0,q1,q2,q3⟩:=parts60 (.string b0) (.string b1) (.string b2) (.string b3) rfl w
  have er:List.range 4=[0,1,2,3]:=rfl
  rw [er,items_step p0 q0 (equalStr 9998 a0 b0 w),items_step p1 q1 (equalStr 9998 a1 b1 w),items_step p2 q2 (equalStr 9998 a2 b2 w),items_step p3 q3 (equalStr 9998 a3 b3 w)]
  cases a0 == b0 <;> cases a1 == b1 <;> cases a2 == b2 <;> cases a3 == b3 <;> rfl
 simp only [binOp]
 simp [Op.equal,Op.maxDepth,h]
theorem beq_str (a b:List UInt8):(str a == str b)=decide (a=b):=by
 have h:(str a == str b)=(a.toArray == b.toArray):=rfl
 rw [h,Bool.eq_iff_iff,beq_iff_eq,decide_eq_true_eq]
 constructor
 ·intro h
  have:=congrArg Array.toList h
  simpa using this
 ·intro h
  rw [h]
theorem trim_v {l p r:List UInt8}(h:Lib.trimPrefix l p=r)(w:World) :
  Calls Tryz.prog 128 #[.string (str l),.string (str p)] w fun e w'=>e=.returned (.string (str r))/\w'=w:=by
 subst h
 exact Tryz.strings_TrimPrefix (str l) (str p) w
theorem trimH {l r:List UInt8}(h:Lib.trimPrefix l heightW=r)(w:World) :
  Calls Tryz.prog 128 #[.string (str l),.string ⟨#[104,101,105,103,104,116,32]⟩] w fun e w'=>e=.returned (.string (str r))/\w'=w:=trim_v h w
theorem trimW {l r:List UInt8}(h:Lib.trimPrefix l widthW=r)(w:World) :
  Calls Tryz.prog 128 #[.string (str l),.string ⟨#[119,105,100,116,104,32]⟩] w fun e w'=>e=.returned (.string (str r))/\w'=w:=trim_v h w
theorem atoi_ok {l:List UInt8}{v:Int}(h:Lib.atoiAll l=.ok v)(hl:l.length<=1000)(w:World) :
  Calls Tryz.prog 127 #[.string (str l)] w fun e w'=>e=.returned (.tuple #[.int .i64 v,.nilIface])/\Below w.heap.size w w' :=
 (Tryz.strconv_Atoi_ok (str l) (by rw [str_size];omega) v h w).mono fun e w' ⟨he,hw⟩=>⟨he,by
  rcases hw with rfl|⟨t,rfl⟩
  ·exact Below.refl _ _
  ·exact Lib.bytesWorld_below w 5 t⟩
end
end Go.Proofs.YtipbhlofbpnpjaaGreatDoor
