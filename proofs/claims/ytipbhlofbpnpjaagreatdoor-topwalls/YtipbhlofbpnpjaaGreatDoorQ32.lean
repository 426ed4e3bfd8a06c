/-
  Texts laid together: Nv1, Nv2, Conn, Sr9.
-/
import Derived.Test.YtipbhlofbpnpjaaGreatDoorQ31
import Derived.Test.YtipbhlofbpnpjaaGreatDoorQ12
import Derived.Test.YtipbhlofbpnpjaaGreatDoorQ30
import Derived.Test.YtipbhlofbpnpjaaGreatDoorQ22
import Derived.Deep.RegionHeld3
namespace Go.Proofs.YtipbhlofbpnpjaaGreatDoor
section
open Go.RowKit
set_option maxHeartbeats 400000 in
theorem gs' {gc xc yc M:Nat}{n x y tx ty S D:Int}{ev:Value}(w:World) (cg:w.cell? ⟨gc,0,none⟩=some (.pointer (some ⟨M,0,none⟩))) (cx:w.cell? ⟨xc,0,none⟩=some (.int .i64 tx)) (cy:w.cell? ⟨yc,0,none⟩=some (.int .i64 ty))
  (hP:∀ w',Below w.heap.size w w'->Calls Tryz.prog 76 #[.pointer (some ⟨M,0,none⟩),.int .i64 n] w' fun e w''=>e=.returned (.tuple #[.int .i64 x,.int .i64 y,ev])/\∃ m,w''=w'.drewN m)
  (ho:∀ w,Calls Tryz.prog 78 #[.int .i64 x,.int .i64 y,.int .i64 tx,.int .i64 ty] w fun e w'=>e=.returned (.agg #[.int .i64 S,.int .i64 D])/\Below w.heap.size w w') :
  Calls Tryz.prog 77 #[.int .i64 n,.pointer (some ⟨gc,0,none⟩),.pointer (some ⟨xc,0,none⟩),.pointer (some ⟨yc,0,none⟩)] w fun e w'=>e=.returned (.agg #[.int .i64 S,.int .i64 D])/\Below w.heap.size w w':=by
 have lx:=World.block_lt_of_cell? _ _ cx
 have ly:=World.block_lt_of_cell? _ _ cy
 have sl:=Slot.new w 0 0
 have B0:Below w.heap.size w (w.alloc (.cells #[.int .i64 0,.int .i64 0] 38)):=(Below.refl _ _).alloc (Nat.le_refl _) _
 have cg:=(B0.cell (World.block_lt_of_cell? _ _ cg)).trans cg
 go_enter Tryz.func77,Tryz.ntmps77
 go_wp2_with fail
 refine (hP _ B0).mono ?_
 rintro e w1 ⟨rfl,m1,hw1⟩
 have B1:Below w.heap.size w w1:=by rw [hw1];exact below_drewN B0 _
 have sl1:Slot w1 w.heap.size 0 0:=by rw [hw1];exact sl.below (below_drewN (Below.refl _ _) _)
 have cx1:=(B1.cell lx).trans cx
 have cy1:=(B1.cell ly).trans cy
 clear hw1 sl B0 hP cg cx cy
 go_wp2_with fail
 refine (ho _).mono ?_
 rintro e w3 ⟨rfl,hb3⟩
 have B3:=B1.trans (hb3.mono B1.size)
 have sl3:=sl1.below hb3
 have c0:=sl3.c0
 have c1:=sl3.c1
 have z0:=sl3.z0
 have z1:=sl3.z1
 clear hb3 sl1 B1 ho cx1 cy1
 go_wp2
 have q:=setTwo w3 w.heap.size S D c0 c1
 have hd:=q.1
 have ht:=q.2
 refine bodyPost_ret (v:=.agg #[.int .i64 S,.int .i64 D]) (by simp [results,Tryz.results77,go_sem,hd,ht]) rfl ⟨rfl,?_⟩
 exact (B3.setCell (p:=⟨w.heap.size,0,none⟩) (Nat.le_refl _) _).setCell (p:=⟨w.heap.size,1,none⟩) (Nat.le_refl _) _
theorem gs_call {gc xc yc M:Nat}{W H V tz n:Int}{bl:Nat->Bool}(w:World) (cg:w.cell? ⟨gc,0,none⟩=some (.pointer (some ⟨M,0,none⟩))) (cx:w.cell? ⟨xc,0,none⟩=some (.int .i64 (tz % W))) (cy:w.cell? ⟨yc,0,none⟩=some (.int .i64 (tz / W))) (g:GridAt w M W H V bl) (hz:inB W H tz=true) :
  Calls Tryz.prog 77 #[.int .i64 n,.pointer (some ⟨gc,0,none⟩),.pointer (some ⟨xc,0,none⟩),.pointer (some ⟨yc,0,none⟩)] w fun e w'=>e=.returned (.agg #[.int .i64 (gsN W H tz n).1,.int .i64 (gsN W H tz n).2])/\Below w.heap.size w w':=by
 have hM:=World.block_lt_of_cell? _ _ g.c0
 obtain ⟨u1,u2,v1,v2⟩:=place_bd g.w1 hz
 have gw:=g.w2
 have gh:=g.h2
 unfold gsN
 by_cases hn:inB W H n=true
 ·rw [if_pos hn]
  obtain ⟨x1,x2,y1,y2⟩:=place_bd g.w1 hn
  exact gs' w cg cx cy (fun w' hB=>place_in n w' (g.below hB hM) hn) (fun w=>oct_any _ _ _ _ w (near_place (by omega) (by omega)) (near_place (by omega) (by omega)) (near_place (by omega) (by omega)) (near_place (by omega) (by omega)))
 ·rw [if_neg hn]
  have hn':inB W H n=false:=by simpa using hn
  have ho:∀ w,Calls Tryz.prog 78 #[.int .i64 0,.int .i64 0,.int .i64 (tz % W),.int .i64 (tz / W)] w fun e w'=>e=.returned (.agg #[.int .i64 (octS W 0 tz),.int .i64 (octD W 0 tz)])/\Below w.heap.size w w':=fun w=>by
   have h:=oct_any 0 0 (tz % W) (tz / W) w (near_place (by omega) (by omega)) (near_place (by omega) (by omega)) (near_place (by omega) (by omega)) (near_place (by omega) (by omega))
   unfold octS octD
   rw [Int.zero_emod,Int.zero_ediv]
   exact h
  exact gs' w cg cx cy (fun w' hB=>place_out n w' (g.below hB hM) hn') ho
theorem gs_ok {gc xc yc M:Nat}{W H V tz:Int}{bl:Nat->Bool}(w0:World) (cg:w0.cell? ⟨gc,0,none⟩=some (.pointer (some ⟨M,0,none⟩))) (cx:w0.cell? ⟨xc,0,none⟩=some (.int .i64 (tz % W))) (cy:w0.cell? ⟨yc,0,none⟩=some (.int .i64 (tz / W))) (g:GridAt w0 M W H V bl) (hz:inB W H tz=true) :
  GsOk w0 w0.heap.size 77 [.pointer (some ⟨gc,0,none⟩),.pointer (some ⟨xc,0,none⟩),.pointer (some ⟨yc,0,none⟩)] (gsN W H tz) :=
 ⟨fun args w=>by kernel_rfl,fun w n hB _=>by
  have k:∀ {a:Addr}{v:Value},w0.cell? a=some v->w.cell? a=some v:=fun {a v} h=>(hB.cell (World.block_lt_of_cell? w0 a h)).trans h
  exact gs_call w (k cg) (k cx) (k cy) (g.below hB (World.block_lt_of_cell? _ _ g.c0)) hz⟩
def GsAt (w:World) (gc xc yc M:Nat) (W tz:Int):Prop:=w.cell? ⟨gc,0,none⟩=some (.pointer (some ⟨M,0,none⟩))/\w.cell? ⟨xc,0,none⟩=some (.int .i64 (tz % W))/\w.cell? ⟨yc,0,none⟩=some (.int .i64 (tz / W))
set_option maxHeartbeats 400000 in
theorem guessTo_any {M:Nat}{W H V tz:Int}{bl:Nat->Bool}(w:World) (g:GridAt w M W H V bl) (hz:inB W H tz=true) :
  Calls Tryz.prog 43 #[.pointer (some ⟨M,0,none⟩),.int .i64 tz] w fun e w'=>∃ gc xc yc,e=.returned (.func (.func 77) #[] #[.pointer (some ⟨gc,0,none⟩),.pointer (some ⟨xc,0,none⟩),.pointer (some ⟨yc,0,none⟩)])/\GsAt w' gc xc yc M W tz/\Below w.heap.size w w':=by
 have hM:=World.block_lt_of_cell? _ _ g.c0
 have b0:Below w.heap.size w (w.alloc (.cells #[.pointer (some ⟨M,0,none⟩)] 85)):=(Below.refl _ _).alloc (Nat.le_refl _) _
 have q0:(w.alloc (.cells #[.pointer (some ⟨M,0,none⟩)] 85)).cell? ⟨w.heap.size,0,none⟩=some (.pointer (some ⟨M,0,none⟩)):=World.cell?_alloc_at #[.pointer (some ⟨M,0,none⟩)] 85 w.heap.size 0 rfl
 have hp:=place_in tz _ (g.below b0 hM) hz
 go_enter Tryz.func43,Tryz.ntmps43
 go_wp2_with fail
 refine hp.mono ?_
 rintro e w1 ⟨rfl,m1,hw1⟩
 have B1:Below w.heap.size w w1:=by rw [hw1];exact below_drewN b0 _
 have q1:w1.cell? ⟨w.heap.size,0,none⟩=some (.pointer (some ⟨M,0,none⟩)):=by rw [hw1];exact q0
 clear hp q0 b0 hw1
 go_wp2
 go_ret
 refine ⟨_,_,_,rfl,⟨?_,?_,?_⟩,(B1.alloc B1.size _).alloc (by have:=B1.size;simp;omega) _⟩
 ·have l1:=World.block_lt_of_cell? _ _ q1
  have l1:w.heap.size < w1.heap.size:=l1
  rw [World.cell?_alloc_old _ _ _ (by simp;omega),World.cell?_alloc_old _ _ _ (Nat.ne_of_lt l1)]
  exact q1
 ·rw [World.cell?_alloc_old _ _ _ (by simp)]
  exact World.cell?_alloc_at #[.int .i64 (tz % W)] 3 w1.heap.size 0 rfl
 ·exact World.cell?_alloc_at (w:=w1.alloc (.cells #[.int .i64 (tz % W)] 3)) #[.int .i64 (tz / W)] 3 (w1.heap.size+1) 0 (by simp)
structure An (w:World) (B:Nat) (v:Value) (s d e:Int):Prop where
 c0:w.cell? ⟨B,0,none⟩=some v
 c1:w.cell? ⟨B,1,none⟩=some (.int .i64 s)
 c2:w.cell? ⟨B,2,none⟩=some (.int .i64 d)
 c3:w.cell? ⟨B,3,none⟩=some (.int .i64 e)
 z0:w.frozen? ⟨B,0,none⟩=false
 z1:w.frozen? ⟨B,1,none⟩=false
 z2:w.frozen? ⟨B,2,none⟩=false
 z3:w.frozen? ⟨B,3,none⟩=false
theorem An.keep {F:Nat->Prop}{w w':World}{B:Nat}{v:Value}{s d e:Int}(h:An w B v s d e) (K:Keep F w w') (hn:¬ F B):An w' B v s d e:=by
 have hB:=World.block_lt_of_cell? w _ h.c0
 exact ⟨K.cellOf h.c0 hn,K.cellOf h.c1 hn,K.cellOf h.c2 hn,K.cellOf h.c3 hn,(K.frozen (p:=⟨B,0,none⟩) hB hn).trans h.z0,(K.frozen (p:=⟨B,1,none⟩) hB hn).trans h.z1,(K.frozen (p:=⟨B,2,none⟩) hB hn).trans h.z2,(K.frozen (p:=⟨B,3,none⟩) hB hn).trans h.z3⟩
theorem An.below {w w':World}{B:Nat}{v:Value}{s d e:Int}(h:An w B v s d e) (hb:Below w.heap.size w w'):An w' B v s d e:=h.keep (F:=fun _=>False) (Keep.of_below hb) id
theorem An.new (w:World) (v:Value) (s d e:Int):An (w.alloc (.cells #[v,.int .i64 s,.int .i64 d,.int .i64 e] 41)) w.heap.size v s d e:=by
 have k:∀ o,(w.alloc (.cells #[v,.int .i64 s,.int .i64 d,.int .i64 e] 41)).cell? ⟨w.heap.size,o,none⟩=#[v,.int .i64 s,.int .i64 d,.int .i64 e][o]? := fun o=>World.cell?_alloc_new ..
 have f:=free_alloc w #[v,.int .i64 s,.int .i64 d,.int .i64 e] 41 w.heap.size (Nat.le_refl _)
 exact ⟨k 0,k 1,k 2,k 3,f 0,f 1,f 2,f 3⟩
theorem An.set {w:World}{B:Nat}{v0:Value}{s0 d0 e0:Int}(A:An w B v0 s0 d0 e0) (v:Value) (s d e:Int):An ((((w.setCell ⟨B,0,none⟩ v).setCell ⟨B,1,none⟩ (.int .i64 s)).setCell ⟨B,2,none⟩ (.int .i64 d)).setCell ⟨B,3,none⟩ (.int .i64 e)) B v s d e:=by
 have ne:∀ {i j:Nat},i≠j->(⟨B,i,none⟩:Addr)≠⟨B,j,none⟩:=fun h q=>h (Addr.mk.inj q).2.1
 refine ⟨?_,?_,?_,?_,by simpa using A.z0,by simpa using A.z1,by simpa using A.z2,by simpa using A.z3⟩
 ·rw [World.cell?_setCell_other _ _ _ _ (ne (by decide)),World.cell?_setCell_other _ _ _ _ (ne (by decide)),World.cell?_setCell_other _ _ _ _ (ne (by decide))]
  exact World.cell?_setCell_same _ _ _ A.c0
 ·rw [World.cell?_setCell_other _ _ _ _ (ne (by decide)),World.cell?_setCell_other _ _ _ _ (ne (by decide))]
  refine World.cell?_setCell_same _ _ _ (u:=.int .i64 s0) ?_
  rw [World.cell?_setCell_other _ _ _ _ (ne (by decide))]
  exact A.c1
 ·rw [World.cell?_setCell_other _ _ _ _ (ne (by decide))]
  refine World.cell?_setCell_same _ _ _ (u:=.int .i64 d0) ?_
  rw [World.cell?_setCell_other _ _ _ _ (ne (by decide)),World.cell?_setCell_other _ _ _ _ (ne (by decide))]
  exact A.c2
 ·refine World.cell?_setCell_same _ _ _ (u:=.int .i64 e0) ?_
  rw [World.cell?_setCell_other _ _ _ _ (ne (by decide)),World.cell?_setCell_other _ _ _ _ (ne (by decide)),World.cell?_setCell_other _ _ _ _ (ne (by decide))]
  exact A.c3
theorem an_keep (w:World) (B:Nat) (v:Value) (s d e:Int):Keep (fun k=>k=B) w ((((w.setCell ⟨B,0,none⟩ v).setCell ⟨B,1,none⟩ (.int .i64 s)).setCell ⟨B,2,none⟩ (.int .i64 d)).setCell ⟨B,3,none⟩ (.int .i64 e)) :=
 ((((Keep.refl (fun k=>k=B) w).setCell (p:=⟨B,0,none⟩) (fun _=>rfl) _).setCell (p:=⟨B,1,none⟩) (fun _=>rfl) _).setCell (p:=⟨B,2,none⟩) (fun _=>rfl) _).setCell (p:=⟨B,3,none⟩) (fun _=>rfl) _
theorem an_below {w0 w:World}{N B:Nat}(h:Below N w0 w) (hB:N<=B) (v:Value) (s d e:Int):Below N w0 ((((w.setCell ⟨B,0,none⟩ v).setCell ⟨B,1,none⟩ (.int .i64 s)).setCell ⟨B,2,none⟩ (.int .i64 d)).setCell ⟨B,3,none⟩ (.int .i64 e)) :=
 (((h.setCell (p:=⟨B,0,none⟩) hB _).setCell (p:=⟨B,1,none⟩) hB _).setCell (p:=⟨B,2,none⟩) hB _).setCell (p:=⟨B,3,none⟩) hB _
end
section
open Go.RowKit Go.Lib
theorem nrc_at {W H:Int}{bl:Nat->Bool}:∀ {st:List Nat}{a i:Nat},NrC W H bl a st->i < st.length->∃ t,st[i]? = some t/\(∃ z,On W H bl (((st.take i).getLast?).getD a:Nat) (t:Int) z)/\ff2 W H bl (((st.take i).getLast?).getD a:Nat) t=0
 | [],_,i,_,hi=>absurd hi (Nat.not_lt_zero i)
 | t::st,a,0,⟨h1,h2,_⟩,_=>⟨t,rfl,h1,h2⟩
 | t::st,a,i+1,⟨_,_,h3⟩,hi=>by
   obtain ⟨t',k1,k2⟩:=nrc_at h3 (Nat.lt_of_succ_lt_succ hi)
   have e:(((t::st).take (i+1)).getLast?).getD a=((st.take i).getLast?).getD t:=by
    rw [List.take_succ_cons]
    cases hq:st.take i with
    | nil=>rfl
    | cons y l =>
      have e2:(t::y::l).getLast? = (y::l).getLast? := by simp
      rw [e2]
      cases hq2:(y::l).getLast? with
      | none=>simp at hq2
      | some z=>rfl
   rw [e]
   exact ⟨t',k1,k2⟩
theorem take_next {st:List Nat}{i t:Nat}(h:st[i]? = some t):st.take (i+1)=st.take i++[t]:=by
 obtain ⟨hi,he⟩:=List.getElem?_eq_some_iff.1 h
 rw [List.take_succ_eq_append_getElem hi,he]
theorem last_snoc (l:List Nat) (t a:Nat):((l++[t]).getLast?).getD a=t:=by simp
set_option maxHeartbeats 4000000 in
set_option maxRecDepth 1000000 in
theorem njoin_any {b gl cap:Nat}{W H V:Int}{bl:Nat->Bool}{a:Nat}{st:List Nat}(w:World) (g:GridAt w b W H V bl) (s:StepsAt w) (d:DiagAt w) (hr:RowN w gl 0 st) (hn:NrC W H bl a st) (hl:st.length<=50000) :
  Calls Tryz.prog 81 #[.pointer (some ⟨b,0,none⟩),.int .i64 (a:Int),.slice (some ⟨gl,0,none⟩) st.length cap] w fun e w'=>∃ v l,e=.returned v/\w'.ownsRow w.heap.size 3 1 v (a::l).length (vals (a::l))/\JnR W H bl a st l/\l.length<=64*st.length/\Below w.heap.size w w':=by
 obtain ⟨i0,hi,hz0,hz1,hz2⟩:=info_parts Tryz.info3
 have hb:=World.block_lt_of_cell? _ _ g.c0
 have hsp:=s.pos
 have b0:Below w.heap.size w (w.alloc (.cells #[.int .i64 (a:Int)] 3)):=(Below.refl _ _).alloc (Nat.le_refl _) _
 have own0:(w.alloc (.cells #[.int .i64 (a:Int)] 3)).ownsRow w.heap.size 3 1 (.slice (some ⟨w.heap.size,0,none⟩) 1 1) [a].length (vals [a]):=World.ownsRow_lit w #[.int .i64 (a:Int)] 1 (Nat.le_refl _) (by unfold maxLen;omega) rfl
 have HN:Hid (NrC W H bl a st):=hn
 have HR:Hid (RowN w gl 0 st):=hr
 clear hn hr
 go_enter Tryz.func81,Tryz.ntmps81
 go_wp2
 go_loopw [1,7,16] (fun fv v iv wr=>∃ (i c:Nat) (l:List Nat),i<=st.length/\iv=.int .i64 i/\fv=.int .i64 (c:Int)/\Hid (c=((st.take i).getLast?).getD a)/\wr.ownsRow w.heap.size 3 1 v (a::l).length (vals (a::l))/\Hid (JnR W H bl a (st.take i) l)/\l.length<=64*i/\Below w.heap.size w wr)
  (fun _ _ i _=>st.length - (intOf i).toNat)
 case atStart=>exact ⟨0,a,[],Nat.zero_le _,rfl,rfl,rfl,own0,rfl,Nat.zero_le _,b0⟩
 case round =>
  clear own0 b0
  obtain ⟨i,c,l,hil,rfl,rfl,hc,own,hj,hll,hB⟩:=hrel
  obtain ⟨gw,capw,rfl,_,hgw,hgw',hcw,hcw'⟩:=rowN_of own (by simp)
  by_cases hlt:i < st.length
  ·obtain ⟨t,ht,hon,hff⟩:=nrc_at HN.out hlt
   have hc':=hc.out
   rw [<- hc'] at hon hff
   have q0:=(HR.out.below hB) i _ (vals_at ht)
   rw [Addr.add_lit,Nat.zero_add] at q0
   have hw:=rway_ok c (t:Int) wr (g.below hB hb) (s.below hB (by omega)) (d.below hB) (Nat.lt_of_lt_of_le hb hB.size) hff hon
   have HT:Hid (st.take (i+1)=st.take i++[t]):=take_next ht
   have i1:(i:Int) < (st.length:Int):=by omega
   have z1:=hB.size
   clear hc' hon hff ht
   go_wp2_with fail
   refine hw.mono ?_
   rintro e w3 ⟨v3,l2,rfl,own3,hch,hl2,B3⟩
   obtain ⟨g3,cap3,rfl,row3,hg3,hg3',hc3,hc3'⟩:=rowN_of own3 (by simp)
   have own4:=own_below own B3
   have B4:=hB.trans (B3.mono hB.size)
   have row4:=row3.tail
   have z4:=B4.size
   simp only [List.length_cons] at hc3 own4 hcw ⊢
   simp only [List.tail_cons,Nat.zero_add] at row4
   have HJ:Hid (JnR W H bl a (st.take (i+1)) (l++l2)):=by
    show JnR W H bl a (st.take (i+1)) (l++l2)
    rw [HT.out]
    refine JnR.snoc hj.out ?_
    rw [<- hc.out]
    exact hch
   have HC:Hid (t=((st.take (i+1)).getLast?).getD a):=by
    show t=((st.take (i+1)).getLast?).getD a
    rw [HT.out,last_snoc]
   clear hw hch own3 own row3 hB B3 hj hc q0
   rcases Nat.eq_zero_or_pos l2.length with h0 | h0
   ·have e0:l2=[]:=List.length_eq_zero_iff.1 h0
    subst e0
    simp only [List.length_nil,Nat.zero_add] at hc3
    rcases Decidable.em (cap3=1) with hcc | hcc
    ·subst hcc
     go_wp2
     go_roundw
     case rel=>exact ⟨i+1,t,l,by omega,by go_num,rfl,HC.out,own4,by have:=HJ.out;rwa [List.append_nil] at this,by omega,B4⟩
     case measure=>simp [intOf];omega
    ·have hc2:1 < cap3:=by omega
     go_wp2
     go_roundw
     case rel=>exact ⟨i+1,t,l,by omega,by go_num,rfl,HC.out,own4,by have:=HJ.out;rwa [List.append_nil] at this,by omega,B4⟩
     case measure=>simp [intOf];omega
   ·go_wp2_with (at_builtin;refine wpList_append_own _ rfl _ _ 22 rfl w.heap.size 3 i0 (.int .i64 0) 1 8 Tryz.underlying22 hi hz0 hz1 hz2 rfl (by decide) _ _ _ rfl own4 ⟨g3,1,none⟩ l2.length (cap3 - 1) (vals l2) rfl ?c0 row4 (vals_one _) ?c3 ?c4 ?c5 ?_)
    case c0=>rw [vals_len];omega
    case c3=>unfold maxLen;omega
    case c4=>omega
    case c5=>exact z4
    intro v' w6 hown' hgrow _
    have B6:Below w.heap.size w w6:=B4.grown hgrow z4 (fun q hq=>(own4.lt q hq).1)
    have O6:w6.ownsRow w.heap.size 3 1 v' (a::(l++l2)).length (vals (a::(l++l2))):=by
     have e1:(a::(l++l2)).length=l.length+1+l2.length:=by simp;omega
     have e2:vals (a::(l++l2))=vals (a::l)++vals l2:=by simp [vals]
     rw [e1,e2]
     exact hown'
    clear hown' hgrow own4
    go_wp2
    go_roundw
    case rel=>exact ⟨i+1,t,l++l2,by omega,by go_num,rfl,HC.out,O6,HJ.out,by rw [List.length_append];omega,B6⟩
    case measure=>simp [intOf];omega
  ·have e:i=st.length:=by omega
   subst e
   have hj':=hj.out
   rw [List.take_length] at hj'
   have HJ:Hid (JnR W H bl a st l):=hj'
   clear hj hj' hc
   go_wp2
   go_ret
   exact ⟨_,l,rfl,own,HJ.out,hll,hB⟩
end
section
open Go.RowKit Go.Maps
set_option maxHeartbeats 2000000 in
set_option maxRecDepth 1000000 in
theorem find_conn {b rb:Nat}{W H V a:Int}{bl:Nat->Bool}{p:Int->Bool}(w:World) (g:GridAt w b W H V bl) (s:StepsAt w) (hb:b < w.heap.size) (ha:inB W H a=true) (hfree:bl a.toNat=false)
  (hC:∀ (w':World) (n:Int),Below w.heap.size w w'->inB W H n=true->Calls Tryz.prog 111 #[.int .i64 n,.pointer (some ⟨rb,0,none⟩)] w' fun e w''=>e=.returned (.bool (p n))/\Below w'.heap.size w' w'') :
  Calls Tryz.prog 110 #[.pointer (some ⟨b,0,none⟩),.int .i64 a,.func (.func 111) #[] #[.pointer (some ⟨rb,0,none⟩)]] w fun e w'=>∃ v l,e=.returned v/\w'.ownsRow w.heap.size 207 4 v l.length (edgesV W a l)/\(l.Pairwise (· < ·)/\∀ n:Nat,n ∈ l↔Dir W H bl a n/\p n=true)/\Below w.heap.size w w':=by
 obtain ⟨i0,hi,hz0,hz1,hz2⟩:=info_parts Tryz.infoE
 have gw1:=g.w1
 have hwh:=wh_bd g.w1 g.w2 g.h1 g.h2
 have h1:=alldir_ok w g s hb ha hfree
 go_enter Tryz.func110,Tryz.ntmps110
 go_wp2_with fail
 refine h1.mono ?_
 rintro e w1 ⟨v1,L,rfl,hown1,⟨hrise,hmem⟩,hb1⟩
 obtain ⟨A,cap,rfl,_⟩:=row_of hown1
 have HM:Hid (∀ n:Nat,n ∈ L↔Dir W H bl a n):=hmem
 have HR:Hid (L.Pairwise (· < ·)):=hrise
 have hin:∀ n ∈ L,inB W H (n:Int)=true/\n < 256:=fun n hn=>by
  have h:=((HM.out n).1 hn).in gw1 ha
  have:0<=(n:Int)/\(n:Int) < W*H:=of_decide_eq_true h
  exact ⟨h,by omega⟩
 have hLL:L.length<=256:=nodup_len 256 (hrise.imp (fun h e=>by omega)) (fun n hn=>(hin n hn).2)
 have HIN:Hid (∀ n ∈ L,inB W H (n:Int)=true/\n < 256):=hin
 have hz1':=hb1.size
 clear h1 hmem hrise hin
 go_wp2
 go_loopw [7,20] (fun fv iv wr=>∃ k:Nat,k<=L.length/\iv=.int .i64 k/\wr.ownsRow w.heap.size 207 4 fv (pick p L k).length (edgesV W a (pick p L k))/\wr.ownsRow w.heap.size 3 1 (.slice A L.length cap) L.length (vals L)/\Below w.heap.size w wr)
  (fun _ i _=>L.length - (intOf i).toNat)
 case atStart=>exact ⟨0,Nat.zero_le _,rfl,World.ownsRow_nil _ _ _ _,hown1,hb1⟩
 case round =>
  obtain ⟨k,hk,rfl,hown,hrow',hB⟩:=hrel
  by_cases hlt:k < L.length
  ·obtain ⟨ba,hA⟩:∃ ba,A=some ⟨ba,0,none⟩:=by
    rcases hrow'.2 with ⟨_,h0⟩ | ⟨ba,_,_,hv,_⟩
    ·omega
    ·exact ⟨ba,by cases hv;rfl⟩
   subst hA
   have hcell':wr.cell? ⟨ba,k,none⟩=some (.int .i64 ((L.getD k 0:Nat):Int)):=own_int hrow' k hlt
   have hnm:L.getD k 0 ∈ L:=by rw [getD_at _ _ hlt];exact List.getElem_mem hlt
   obtain ⟨hni,hn2⟩:=HIN.out _ hnm
   have hno:=fun h=>pick_no (p:=p) hlt h
   have hys:=fun h=>pick_yes (p:=p) hlt h
   generalize hnn:L.getD k 0=n at *
   clear hnn hnm
   have i1:(0:Int)<=(k:Int):=by omega
   have i2:(k:Int) < (L.length:Int):=by omega
   have hbz:=hB.size
   have hcl:=hC wr n hB hni
   have hfl:(pick p L k).length<=256:=Nat.le_trans pick_len hLL
   cases hp:p n with
   | false =>
     have HS:Hid (pick p L (k+1)=pick p L k):=hno hp
     rw [hp] at hcl
     clear hno hys hp
     go_wp2_with fail
     refine hcl.mono ?_
     rintro e w2 ⟨rfl,hb2⟩
     have hrow2:=own_below hrow' hb2
     have hown2:=own_below hown hb2
     have B2:=hB.trans (hb2.mono hB.size)
     clear hcl hown hrow' hb2
     go_wp2
     go_roundw
     case rel=>exact ⟨k+1,by omega,by go_num,by rw [HS.out];exact hown2,hrow2,B2⟩
     case measure=>simp [intOf];omega
   | true =>
     have HS:Hid (pick p L (k+1)=pick p L k++[n]):=hys hp
     rw [hp] at hcl
     clear hno hys hp
     generalize pick p L k=F at *
     go_wp2_with fail
     refine hcl.mono ?_
     rintro e w2 ⟨rfl,hb2⟩
     have hown2:=own_below hown hb2
     have B2:=hB.trans (hb2.mono hB.size)
     have hds:=dist_any w2 (g.below B2 hb) (Nat.lt_of_lt_of_le hb B2.size) ha hni
     clear hcl
     go_wp2_with fail
     refine hds.mono ?_
     rintro e w3 ⟨rfl,hb3⟩
     have b3:=hb2.trans (hb3.mono hb2.size)
     have hrow3:=own_below hrow' b3
     have hown3:=own_below hown2 hb3
     have B3:=B2.trans (hb3.mono B2.size)
     have hz3:=B3.size
     have HEV:Hid (edgeV W a n=[.int .i64 n,.int .i64 (octS W a n),.int .i64 (octD W a n),.int .i64 (-1)]):=rfl
     clear hown hrow' hb2 hb3 b3 hds hown2 B2
     generalize octS W a n=es at *
     generalize octD W a n=ed at *
     go_wp2_with (at_builtin;refine wpList_append_own _ rfl _ _ 141 rfl w.heap.size 207 i0 (.agg #[.int .i64 0,.int .i64 0,.int .i64 0,.int .i64 0]) 4 32 Tryz.underE hi hz0 hz1 hz2 rfl (by decide) _ _ _ rfl (hown3.alloc _) ⟨w3.heap.size,0,none⟩ 1 1 [.int .i64 n,.int .i64 es,.int .i64 ed,.int .i64 (-1)] rfl rfl (cell_four_new _ _ _ _ _ _) (by intro u hu;simp at hu;rcases hu with rfl | rfl | rfl | rfl <;> rfl) ?c3 ?c4 ?c5 ?_)
     case c3=>unfold maxLen;omega
     case c4=>omega
     case c5=>simp;omega
     intro v' w4 hown' hgrow _
     have hbase:=fun q hq=>(hown3.lt q hq).1
     have B4:Below w.heap.size w w4:=(B3.alloc hz3 _).grown hgrow (by simp;omega) hbase
     have O4:w4.ownsRow w.heap.size 207 4 v' (F++[n]).length (edgesV W a (F++[n])):=by
      rw [edgesV_app,HEV.out]
      simpa using hown'
     have hrow4:=own_grown (hrow3.alloc (.cells #[.int .i64 n,.int .i64 es,.int .i64 ed,.int .i64 (-1)] 207)) hgrow (own_apart hrow3 hown3 (by decide))
     clear hown' hgrow hown3 B3
     go_wp2
     go_roundw
     case rel=>exact ⟨k+1,by omega,by go_num,by rw [HS.out];exact O4,hrow4,B4⟩
     case measure=>simp [intOf];omega
  ·have e:k=L.length:=by omega
   subst e
   have HMM:Hid (∀ n:Nat,n ∈ pick p L L.length↔Dir W H bl a n/\p n=true):=fun n=>by rw [pick_mem,HM.out n]
   have HRR:Hid ((pick p L L.length).Pairwise (· < ·)):=pick_rise HR.out
   generalize pick p L L.length=F at *
   go_wp2
   go_ret
   exact ⟨_,F,rfl,hown,⟨HRR.out,HMM.out⟩,hB⟩
set_option maxHeartbeats 400000 in
theorem clo_conn {xb rb pb:Nat}{W H V:Int}{bl:Nat->Bool}(w:World) (n:Int) (q2:w.cell? ⟨xb,0,none⟩=some (.pointer (some ⟨rb,0,none⟩))) (p0:w.cell? ⟨rb,0,none⟩=some (.pointer (some ⟨pb,0,none⟩))) (g:GridAt w pb W H V bl) (s:StepsAt w) (hn:inB W H n=true) :
  Calls Tryz.prog 111 #[.int .i64 n,.pointer (some ⟨xb,0,none⟩)] w fun e w'=>e=.returned (.bool (cornB W H bl n))/\Below w.heap.size w w':=by
 have h1:=isc_any n w g s hn
 generalize cornB W H bl n=r at *
 go_enter Tryz.func111,Tryz.ntmps111
 go_wp2_with fail
 refine h1.mono ?_
 rintro e1 w1 ⟨rfl,m,rfl⟩
 clear h1
 go_wp2
 go_ret
 exact ⟨rfl,below_drewN (Below.refl _ _) _⟩
set_option maxHeartbeats 1000000 in
theorem conn_ok {rb pb mb:Nat}{W H V c:Int}{bl:Nat->Bool}(w:World) (G:GraphAt w rb pb mb W H V bl) (s:StepsAt w) (hc:inB W H c=true) (hfree:bl c.toNat=false) :
  Calls Tryz.prog 79 #[.pointer (some ⟨rb,0,none⟩),.int .i64 c] w fun e w'=>∃ v l,e=.returned (.tuple #[v,.nilIface])/\w'.ownsRow w.heap.size 207 4 v l.length (edgesV W c l)/\(l.Pairwise (· < ·)/\∀ n:Nat,n ∈ l↔Dir W H bl c n/\cornB W H bl n=true)/\Below w.heap.size w w':=by
 obtain ⟨f,G,E⟩:=G
 obtain ⟨l1,l2,l3⟩:=G.lts
 have B0:Below w.heap.size w (w.alloc (.cells #[.pointer (some ⟨rb,0,none⟩)] 91)):=(Below.refl _ _).alloc (Nat.le_refl _) _
 have q0:(w.alloc (.cells #[.pointer (some ⟨rb,0,none⟩)] 91)).cell? ⟨w.heap.size,0,none⟩=some (.pointer (some ⟨rb,0,none⟩)):=World.cell?_alloc_at #[.pointer (some ⟨rb,0,none⟩)] 91 w.heap.size 0 rfl
 have G0:=G.below B0
 have h1:=check_any c (w.alloc (.cells #[.pointer (some ⟨rb,0,none⟩)] 91)) G0.ga
 have p0:=G0.p0
 rw [ffv_zero hc hfree,errV_nil] at h1
 clear G E
 go_enter Tryz.func79,Tryz.ntmps79
 go_wp2_with fail
 refine h1.mono ?_
 rintro e w1 ⟨rfl,hb1⟩
 have B1:=B0.trans (hb1.mono B0.size)
 have G1:=G0.below hb1
 have p1:=G1.p0
 have q1:=(hb1.cell (p:=⟨w.heap.size,0,none⟩) (by simp)).trans q0
 have s1:=s.below B1 (by omega)
 have hz1:=B1.size
 have hfind:=find_conn (rb:=w.heap.size) (p:=fun n=>cornB W H bl n) w1 G1.ga s1 (by omega) hc hfree (fun w' n hB' hn=>by
  have kk:∀ {a:Addr}{v:Value},w1.cell? a=some v->w'.cell? a=some v:=fun {a v} h=>(hB'.cell (World.block_lt_of_cell? w1 a h)).trans h
  exact clo_conn w' n (kk q1) (kk p1) (G1.ga.below hB' (by omega)) (s1.below hB' (by omega)) hn)
 clear h1 p0 q0 G0 B0 hb1
 go_wp2_with fail
 refine hfind.mono ?_
 rintro e w2 ⟨v,l,rfl,hown,hl,hb2⟩
 clear hfind
 have HL:Hid (l.Pairwise (· < ·)/\∀ n:Nat,n ∈ l↔Dir W H bl c n/\cornB W H bl n=true):=hl
 clear hl
 go_wp2
 go_ret2
 exact ⟨v,l,rfl,own_base hown hz1,HL.out,B1.trans (hb2.mono hz1)⟩
end
section
open Go.RowKit
theorem Lvd.below {w w':World}{N lb most:Nat}{W H:Int}{bl:Nat->Bool}{es:Nat->List LE}(h:Lvd w N lb most W H bl es) (hb:Below w.heap.size w w'):Lvd w' N lb most W H bl es:=by
 obtain ⟨vb,eb,k,st,f,h1,h2,V⟩:=h
 exact ⟨vb,eb,k,st,f,h1,h2,V.below hb⟩
theorem cns_len {W H:Int}{bl:Nat->Bool}{c:Nat}{l:List Nat}(w1:1<=W) (w2:W<=16) (h1:1<=H) (h2:H<=16) (hr:l.Pairwise (· < ·)) (hl:Cns W H bl c l):l.length<=256/\∀ n ∈ l,n < 256:=by
 have hwh:=wh_bd w1 w2 h1 h2
 have hm:∀ n ∈ l,n ∈ crs W H bl (W*H).toNat:=fun n hn=>by
  have h:=((hl n).1 hn).2
  have h4:0<=(n:Int)/\(n:Int) < W*H:=of_decide_eq_true (cornC_in w1 (cornB_iff.1 h))
  exact crs_mem.2 ⟨by omega,h⟩
 have he:l=(crs W H bl (W*H).toNat).filter (fun x=>decide (x ∈ l)) :=
  rise_eq hr (List.Pairwise.filter _ (crs_rise _ _ _ _)) (fun n=>by
   rw [List.mem_filter,decide_eq_true_iff]
   exact ⟨fun h=>⟨hm n h,h⟩,fun h=>h.2⟩)
 have a1:=congrArg List.length he
 have a2:=List.length_filter_le (fun x=>decide (x ∈ l)) (crs W H bl (W*H).toNat)
 have a3:=crs_len W H bl (W*H).toNat
 refine ⟨by omega,fun n hn=>?_⟩
 have:=(crs_mem.1 (hm n hn)).1
 omega
theorem rowI_of {w:World}{base c:Nat}{v:Value}{W:Int}{l:List Nat}(h:w.ownsRow base 207 4 v l.length (edgesV W (c:Int) l)) (hl:∀ n ∈ l,n < 256):∃ A cap,v=.slice A (frI W c l).length cap/\RowI w A (frI W c l):=by
 rw [<- lesV_edges W c l] at h
 have e:(frC W c l).length=l.length:=by unfold frC;rw [List.length_map]
 have h':w.ownsRow base 207 4 v (frC W c l).length (lesV (frC W c l)):=by rw [e];exact h
 obtain ⟨A,cap,rfl,hr,_⟩:=rowL_of h'
 refine ⟨A,cap,by rw [frI_len,e],fun i x hi=>?_⟩
 unfold frI at hi
 rw [List.getElem?_map] at hi
 cases hq:(frC W c l)[i]? with
 | none=>rw [hq] at hi;cases hi
 | some y =>
   rw [hq] at hi
   cases hi
   refine ⟨?_,hr i y hq⟩
   have hy:=List.mem_of_getElem? hq
   unfold frC at hy
   obtain ⟨m,hm,rfl⟩:=List.mem_map.1 hy
   have:=hl m hm
   exact wf_small (by show (0:Int)<=(m:Int);omega) (by show (m:Int) < 256;omega)
end
end Go.Proofs.YtipbhlofbpnpjaaGreatDoor
