/-
  Texts laid together: Nv10, Nv11, Nv12, Nv13.
-/
import Derived.Test.YtipbhlofbpnpjaaGreatDoorP28
import Derived.Test.YtipbhlofbpnpjaaGreatDoorP2
import Derived.Test.YtipbhlofbpnpjaaGreatDoorP3
namespace Go.Proofs.YtipbhlofbpnpjaaGreatDoor
section
open Go.RowKit Go.Lib
noncomputable def lvK (W H:Int) (bl:Nat->Bool) (most:Nat):Nat × LSt:=@dite _ (∃ p:Nat × LSt,Rds most (crs W H bl (W*H).toNat) ⟨fun _=>0,esF W H bl⟩ p.1 p.2/\Over most (crs W H bl (W*H).toNat) p.1 p.2) (Classical.propDecidable _) (fun h=>Classical.choose h) (fun _=>(0,⟨fun _=>0,fun _=>[]⟩))
theorem lvK_eq {W H:Int}{bl:Nat->Bool}{most k:Nat}{st:LSt}(h:Rds most (crs W H bl (W*H).toNat) ⟨fun _=>0,esF W H bl⟩ k st)(ho:Over most (crs W H bl (W*H).toNat) k st):lvK W H bl most=(k,st):=by
 have hx:∃ p:Nat × LSt,Rds most (crs W H bl (W*H).toNat) ⟨fun _=>0,esF W H bl⟩ p.1 p.2/\Over most (crs W H bl (W*H).toNat) p.1 p.2:=⟨(k,st),h,ho⟩
 unfold lvK
 rw [dif_pos hx]
 obtain ⟨h1,h2⟩:=Classical.choose_spec hx
 obtain ⟨e1,e2⟩:=rounds_one h1 h2 h ho
 exact Prod.ext e1 e2
noncomputable def addN (W H:Int) (bl:Nat->Bool) (most:Nat):Nat:=sumB (addA (lvK W H bl most).2.es) (memS (crs W H bl (W*H).toNat)) 256
noncomputable def stV (W H V:Int) (bl:Nat->Bool) (most:Nat):Array Value:=#[.int .i64 (W*H),.int .i64 (frN bl (W*H).toNat:Nat),.int .i64 ((crs W H bl (W*H).toNat).length:Nat),.int .i64 (edN W H bl (crs W H bl (W*H).toNat) / 2:Nat),.int .i64 ((addN W H bl most:Nat) / 2:Int),.int .i64 ((lvK W H bl most).1+1:Nat),.int .i64 V]
section
variable {w : World} {lo hi sb rb pb mb lb tb gb N x most : Nat} {W H V V2 : Int} {bl : Nat → Bool}
theorem SvAt.added (w:World)(S:SvAt w lo hi sb rb pb mb lb tb gb N x W H V V2 bl most):Calls Tryz.prog 57 #[.pointer (some ⟨lb,0,none⟩)] w fun e w'=>e=.returned (.int .i64 ((addN W H bl most:Nat) / 2:Int))/\Below w.heap.size w w':=by
 obtain ⟨w1,w2,h1,h2⟩:=S.side
 obtain ⟨vb,eb,k,st,f,hR,hO,V⟩:=S.lv
 have hwh:=wh_bd w1 w2 h1 h2
 have B:=Btw.rds (show (0:Int)<=16 by omega) ((esF_ok (W:=W) (H:=H) (bl:=bl) w1).btw w1 w2 h1 h2) hR
 have hl:∀ n,(st.es n).length<=256:=fun n=>LayOk.len (L:=crs W H bl (W*H).toNat) (fun a=>⟨B.lrd.esy.ord a,fun e he=>(B.cor.ends he).2⟩) (fun n hn=>by have:=(crs_mem.1 hn).1;omega) n
 have h:=added_any w V hl
 unfold addN
 rw [lvK_eq hR hO]
 exact h
theorem SvAt.topl (w:World)(S:SvAt w lo hi sb rb pb mb lb tb gb N x W H V V2 bl most):Calls Tryz.prog 58 #[.pointer (some ⟨lb,0,none⟩)] w fun e w'=>e=.returned (.int .i64 ((lvK W H bl most).1+1:Nat))/\Below w.heap.size w w':=by
 obtain ⟨vb,eb,k,st,f,hR,hO,V⟩:=S.lv
 rw [lvK_eq hR hO]
 exact (top_any w V).mono fun e w' ⟨h1,h2⟩=>⟨h1,by rw [h2];exact Below.refl _ _⟩
theorem SvAt.nodes (w:World)(S:SvAt w lo hi sb rb pb mb lb tb gb N x W H V V2 bl most):Calls Tryz.prog 55 #[.pointer (some ⟨rb,0,none⟩)] w fun e w'=>∃ A cap,e=.returned (.slice A (crs W H bl (W*H).toNat).length cap)/\Below w.heap.size w w':=by
 refine (nodes_any w S.gr).mono ?_
 rintro e w' ⟨v,rfl,ho,hb⟩
 obtain ⟨A,cap,rfl,_⟩:=oldRow_of ho
 exact ⟨A,cap,rfl,hb⟩
end
def st7 (w:World) (B:Nat) (a0 a1 a2 a3 a4 a5 a6:Value):World:=((((((w.setCell ⟨B,0,none⟩ a0).setCell ⟨B,1,none⟩ a1).setCell ⟨B,2,none⟩ a2).setCell ⟨B,3,none⟩ a3).setCell ⟨B,4,none⟩ a4).setCell ⟨B,5,none⟩ a5).setCell ⟨B,6,none⟩ a6
theorem st7_keep (w:World)(B:Nat)(a0 a1 a2 a3 a4 a5 a6:Value):Keep (fun k=>k=B) w (st7 w B a0 a1 a2 a3 a4 a5 a6):=by
 unfold st7
 exact ((((((((Keep.refl (fun k=>k=B) w).setCell (p:=⟨B,0,none⟩) (fun _=>rfl) _).setCell (p:=⟨B,1,none⟩) (fun _=>rfl) _).setCell (p:=⟨B,2,none⟩) (fun _=>rfl) _).setCell (p:=⟨B,3,none⟩) (fun _=>rfl) _).setCell (p:=⟨B,4,none⟩) (fun _=>rfl) _).setCell (p:=⟨B,5,none⟩) (fun _=>rfl) _).setCell (p:=⟨B,6,none⟩) (fun _=>rfl) _)
theorem st7_at {w:World}{B:Nat}{u:Value}(h:∀ o,o<7->w.cell? ⟨B,o,none⟩=some u)(a0 a1 a2 a3 a4 a5 a6:Value):(st7 w B a0 a1 a2 a3 a4 a5 a6).cell? ⟨B,0,none⟩=some a0/\(st7 w B a0 a1 a2 a3 a4 a5 a6).cell? ⟨B,1,none⟩=some a1/\(st7 w B a0 a1 a2 a3 a4 a5 a6).cell? ⟨B,2,none⟩=some a2/\(st7 w B a0 a1 a2 a3 a4 a5 a6).cell? ⟨B,3,none⟩=some a3/\(st7 w B a0 a1 a2 a3 a4 a5 a6).cell? ⟨B,4,none⟩=some a4/\(st7 w B a0 a1 a2 a3 a4 a5 a6).cell? ⟨B,5,none⟩=some a5/\(st7 w B a0 a1 a2 a3 a4 a5 a6).cell? ⟨B,6,none⟩=some a6:=by
 have ne:∀ {i j:Nat},i≠j->(⟨B,i,none⟩:Addr)≠⟨B,j,none⟩:=fun h q=>h (Addr.mk.inj q).2.1
 have st:∀ (v:World) (i j:Nat) (a:Value),i≠j->(v.setCell ⟨B,j,none⟩ a).cell? ⟨B,i,none⟩=v.cell? ⟨B,i,none⟩:=fun v i j a hij=>World.cell?_setCell_other _ _ _ _ (ne (Ne.symm hij))
 unfold st7
 refine ⟨?_,?_,?_,?_,?_,?_,?_⟩
 ·rw [st _ 0 6 _ (by decide),st _ 0 5 _ (by decide),st _ 0 4 _ (by decide),st _ 0 3 _ (by decide),st _ 0 2 _ (by decide),st _ 0 1 _ (by decide)]
  exact World.cell?_setCell_same _ _ _ (h 0 (by decide))
 ·rw [st _ 1 6 _ (by decide),st _ 1 5 _ (by decide),st _ 1 4 _ (by decide),st _ 1 3 _ (by decide),st _ 1 2 _ (by decide)]
  exact World.cell?_setCell_same _ _ _ (u:=u) (by rw [st _ 1 0 _ (by decide)];exact h 1 (by decide))
 ·rw [st _ 2 6 _ (by decide),st _ 2 5 _ (by decide),st _ 2 4 _ (by decide),st _ 2 3 _ (by decide)]
  exact World.cell?_setCell_same _ _ _ (u:=u) (by rw [st _ 2 1 _ (by decide),st _ 2 0 _ (by decide)];exact h 2 (by decide))
 ·rw [st _ 3 6 _ (by decide),st _ 3 5 _ (by decide),st _ 3 4 _ (by decide)]
  exact World.cell?_setCell_same _ _ _ (u:=u) (by rw [st _ 3 2 _ (by decide),st _ 3 1 _ (by decide),st _ 3 0 _ (by decide)];exact h 3 (by decide))
 ·rw [st _ 4 6 _ (by decide),st _ 4 5 _ (by decide)]
  exact World.cell?_setCell_same _ _ _ (u:=u) (by rw [st _ 4 3 _ (by decide),st _ 4 2 _ (by decide),st _ 4 1 _ (by decide),st _ 4 0 _ (by decide)];exact h 4 (by decide))
 ·rw [st _ 5 6 _ (by decide)]
  exact World.cell?_setCell_same _ _ _ (u:=u) (by rw [st _ 5 4 _ (by decide),st _ 5 3 _ (by decide),st _ 5 2 _ (by decide),st _ 5 1 _ (by decide),st _ 5 0 _ (by decide)];exact h 5 (by decide))
 ·exact World.cell?_setCell_same _ _ _ (u:=u) (by rw [st _ 6 5 _ (by decide),st _ 6 4 _ (by decide),st _ 6 3 _ (by decide),st _ 6 2 _ (by decide),st _ 6 1 _ (by decide),st _ 6 0 _ (by decide)];exact h 6 (by decide))
set_option maxHeartbeats 4000000 in
set_option maxRecDepth 1000000 in
theorem stats_any {lo hi sb most:Nat}{W H V:Int}{bl:Nat->Bool}(w:World)(S:Sv w lo hi sb W H V bl most) :
  Calls Tryz.prog 25 #[.pointer (some ⟨sb,0,none⟩)] w fun e w'=>e=.returned (.agg (stV W H V bl most))/\Below w.heap.size w w':=by
 obtain ⟨rb,pb,mb,lb,tb,gb,N,x,V2,S⟩:=S
 obtain ⟨w1,w2,h1,h2⟩:=S.side
 have b0:Below w.heap.size w (w.alloc (.cells #[.int .i64 0,.int .i64 0,.int .i64 0,.int .i64 0,.int .i64 0,.int .i64 0,.int .i64 0] 56)):=(Below.refl _ _).alloc (Nat.le_refl _) _
 have k7:∀ o,(w.alloc (.cells #[.int .i64 0,.int .i64 0,.int .i64 0,.int .i64 0,.int .i64 0,.int .i64 0,.int .i64 0] 56)).cell? ⟨w.heap.size,o,none⟩=#[Value.int .i64 0,.int .i64 0,.int .i64 0,.int .i64 0,.int .i64 0,.int .i64 0,.int .i64 0][o]? := fun o=>World.cell?_alloc_new ..
 have f7:=free_alloc w #[.int .i64 0,.int .i64 0,.int .i64 0,.int .i64 0,.int .i64 0,.int .i64 0,.int .i64 0] 56 w.heap.size (Nat.le_refl _)
 have S0:=S.below b0
 have q1:=S0.c1
 have hgg:=ggrid_any _ S0.gr
 unfold stV
 have H53:Hid (∀ (w':World) (M:Nat),GridAt w' M W H V bl->Calls Tryz.prog 53 #[.pointer (some ⟨M,0,none⟩)] w' fun e w''=>e=.returned (.int .i64 (W*H))/\Below w'.heap.size w' w''):=fun w' M g=>(cells_any w' g).mono fun e w'' ⟨h1,m,h2⟩=>⟨h1,by rw [h2];exact below_drewN (Below.refl _ _) _⟩
 have H54:Hid (∀ (w':World) (M:Nat),GridAt w' M W H V bl->_):=fun w' M g=>countFree_any w' g
 have H55:Hid (∀ w',SvAt w' lo hi sb rb pb mb lb tb gb N x W H V V2 bl most->_):=fun w' S=>SvAt.nodes w' S
 have H56:Hid (∀ w',SvAt w' lo hi sb rb pb mb lb tb gb N x W H V V2 bl most->_):=fun w' S=>countEdges_any w' S.gr w1 w2 h1 h2
 have H57:Hid (∀ w',SvAt w' lo hi sb rb pb mb lb tb gb N x W H V V2 bl most->_):=fun w' S=>SvAt.added w' S
 have H58:Hid (∀ w',SvAt w' lo hi sb rb pb mb lb tb gb N x W H V V2 bl most->_):=fun w' S=>SvAt.topl w' S
 have H59:Hid (∀ (w':World) (M:Nat),GridAt w' M W H V bl->Calls Tryz.prog 59 #[.pointer (some ⟨M,0,none⟩)] w' fun e w''=>e=.returned (.int .i64 V)/\Below w'.heap.size w' w''):=fun w' M g=>(version_any w' g).mono fun e w'' ⟨h1,h2⟩=>⟨h1,by rw [h2];exact Below.refl _ _⟩
 generalize ((frN bl (W*H).toNat:Nat):Int)=fr at *
 generalize ((edN W H bl (crs W H bl (W*H).toNat) / 2:Nat):Int)=ed at *
 generalize (crs W H bl (W*H).toNat).length=nd at *
 generalize ((addN W H bl most:Nat) / 2:Int)=ad at *
 generalize (((lvK W H bl most).1+1:Nat):Int)=tp at *
 generalize W*H=wh at *
 go_enter Tryz.func25,Tryz.ntmps25
 go_wp2_with fail
 have hz0:w.heap.size<(w.alloc (.cells #[.int .i64 0,.int .i64 0,.int .i64 0,.int .i64 0,.int .i64 0,.int .i64 0,.int .i64 0] 56)).heap.size:=by simp
 generalize w.alloc (.cells #[.int .i64 0,.int .i64 0,.int .i64 0,.int .i64 0,.int .i64 0,.int .i64 0,.int .i64 0] 56)=wa at *
 refine hgg.mono ?_
 rintro e wb ⟨rfl,hb1,hz1,g1,_⟩
 have S1:=S0.below hb1
 have B1:=b0.trans (hb1.mono b0.size)
 have hzb:w.heap.size<wb.heap.size:=Nat.lt_of_lt_of_le hz0 hb1.size
 have c7:∀ o,wb.cell? ⟨w.heap.size,o,none⟩=#[Value.int .i64 0,.int .i64 0,.int .i64 0,.int .i64 0,.int .i64 0,.int .i64 0,.int .i64 0][o]? := fun o=>(hb1.cell (p:=⟨w.heap.size,o,none⟩) hz0).trans (k7 o)
 have z7:∀ o,wb.frozen? ⟨w.heap.size,o,none⟩=false:=fun o=>(hb1.frozen (p:=⟨w.heap.size,o,none⟩) hz0).trans (f7 o)
 generalize wa.heap.size=M at *
 have HC7:Hid (∀ (w':World),Below wb.heap.size wb w'->∀ o,o<7->w'.cell? ⟨w.heap.size,o,none⟩=some (.int .i64 0)/\w'.frozen? ⟨w.heap.size,o,none⟩=false):=fun w' hb o ho=>by
  have h1:=(hb.cell (p:=⟨w.heap.size,o,none⟩) hzb).trans (c7 o)
  have h2:=(hb.frozen (p:=⟨w.heap.size,o,none⟩) hzb).trans (z7 o)
  refine ⟨?_,h2⟩
  rw [h1]
  have ho':o=0\/o=1\/o=2\/o=3\/o=4\/o=5\/o=6:=by omega
  rcases ho' with rfl|rfl|rfl|rfl|rfl|rfl|rfl <;> rfl
 have hsbl:sb<w.heap.size:=S.lt
 have CC:Hid (∀ w',Below wb.heap.size wb w'->w'.cell? ⟨sb,1,none⟩=some (.pointer (some ⟨rb,0,none⟩))/\w'.cell? ⟨sb,2,none⟩=some (.pointer (some ⟨lb,0,none⟩))):=fun w' h=>⟨(h.cell (World.block_lt_of_cell? wb _ S1.c1)).trans S1.c1,(h.cell (World.block_lt_of_cell? wb _ S1.c2)).trans S1.c2⟩
 have HG1:Hid (∀ w',Below wb.heap.size wb w'->GridAt w' M W H V bl):=fun w' hb=>g1.below hb hz1
 have HS1:Hid (∀ w',Below wb.heap.size wb w'->SvAt w' lo hi sb rb pb mb lb tb gb N x W H V V2 bl most):=fun w' hb=>S1.below hb
 clear hgg S0 S1 k7 f7 g1 q1 hb1 S c7 z7 hz1
 have HST:Hid (∀ w9,Below wb.heap.size wb w9->(((((((w9.setCell ⟨w.heap.size,0,none⟩ (.int .i64 wh)).setCell ⟨w.heap.size,1,none⟩ (.int .i64 fr)).setCell ⟨w.heap.size,2,none⟩ (.int .i64 (nd:Int))).setCell ⟨w.heap.size,3,none⟩ (.int .i64 ed)).setCell ⟨w.heap.size,4,none⟩ (.int .i64 ad)).setCell ⟨w.heap.size,5,none⟩ (.int .i64 tp)).setCell ⟨w.heap.size,6,none⟩ (.int .i64 V)).cell? ⟨sb,1,none⟩=some (.pointer (some ⟨rb,0,none⟩))/\(((((((w9.setCell ⟨w.heap.size,0,none⟩ (.int .i64 wh)).setCell ⟨w.heap.size,1,none⟩ (.int .i64 fr)).setCell ⟨w.heap.size,2,none⟩ (.int .i64 (nd:Int))).setCell ⟨w.heap.size,3,none⟩ (.int .i64 ed)).setCell ⟨w.heap.size,4,none⟩ (.int .i64 ad)).setCell ⟨w.heap.size,5,none⟩ (.int .i64 tp)).setCell ⟨w.heap.size,6,none⟩ (.int .i64 V)).cell? ⟨sb,2,none⟩=some (.pointer (some ⟨lb,0,none⟩))):=fun w9 hb=>⟨(st7_keep w9 w.heap.size (.int .i64 wh) (.int .i64 fr) (.int .i64 (nd:Int)) (.int .i64 ed) (.int .i64 ad) (.int .i64 tp) (.int .i64 V)).cellOf (CC.out _ hb).1 (Nat.ne_of_lt hsbl),(st7_keep w9 w.heap.size (.int .i64 wh) (.int .i64 fr) (.int .i64 (nd:Int)) (.int .i64 ed) (.int .i64 ad) (.int .i64 tp) (.int .i64 V)).cellOf (CC.out _ hb).2 (Nat.ne_of_lt hsbl)⟩
 go_wp2_with fail
 have eC:Below wb.heap.size wb wb.drew:=(Below.refl _ _).drew
 go_region_held3 (fun w'=>w'.cell? ⟨sb,1,none⟩=some (.pointer (some ⟨rb,0,none⟩))/\w'.cell? ⟨sb,2,none⟩=some (.pointer (some ⟨lb,0,none⟩))) (first|with_reducible exact CC.out _ eC|with_reducible exact HST.out _ eC)
  (first
   |(go_at_call 53;refine (H53.out _ _ (HG1.out _ eC)).mono ?_;rintro r w3 ⟨rfl,hb3⟩;have eC:=eC.trans (hb3.mono eC.size))
   |(go_at_call 54;refine (H54.out _ _ (HG1.out _ eC)).mono ?_;rintro r w4 ⟨rfl,hb4⟩;have eC:=eC.trans (hb4.mono eC.size))
   |(go_at_call 55;refine (H55.out _ (HS1.out _ eC)).mono ?_;rintro r w5 ⟨A5,cap5,rfl,hb5⟩;have eC:=eC.trans (hb5.mono eC.size))
   |(go_at_call 56;refine (H56.out _ (HS1.out _ eC)).mono ?_;rintro r w6 ⟨rfl,hb6⟩;have eC:=eC.trans (hb6.mono eC.size))
   |(go_at_call 57;refine (H57.out _ (HS1.out _ eC)).mono ?_;rintro r w7 ⟨rfl,hb7⟩;have eC:=eC.trans (hb7.mono eC.size))
   |(go_at_call 58;refine (H58.out _ (HS1.out _ eC)).mono ?_;rintro r w8 ⟨rfl,hb8⟩;have eC:=eC.trans (hb8.mono eC.size))
   |(go_at_call 59;refine (H59.out _ _ (HG1.out _ eC)).mono ?_;rintro r w9 ⟨rfl,hb9⟩;have eC:=eC.trans (hb9.mono eC.size);have x0:=(HC7.out _ eC 0 (by decide)).1;have y0:=(HC7.out _ eC 0 (by decide)).2;have x1:=(HC7.out _ eC 1 (by decide)).1;have y1:=(HC7.out _ eC 1 (by decide)).2;have x2:=(HC7.out _ eC 2 (by decide)).1;have y2:=(HC7.out _ eC 2 (by decide)).2;have x3:=(HC7.out _ eC 3 (by decide)).1;have y3:=(HC7.out _ eC 3 (by decide)).2;have x4:=(HC7.out _ eC 4 (by decide)).1;have y4:=(HC7.out _ eC 4 (by decide)).2;have x5:=(HC7.out _ eC 5 (by decide)).1;have y5:=(HC7.out _ eC 5 (by decide)).2;have x6:=(HC7.out _ eC 6 (by decide)).1;have y6:=(HC7.out _ eC 6 (by decide)).2))
 go_wp2
 have r:=st7_at (fun o ho=>(HC7.out _ eC o ho).1) (.int .i64 wh) (.int .i64 fr) (.int .i64 (nd:Int)) (.int .i64 ed) (.int .i64 ad) (.int .i64 tp) (.int .i64 V)
 obtain ⟨r0,r1,r2,r3,r4,r5,r6⟩:=r
 unfold st7 at r0 r1 r2 r3 r4 r5 r6
 refine bodyPost_ret (v:=.agg #[.int .i64 wh,.int .i64 fr,.int .i64 (nd:Int),.int .i64 ed,.int .i64 ad,.int .i64 tp,.int .i64 V]) (by simp [results,Tryz.results25,go_sem,r0,r1,r2,r3,r4,r5,r6]) rfl ⟨rfl,?_⟩
 have BF:=B1.trans (eC.mono B1.size)
 exact ((((((BF.setCell (p:=⟨w.heap.size,0,none⟩) (Nat.le_refl _) _).setCell (p:=⟨w.heap.size,1,none⟩) (Nat.le_refl _) _).setCell (p:=⟨w.heap.size,2,none⟩) (Nat.le_refl _) _).setCell (p:=⟨w.heap.size,3,none⟩) (Nat.le_refl _) _).setCell (p:=⟨w.heap.size,4,none⟩) (Nat.le_refl _) _).setCell (p:=⟨w.heap.size,5,none⟩) (Nat.le_refl _) _).setCell (p:=⟨w.heap.size,6,none⟩) (Nat.le_refl _) _
end
section
open Go.RowKit Go.Lib
set_option maxHeartbeats 2000000 in
set_option maxRecDepth 1000000 in
theorem sameAns_yes (A B:Option Addr)(n ca cb:Nat)(s d err:Int)(w:World)
  (HS:Hid (∀ w',Below w.heap.size w w'->Calls Tryz.prog 60 #[.slice A n ca,.slice B n cb] w' fun e w''=>e=.returned (.bool true)/\∃ m,w''=w'.drewN m)) :
  Calls Tryz.prog 27 #[.agg #[.slice A n ca,.int .i64 s,.int .i64 d,.int .i64 err],.agg #[.slice B n cb,.int .i64 s,.int .i64 d,.int .i64 err]] w fun e w'=>e=.returned (.bool true)/\Below w.heap.size w w':=by
 have b0:Below w.heap.size w ((w.alloc (.cells #[.slice A n ca,.int .i64 s,.int .i64 d,.int .i64 err] 41)).alloc (.cells #[.slice B n cb,.int .i64 s,.int .i64 d,.int .i64 err] 41)):=((Below.refl _ _).alloc (Nat.le_refl _) _).alloc (by simp) _
 have hc:=HS.out _ b0
 clear HS
 go_enter Tryz.func27,Tryz.ntmps27
 go_wp2_with fail
 refine hc.mono ?_
 rintro e wc ⟨rfl,m,rfl⟩
 go_wp2
 go_ret
 exact ⟨rfl,below_drewN b0 _⟩
theorem sameN_old {A B:Option Addr}{n ca cb:Nat}{xs:Nat->Int}(w:World)(hn:n<=1000000)(hA:OldRow w A n xs)(hB:OldRow w B n xs) :
  Calls Tryz.prog 60 #[.slice A n ca,.slice B n cb] w fun e w'=>e=.returned (.bool true)/\∃ m,w'=w.drewN m:=by
 rcases Nat.eq_zero_or_pos n with rfl|h0
 ·exact sameNumbers_zero A B ca cb w
 ·obtain ⟨b,o,rfl,_,_⟩:=hA 0 h0
  obtain ⟨b2,o2,rfl,_,_⟩:=hB 0 h0
  refine sameNumbers_pos b o b2 o2 n ca cb xs w hn (fun i hi=>?_) (fun i hi=>?_)
  ·obtain ⟨b',o',e,_,h⟩:=hA i hi
   cases e
   exact h
  ·obtain ⟨b',o',e,_,h⟩:=hB i hi
   cases e
   exact h
theorem sameAns_old {A B:Option Addr}{n ca cb:Nat}{xs:Nat->Int}(s d err:Int)(w:World)(hn:n<=1000000)(hA:OldRow w A n xs)(hB:OldRow w B n xs) :
  Calls Tryz.prog 27 #[.agg #[.slice A n ca,.int .i64 s,.int .i64 d,.int .i64 err],.agg #[.slice B n cb,.int .i64 s,.int .i64 d,.int .i64 err]] w fun e w'=>e=.returned (.bool true)/\Below w.heap.size w w' :=
 sameAns_yes A B n ca cb s d err w fun w' hb=>sameN_old w' hn (hA.below hb) (hB.below hb)
end
section
open Go.RowKit Go.Lib
set_option maxHeartbeats 1000000 in
theorem save_any {lo hi sb most W H:Nat}{V:Int}{bl:Nat->Bool}(w:World)(E:Env w)(h8:8<=w.heap.size)(S:Sv w lo hi sb W H V bl most) :
  Calls Tryz.prog 24 #[.pointer (some ⟨sb,0,none⟩)] w fun e w'=>e=.returned (.string (str (printL bl W H)))/\Below w.heap.size w w':=by
 obtain ⟨rb,pb,mb,lb,tb,gb,N,x,V2,S⟩:=S
 have q1:=S.c1
 have hgg:=ggrid_any _ S.gr
 go_enter Tryz.func24,Tryz.ntmps24
 go_wp2_with fail
 refine hgg.mono ?_
 rintro e wb ⟨rfl,hb1,hz1,g1,_⟩
 have hp:=print_any wb (E.below hb1 h8) g1 hz1
 go_wp2_with fail
 refine hp.mono ?_
 rintro e wc ⟨rfl,hb2⟩
 go_wp2
 go_ret
 exact ⟨rfl,hb1.trans (hb2.mono hb1.size)⟩
end
section
open Go.RowKit Go.Lib
theorem fldT (a0 a1 a2 a3 a4 a5 a6:Value)(w:World):(Instr.field 56 (.agg #[a0,a1,a2,a3,a4,a5,a6]) 5).run Tryz.prog w=.ok a5 w:=by kernel_rfl
theorem fldF (a0 a1 a2 a3 a4 a5 a6:Value)(w:World):(Instr.field 56 (.agg #[a0,a1,a2,a3,a4,a5,a6]) 1).run Tryz.prog w=.ok a1 w:=by kernel_rfl
theorem fldE (a0 a1 a2 a3:Value)(w:World):(Instr.field 41 (.agg #[a0,a1,a2,a3]) 2).run Tryz.prog w=.ok a3 w:=by kernel_rfl
def AskP (W H:Int) (bl:Nat->Bool) (most:Nat) (a t:Int) (way:List Nat) (s d err:Int):Prop:=AnsR W H bl most a t way s d err/\Rt W H bl a t way s d err
theorem ask_ex {lo hi sb most:Nat}{W H V:Int}{bl:Nat->Bool}(a t:Int)(w:World)(S:Sv w lo hi sb W H V bl most)(d:DiagAt w):∃ way s d err,AskP W H bl most a t way s d err:=by
 obtain ⟨_,_,_,h,_⟩:=ask_rt a t w S d []
 obtain ⟨A,cap,way,s,d,err,_,_,_,hA,hR,_⟩:=h
 exact ⟨way,s,d,err,hA,hR⟩
theorem ask_fix {lo hi sb most:Nat}{W H V:Int}{bl:Nat->Bool}{a t:Int}{way:List Nat}{s d err:Int}(w:World)(P:AskP W H bl most a t way s d err)(S:Sv w lo hi sb W H V bl most)(dg:DiagAt w) :
  Calls Tryz.prog 18 #[.pointer (some ⟨sb,0,none⟩),.int .i64 a,.int .i64 t] w fun e w'=>∃ A cap,e=.returned (.agg #[.slice A way.length cap,.int .i64 s,.int .i64 d,.int .i64 err])/\w'.ownsRow w.heap.size 3 1 (.slice A way.length cap) way.length (vals way)/\OldRow w' A way.length (fun i=>((way.getD i 0:Nat):Int))/\Below w.heap.size w w':=by
 obtain ⟨w1,w2,h1,h2⟩:=S.side
 obtain ⟨m1,m6⟩:=S.mst
 refine (ask_rt a t w S dg).mono ?_
 rintro e w' ⟨A,cap,way',s',d',err',rfl,ho,hold,hA,_,hb⟩
 obtain ⟨rfl,rfl,rfl,rfl⟩:=AnsR.one w1 w2 h1 h2 m1 m6 hA P.1
 exact ⟨A,cap,rfl,ho,hold,hb⟩
theorem Sv.top_le {w:World}{lo hi sb most:Nat}{W H V:Int}{bl:Nat->Bool}(S:Sv w lo hi sb W H V bl most):(lvK W H bl most).1+1<=most:=by
 obtain ⟨rb,pb,mb,lb,tb,gb,N,x,V2,S⟩:=S
 obtain ⟨vb,eb,k,st,f,hR,hO,V⟩:=S.lv
 rw [lvK_eq hR hO]
 have m1:=S.m1
 cases k with
 |zero=>exact m1
 |succ k=>obtain ⟨_,_,_,h,_⟩:=hR;exact h
theorem rowsL_eqv {W:Nat}{bl bl':Nat->Bool}:∀ {k:Nat},(∀ n,n<k*W->bl n=bl' n)->rowsL bl W k=rowsL bl' W k
 |0,_=>rfl
 |k+1,h=>by
  have e:(k+1)*W=k*W+W:=Nat.succ_mul k W
  unfold rowsL
  rw [rowsL_eqv (k:=k) (fun n hn=>h n (by omega))]
  have:rowL bl (k*W) W=rowL bl' (k*W) W:=by
   unfold rowL
   exact List.map_congr_left (fun x hx=>by rw [h _ (by have:=List.mem_range.1 hx;omega)])
  rw [this]
theorem printL_eqv {W H:Nat}{bl bl':Nat->Bool}(h:Eqv W H bl bl'):printL bl W H=printL bl' W H:=by
 unfold printL
 rw [rowsL_eqv (fun n hn=>h n ?_)]
 rw [Nat.mul_comm] at hn
 rw [<- Int.natCast_mul]
 exact Int.ofNat_lt.2 hn
end
end Go.Proofs.YtipbhlofbpnpjaaGreatDoor
