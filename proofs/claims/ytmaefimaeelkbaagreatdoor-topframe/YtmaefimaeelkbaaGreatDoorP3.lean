/-
  Texts laid together: Laid, Back, RMoves, Dirs, AsAid, Edge.
-/
import Derived.Test.YtmaefimaeelkbaaGreatDoorP1
import Derived.Test.YtmaefimaeelkbaaGreatDoorP2
import Derived.Deep.LoopGhost
import Derived.Deep.Light
namespace Go.Proofs.YtmaefimaeelkbaaGreatDoor
section
open Go.RowKit
def OldRow (w:World) (A:Option Addr) (n:Nat) (xs:Nat->Int):Prop:=∀ i,i<n->∃ b o,A=some ⟨b,o,none⟩/\b<w.heap.size/\w.cell? ⟨b,o+i,none⟩=some (.int .i64 (xs i))
structure Both (w:World) (g m:Nat) (W H V:Int) (bl:Nat->Bool):Prop where
 ga:GridAt w g W H V bl
 gf:Free w g
 ra:RefAt w m W H V bl
 rf:Free w m
 v1:0<=V
 ne:g≠m
theorem Both.drewN {w:World}{g m:Nat}{W H V:Int}{bl:Nat->Bool}(h:Both w g m W H V bl)(k:Nat):Both (w.drewN k) g m W H V bl:=⟨h.ga.drewN k,h.gf,h.ra.drewN k,h.rf,h.v1,h.ne⟩
set_option maxHeartbeats 400000 in
theorem laid_many (W H:Int)(A:Option Addr)(n cap:Nat)(w:World)(hn:300<(n:Int))(_hm:n<=maxLen) :
  Calls Tryz.prog 62 #[.agg #[.int .i64 W,.int .i64 H,.slice A n cap]] w fun e w'=>e=.returned (.tuple #[.pointer none,.pointer none,.bool false])/\Below w.heap.size w w':=by
 unfold maxLen at _hm
 go_enter Tryz.func62,Tryz.ntmps62
 go_wp2
 go_ret3
 exact ⟨rfl,(Below.refl _ _).alloc (Nat.le_refl _) _⟩
set_option maxHeartbeats 400000 in
theorem laid_bad (W H:Int)(A:Option Addr)(n cap:Nat)(w:World)(hn:¬ 300<(n:Int))(h:sideB W=false\/(sideB W=true/\sideB H=false)) :
  Calls Tryz.prog 62 #[.agg #[.int .i64 W,.int .i64 H,.slice A n cap]] w fun e w'=>e=.returned (.tuple #[.pointer none,.pointer none,.bool false])/\Below w.heap.size w w':=by
 go_enter Tryz.func62,Tryz.ntmps62
 go_wp2_with (first|(go_at_call 31;refine (new_bad _ _ _ h).mono ?_;rintro e w' ⟨rfl,rfl⟩)|(go_at_call 28;refine (rnew_bad _ _ _ h).mono ?_;rintro e w' ⟨rfl,rfl⟩))
 go_ret3
 exact ⟨rfl,(Below.refl _ _).alloc (Nat.le_refl _) _⟩
theorem free_alloc (w:World)(c:Array Value)(t:TypeId)(b:Nat)(h:w.heap.size<=b):Free (w.alloc (.cells c t)) b:=fun o=>by
 rw [frozen?_alloc_cells]
 unfold World.frozen?
 rw [Array.getElem?_eq_none h]
theorem both_new (W H:Int)(h:sideB W=true)(k:sideB H=true)(w:World)(C:Array Value)(t:TypeId) :
  Both (((w.alloc (.cells C t)).alloc (.cells (gridC W H) 136)).alloc (.cells (refC W H) 38)) (w.heap.size+1) (w.heap.size+1+1) W H 0 (fun _=>false):=by
 have e1:w.heap.size+1=(w.alloc (.cells C t)).heap.size:=by simp
 have e2:w.heap.size+1+1=((w.alloc (.cells C t)).alloc (.cells (gridC W H) 136)).heap.size:=by simp
 refine ⟨?_,?_,?_,?_,by omega,by omega⟩
 ·have g:=gridAt_new W H (w.alloc (.cells C t)) h k
  rw [<- e1] at g
  exact g.below ((Below.refl _ _).alloc (Nat.le_refl _) _) (by simp)
 ·intro o
  rw [frozen?_alloc_cells]
  exact free_alloc (w.alloc (.cells C t)) _ _ _ (by simp) o
 ·rw [e2];exact refAt_new W H _ h k
 ·exact free_alloc _ _ _ _ (by simp)
set_option maxHeartbeats 1600000 in
theorem laid_ok (W H:Int)(A:Option Addr)(n cap:Nat)(xs:Nat->Int)(w:World)(hn:¬ 300<(n:Int))(h:sideB W=true)(k:sideB H=true)(hx:OldRow w A n xs) :
  Calls Tryz.prog 62 #[.agg #[.int .i64 W,.int .i64 H,.slice A n cap]] w fun e w'=>e=.returned (.tuple #[.pointer (some ⟨w.heap.size+1,0,none⟩),.pointer (some ⟨w.heap.size+1+1,0,none⟩),.bool true])/\Below w.heap.size w w'/\w'.heap.size=w.heap.size+3 /\
   ∃ V bl,V<=300/\Both w' (w.heap.size+1) (w.heap.size+1+1) W H V bl:=by
 have a:1<=W/\W<=16:=of_decide_eq_true h
 have b:1<=H/\H<=16:=of_decide_eq_true k
 go_enter Tryz.func62,Tryz.ntmps62
 go_wp2_with (first|(go_at_call 31;refine (new_ok _ _ _ h k).mono ?_;rintro e w' ⟨rfl,rfl⟩)|(go_at_call 28;refine (rnew_ok _ _ _ a.1 a.2 b.1 b.2).mono ?_;rintro e w' ⟨rfl,rfl⟩))
 go_loopw [9] (fun i wr=>∃ (j:Nat) (V:Int) (bl:Nat->Bool),j<=n/\i=.int .i64 j/\V<=j/\Both wr (w.heap.size+1) (w.heap.size+1+1) W H V bl/\Below w.heap.size w wr/\wr.cell? ⟨w.heap.size,2,none⟩=some (.slice A n cap)/\wr.heap.size=w.heap.size+3)
  (fun i _=>n - (intOf i).toNat)
 case atStart =>
  refine ⟨0,0,fun _=>false,Nat.zero_le _,rfl,by omega,both_new W H h k w _ 68,((((Below.refl _ _).alloc (Nat.le_refl _) _).alloc (by simp) _).alloc (by simp;omega) _),?_,by simp⟩
  rw [World.cell?_alloc_old _ _ _ (by simp;omega),World.cell?_alloc_old _ _ _ (by simp),World.cell?_alloc_new];rfl
 case round =>
  obtain ⟨j,V,bl,hj,rfl,hV,hB,hnx,hbox,hsz⟩:=hrel
  have hv0:=hB.v1
  by_cases hlt:j<n
  ·obtain ⟨ba,oa,rfl,hba,hcell⟩:=hx j hlt
   have hc2:wr.cell? ⟨ba,oa+j,none⟩=some (.int .i64 (xs j)):=(hnx.cell (p:=⟨ba,oa+j,none⟩) hba).trans hcell
   clear hcell
   generalize xs j=c at hc2
   have i1:(0:Int)<=(j:Int):=by omega
   have i2:(j:Int)<(n:Int):=by omega
   cases hin:inB W H c with
   |false =>
    go_wp2_with (first|(go_at_call 19;refine (ris_out _ _ hB.ra hin).mono ?_;rintro e w' ⟨rfl,m1,rfl⟩)|(go_at_call 107;refine (set_out _ _ _ (hB.drewN _).ga hin).mono ?_;rintro e w' ⟨rfl,m2,rfl⟩)|(go_at_call 29;refine (rset_out _ _ _ (hB.drewN _).ra hin).mono ?_;rintro e w' ⟨rfl,m3,rfl⟩))
    go_roundw
    case rel=>exact ⟨j+1,V,bl,by omega,by go_num,by omega,hB.drewN _,below_drewN hnx _,hbox,hsz⟩
    case measure=>simp [intOf];omega
   |true =>
    have hc:0<=c/\c<W*H:=of_decide_eq_true hin
    obtain ⟨k1,k2⟩:=wh_bd a.1 a.2 b.1 b.2
    obtain ⟨cN,rfl⟩:∃ cN:Nat,c=cN:=⟨c.toNat,by omega⟩
    obtain ⟨q1,q2⟩:=hc
    have q3:(cN:Int)<256:=by omega
    have hbl:=hB.ra.cs cN (by omega)
    have ne1:w.heap.size≠w.heap.size+1:=by omega
    have ne2:w.heap.size≠w.heap.size+1+1:=by omega
    go_wp2_with (first|(go_at_call 19;refine (ris_in _ _ hB.ra hin).mono ?_;rintro e w' ⟨rfl,m1,rfl⟩)|(go_at_call 107;refine (set_new cN (!bl cN) _ (hB.drewN _).ga (hB.drewN _).gf hin (Bool.not_not _).symm hv0 (by omega)).mono ?_;rintro e w1 ⟨rfl,T1,G1,F1⟩)|(go_at_call 29;refine (rset_new cN (!bl cN) _ ((hB.drewN _).ra.touch T1 hB.ne.symm) (fun o=>(T1.frozen (p:=⟨w.heap.size+1+1,o,none⟩) hB.ne.symm).trans (hB.rf o)) hin (Bool.not_not _).symm hv0 (by omega)).mono ?_;rintro e w2 ⟨rfl,T2,R2,F2⟩))
    go_roundw
    case rel =>
     refine ⟨j+1,V+1,upd bl cN (!bl cN),by omega,by go_num,by omega,⟨G1.touch T2 hB.ne,fun o=>(T2.frozen (p:=⟨w.heap.size+1,o,none⟩) hB.ne).trans (F1 o),R2,F2,by omega,hB.ne⟩,T2.below (T1.below (below_drewN hnx _) (by omega)) (by omega),?_,?_⟩
     ·exact ((T2.cell (p:=⟨w.heap.size,2,none⟩) ne2).trans (T1.cell (p:=⟨w.heap.size,2,none⟩) ne1)).trans hbox
     ·exact (T2.size.trans T1.size).trans hsz
    case measure=>simp [intOf];omega
  ·have:j=n:=by omega
   subst this
   go_wp2
   go_ret3
   exact ⟨rfl,hnx,hsz,V,bl,by omega,hB⟩
end
section
theorem open_in {W H x y:Int}{bl:Nat->Bool}(h:openB W H bl x y=true):0<=x/\x<W/\0<=y/\y<H:=by
 unfold openB at h
 rw [Bool.and_eq_true] at h
 exact of_decide_eq_true h.1
theorem mem_mvs {W H x y:Int}{bl:Nat->Bool}{k d:Nat}:d ∈ mvs W H bl x y k↔d<k/\mayB W H bl x y d=true:=by
 unfold mvs;rw [List.mem_filter,List.mem_range]
theorem getD_at (l:List Nat)(i:Nat)(h:i<l.length):l.getD i 0=l[i]:=by
 rw [List.getD_eq_getElem?_getD,List.getElem?_eq_getElem h];rfl
def opp (d:Nat):Nat:=(d+4) % 8
theorem opp_lt (d:Nat):opp d<8:=Nat.mod_lt _ (by decide)
theorem opp_step (d:Nat)(h:d<8):stepX (opp d)=-stepX d/\stepY (opp d)=-stepY d:=by
 have hks:d=0\/d=1\/d=2\/d=3\/d=4\/d=5\/d=6\/d=7:=by omega
 rcases hks with rfl|rfl|rfl|rfl|rfl|rfl|rfl|rfl <;> decide
theorem may_parts {W H x y:Int}{bl:Nat->Bool}{d:Nat}(h:mayB W H bl x y d=true) :
  openB W H bl x y=true/\openB W H bl (x+stepX d) (y+stepY d)=true/\openB W H bl (x+stepX d) y=true/\openB W H bl x (y+stepY d)=true:=by
 unfold mayB at h
 simp only [Bool.and_eq_true] at h
 exact ⟨h.1.1.1,h.1.1.2,h.1.2,h.2⟩
theorem may_back {W H x y:Int}{bl:Nat->Bool}{d:Nat}(hd:d<8)(h:mayB W H bl x y d=true):mayB W H bl (x+stepX d) (y+stepY d) (opp d)=true:=by
 obtain ⟨a,b,c,e⟩:=may_parts h
 obtain ⟨o1,o2⟩:=opp_step d hd
 unfold mayB
 rw [o1,o2,show x+stepX d+-stepX d=x from by omega,show y+stepY d+-stepY d=y from by omega,a,b,c,e]
 rfl
theorem place_to {W H x y:Int}(w1:1<=W)(x1:0<=x)(x2:x<W)(y1:0<=y)(y2:y<H):inB W H (y*W+x)=true/\(y*W+x) % W=x/\(y*W+x) / W=y:=by
 refine ⟨decide_eq_true ⟨?_,?_⟩,?_,?_⟩
 ·have:=Int.mul_nonneg y1 (show 0<=W by omega);omega
 ·have:=Int.mul_le_mul_of_nonneg_right (show y+1<=H by omega) (show 0<=W by omega)
  rw [Int.add_mul,Int.one_mul,Int.mul_comm H W] at this
  omega
 ·rw [Int.add_comm,Int.add_mul_emod_self_right];exact Int.emod_eq_of_lt x1 x2
 ·rw [Int.add_comm,Int.add_mul_ediv_right _ _ (by omega),Int.ediv_eq_zero_of_lt x1 x2];omega
theorem cell_eq (W c:Int):c / W*W+c % W=c:=by
 have:=Int.mul_ediv_add_emod c W
 rw [Int.mul_comm] at this
 exact this
theorem back_facts {W H c:Int}{bl:Nat->Bool}{d:Nat}(w1:1<=W)(hd:d<8)(h:mayB W H bl (c % W) (c / W) d=true) :
  inB W H (c+(stepY d*W+stepX d))=true /\
  ∃ j,j<(mvs W H bl ((c+(stepY d*W+stepX d)) % W) ((c+(stepY d*W+stepX d)) / W) 8).length /\
   (mvs W H bl ((c+(stepY d*W+stepX d)) % W) ((c+(stepY d*W+stepX d)) / W) 8).getD j 0=opp d:=by
 have hb:=may_back hd h
 obtain ⟨_,o2,_,_⟩:=may_parts h
 obtain ⟨a1,a2,a3,a4⟩:=open_in o2
 have e:c+(stepY d*W+stepX d)=(c / W+stepY d)*W+(c % W+stepX d):=by
  have:=cell_eq W c
  rw [Int.add_mul]
  omega
 obtain ⟨p1,p2,p3⟩:=place_to (H:=H) w1 a1 a2 a3 a4
 rw [e,p2,p3]
 refine ⟨p1,?_⟩
 have hm:opp d ∈ mvs W H bl (c % W+stepX d) (c / W+stepY d) 8:=mem_mvs.mpr ⟨opp_lt d,hb⟩
 obtain ⟨j,hj,he⟩:=List.mem_iff_getElem.mp hm
 exact ⟨j,hj,by rw [getD_at _ _ hj];exact he⟩
theorem back_home {W c:Int}{d:Nat}(hd:d<8):c+(stepY d*W+stepX d)+(stepY (opp d)*W+stepX (opp d))=c:=by
 obtain ⟨o1,o2⟩:=opp_step d hd
 rw [o1,o2,Int.neg_mul]
 omega
theorem mvs_sorted (W H x y:Int)(bl:Nat->Bool)(k:Nat):(mvs W H bl x y k).Pairwise (·<·) :=
 List.Pairwise.filter _ List.pairwise_lt_range
theorem mvs_rise {W H x y:Int}{bl:Nat->Bool}{k i:Nat}(h0:0<i)(hi:i<(mvs W H bl x y k).length):(mvs W H bl x y k).getD (i - 1) 0<(mvs W H bl x y k).getD i 0:=by
 rw [getD_at _ _ hi,getD_at _ _ (by omega)]
 exact List.pairwise_iff_getElem.mp (mvs_sorted W H x y bl k) (i - 1) i (by omega) hi (by omega)
theorem mvs_at {W H x y:Int}{bl:Nat->Bool}{k i:Nat}(hi:i<(mvs W H bl x y k).length):(mvs W H bl x y k).getD i 0<k/\mayB W H bl x y ((mvs W H bl x y k).getD i 0)=true:=by
 rw [getD_at _ _ hi]
 exact mem_mvs.mp (List.getElem_mem hi)
end
section
open Go.RowKit
theorem rmay_v {b:Nat}{W H V x y:Int}{bl:Nat->Bool}{d:Nat}{r:Bool}(hr:mayB W H bl x y d=r)(w:World)(g:RefAt w b W H V bl)(hd:d<8)(x1:-100<=x)(x2:x<=100)(y1:-100<=y)(y2:y<=100) :
  Calls Tryz.prog 48 #[.pointer (some ⟨b,0,none⟩),.int .i64 x,.int .i64 y,.int .i64 d] w fun e w'=>e=.returned (.bool r)/\∃ m,w'=w.drewN m:=hr ▸ rmay_any x y d w g hd x1 x2 y1 y2
set_option maxHeartbeats 1600000 in
set_option maxRecDepth 1000000 in
theorem rmoves_in {b:Nat}{W H V:Int}{bl:Nat->Bool}(c:Int)(w:World)(g:RefAt w b W H V bl)(hr:inB W H c=true)(hb:b<w.heap.size) :
  Calls Tryz.prog 77 #[.pointer (some ⟨b,0,none⟩),.int .i64 c] w fun e w'=>∃ v,e=.returned v /\
   w'.ownsRow w.heap.size 3 1 v (mvs W H bl (c % W) (c / W) 8).length (vals (mvs W H bl (c % W) (c / W) 8))/\Below w.heap.size w w':=by
 obtain ⟨i0,hi,hz0,hz1,hz2⟩:=info_parts Tryz.info3
 have hc:0<=c/\c<W*H:=of_decide_eq_true hr
 obtain ⟨k1,k2⟩:=wh_bd g.w1 g.w2 g.h1 g.h2
 have gw1:=g.w1
 have gw:=g.w2
 have gh:=g.h2
 have x1:0<=c % W:=Int.emod_nonneg _ (by omega)
 have x2:c % W<W:=Int.emod_lt_of_pos _ (by omega)
 have y1:0<=c / W:=Int.ediv_nonneg hc.1 (by omega)
 have y3:c / W<H:=Int.ediv_lt_of_lt_mul (by omega) (by rw [Int.mul_comm];exact hc.2)
 obtain ⟨q1,q2⟩:=hc
 go_enter Tryz.func77,Tryz.ntmps77
 go_wp2
 go_loopw [5,6] (fun v i wr=>∃ k:Nat,k<=8/\i=.int .i64 k/\wr.ownsRow w.heap.size 3 1 v (mvs W H bl (c % W) (c / W) k).length (vals (mvs W H bl (c % W) (c / W) k))/\Below w.heap.size w wr)
  (fun _ i _=>8 - (intOf i).toNat)
 case atStart=>exact ⟨0,Nat.zero_le _,rfl,World.ownsRow_nil _ _ _ _,Below.refl _ _⟩
 case round =>
  obtain ⟨k,hk,rfl,hown,hnx⟩:=hrel
  have hl:=mvs_len W H bl (c % W) (c / W) k
  have gr:=g.below hnx hb
  have c0:=gr.c0
  have hsz:=hnx.size
  by_cases hlt:k<8
  ·have hms:=mvs_succ W H bl (c % W) (c / W) k
   cases hM:mayB W H bl (c % W) (c / W) k with
   |false =>
    rw [hM] at hms
    have h0:mvs W H bl (c % W) (c / W) (k+1)=mvs W H bl (c % W) (c / W) k:=by simpa using hms
    have HS:Hid (mvs W H bl (c % W) (c / W) (k+1)=mvs W H bl (c % W) (c / W) k):=h0
    clear h0 hms
    go_wp2
    go_quiet ((go_at_call 48;exact Calls.quiet_of (rmay_v hM _ (gr.drewN _) hlt (by omega) (by omega) (by omega) (by omega))))
    go_wp2
    go_roundw
    case rel=>exact ⟨k+1,by omega,by go_num,by rw [HS.out];exact hown,below_drewN hnx _⟩
    case measure=>simp [intOf];omega
   |true =>
    rw [hM] at hms
    have h0:mvs W H bl (c % W) (c / W) (k+1)=mvs W H bl (c % W) (c / W) k++[k]:=by simpa using hms
    have HS:Hid (mvs W H bl (c % W) (c / W) (k+1)=mvs W H bl (c % W) (c / W) k++[k]):=h0
    clear h0 hms
    go_wp2
    go_quiet ((go_at_call 48;exact Calls.quiet_of (rmay_v hM _ (gr.drewN _) hlt (by omega) (by omega) (by omega) (by omega))))
    go_wp2_with (at_builtin;refine wpList_append_own _ rfl _ _ 51 rfl w.heap.size 3 i0 (.int .i64 0) 1 8 Tryz.underlying51 hi hz0 hz1 hz2 rfl (by decide) _ _ _ rfl (World.ownsRow.alloc hown _) ⟨wr.heap.size,0,none⟩ 1 1 [.int .i64 k] rfl rfl ?c1 ?c2 ?c3 ?c4 ?c5 ?_)
    case c1 =>
     intro j u hj
     match j,hj with
     |0,hj =>
      simp at hj;subst hj;simp only [Addr.add]
      exact World.cell?_alloc_at (w:=wr.drewN nq) #[.int .i64 k] 3 wr.heap.size 0 rfl
    case c2=>intro u hu;simp at hu;subst hu;rfl
    case c3=>unfold maxLen;omega
    case c4=>omega
    case c5=>simp;omega
    intro v' w1 hown' hgrow _
    have hbase:=fun q hq=>(hown.lt q hq).1
    have B1:Below w.heap.size w w1:=((below_drewN hnx nq).alloc hsz _).grown hgrow (by simp;omega) hbase
    have O1:w1.ownsRow w.heap.size 3 1 v' (mvs W H bl (c % W) (c / W) (k+1)).length (vals (mvs W H bl (c % W) (c / W) (k+1))):=by
     rw [HS.out]
     simpa [vals] using hown'
    clear hown' hgrow hown hnx gr c0
    go_wp2
    go_roundw
    case rel=>exact ⟨k+1,by omega,by go_num,O1,B1⟩
    case measure=>simp [intOf];omega
  ·have:k=8:=by omega
   subst this
   go_wp2
   go_ret
   exact ⟨_,rfl,hown,hnx⟩
end
section
open Go.RowKit
theorem OldRow.below {w w':World}{A:Option Addr}{n:Nat}{xs:Nat->Int}(h:OldRow w A n xs)(hb:Below w.heap.size w w'):OldRow w' A n xs:=fun i hi=>by
 obtain ⟨b,o,e,hlt,hc⟩:=h i hi
 exact ⟨b,o,e,Nat.lt_of_lt_of_le hlt hb.size,(hb.cell (p:=⟨b,o+i,none⟩) hlt).trans hc⟩
theorem row_of {w:World}{base:Nat}{v:Value}{l:List Nat}(h:w.ownsRow base 3 1 v l.length (vals l)):∃ A cap,v=.slice A l.length cap/\OldRow w A l.length (fun i=>(l.getD i 0:Nat)):=by
 rcases h.2 with ⟨hv,h0⟩|⟨g,cap,cur,hv,hb,hg,_,_,hsz,htk⟩
 ·refine ⟨none,0,by rw [h0];exact hv,fun i hi=>absurd hi (by omega)⟩
 ·refine ⟨_,cap,hv,fun i hi=>⟨g,0,rfl,(Array.getElem?_eq_some_iff.1 hg).1,?_⟩⟩
  subst hv
  have:=h.cellAt i (by omega)
  rw [Nat.zero_add,this]
  rw [List.getElem?_map,List.getElem?_eq_getElem hi]
  show _=some (Value.int .i64 ((l.getD i 0:Nat):Int))
  rw [getD_at _ _ hi]
  rfl
structure DirsOf (W H:Int) (bl:Nat->Bool) (c:Int) (l:List Nat):Prop where
 eq:mvs W H bl (c % W) (c / W) 8=l
 len:l.length<=8
 lt:∀ i,i<l.length->l.getD i 0<8
 rise:∀ i,0<i->i<l.length->l.getD (i - 1) 0<l.getD i 0
 back:∀ i,i<l.length->inB W H (c+(stepY (l.getD i 0)*W+stepX (l.getD i 0)))=true /\
  ∀ l',mvs W H bl ((c+(stepY (l.getD i 0)*W+stepX (l.getD i 0))) % W) ((c+(stepY (l.getD i 0)*W+stepX (l.getD i 0))) / W) 8=l'->∃ j,j<l'.length/\l'.getD j 0=opp (l.getD i 0)
theorem dirsOf {W H:Int}(bl:Nat->Bool)(c:Int)(w1:1<=W):∃ l,DirsOf W H bl c l :=
 ⟨_,rfl,mvs_len _ _ _ _ _ _,fun _ hi=>(mvs_at hi).1,fun _ h0 hi=>mvs_rise h0 hi,fun _ hi=>⟨(back_facts w1 (mvs_at hi).1 (mvs_at hi).2).1,fun _ e=>e ▸ (back_facts w1 (mvs_at hi).1 (mvs_at hi).2).2⟩⟩
end
section
open Go.RowKit
theorem rto_v {b:Nat}{W H V c r:Int}{bl:Nat->Bool}{d:Nat}(hr:c+(stepY d*W+stepX d)=r)(w:World)(g:RefAt w b W H V bl)(hd:d<8)(c1:-1000<=c)(c2:c<=1000) :
  Calls Tryz.prog 49 #[.pointer (some ⟨b,0,none⟩),.int .i64 c,.int .i64 d] w fun e w'=>e=.returned (.int .i64 r)/\w'=w:=by
 have:=rto_any c d w g hd c1 c2
 rw [show c+stepX d+stepY d*W=r from by omega] at this
 exact this
theorem to_v {b:Nat}{W H V c r:Int}{bl:Nat->Bool}{d:Nat}(hr:c+(stepY d*W+stepX d)=r)(w:World)(g:GridAt w b W H V bl)(s:StepsAt w)(hd:d<8)(c1:-1000<=c)(c2:c<=1000) :
  Calls Tryz.prog 154 #[.pointer (some ⟨b,0,none⟩),.int .i64 c,.int .i64 d] w fun e w'=>e=.returned (.int .i64 r)/\∃ m,w'=w.drewN m:=hr ▸ to_any c d w g s hd c1 c2
end
section
open Go.RowKit
def Edge (W H:Int) (bl:Nat->Bool) (a:Int) (k:Nat) (b:Int):Prop:=k<8/\inB W H a=true/\mayB W H bl (a % W) (a / W) k=true/\b=a+(stepY k*W+stepX k)
theorem Edge.in' {W H a b:Int}{bl:Nat->Bool}{k:Nat}(w1:1<=W)(e:Edge W H bl a k b):inB W H b=true:=by
 rw [e.2.2.2];exact (back_facts w1 e.1 e.2.2.1).1
theorem st_opp (k:Nat):stS (opp k)=stS k/\stD (opp k)=stD k:=by
 have:opp k % 2=k % 2:=by unfold opp;omega
 unfold stS stD
 rw [this]
 exact ⟨rfl,rfl⟩
theorem Edge.back {W H:Int}{bl:Nat->Bool}(w1:1<=W)(a:Int)(k:Nat)(b:Int)(e:Edge W H bl a k b):∃ k',Edge W H bl b k' a/\stS k'=stS k/\stD k'=stD k:=by
 obtain ⟨h1,h2,h3,h4⟩:=e
 obtain ⟨f1,j,hj,hj2⟩:=back_facts w1 h1 h3
 have hm:=mvs_at hj
 rw [hj2,<- h4] at hm
 refine ⟨opp k,⟨opp_lt k,by rw [h4];exact f1,hm.2,?_⟩,st_opp k⟩
 rw [h4];exact (back_home h1).symm
theorem Edge.one {W H a b c:Int}{bl:Nat->Bool}{k j:Nat}(e:Edge W H bl a k b)(f:Edge W H bl a j c)(h:j=k):c=b:=by
 rw [e.2.2.2,f.2.2.2,h]
set_option maxHeartbeats 400000 in
theorem check_out {b:Nat}{W H V:Int}{bl:Nat->Bool}(c:Int)(w:World)(g:GridAt w b W H V bl)(hr:inB W H c=false) :
  Calls Tryz.prog 123 #[.pointer (some ⟨b,0,none⟩),.int .i64 c] w fun e w'=>e=.returned (.iface 54 (.int .i64 1))/\∃ m,w'=w.drewN m:=by
 go_enter Tryz.func123,Tryz.ntmps123
 go_wp2_with (go_at_call 72;refine (free_out c _ g hr).mono ?_;rintro e w' ⟨rfl,m,rfl⟩)
 go_ret
 exact ⟨rfl,_,rfl⟩
set_option maxHeartbeats 400000 in
theorem check_bl {b:Nat}{W H V:Int}{bl:Nat->Bool}(c:Nat)(w:World)(g:GridAt w b W H V bl)(hr:inB W H c=true)(hb:bl c=true) :
  Calls Tryz.prog 123 #[.pointer (some ⟨b,0,none⟩),.int .i64 c] w fun e w'=>e=.returned (.iface 54 (.int .i64 4))/\∃ m,w'=w.drewN m:=by
 have hf:=fun w g=>free_in (b:=b) (W:=W) (H:=H) (V:=V) (bl:=bl) c w g hr
 rw [hb] at hf
 go_enter Tryz.func123,Tryz.ntmps123
 go_wp2_with (go_at_call 72;refine (hf _ g).mono ?_;rintro e w' ⟨rfl,m,rfl⟩)
 go_ret
 exact ⟨rfl,_,rfl⟩
set_option maxHeartbeats 400000 in
theorem check_ok {b:Nat}{W H V:Int}{bl:Nat->Bool}(c:Nat)(w:World)(g:GridAt w b W H V bl)(hr:inB W H c=true)(hb:bl c=false) :
  Calls Tryz.prog 123 #[.pointer (some ⟨b,0,none⟩),.int .i64 c] w fun e w'=>e=.returned .nilIface/\∃ m,w'=w.drewN m:=by
 have hf:=fun w g=>free_in (b:=b) (W:=W) (H:=H) (V:=V) (bl:=bl) c w g hr
 rw [hb] at hf
 go_enter Tryz.func123,Tryz.ntmps123
 go_wp2_with (go_at_call 72;refine (hf _ g).mono ?_;rintro e w' ⟨rfl,m,rfl⟩)
 go_ret
 exact ⟨rfl,_,rfl⟩
end
end Go.Proofs.YtmaefimaeelkbaaGreatDoor
