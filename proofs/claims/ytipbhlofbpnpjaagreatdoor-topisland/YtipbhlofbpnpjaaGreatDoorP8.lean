/-
  Texts laid together: Copy, GNew, GRead, CellA, ClearM, Tab.
-/
import Derived.Test.YtipbhlofbpnpjaaGreatDoorP3
import Derived.Test.YtipbhlofbpnpjaaGreatDoorP7
import Derived.Test.YtipbhlofbpnpjaaGreatDoorP4
import Derived.Test.YtipbhlofbpnpjaaGreatDoorP2
import Derived.Test.YtipbhlofbpnpjaaGreatDoorP1
import Derived.Test.YtipbhlofbpnpjaaGreatDoorP5
import Derived.Deep.MidRow
import Derived.Deep.LoopGhost
import Derived.Deep.RegionWith
import Derived.Deep.RegionHeld3
namespace Go.Proofs.YtipbhlofbpnpjaaGreatDoor
section
open Go.RowKit
theorem run_alloc65 (w:World):(Instr.alloc 168 true (.tuple #[])).run Tryz.prog w=.ok (.pointer (some ⟨w.heap.size,0,none⟩)) (w.alloc (.cells (gridC 0 0) 168)):=by kernel_rfl
theorem wpList_alloc65 {ops:Array Oper}{rest:List Oper}{o:Oper}{a:Act}{w:World}{Q:Exit->Act->World->Prop}(hgd:o.guard=none)(ho:o.op=.alloc 168)
  (h:wpList Tryz.prog ops Q rest (a.put o.dst (.pointer (some ⟨w.heap.size,0,none⟩))) (w.alloc (.cells (gridC 0 0) 168))):wpList Tryz.prog ops Q (o::rest) a w :=
 wpList_plain hgd fun _ hK=>by
  unfold Oper.wp execOp
  simp only [ho,Sem.run_bind,run_alloc65 w,Result.andThen_ok]
  exact hK _ _ h
def gridL (W H V:Int) (bl:Nat->Bool):List Value:=[.int .i64 W,.int .i64 H,.int .i64 V]++(List.range 256).map fun i=>Value.bool (bl i)
theorem gridL_len (W H V:Int)(bl:Nat->Bool):(gridL W H V bl).length=259:=by unfold gridL;simp
theorem gridL_at (W H V:Int)(bl:Nat->Bool)(i:Nat)(hi:i<256):(gridL W H V bl)[3+i]? = some (.bool (bl i)):=by
 unfold gridL
 rw [List.getElem?_append_right (by simp)]
 simp [hi]
theorem gridL_one (W H V:Int)(bl:Nat->Bool):∀ v ∈ gridL W H V bl,v.oneCell'=true:=by
 intro v hv
 unfold gridL at hv
 simp only [List.mem_append,List.mem_cons,List.mem_map,List.not_mem_nil,or_false] at hv
 rcases hv with (rfl|rfl|rfl)|⟨i,_,rfl⟩ <;> rfl
theorem GridAt.range {w:World}{b:Nat}{W H V:Int}{bl:Nat->Bool}(g:GridAt w b W H V bl):w.rangeAt b 0 (gridL W H V bl):=by
 intro j v hj
 rw [Nat.zero_add]
 have hlt:j<259:=by
  have:=(List.getElem?_eq_some_iff.1 hj).1
  rw [gridL_len] at this
  exact this
 by_cases h:j<3
 ·have hc:j=0\/j=1\/j=2:=by omega
  unfold gridL at hj
  rw [List.getElem?_append_left (by simpa using h)] at hj
  rcases hc with rfl|rfl|rfl
  ·simp at hj;rw [<- hj];exact g.c0
  ·simp at hj;rw [<- hj];exact g.c1
  ·simp at hj;rw [<- hj];exact g.c2
 ·obtain ⟨i,rfl⟩:∃ i,j=3+i:=⟨j - 3,by omega⟩
  rw [gridL_at _ _ _ _ i (by omega)] at hj
  have:v=.bool (bl i):=(Option.some.inj hj).symm
  rw [this]
  exact g.cs i (by omega)
theorem gridAt_range {w:World}{b:Nat}{W H V:Int}{bl:Nat->Bool}(h:w.rangeAt b 0 (gridL W H V bl))(w1:1<=W)(w2:W<=16)(h1:1<=H)(h2:H<=16):GridAt w b W H V bl:=by
 have at_:∀ j v,(gridL W H V bl)[j]? = some v->w.cell? ⟨b,j,none⟩=some v:=fun j v hj=>by have:=h j v hj;rw [Nat.zero_add] at this;exact this
 refine ⟨w1,w2,h1,h2,at_ 0 _ ?_,at_ 1 _ ?_,at_ 2 _ ?_,fun i hi=>at_ (3+i) _ (gridL_at W H V bl i hi)⟩
 ·unfold gridL;rw [List.getElem?_append_left (by simp)];rfl
 ·unfold gridL;rw [List.getElem?_append_left (by simp)];rfl
 ·unfold gridL;rw [List.getElem?_append_left (by simp)];rfl
theorem gridC_size (W H:Int):(gridC W H).size=259:=by unfold gridC;simp
theorem there_new (w:World):(w.alloc (.cells (gridC 0 0) 168)).there w.heap.size 0 259:=by
 intro j hj
 rw [Nat.zero_add,World.cell?_alloc_new,Array.getElem?_eq_getElem (by rw [gridC_size];exact hj)]
 exact ⟨rfl,free_alloc w _ _ _ (Nat.le_refl _) j⟩
theorem below_setCells {B:Nat}{a:World}(b:Nat)(hb:B<=b):∀ (vs:List Value) (o:Nat) {w:World},Below B a w->Below B a (w.setCells b o vs)
 |[],_,_,h=>h
 |v::r,o,_,h=>below_setCells b hb r (o+1) (h.setCell (p:=⟨b,o,none⟩) hb v)
theorem lt_of_cellG {w:World}{b o:Nat}{v:Value}(h:w.cell? ⟨b,o,none⟩=some v):b<w.heap.size:=by
 by_cases hb:b<w.heap.size
 ·exact hb
 ·unfold World.cell? at h
  rw [Array.getElem?_eq_none (by simpa using hb)] at h
  simp at h
theorem info65:(Tryz.prog.info? 168).map (·.size)=some 259:=by kernel_rfl
set_option maxHeartbeats 400000 in
theorem copy_any {b:Nat}{W H V:Int}{bl:Nat->Bool}(w:World)(g:GridAt w b W H V bl) :
  Calls Tryz.prog 72 #[.pointer (some ⟨b,0,none⟩)] w fun e w'=>e=.returned (.pointer (some ⟨w.heap.size,0,none⟩))/\Below w.heap.size w w'/\w.heap.size<w'.heap.size/\GridAt w' w.heap.size W H V bl/\Free w' w.heap.size:=by
 have hr:=g.range
 have hl:=gridL_len W H V bl
 have h1:=gridL_one W H V bl
 have w1:=g.w1
 have w2:=g.w2
 have h3:=g.h1
 have h4:=g.h2
 have ht:=there_new w
 have hB:Below w.heap.size w ((w.alloc (.cells (gridC 0 0) 168)).setCells w.heap.size 0 (gridL W H V bl)):=below_setCells _ (Nat.le_refl _) _ _ ((Below.refl _ _).alloc (Nat.le_refl _) _)
 have hG:GridAt ((w.alloc (.cells (gridC 0 0) 168)).setCells w.heap.size 0 (gridL W H V bl)) w.heap.size W H V bl:=gridAt_range (World.rangeAt_setCells_same _ _ _ _ (by rw [hl];exact ht)) w1 w2 h3 h4
 have hF:Free ((w.alloc (.cells (gridC 0 0) 168)).setCells w.heap.size 0 (gridL W H V bl)) w.heap.size:=fun o=>by rw [World.frozen?_setCells];exact free_alloc w _ _ _ (Nat.le_refl _) o
 have hZ:w.heap.size<((w.alloc (.cells (gridC 0 0) 168)).setCells w.heap.size 0 (gridL W H V bl)).heap.size:=lt_of_cellG hG.c0
 clear w1 w2 h3 h4 g
 generalize gridL W H V bl=cs at *
 go_enter Tryz.func72,Tryz.ntmps72
 go_wp2_with (first|(refine wpList_load_mid rfl 168 _ rfl b 0 rfl cs _ hr Tryz.underlying168 rfl (by rw [hl];exact info65) ?_)|(refine wpList_alloc65 rfl rfl ?_)|(refine wpList_store_mid rfl 168 _ _ rfl w.heap.size 0 cs.toArray rfl rfl (by simpa [hl] using ht) (by simpa [hl] using info65) (all_oneCell_toArray h1) ?_))
 go_ret
 exact ⟨rfl,hB,hZ,hG,hF⟩
end
section
open Go.RowKit Go.Maps Go.Sort Go.Shelf
section
variable {w w' : World} {rb pb mb : Nat} {W H V c : Int} {bl : Nat → Bool} {f : Int → Option Value}
theorem EOk.keep (E:EOk w pb W H bl f c)(G:GSt w rb pb mb W H V bl f)(K:Keep (fun k=>k=mb) w w'){f':Int->Option Value}(hf:f' c=f c):EOk w' pb W H bl f' c:=by
 refine ⟨fun h=>?_,fun h=>hf.trans (E.no h)⟩
 obtain ⟨v,l,h1,h2,h3,h4⟩:=E.yes h
 exact ⟨v,l,hf.trans h1,own_keep h2 K (own_map h2 G.mp),h3,h4⟩
theorem EOk.below (E:EOk w pb W H bl f c)(hb:Below w.heap.size w w'):EOk w' pb W H bl f c:=by
 refine ⟨fun h=>?_,E.no⟩
 obtain ⟨v,l,h1,h2,h3,h4⟩:=E.yes h
 exact ⟨v,l,h1,own_below h2 hb,h3,h4⟩
end
def GraphAt (w:World) (rb pb mb:Nat) (W H V:Int) (bl:Nat->Bool):Prop:=∃ f,GSt w rb pb mb W H V bl f/\∀ c:Int,EOk w pb W H bl f c
theorem GraphAt.below {w w':World}{rb pb mb:Nat}{W H V:Int}{bl:Nat->Bool}(G:GraphAt w rb pb mb W H V bl)(hb:Below w.heap.size w w'):GraphAt w' rb pb mb W H V bl:=by
 obtain ⟨f,h1,h2⟩:=G
 exact ⟨f,h1.below hb,fun c=>(h2 c).below hb⟩
def GraphIn (w:World) (rb pb mb:Nat) (W H V:Int) (bl:Nat->Bool) (Q:Nat->Prop):Prop:=∃ f,GSt w rb pb mb W H V bl f/\(∀ c:Int,EOk w pb W H bl f c)/\∀ c v g,f c=some v->v.ownBlock=some g->Q g
section
variable {w w' : World} {rb pb mb : Nat} {W H V : Int} {bl : Nat → Bool} {Q Q' : Nat → Prop}
theorem GraphIn.graph (G:GraphIn w rb pb mb W H V bl Q):GraphAt w rb pb mb W H V bl:=by
 obtain ⟨f,h1,h2,_⟩:=G
 exact ⟨f,h1,h2⟩
theorem GraphIn.below (G:GraphIn w rb pb mb W H V bl Q)(hb:Below w.heap.size w w'):GraphIn w' rb pb mb W H V bl Q:=by
 obtain ⟨f,h1,h2,h3⟩:=G
 exact ⟨f,h1.below hb,fun c=>(h2 c).below hb,h3⟩
theorem GraphIn.mono (G:GraphIn w rb pb mb W H V bl Q)(h:∀ g,Q g->Q' g):GraphIn w rb pb mb W H V bl Q':=by
 obtain ⟨f,h1,h2,h3⟩:=G
 exact ⟨f,h1,h2,fun c v g a b=>h g (h3 c v g a b)⟩
theorem GraphIn.lt (G:GraphIn w rb pb mb W H V bl Q):GraphIn w rb pb mb W H V bl (fun g=>Q g/\g<w.heap.size):=by
 obtain ⟨f,h1,h2,h3⟩:=G
 refine ⟨f,h1,h2,fun c v g a b=>⟨h3 c v g a b,?_⟩⟩
 cases hc:cornB W H bl c with
 |false=>rw [(h2 c).no hc] at a;cases a
 |true =>
  obtain ⟨v',l,e,ho,_⟩:=(h2 c).yes hc
  rw [e] at a
  cases a
  exact (ho.lt g b).2
end
theorem mkmapM (w:World):(Instr.makeMap 129 none).run Tryz.prog w=.ok (.map (some w.heap.size)) (w.alloc (.map #[] 0)):=by kernel_rfl
theorem cntS_empty:cntS (keyB fun _=>none) 256=0:=cntS_none 256
set_option maxHeartbeats 2000000 in
set_option maxRecDepth 1000000 in
theorem new_graph_in {b:Nat}{W H V:Int}{bl:Nat->Bool}(w:World)(g:GridAt w b W H V bl)(s:StepsAt w)(hb:b<w.heap.size) :
  Calls Tryz.prog 90 #[.pointer (some ⟨b,0,none⟩)] w fun e w'=>∃ rb pb mb,e=.returned (.pointer (some ⟨rb,0,none⟩))/\GraphIn w' rb pb mb W H V bl (fun g=>w.heap.size<=g)/\w.heap.size<=rb/\w.heap.size<=pb/\w.heap.size<=mb/\Below w.heap.size w w':=by
 have hwh:=wh_bd g.w1 g.w2 g.h1 g.h2
 have gw1:=g.w1
 have hcp:=copy_any w g
 go_enter Tryz.func90,Tryz.ntmps90
 go_wp2_with fail
 refine hcp.mono ?_
 rintro e w1 ⟨rfl,hb1,hs1,g1,fr1⟩
 clear hcp
 have hmk:=mkmapM w1
 have hM:MapF Tryz.prog 3 (w1.alloc (.map #[] 0)) w1.heap.size (fun _=>none) 0:=MapF.made w1 Tryz.prog 3
 have B2:Below w.heap.size w ((w1.alloc (.map #[] 0)).alloc (.cells #[.pointer (some ⟨w.heap.size,0,none⟩),.map (some w1.heap.size)] 131)):=(hb1.alloc hb1.size _).alloc (by have:=hb1.size;simp;omega) _
 have b2:Below w1.heap.size w1 ((w1.alloc (.map #[] 0)).alloc (.cells #[.pointer (some ⟨w.heap.size,0,none⟩),.map (some w1.heap.size)] 131)):=((Below.refl _ _).alloc (Nat.le_refl _) _).alloc (by simp) _
 have G2:GSt ((w1.alloc (.map #[] 0)).alloc (.cells #[.pointer (some ⟨w.heap.size,0,none⟩),.map (some w1.heap.size)] 131)) (w1.heap.size+1) w.heap.size w1.heap.size W H V bl (fun _=>none):=by
  refine ⟨World.cell?_alloc_at #[.pointer (some ⟨w.heap.size,0,none⟩),.map (some w1.heap.size)] 131 (w1.heap.size+1) 0 (by simp),World.cell?_alloc_at #[.pointer (some ⟨w.heap.size,0,none⟩),.map (some w1.heap.size)] 131 (w1.heap.size+1) 1 (by simp),g1.below b2 hs1,?_,fun i h=>(by cases h),fun o=>(b2.frozen (p:=⟨w.heap.size,o,none⟩) hs1).trans (fr1 o),by omega⟩
  rw [cntS_empty]
  exact hM.keep (F:=fun _=>False) ((Keep.refl _ _).alloc _) id
 go_wp2_with fail
 generalize (w1.alloc (.map #[] 0)).alloc (.cells #[.pointer (some ⟨w.heap.size,0,none⟩),.map (some w1.heap.size)] 131)=W2 at *
 have hz1:=hb1.size
 generalize hmb:w1.heap.size=mb at *
 clear hM hmk b2 g1 fr1 hs1 hb1
 have s2:=s.below B2 (by omega)
 have hz2:=B2.size
 obtain ⟨l1,l2,l3⟩:=G2.lts
 refine (all_any W2 G2.ga s2 l2).mono ?_
 rintro e w3 ⟨v,rfl,hown,hb3⟩
 have hmem:=fun c=>crs_mem (W:=W) (H:=H) (bl:=bl) (k:=(W*H).toNat) (c:=c)
 have hin:∀ n ∈ crs W H bl (W*H).toNat,inB W H (n:Int)=true/\n<256:=fun n hn=>by
  have h1:=(hmem n).1 hn
  exact ⟨cornC_in gw1 (cornB_iff.1 h1.2),by omega⟩
 have hLL:=crs_len W H bl (W*H).toNat
 have HIN:Hid (∀ n ∈ crs W H bl (W*H).toNat,inB W H (n:Int)=true/\n<256):=hin
 have HME:Hid (∀ c:Int,cornB W H bl c=true->∃ n:Nat,n ∈ crs W H bl (W*H).toNat/\c=n):=fun c hc=>by
  have h1:=cornC_in gw1 (cornB_iff.1 hc)
  have h2:0<=c/\c<W*H:=of_decide_eq_true h1
  refine ⟨c.toNat,(hmem c.toNat).2 ⟨by omega,?_⟩,by omega⟩
  rw [Int.toNat_of_nonneg h2.1];exact hc
 obtain ⟨A,cap,rfl,_⟩:=row_of hown
 have G3:=G2.below hb3
 have B3:=B2.trans (hb3.mono B2.size)
 clear hmem hin G2 hb3
 generalize crs W H bl (W*H).toNat=L at *
 have hown:=own_base hown (Nat.zero_le _)
 go_wp2
 go_loopw [17] (fun iv wr=>∃ (k:Nat) (f:Int->Option Value),k<=L.length/\iv=.int .i64 k/\GSt wr (mb+1) w.heap.size mb W H V bl f/\Hid (∀ c:Int,(∃ i,i<k/\c=((L.getD i 0:Nat):Int))->EOk wr w.heap.size W H bl f c)/\Hid (∀ c:Int,¬ (∃ i,i<k/\c=((L.getD i 0:Nat):Int))->f c=none)/\Hid (∀ (c:Int) v g,f c=some v->v.ownBlock=some g->w.heap.size<=g)/\wr.ownsRow 0 3 1 (.slice A L.length cap) L.length (vals L)/\Below w.heap.size w wr)
  (fun i _=>L.length - (intOf i).toNat)
 case atStart=>exact ⟨0,_,Nat.zero_le _,rfl,G3,fun c ⟨i,hi,_⟩=>absurd hi (Nat.not_lt_zero i),fun c _=>rfl,fun c v g h=>(by cases h),hown,B3⟩
 case round =>
  obtain ⟨k,f,hk,rfl,Gr,hyes,hno,hin,hrow,hB⟩:=hrel
  by_cases hlt:k<L.length
  ·obtain ⟨ba,hA⟩:∃ ba,A=some ⟨ba,0,none⟩:=by
    rcases hrow.2 with ⟨_,h0⟩|⟨ba,_,_,hv,_⟩
    ·omega
    ·exact ⟨ba,by cases hv;rfl⟩
   subst hA
   have hcell':wr.cell? ⟨ba,k,none⟩=some (.int .i64 ((L.getD k 0:Nat):Int)):=own_int hrow k hlt
   have hnm:L.getD k 0 ∈ L:=by rw [getD_at _ _ hlt];exact List.getElem_mem hlt
   obtain ⟨hni,hn2⟩:=HIN.out _ hnm
   have HK:Hid (∀ c:Int,(∃ i,i<k+1/\c=((L.getD i 0:Nat):Int))↔(∃ i,i<k/\c=((L.getD i 0:Nat):Int))\/c=((L.getD k 0:Nat):Int)):=fun c=>by
    constructor
    ·rintro ⟨i,hi,h⟩
     by_cases e:i=k
     ·subst e;exact Or.inr h
     ·exact Or.inl ⟨i,by omega,h⟩
    ·rintro (⟨i,hi,h⟩|h)
     ·exact ⟨i,by omega,h⟩
     ·exact ⟨k,by omega,h⟩
   generalize hnn:L.getD k 0=n at *
   clear hnn hnm
   have i1:(0:Int)<=(k:Int):=by omega
   have i2:(k:Int)<(L.length:Int):=by omega
   have hz:=hB.size
   have hlk:=look_any wr Gr (s.below hB (by omega)) hni
   go_wp2_with fail
   refine hlk.mono ?_
   rintro e w4 ⟨rfl,⟨f',G4,hf',E4,I4⟩,K4⟩
   have B4:Below w.heap.size w w4:=hB.trans (K4.to_below hB.size (fun k e=>by omega))
   have R4:=own_keep hrow K4 (own_map hrow Gr.mp)
   have HY:Hid (∀ c:Int,(∃ i,i<k+1/\c=((L.getD i 0:Nat):Int))->EOk w4 w.heap.size W H bl f' c):=fun c hc=>by
    by_cases e:c=(n:Int)
    ·rw [e];exact E4
    ·exact (hyes.out c (((HK.out c).1 hc).resolve_right e)).keep Gr K4 (hf' c e)
   have HN:Hid (∀ c:Int,¬ (∃ i,i<k+1/\c=((L.getD i 0:Nat):Int))->f' c=none):=fun c hc=>by
    have e:c≠(n:Int):=fun e=>hc ((HK.out c).2 (Or.inr e))
    rw [hf' c e]
    exact hno.out c (fun h=>hc ((HK.out c).2 (Or.inl h)))
   have HI:Hid (∀ (c:Int) v g,f' c=some v->v.ownBlock=some g->w.heap.size<=g):=fun c v g h hg=>by
    by_cases e:c=(n:Int)
    ·rw [e] at h;exact Nat.le_trans hB.size (I4 v g h hg)
    ·rw [hf' c e] at h;exact hin.out c v g h hg
   clear hlk hyes hno hin Gr hrow hB E4 I4 K4 hf'
   go_wp2
   go_roundw
   case rel=>exact ⟨k+1,f',by omega,by go_num,G4,HY,HN,HI,R4,B4⟩
   case measure=>simp [intOf];omega
  ·have e:k=L.length:=by omega
   subst e
   have HE:Hid (∀ c:Int,EOk wr w.heap.size W H bl f c):=fun c=>by
    by_cases hc:∃ i,i<L.length/\c=((L.getD i 0:Nat):Int)
    ·exact hyes.out c hc
    ·refine ⟨fun h=>?_,fun _=>hno.out c hc⟩
     obtain ⟨n,hn,rfl⟩:=HME.out c h
     obtain ⟨i,hi,h⟩:=List.getElem_of_mem hn
     exact absurd ⟨i,hi,by rw [getD_at _ _ hi,h]⟩ hc
   clear hyes hno
   go_wp2
   go_ret
   exact ⟨_,_,_,rfl,⟨f,Gr,HE.out,hin.out⟩,by omega,Nat.le_refl _,by omega,hB⟩
theorem new_graph {b:Nat}{W H V:Int}{bl:Nat->Bool}(w:World)(g:GridAt w b W H V bl)(s:StepsAt w)(hb:b<w.heap.size) :
  Calls Tryz.prog 90 #[.pointer (some ⟨b,0,none⟩)] w fun e w'=>∃ rb pb mb,e=.returned (.pointer (some ⟨rb,0,none⟩))/\GraphAt w' rb pb mb W H V bl/\w.heap.size<=rb/\w.heap.size<=pb/\w.heap.size<=mb/\Below w.heap.size w w' :=
 (new_graph_in w g s hb).mono fun _ _ ⟨rb,pb,mb,h1,h2,h3⟩=>⟨rb,pb,mb,h1,h2.graph,h3⟩
end
section
open Go.RowKit Go.Maps Go.Sort Go.Shelf
theorem Tryz.sortsA (m:Nat):AnyZI.SortsIn Tryz.prog Tryz.sortedA_ren Fence.wide m :=
 ⟨fun blk off cap ss W hH hblk hsz=>callsIn_wide.2 (AnyM.slices_Sort_int Tryz.sortA blk off cap ss W hH hblk hsz),
  fun p cap W=>callsIn_wide.2 (AnyM.slices_Sort_int_none Tryz.sortA p cap W)⟩
set_option maxHeartbeats 1000000 in
theorem nodes' (rb b nn:Nat)(D0:DataW Value)(R:Value->Option (DataW Value × List MemPlace))(w:World)(p1:w.cell? ⟨rb,1,none⟩=some (.map (some b)))(hown:w.ownsMap Tryz.prog 3 R b nn D0)(hmax:Maps.size D0<=maxLen)(hbytes:Maps.size D0*8<=140737488355328) :
  Calls Tryz.prog 55 #[.pointer (some ⟨rb,0,none⟩)] w fun e w'=>∃ (v:Value) (ss:List Int),e=.returned v/\ss.Perm (intKeys D0) /\
   w'.ownsRow w.heap.size 3 1 v ss.length ((ss.mergeSort (fun x y=>decide (x<=y))).map encZ)/\Below w.heap.size w w':=by
 refine (callsIn_wide (n:=6)).1 ?_
 have hbl:=hown.lt
 have hseq:SeqGives Fence.wide 2 Tryz.prog 139 #[.pointer (some ⟨w.heap.size,0,none⟩)] encZ (fun ss=>ss.Perm (intKeys D0)) (Maps.size D0) (w.alloc (.cells #[.map (some b)] 129)) :=
  AnyZI.keys_gives (ρ:=Tryz.keysA_ren) { Tryz.keysA with } Fence.wide _ trivial rfl (by omega) w.heap.size b nn D0 _ (by simp) (by simp) (by
   obtain ⟨es,clock,hb,Ft,hs,hD⟩:=hown
   exact ⟨es,clock,(Below.heap_alloc _ _ b hbl).trans hb,Ft,hs,hD⟩)
 have cK:∀ mb W,CallsIn Fence.wide 5 Tryz.prog 100 #[.map mb] W fun e w'=>e=.returned (.func (.func 139) #[] #[.pointer (some ⟨W.heap.size,0,none⟩)])/\w'=W.alloc (.cells #[.map mb] 129):=fun mb W=>AnyZI.keys_in Tryz.keysA Fence.wide 5 trivial rfl mb W
 have cS:=AnyZI.sorted_in Tryz.sortedA Fence.wide 5 trivial trivial trivial trivial rfl (by omega) (Tryz.sortsA _) (enters_of Tryz.func138 (by kernel_rfl) rfl) 139 #[.pointer (some ⟨w.heap.size,0,none⟩)] trivial (enters_of Tryz.func139 (by kernel_rfl) rfl) _ _ hmax hbytes _ hseq
 change CallsIn _ _ Tryz.prog 99 _ _ _ at cS
 have hfK:Fence.wide.fn 100:=trivial
 have hfS:Fence.wide.fn 99:=trivial
 refine callsIn_of_wp Tryz.func55 rfl trivial ?_ rfl
 simp only [Tryz.ntmps55,List.size_toArray,List.length_cons,List.length_nil,Nat.reduceAdd,Nat.reduceSub,Array.replicate_succ,Array.replicate_zero,List.push_toArray,List.append_toArray,List.nil_append,List.cons_append]
 gi_wp2_with (first
  |(gi_at_call 100;refine (cK _ _).mono ?_;rintro e w' ⟨rfl,rfl⟩)
  |(gi_at_call 99;refine cS.mono ?_;rintro e w' ⟨v,ss,rfl,hS,hrow,hnil,hb⟩))
 go_ret
 exact ⟨v,ss,rfl,hS,ownsRow_base_a hrow (by simp),((Below.refl _ w).alloc (Nat.le_refl _) _).trans (hb.mono (by simp))⟩
theorem crs_rise (W H:Int)(bl:Nat->Bool)(k:Nat):(crs W H bl k).Pairwise (·<·):=by
 unfold crs
 exact List.pairwise_lt_range.filter _
theorem nodes_any {rb pb mb:Nat}{W H V:Int}{bl:Nat->Bool}(w:World)(G:GraphAt w rb pb mb W H V bl) :
  Calls Tryz.prog 55 #[.pointer (some ⟨rb,0,none⟩)] w fun e w'=>∃ v,e=.returned v/\w'.ownsRow w.heap.size 3 1 v (crs W H bl (W*H).toNat).length (vals (crs W H bl (W*H).toNat))/\Below w.heap.size w w':=by
 obtain ⟨f,G,E⟩:=G
 have gw1:=G.ga.w1
 have hroom:=cntS_le (keyB f) 256
 obtain ⟨D,hown,hsz,hD⟩:=G.mp
 have hc:CollectedI D (fun _=>false) (intsN (crs W H bl (W*H).toNat)):=by
  refine ⟨(rise_intsN (crs_rise _ _ _ _)).imp (fun h e=>by omega),fun x=>?_⟩
  rw [mem_intsN,(hD x).1]
  constructor
  ·rintro ⟨n,hn,rfl⟩
   obtain ⟨v,l,hf,_⟩:=(E n).yes (crs_mem.1 hn).2
   exact ⟨by rw [hf];rfl,rfl⟩
  ·rintro ⟨hs,_⟩
   cases hcx:cornB W H bl x with
   |false=>rw [(E x).no hcx] at hs;cases hs
   |true =>
    have h2:0<=x/\x<W*H:=of_decide_eq_true (cornC_in gw1 (cornB_iff.1 hcx))
    refine ⟨x.toNat,crs_mem.2 ⟨by omega,?_⟩,by omega⟩
    rw [Int.toNat_of_nonneg h2.1];exact hcx
 have hp:=hc.perm hown (int_keyed law3) law3 (fun _=>rfl)
 refine (nodes' rb mb _ D asIs w G.p1 hown (by rw [hsz];unfold maxLen;omega) (by rw [hsz];omega)).mono ?_
 rintro e w' ⟨v,ss,rfl,hS,hrow,hb⟩
 have hps:=hS.trans hp.symm
 have e1:=mergeSort_of_perm_i hps
 obtain ⟨l,l1,l2,l3,l4⟩:=srt_ex (crs W H bl (W*H).toNat) ((crs_rise _ _ _ _).imp (fun h e=>by omega))
 have e2:l=crs W H bl (W*H).toNat:=rise_eq l1 (crs_rise _ _ _ _) l2
 have e3:ss.mergeSort (fun x y=>decide (x<=y))=intsN (crs W H bl (W*H).toNat):=by
  rw [e2] at l4
  exact e1.trans l4
 rw [e3,hps.length_eq] at hrow
 refine ⟨v,rfl,?_,hb⟩
 rw [List.length_map,List.map_map] at hrow
 exact hrow
theorem eqlE (w:World)(a:Option Addr)(n c n' c':Nat):(binOp .eql 141 (.slice a n c) (.slice none n' c')).run Tryz.prog w=.ok (.bool a.isNone) w:=Lib.run_eql_slice_nil w _ _ a n c n' c' Tryz.underE
theorem undE (w:World):Sem.run Tryz.prog (underlying 141) w=.ok (TypeDesc.slice 207) w:=run_underlying Tryz.underE w
set_option maxHeartbeats 1000000 in
set_option maxRecDepth 1000000 in
theorem clone_nil (w:World):Calls Tryz.prog 123 #[.slice none 0 0] w fun e w'=>e=.returned (.slice none 0 0)/\w'=w:=by
 have q:=eqlE
 go_enter Tryz.func123,Tryz.ntmps123
 go_wp2
 go_ret
 exact ⟨rfl,rfl⟩
set_option maxHeartbeats 1000000 in
set_option maxRecDepth 1000000 in
theorem clone_row {g n cap:Nat}{xs:List Value}(w:World)(h:w.ownsRow 0 207 4 (.slice (some ⟨g,0,none⟩) n cap) n xs)(h1:∀ u ∈ xs,u.oneCell'=true)(hn:n<=256) :
  Calls Tryz.prog 123 #[.slice (some ⟨g,0,none⟩) n cap] w fun e w'=>∃ v,e=.returned v/\w'.ownsRow w.heap.size 207 4 v n xs/\Below w.heap.size w w':=by
 obtain ⟨i0,hi,hz0,hz1,hz2⟩:=info_parts Tryz.infoE
 have hx:xs.length=n*4:=h.1
 have hc:Hid (∀ j u,xs[j]? = some u->w.cell? ⟨g,j,none⟩=some u):=fun j u hj=>by
  have hj':j<xs.length:=(List.getElem?_eq_some_iff.1 hj).1
  rw [h.cellAt j (by omega)];exact hj
 have q:=eqlE
 have u:=undE
 clear h
 go_enter Tryz.func123,Tryz.ntmps123
 go_wp2_with (at_builtin;refine wpList_append_own _ rfl _ _ 141 rfl w.heap.size 207 i0 (.agg #[.int .i64 0,.int .i64 0,.int .i64 0,.int .i64 0]) 4 32 Tryz.underE hi hz0 hz1 hz2 rfl (by decide) _ _ _ rfl (World.ownsRow_made w #[] 0 (Nat.le_refl _) (Nat.zero_le _) (by simp)) ⟨g,0,none⟩ n cap xs rfl ?qc1 ?qc2 ?qc3 ?qc4 ?qc5 ?qc6 ?_)
 case qc1=>exact hx
 case qc2 =>
  intro j u hj
  rw [Addr.add_lit,Nat.zero_add]
  exact Lib.cell?_alloc_some _ (hc.out j u hj)
 case qc3=>exact h1
 case qc4=>unfold maxLen;omega
 case qc5=>omega
 case qc6=>simp
 intro v' w1 hown hgrow _
 go_wp2
 go_ret
 refine ⟨v',rfl,by simpa using hown,?_⟩
 exact ((Below.refl _ w).alloc (Nat.le_refl _) _).grown hgrow (by simp) (by intro k hk;simp [Value.ownBlock] at hk;omega)
theorem edgesV_one (W a:Int)(l:List Nat):∀ u ∈ edgesV W a l,u.oneCell'=true:=by
 intro u hu
 unfold edgesV at hu
 obtain ⟨n,_,hn⟩:=List.mem_flatMap.1 hu
 unfold edgeV at hn
 simp at hn
 rcases hn with rfl|rfl|rfl|rfl <;> rfl
theorem EdgeL.len {W H c:Int}{bl:Nat->Bool}{l:List Nat}(w1:1<=W)(hwh:W*H<=256)(h:EdgeL W H bl c l):l.length<=256 :=
 nodup_len 256 (h.1.imp (fun h e=>by omega)) (fun n hn=>by
  have h1:=((h.2 n).1 hn).2
  rw [Bool.and_eq_true] at h1
  have h2:0<=(n:Int)/\(n:Int)<W*H:=of_decide_eq_true (cornC_in w1 (cornB_iff.1 h1.2))
  omega)
set_option maxHeartbeats 1000000 in
theorem edges_yes {rb pb mb:Nat}{W H V c:Int}{bl:Nat->Bool}(w:World)(G:GraphAt w rb pb mb W H V bl)(hc:cornB W H bl c=true)(hw:(Lit.int .i64 c).wf=true) :
  Calls Tryz.prog 85 #[.pointer (some ⟨rb,0,none⟩),.int .i64 c] w fun e w'=>∃ v l,e=.returned (.tuple #[v,.nilIface])/\w'.ownsRow w.heap.size 207 4 v l.length (edgesV W c l)/\EdgeL W H bl c l/\Below w.heap.size w w':=by
 obtain ⟨f,G,E⟩:=G
 have p1:=G.p1
 have hwh:=wh_bd G.ga.w1 G.ga.w2 G.ga.h1 G.ga.h2
 obtain ⟨v,l,hf,hown,hL,_⟩:=(E c).yes hc
 have hl:(Instr.lookup 129 (.map (some mb)) (.int .i64 c) true).run Tryz.prog w=.ok (.tuple #[v,.bool true]) w:=G.mp.look_some law3 Tryz.underM (zeroM w) hw hf true
 have hlen:=hL.len G.ga.w1 hwh.2
 have HL:Hid (EdgeL W H bl c l):=hL
 clear G E hL hf
 rcases hown.2 with ⟨rfl,h0⟩|⟨g,cap,cur,rfl,_⟩
 ·have hcl:=clone_nil w
  go_enter Tryz.func85,Tryz.ntmps85
  go_wp2_with fail
  refine hcl.mono ?_
  rintro e w1 ⟨rfl,rfl⟩
  clear hcl
  go_wp2
  go_ret2
  refine ⟨_,l,rfl,?_,HL.out,Below.refl _ _⟩
  have e0:l=[]:=List.length_eq_zero_iff.1 h0
  rw [e0];exact World.ownsRow_nil _ _ _ _
 ·have hcl:=clone_row w hown (edgesV_one _ _ _) hlen
  clear hown
  go_enter Tryz.func85,Tryz.ntmps85
  go_wp2_with fail
  refine hcl.mono ?_
  rintro e w1 ⟨v',rfl,hown',hb1⟩
  clear hcl
  go_wp2
  go_ret2
  exact ⟨_,l,rfl,hown',HL.out,hb1⟩
end
section
open Go.RowKit
set_option maxHeartbeats 400000 in
theorem version_any {b:Nat}{W H V:Int}{bl:Nat->Bool}(w:World)(g:GridAt w b W H V bl) :
  Calls Tryz.prog 59 #[.pointer (some ⟨b,0,none⟩)] w fun e w'=>e=.returned (.int .i64 V)/\w'=w:=by
 have c2:=g.c2
 go_enter Tryz.func59,Tryz.ntmps59
 go_wp2
 go_ret
 exact ⟨rfl,rfl⟩
set_option maxHeartbeats 400000 in
theorem size_any {b:Nat}{W H V:Int}{bl:Nat->Bool}(w:World)(g:GridAt w b W H V bl) :
  Calls Tryz.prog 92 #[.pointer (some ⟨b,0,none⟩)] w fun e w'=>e=.returned (.tuple #[.int .i64 W,.int .i64 H])/\∃ m,w'=w.drewN m:=by
 have c0:=g.c0
 have c1:=g.c1
 go_enter Tryz.func92,Tryz.ntmps92
 go_wp2
 go_quiet (fail)
 go_wp2
 go_ret2
 exact ⟨rfl,_,rfl⟩
set_option maxHeartbeats 400000 in
theorem cell_in {b:Nat}{W H V:Int}{bl:Nat->Bool}(x y:Int)(w:World)(g:GridAt w b W H V bl)(hr:atB W H x y=true) :
  Calls Tryz.prog 159 #[.pointer (some ⟨b,0,none⟩),.int .i64 x,.int .i64 y] w fun e w'=>e=.returned (.tuple #[.int .i64 (y*W+x),.nilIface])/\w'=w:=by
 have h:0<=x/\x<W/\0<=y/\y<H:=of_decide_eq_true hr
 have hp:∀ w:World,GridAt w b W H V bl->Calls Tryz.prog 135 #[.pointer (some ⟨b,0,none⟩),.int .i64 x,.int .i64 y] w fun e w'=>e=.returned (.bool true)/\w'=w:=fun w g=>hr ▸ hasPlace_any x y w g
 have gw:=g.w2
 have gh:=g.h2
 have hn:=number_any x y w g (by omega) (by omega) (by omega) (by omega)
 go_enter Tryz.func159,Tryz.ntmps159
 go_wp2_with (first|(go_at_call 135;refine (hp _ g).mono ?_;rintro e w' ⟨rfl,rfl⟩)|(go_at_call 136;refine hn.mono ?_;rintro e w' ⟨rfl,rfl⟩))
 go_ret2
 exact ⟨rfl,rfl⟩
set_option maxHeartbeats 400000 in
theorem cell_out {b:Nat}{W H V:Int}{bl:Nat->Bool}(x y:Int)(w:World)(g:GridAt w b W H V bl)(hr:atB W H x y=false) :
  Calls Tryz.prog 159 #[.pointer (some ⟨b,0,none⟩),.int .i64 x,.int .i64 y] w fun e w'=>e=.returned (.tuple #[.int .i64 0,.iface 39 (.int .i64 1)])/\w'=w:=by
 have hp:∀ w:World,GridAt w b W H V bl->Calls Tryz.prog 135 #[.pointer (some ⟨b,0,none⟩),.int .i64 x,.int .i64 y] w fun e w'=>e=.returned (.bool false)/\w'=w:=fun w g=>hr ▸ hasPlace_any x y w g
 go_enter Tryz.func159,Tryz.ntmps159
 go_wp2_with (go_at_call 135;refine (hp _ g).mono ?_;rintro e w' ⟨rfl,rfl⟩)
 go_ret2
 exact ⟨rfl,rfl⟩
end
section
open Go.RowKit
def clrF (W H:Int) (bl:Nat->Bool) (d:Nat):Nat->Int->Int->Nat
 |0,_,_=>0
 |n+1,x,y=>if mayB W H bl x y d then clrF W H bl d n (x+stepX d) (y+stepY d)+1 else 0
def clr (W H:Int) (bl:Nat->Bool) (x y:Int) (d:Nat):Nat:=clrF W H bl d 16 x y
theorem clrF_le (W H:Int)(bl:Nat->Bool)(d:Nat):∀ (n:Nat) (x y:Int),clrF W H bl d n x y<=n
 |0,_,_=>Nat.le_refl _
 |n+1,x,y=>by
  unfold clrF
  split
  ·have:=clrF_le W H bl d n (x+stepX d) (y+stepY d);omega
  ·omega
theorem clr_le (W H:Int)(bl:Nat->Bool)(x y:Int)(d:Nat):clr W H bl x y d<=16:=clrF_le W H bl d 16 x y
theorem at_iff {W H x y:Int}:atB W H x y=true↔(0<=x/\x<W/\0<=y/\y<H):=by unfold atB;exact decide_eq_true_iff
theorem open_at {W H x y:Int}{bl:Nat->Bool}(h:openB W H bl x y=true):atB W H x y=true:=by
 unfold openB at h
 rw [Bool.and_eq_true] at h
 exact h.1
theorem may_at {W H x y:Int}{bl:Nat->Bool}{d:Nat}(h:mayB W H bl x y d=true):atB W H x y=true/\atB W H (x+stepX d) (y+stepY d)=true:=by
 unfold mayB at h
 simp only [Bool.and_eq_true] at h
 exact ⟨open_at h.1.1.1,open_at h.1.1.2⟩
theorem step_cases {d:Nat}(hd:d<8):(stepX d=0/\stepY d=-1)\/(stepX d=1/\stepY d=-1)\/(stepX d=1/\stepY d=0)\/(stepX d=1/\stepY d=1)\/(stepX d=0/\stepY d=1)\/(stepX d=-1/\stepY d=1)\/(stepX d=-1/\stepY d=0)\/(stepX d=-1/\stepY d=-1):=by
 have hks:d=0\/d=1\/d=2\/d=3\/d=4\/d=5\/d=6\/d=7:=by omega
 rcases hks with rfl|rfl|rfl|rfl|rfl|rfl|rfl|rfl <;> decide
def room (dx dy x y:Int):Int:=if dx=1 then 15 - x else if dx=-1 then x else if dy=1 then 15 - y else y
theorem room_at {W H x y:Int}{d:Nat}(w2:W<=16)(h2:H<=16)(hd:d<8)(h:atB W H x y=true):0<=room (stepX d) (stepY d) x y/\room (stepX d) (stepY d) x y<=15/\room (stepX d) (stepY d) (x+stepX d) (y+stepY d)=room (stepX d) (stepY d) x y - 1:=by
 have h:=at_iff.1 h
 rcases step_cases hd with ⟨e1,e2⟩|⟨e1,e2⟩|⟨e1,e2⟩|⟨e1,e2⟩|⟨e1,e2⟩|⟨e1,e2⟩|⟨e1,e2⟩|⟨e1,e2⟩ <;> (rw [e1,e2];unfold room;simp;omega)
theorem clrF_more {W H:Int}{bl:Nat->Bool}{d:Nat}(w2:W<=16)(h2:H<=16)(hd:d<8):∀ (n:Nat) (x y:Int),room (stepX d) (stepY d) x y<=n->clrF W H bl d (n+1) x y=clrF W H bl d n x y
 |0,x,y,hr=>by
  show (if mayB W H bl x y d then _ else 0)=0
  cases hm:mayB W H bl x y d with
  |false=>rfl
  |true =>
   obtain ⟨a,b⟩:=may_at hm
   have r1:=room_at w2 h2 hd a
   have r2:=room_at w2 h2 hd b
   omega
 |n+1,x,y,hr=>by
  show (if mayB W H bl x y d then clrF W H bl d (n+1) (x+stepX d) (y+stepY d)+1 else 0)=(if mayB W H bl x y d then clrF W H bl d n (x+stepX d) (y+stepY d)+1 else 0)
  cases hm:mayB W H bl x y d with
  |false=>rfl
  |true =>
   obtain ⟨a,b⟩:=may_at hm
   have r1:=room_at w2 h2 hd a
   rw [clrF_more w2 h2 hd n _ _ (by omega)]
theorem clr_may {W H x y:Int}{bl:Nat->Bool}{d:Nat}(w2:W<=16)(h2:H<=16)(hd:d<8)(h:mayB W H bl x y d=true):clr W H bl x y d=clr W H bl (x+stepX d) (y+stepY d) d+1:=by
 obtain ⟨a,b⟩:=may_at h
 have r1:=room_at w2 h2 hd a
 have e:clrF W H bl d 16 (x+stepX d) (y+stepY d)=clrF W H bl d 15 (x+stepX d) (y+stepY d):=clrF_more w2 h2 hd 15 _ _ (by omega)
 unfold clr
 rw [e]
 show (if mayB W H bl x y d then _ else 0)=_
 rw [h];rfl
theorem clr_not {W H x y:Int}{bl:Nat->Bool}{d:Nat}(h:mayB W H bl x y d=false):clr W H bl x y d=0:=by
 unfold clr
 show (if mayB W H bl x y d then _ else 0)=_
 rw [h];rfl
def CBk (dx dy x y u v:Int):Prop:=∃ k:Nat,u=x - k*dx/\v=y - k*dy
theorem CBk.more {dx dy x y u v:Int}(h:CBk dx dy x y (u+dx) (v+dy)):CBk dx dy x y u v:=by
 obtain ⟨k,h1,h2⟩:=h
 refine ⟨k+1,?_,?_⟩
 ·rw [Int.natCast_add,Int.add_mul];omega
 ·rw [Int.natCast_add,Int.add_mul];omega
def idx (W x y:Int):Nat:=(y*W+x).toNat
theorem idx_parts {W H x y:Int}(h:atB W H x y=true):((idx W x y:Nat):Int)=y*W+x/\(idx W x y:Int) % W=x/\(idx W x y:Int) / W=y:=by
 obtain ⟨h1,h2,h3,h4⟩:=at_iff.1 h
 have hp:0<=y*W:=Int.mul_nonneg h3 (by omega)
 have e:((idx W x y:Nat):Int)=y*W+x:=by unfold idx;omega
 refine ⟨e,?_,?_⟩
 ·rw [e,Int.add_comm,Int.add_mul_emod_self_right];exact Int.emod_eq_of_lt h1 h2
 ·rw [e,Int.add_comm,Int.add_mul_ediv_right _ _ (by omega),Int.ediv_eq_zero_of_lt h1 h2];omega
theorem idx_lt {W H x y:Int}(w1:1<=W)(w2:W<=16)(h1:1<=H)(h2:H<=16)(h:atB W H x y=true):idx W x y<256/\(idx W x y:Int)<W*H:=by
 obtain ⟨e,_⟩:=idx_parts h
 obtain ⟨a1,a2,a3,a4⟩:=at_iff.1 h
 obtain ⟨b1,b2,b3⟩:=idx_bd w1 w2 h1 h2 a1 a2 a3 a4
 omega
theorem idx_inj {W H x y u v:Int}(h:atB W H x y=true)(k:atB W H u v=true)(e:idx W x y=idx W u v):x=u/\y=v:=by
 obtain ⟨_,a,b⟩:=idx_parts h
 obtain ⟨_,c,d⟩:=idx_parts k
 rw [e] at a b
 exact ⟨a.symm.trans c,b.symm.trans d⟩
theorem at_place {W H:Int}(w1:1<=W){c:Int}(h:inB W H c=true):atB W H (c % W) (c / W)=true/\(idx W (c % W) (c / W):Int)=c:=by
 have hc:0<=c/\c<W*H:=of_decide_eq_true h
 have x1:0<=c % W:=Int.emod_nonneg _ (by omega)
 have x2:c % W<W:=Int.emod_lt_of_pos _ (by omega)
 have y1:0<=c / W:=Int.ediv_nonneg hc.1 (by omega)
 have y3:c / W<H:=Int.ediv_lt_of_lt_mul (by omega) (by rw [Int.mul_comm];exact hc.2)
 have a:atB W H (c % W) (c / W)=true:=at_iff.2 ⟨x1,x2,y1,y3⟩
 refine ⟨a,?_⟩
 rw [(idx_parts a).1,Int.mul_comm]
 exact Int.mul_ediv_add_emod c W
def Right (W H:Int) (bl:Nat->Bool) (T:Nat->Nat->Nat) (d:Nat):Prop:=∀ u v,atB W H u v=true->T (idx W u v) d=clr W H bl u v d
def upd2 (T:Nat->Nat->Nat) (c d n:Nat):Nat->Nat->Nat:=fun i e=>if i=c/\e=d then n else T i e
def CTurn (W H:Int) (bl:Nat->Bool) (d:Nat) (T T':Nat->Nat->Nat):Prop:=∀ u v e,atB W H u v=true->T' (idx W u v) e=T (idx W u v) e\/(e=d/\T' (idx W u v) d=clr W H bl u v d)
theorem CTurn.refl (W H:Int)(bl:Nat->Bool)(d:Nat)(T:Nat->Nat->Nat):CTurn W H bl d T T:=fun _ _ _ _=>Or.inl rfl
theorem CTurn.trans {W H:Int}{bl:Nat->Bool}{d:Nat}{T T' T2:Nat->Nat->Nat}(h:CTurn W H bl d T T')(k:CTurn W H bl d T' T2):CTurn W H bl d T T2:=fun u v e ha=>by
 rcases k u v e ha with k|k
 ·rcases h u v e ha with h|⟨h0,h⟩
  ·exact Or.inl (k.trans h)
  ·exact Or.inr ⟨h0,by rw [h0] at k;exact k.trans h⟩
 ·exact Or.inr k
theorem CTurn.keep {W H:Int}{bl:Nat->Bool}{d:Nat}{T T':Nat->Nat->Nat}(h:CTurn W H bl d T T'){u v:Int}(ha:atB W H u v=true){e:Nat}(hr:T (idx W u v) e=clr W H bl u v e):T' (idx W u v) e=clr W H bl u v e:=by
 rcases h u v e ha with h|⟨rfl,h⟩
 ·exact h.trans hr
 ·exact h
theorem CTurn.other {W H:Int}{bl:Nat->Bool}{d:Nat}{T T':Nat->Nat->Nat}(h:CTurn W H bl d T T'){u v:Int}(ha:atB W H u v=true){e:Nat}(hr:e≠d):T' (idx W u v) e=T (idx W u v) e:=by
 rcases h u v e ha with h|⟨rfl,h⟩
 ·exact h
 ·exact absurd rfl hr
theorem CTurn.set {W H:Int}{bl:Nat->Bool}{d:Nat}{T:Nat->Nat->Nat}{x y:Int}(ha:atB W H x y=true){n:Nat}(hn:n=clr W H bl x y d):CTurn W H bl d T (upd2 T (idx W x y) d n):=fun u v e hb=>by
 by_cases q:idx W u v=idx W x y/\e=d
 ·obtain ⟨rfl,rfl⟩:=idx_inj hb ha q.1
  obtain ⟨_,rfl⟩:=q
  exact Or.inr ⟨rfl,(if_pos ⟨rfl,rfl⟩).trans hn⟩
 ·exact Or.inl (if_neg q)
theorem upd2_upd2 (T:Nat->Nat->Nat)(c d n m:Nat):upd2 (upd2 T c d n) c d m=upd2 T c d m:=by
 funext i e
 unfold upd2
 split <;> rfl
theorem at_line {W H x y:Int}{d:Nat}(hd:d<8){j k:Nat}(hjk:k<=j)(h:atB W H x y=true)(hj:atB W H (x - j*stepX d) (y - j*stepY d)=true):atB W H (x - k*stepX d) (y - k*stepY d)=true:=by
 rw [at_iff] at *
 rcases step_cases hd with ⟨e1,e2⟩|⟨e1,e2⟩|⟨e1,e2⟩|⟨e1,e2⟩|⟨e1,e2⟩|⟨e1,e2⟩|⟨e1,e2⟩|⟨e1,e2⟩ <;> (rw [e1,e2] at hj ⊢;omega)
theorem line_short {W H x y:Int}{d:Nat}(w2:W<=16)(h2:H<=16)(hd:d<8){k:Nat}(h:atB W H x y=true)(hj:atB W H (x - k*stepX d) (y - k*stepY d)=true):k<=15:=by
 rw [at_iff] at *
 rcases step_cases hd with ⟨e1,e2⟩|⟨e1,e2⟩|⟨e1,e2⟩|⟨e1,e2⟩|⟨e1,e2⟩|⟨e1,e2⟩|⟨e1,e2⟩|⟨e1,e2⟩ <;> (rw [e1,e2] at hj;omega)
theorem end_ex {W H:Int}{d:Nat}(w2:W<=16)(h2:H<=16)(hd:d<8):∀ (n:Nat) (u v:Int),room (stepX d) (stepY d) u v<=n->atB W H u v=true->∃ x y,atB W H x y=true/\atB W H (x+stepX d) (y+stepY d)=false/\CBk (stepX d) (stepY d) x y u v
 |n,u,v,hr,ha=>by
  cases hb:atB W H (u+stepX d) (v+stepY d) with
  |false=>exact ⟨u,v,ha,hb,0,by simp,by simp⟩
  |true =>
   have r1:=room_at w2 h2 hd ha
   have r2:=room_at w2 h2 hd hb
   match n,hr with
   |0,hr=>omega
   |n+1,hr =>
    obtain ⟨x,y,h1,h3,h4⟩:=end_ex w2 h2 hd n (u+stepX d) (v+stepY d) (by omega) hb
    exact ⟨x,y,h1,h3,h4.more⟩
theorem open_upd {W H px py x y:Int}{bl:Nat->Bool}{t:Bool}(hp:atB W H px py=true)(hne:¬ (x=px/\y=py)):openB W H (upd bl (idx W px py) t) x y=openB W H bl x y:=by
 unfold openB upd
 cases ha:atB W H x y with
 |false=>rfl
 |true =>
  have:¬ (y*W+x).toNat=idx W px py:=fun e=>hne (idx_inj ha hp e)
  simp only [if_neg this]
theorem clrF_upd {W H px py:Int}{bl:Nat->Bool}{t:Bool}{d:Nat}(hp:atB W H px py=true):∀ (n:Nat) (u v:Int),¬ CBk (stepX d) (stepY d) px py u v->¬ CBk (stepX d) (stepY d) (px - stepX d) py u v->¬ CBk (stepX d) (stepY d) px (py - stepY d) u v ->
  clrF W H (upd bl (idx W px py) t) d n u v=clrF W H bl d n u v
 |0,_,_,_,_,_=>rfl
 |n+1,u,v,b1,b2,b3=>by
  have z0:∀ {x y u v:Int},u=x->v=y->CBk (stepX d) (stepY d) x y u v:=fun h1 h2=>⟨0,by simp [h1],by simp [h2]⟩
  have z1:∀ {x y u v:Int},u+stepX d=x->v+stepY d=y->CBk (stepX d) (stepY d) x y u v:=fun h1 h2=>CBk.more (z0 h1 h2)
  have hm:mayB W H (upd bl (idx W px py) t) u v d=mayB W H bl u v d:=by
   unfold mayB
   rw [open_upd hp (fun q=>b1 (z0 q.1 q.2)),open_upd hp (fun q=>b1 (z1 q.1 q.2)),open_upd hp (fun q=>b2 (z0 (by omega) q.2)),open_upd hp (fun q=>b3 (z0 q.1 (by omega)))]
  show (if mayB W H _ u v d then _ else 0)=(if mayB W H bl u v d then _ else 0)
  rw [hm,clrF_upd hp n _ _ (fun q=>b1 q.more) (fun q=>b2 q.more) (fun q=>b3 q.more)]
theorem clr_upd {W H px py:Int}{bl:Nat->Bool}{t:Bool}{d:Nat}(hp:atB W H px py=true){u v:Int}(b1:¬ CBk (stepX d) (stepY d) px py u v)(b2:¬ CBk (stepX d) (stepY d) (px - stepX d) py u v)(b3:¬ CBk (stepX d) (stepY d) px (py - stepY d) u v) :
  clr W H (upd bl (idx W px py) t) u v d=clr W H bl u v d:=clrF_upd hp 16 u v b1 b2 b3
structure Cnt (W H:Int) (bl:Nat->Bool) (d:Nat) (x y:Int) (k:Nat) (T0 T:Nat->Nat->Nat):Prop where
 turn:CTurn W H bl d T0 T
 done:∀ j:Nat,j<k->atB W H (x - j*stepX d) (y - j*stepY d)=true/\T (idx W (x - j*stepX d) (y - j*stepY d)) d=clr W H bl (x - j*stepX d) (y - j*stepY d) d
theorem Cnt.start (W H:Int)(bl:Nat->Bool)(d:Nat)(x y:Int)(T:Nat->Nat->Nat):Cnt W H bl d x y 0 T T:=⟨CTurn.refl _ _ _ _ _,fun _ h=>absurd h (Nat.not_lt_zero _)⟩
theorem Cnt.ahead {W H:Int}{bl:Nat->Bool}{d:Nat}{x y:Int}{k:Nat}{T0 T:Nat->Nat->Nat}(h:Cnt W H bl d x y k T0 T)
  (h0:mayB W H bl x y d=true->T0 (idx W (x+stepX d) (y+stepY d)) d=clr W H bl (x+stepX d) (y+stepY d) d) {px py:Int}(ex:px=x - k*stepX d) (ey:py=y - k*stepY d) (hm:mayB W H bl px py d=true) :
  T (idx W (px+stepX d) (py+stepY d)) d=clr W H bl (px+stepX d) (py+stepY d) d:=by
 cases k with
 |zero =>
  have e1:px=x:=by simpa using ex
  have e2:py=y:=by simpa using ey
  subst e1 e2
  exact h.turn.keep (may_at hm).2 (h0 hm)
 |succ j =>
  have:=(h.done j (Nat.lt_succ_self j)).2
  rw [Int.natCast_add,Int.add_mul] at ex ey
  have e1:px+stepX d=x - j*stepX d:=by omega
  have e2:py+stepY d=y - j*stepY d:=by omega
  rw [e1,e2]
  exact this
theorem Cnt.next {W H:Int}{bl:Nat->Bool}{d:Nat}{x y:Int}{k n:Nat}{T0 T:Nat->Nat->Nat}(h:Cnt W H bl d x y k T0 T){px py:Int}(ex:px=x - k*stepX d)(ey:py=y - k*stepY d)(ha:atB W H px py=true)
  (hn:n=clr W H bl px py d):Cnt W H bl d x y (k+1) T0 (upd2 T (idx W px py) d n):=by
 have ht:CTurn W H bl d T (upd2 T (idx W px py) d n):=CTurn.set ha hn
 refine ⟨h.turn.trans ht,fun j hj=>?_⟩
 by_cases q:j<k
 ·obtain ⟨a,b⟩:=h.done j q
  exact ⟨a,ht.keep a b⟩
 ·have:j=k:=by omega
  subst this
  rw [<- ex,<- ey]
  exact ⟨ha,(if_pos ⟨rfl,rfl⟩).trans hn⟩
theorem Cnt.short {W H:Int}{bl:Nat->Bool}{d:Nat}{x y:Int}{k:Nat}{T0 T:Nat->Nat->Nat}(w2:W<=16)(h2:H<=16)(hd:d<8)(h:Cnt W H bl d x y k T0 T):k<=16:=by
 cases k with
 |zero=>omega
 |succ j =>
  have a:=(h.done 0 (by omega)).1
  have b:=(h.done j (by omega)).1
  simp only [Int.natCast_zero,Int.zero_mul,Int.sub_zero] at a
  have:=line_short w2 h2 hd a b
  omega
structure Counted (W H:Int) (bl:Nat->Bool) (d:Nat) (x y:Int) (T T':Nat->Nat->Nat):Prop where
 turn:CTurn W H bl d T T'
 right:∀ u v,atB W H x y=true->CBk (stepX d) (stepY d) x y u v->atB W H u v=true->T' (idx W u v) d=clr W H bl u v d
theorem Cnt.over {W H:Int}{bl:Nat->Bool}{d:Nat}{x y:Int}{k:Nat}{T0 T:Nat->Nat->Nat}(hd:d<8)(h:Cnt W H bl d x y k T0 T)(hk:atB W H (x - k*stepX d) (y - k*stepY d)=false):Counted W H bl d x y T0 T:=by
 refine ⟨h.turn,fun u v ha ⟨j,e1,e2⟩ hb=>?_⟩
 subst e1 e2
 by_cases q:j<k
 ·exact (h.done j q).2
 ·rw [at_line hd (Nat.le_of_not_lt q) ha hb] at hk
  cases hk
def left (x y px py:Int):Nat:=20 - max (x - px).natAbs (y - py).natAbs
def Ends (W H:Int) (bl:Nat->Bool) (T:Nat->Nat->Nat) (c e:Nat):Prop:=∀ x y d,atB W H x y=true->d<8->atB W H (x+stepX d) (y+stepY d)=false->(idx W x y<c\/(idx W x y=c/\d<e)) ->
 ∀ u v,CBk (stepX d) (stepY d) x y u v->atB W H u v=true->T (idx W u v) d=clr W H bl u v d
theorem Ends.start (W H:Int)(bl:Nat->Bool)(T:Nat->Nat->Nat):Ends W H bl T 0 0:=fun _ _ _ _ _ _ h=>absurd h (by omega)
theorem Ends.pass {W H:Int}{bl:Nat->Bool}{T:Nat->Nat->Nat}{c e:Nat}(h:Ends W H bl T c e){px py:Int}(hp:atB W H px py=true)(hc:idx W px py=c)(hn:atB W H (px+stepX e) (py+stepY e)=true):Ends W H bl T c (e+1):=fun x y d ha hd hb hi=>by
 by_cases q:idx W x y=c/\d=e
 ·obtain ⟨q1,rfl⟩:=q
  obtain ⟨rfl,rfl⟩:=idx_inj hp ha (hc.trans q1.symm)
  rw [hn] at hb;cases hb
 ·exact h x y d ha hd hb (by omega)
theorem Ends.count {W H:Int}{bl:Nat->Bool}{T T':Nat->Nat->Nat}{c e:Nat}(h:Ends W H bl T c e){px py:Int}(hp:atB W H px py=true)(hc:idx W px py=c)(hn:Counted W H bl e px py T T'):Ends W H bl T' c (e+1):=fun x y d ha hd hb hi u v hk hu=>by
 by_cases q:idx W x y=c/\d=e
 ·obtain ⟨q1,rfl⟩:=q
  obtain ⟨rfl,rfl⟩:=idx_inj hp ha (hc.trans q1.symm)
  exact hn.right u v ha hk hu
 ·exact hn.turn.keep hu (h x y d ha hd hb (by omega) u v hk hu)
theorem Ends.next {W H:Int}{bl:Nat->Bool}{T:Nat->Nat->Nat}{c:Nat}(h:Ends W H bl T c 8):Ends W H bl T (c+1) 0:=fun x y d ha hd hb hi=>h x y d ha hd hb (by omega)
theorem Ends.all {W H:Int}{bl:Nat->Bool}{T:Nat->Nat->Nat}{c:Nat}(w1:1<=W)(w2:W<=16)(h1:1<=H)(h2:H<=16)(hc:W*H<=c)(h:Ends W H bl T c 0){d:Nat}(hd:d<8):Right W H bl T d:=fun u v hu=>by
 have r:=room_at w2 h2 hd hu
 obtain ⟨x,y,ha,hb,hk⟩:=end_ex w2 h2 hd 15 u v r.2.1 hu
 have:=idx_lt w1 w2 h1 h2 ha
 exact h x y d ha hd hb (Or.inl (by omega)) u v hk hu
theorem end_not {W H x y:Int}{bl:Nat->Bool}{d:Nat}(h:atB W H (x+stepX d) (y+stepY d)=false):mayB W H bl x y d=false:=by
 cases hm:mayB W H bl x y d with
 |false=>rfl
 |true=>rw [(may_at hm).2] at h;cases h
theorem thr_a {W H px py:Int}{bl:Nat->Bool}{t:Bool}{d:Nat}{T:Nat->Nat->Nat}(hd:d<8)(hp:atB W H px py=true)(hR:Right W H bl T d)(hm:mayB W H (upd bl (idx W px py) t) px py d=true) :
  T (idx W (px+stepX d) (py+stepY d)) d=clr W H (upd bl (idx W px py) t) (px+stepX d) (py+stepY d) d:=by
 rw [hR _ _ (may_at hm).2,clr_upd hp]
 all_goals
  rintro ⟨k,h1,h2⟩
  rcases step_cases hd with ⟨e1,e2⟩|⟨e1,e2⟩|⟨e1,e2⟩|⟨e1,e2⟩|⟨e1,e2⟩|⟨e1,e2⟩|⟨e1,e2⟩|⟨e1,e2⟩ <;> (rw [e1] at h1;rw [e2] at h2;omega)
theorem thr_b {W H px py:Int}{bl:Nat->Bool}{t:Bool}{d:Nat}{T T':Nat->Nat->Nat}(hd:d<8)(hp:atB W H px py=true)(hR:Right W H bl T d)(hT:CTurn W H (upd bl (idx W px py) t) d T T')(_hx:stepX d≠0)(hy:stepY d≠0)(hm:mayB W H (upd bl (idx W px py) t) (px - stepX d) py d=true) :
  T' (idx W (px - stepX d+stepX d) (py+stepY d)) d=clr W H (upd bl (idx W px py) t) (px - stepX d+stepX d) (py+stepY d) d:=by
 refine hT.keep (may_at hm).2 ?_
 rw [hR _ _ (may_at hm).2,clr_upd hp]
 all_goals
  rintro ⟨k,h1,h2⟩
  rcases step_cases hd with ⟨e1,e2⟩|⟨e1,e2⟩|⟨e1,e2⟩|⟨e1,e2⟩|⟨e1,e2⟩|⟨e1,e2⟩|⟨e1,e2⟩|⟨e1,e2⟩ <;> (rw [e1] at h1 _hx;rw [e2] at h2 hy;omega)
theorem thr_c {W H px py:Int}{bl:Nat->Bool}{t:Bool}{d:Nat}{T T':Nat->Nat->Nat}(hd:d<8)(hp:atB W H px py=true)(hR:Right W H bl T d)(hT:CTurn W H (upd bl (idx W px py) t) d T T')(hx:stepX d≠0)(hy:stepY d≠0)(hm:mayB W H (upd bl (idx W px py) t) px (py - stepY d) d=true) :
  T' (idx W (px+stepX d) (py - stepY d+stepY d)) d=clr W H (upd bl (idx W px py) t) (px+stepX d) (py - stepY d+stepY d) d:=by
 refine hT.keep (may_at hm).2 ?_
 rw [hR _ _ (may_at hm).2,clr_upd hp]
 all_goals
  rintro ⟨k,h1,h2⟩
  rcases step_cases hd with ⟨e1,e2⟩|⟨e1,e2⟩|⟨e1,e2⟩|⟨e1,e2⟩|⟨e1,e2⟩|⟨e1,e2⟩|⟨e1,e2⟩|⟨e1,e2⟩ <;> (rw [e1] at h1 hx;rw [e2] at h2 hy;omega)
theorem thr_straight {W H px py:Int}{bl:Nat->Bool}{t:Bool}{d:Nat}{T T':Nat->Nat->Nat}(hd:d<8)(hp:atB W H px py=true)(hR:Right W H bl T d)(h:Counted W H (upd bl (idx W px py) t) d px py T T')(hx:stepX d=0\/stepY d=0):Right W H (upd bl (idx W px py) t) T' d:=fun u v hu=>by
 by_cases q:CBk (stepX d) (stepY d) px py u v
 ·exact h.right u v hp q hu
 ·refine h.turn.keep hu ?_
  rw [hR u v hu,clr_upd hp q]
  ·rintro ⟨k,h1,h2⟩
   refine q ?_
   rcases step_cases hd with ⟨e1,e2⟩|⟨e1,e2⟩|⟨e1,e2⟩|⟨e1,e2⟩|⟨e1,e2⟩|⟨e1,e2⟩|⟨e1,e2⟩|⟨e1,e2⟩ <;> (rw [e1] at h1 hx;rw [e2] at h2 hx;rw [e1,e2]) <;> first|(exfalso;omega)|exact ⟨k,by omega,by omega⟩|exact ⟨k+1,by omega,by omega⟩
  ·rintro ⟨k,h1,h2⟩
   refine q ?_
   rcases step_cases hd with ⟨e1,e2⟩|⟨e1,e2⟩|⟨e1,e2⟩|⟨e1,e2⟩|⟨e1,e2⟩|⟨e1,e2⟩|⟨e1,e2⟩|⟨e1,e2⟩ <;> (rw [e1] at h1 hx;rw [e2] at h2 hx;rw [e1,e2]) <;> first|(exfalso;omega)|exact ⟨k,by omega,by omega⟩|exact ⟨k+1,by omega,by omega⟩
theorem thr_diag {W H px py:Int}{bl:Nat->Bool}{t:Bool}{d:Nat}{T T1 T2 T3:Nat->Nat->Nat}(hd:d<8)(hp:atB W H px py=true)(hR:Right W H bl T d)(h1:Counted W H (upd bl (idx W px py) t) d px py T T1)
  (h2:Counted W H (upd bl (idx W px py) t) d (px - stepX d) py T1 T2) (h3:Counted W H (upd bl (idx W px py) t) d px (py - stepY d) T2 T3) (_hx:stepX d≠0) (_hy:stepY d≠0):Right W H (upd bl (idx W px py) t) T3 d:=fun u v hu=>by
 by_cases q1:CBk (stepX d) (stepY d) px py u v
 ·exact h3.turn.keep hu (h2.turn.keep hu (h1.right u v hp q1 hu))
 ·by_cases q2:CBk (stepX d) (stepY d) (px - stepX d) py u v
  ·refine h3.turn.keep hu (h2.right u v ?_ q2 hu)
   obtain ⟨k,a1,a2⟩:=q2
   rw [at_iff] at hu hp ⊢
   rcases step_cases hd with ⟨e1,e2⟩|⟨e1,e2⟩|⟨e1,e2⟩|⟨e1,e2⟩|⟨e1,e2⟩|⟨e1,e2⟩|⟨e1,e2⟩|⟨e1,e2⟩ <;> (rw [e1] at a1 _hx;rw [e2] at a2 _hy;rw [e1];omega)
  ·by_cases q3:CBk (stepX d) (stepY d) px (py - stepY d) u v
   ·refine h3.right u v ?_ q3 hu
    obtain ⟨k,a1,a2⟩:=q3
    rw [at_iff] at hu hp ⊢
    rcases step_cases hd with ⟨e1,e2⟩|⟨e1,e2⟩|⟨e1,e2⟩|⟨e1,e2⟩|⟨e1,e2⟩|⟨e1,e2⟩|⟨e1,e2⟩|⟨e1,e2⟩ <;> (rw [e1] at a1 _hx;rw [e2] at a2 _hy;rw [e2];omega)
   ·refine h3.turn.keep hu (h2.turn.keep hu (h1.turn.keep hu ?_))
    rw [hR u v hu,clr_upd hp q1 q2 q3]
end
section
open Go.RowKit
theorem Free.keep {D:Nat->Prop}{w w':World}{b:Nat}(f:Free w b)(hb:b<w.heap.size)(K:Keep D w w')(h:¬ D b):Free w' b:=fun o=>(K.frozen (p:=⟨b,o,none⟩) hb h).trans (f o)
structure TabAt (w:World) (tb pb:Nat) (W H V:Int) (bl:Nat->Bool) (T:Nat->Nat->Nat):Prop where
 p0:w.cell? ⟨tb,0,none⟩=some (.pointer (some ⟨pb,0,none⟩))
 ts:∀ c d,c<256->d<8->w.cell? ⟨tb,1+c*8+d,none⟩=some (.int .i64 (T c d:Nat))
 fr:Free w tb
 ga:GridAt w pb W H V bl
 gf:Free w pb
 st:StepsAt w
 ne:tb≠pb
 n0:1≠tb
 n1:1≠pb
theorem TabAt.blocks {w:World}{tb pb:Nat}{W H V:Int}{bl:Nat->Bool}{T:Nat->Nat->Nat}(t:TabAt w tb pb W H V bl T):tb<w.heap.size/\pb<w.heap.size:=⟨World.block_lt_of_cell? w _ t.p0,World.block_lt_of_cell? w _ t.ga.c0⟩
theorem TabAt.keep {D:Nat->Prop}{w w':World}{tb pb:Nat}{W H V:Int}{bl:Nat->Bool}{T:Nat->Nat->Nat}(t:TabAt w tb pb W H V bl T)(K:Keep D w w')(h1:¬ D tb)(h2:¬ D pb)(h3:¬ D 1):TabAt w' tb pb W H V bl T :=
 ⟨K.cellOf t.p0 h1,fun c d hc hd=>K.cellOf (t.ts c d hc hd) h1,t.fr.keep t.blocks.1 K h1,t.ga.keep K h2,t.gf.keep t.blocks.2 K h2,t.st.keep K h3,t.ne,t.n0,t.n1⟩
theorem TabAt.drewN {w:World}{tb pb:Nat}{W H V:Int}{bl:Nat->Bool}{T:Nat->Nat->Nat}(t:TabAt w tb pb W H V bl T)(m:Nat):TabAt (w.drewN m) tb pb W H V bl T :=
 ⟨t.p0,t.ts,t.fr,t.ga.drewN m,t.gf,t.st.drewN m,t.ne,t.n0,t.n1⟩
theorem off_ne {c d c' d':Nat}(hd:d<8)(hd':d'<8)(h:¬ (c'=c/\d'=d)):1+c'*8+d'≠1+c*8+d:=by omega
theorem TabAt.set {w:World}{tb pb:Nat}{W H V:Int}{bl:Nat->Bool}{T:Nat->Nat->Nat}(t:TabAt w tb pb W H V bl T){c d:Nat}(hc:c<256)(hd:d<8)(n:Nat):TabAt (w.setCell ⟨tb,1+c*8+d,none⟩ (.int .i64 n)) tb pb W H V bl (upd2 T c d n):=by
 have K:Keep (fun k=>k=tb) w (w.setCell ⟨tb,1+c*8+d,none⟩ (.int .i64 n)):=(Keep.refl (fun k=>k=tb) w).setCell (p:=⟨tb,1+c*8+d,none⟩) (fun _=>rfl) _
 refine ⟨?_,fun c' d' hc' hd'=>?_,fun o=>by simpa using t.fr o,t.ga.keep K (fun q=>t.ne q.symm),t.gf.keep t.blocks.2 K (fun q=>t.ne q.symm),t.st.keep K t.n0,t.ne,t.n0,t.n1⟩
 ·rw [World.cell?_setCell_other _ _ _ _ (addr_ne (by omega))];exact t.p0
 ·unfold upd2
  by_cases q:c'=c/\d'=d
  ·rw [if_pos q,q.1,q.2]
   exact World.cell?_setCell_same _ _ _ (t.ts c d hc hd)
  ·rw [if_neg q,World.cell?_setCell_other _ _ _ _ (addr_ne (off_ne hd hd' q).symm)]
   exact t.ts c' d' hc' hd'
theorem cell_v {b:Nat}{W H V:Int}{bl:Nat->Bool}{x y:Int}{c:Nat}(hc:idx W x y=c)(w:World)(g:GridAt w b W H V bl)(hr:atB W H x y=true) :
  Calls Tryz.prog 159 #[.pointer (some ⟨b,0,none⟩),.int .i64 x,.int .i64 y] w fun e w'=>e=.returned (.tuple #[.int .i64 (c:Int),.nilIface])/\w'=w:=by
 have:=cell_in x y w g hr
 rw [<- (idx_parts hr).1,hc] at this
 exact this
set_option maxHeartbeats 400000 in
theorem isEnd_any {tb pb:Nat}{W H V:Int}{bl:Nat->Bool}{T:Nat->Nat->Nat}(x y:Int)(d:Nat)(w:World)(t:TabAt w tb pb W H V bl T)(hd:d<8)(x1:-50<=x)(x2:x<=50)(y1:-50<=y)(y2:y<=50) :
  Calls Tryz.prog 131 #[.pointer (some ⟨tb,0,none⟩),.int .i64 x,.int .i64 y,.int .i64 d] w fun e w'=>e=.returned (.bool (!atB W H (x+stepX d) (y+stepY d)))/\∃ m,w'=w.drewN m:=by
 obtain ⟨s1,s2,s3,s4⟩:=step_bd d
 have hs:=fun w h=>step_any d w h hd
 have hp:=t.p0
 generalize stepX d=dx at *
 generalize stepY d=dy at *
 cases ha:atB W H (x+dx) (y+dy) with
 |true =>
  have hc:=fun w g=>cell_in (b:=pb) (W:=W) (H:=H) (V:=V) (bl:=bl) (x+dx) (y+dy) w g ha
  go_enter Tryz.func131,Tryz.ntmps131
  go_wp2_with (first|(go_at_call 158;refine (hs _ t.st).mono ?_;rintro e w' ⟨rfl,m,rfl⟩)|(go_at_call 159;refine (hc _ (t.ga.drewN _)).mono ?_;rintro e w' ⟨rfl,rfl⟩))
  go_ret
  exact ⟨rfl,_,rfl⟩
 |false =>
  have hc:=fun w g=>cell_out (b:=pb) (W:=W) (H:=H) (V:=V) (bl:=bl) (x+dx) (y+dy) w g ha
  go_enter Tryz.func131,Tryz.ntmps131
  go_wp2_with (first|(go_at_call 158;refine (hs _ t.st).mono ?_;rintro e w' ⟨rfl,m,rfl⟩)|(go_at_call 159;refine (hc _ (t.ga.drewN _)).mono ?_;rintro e w' ⟨rfl,rfl⟩))
  go_ret
  exact ⟨rfl,_,rfl⟩
end
end Go.Proofs.YtipbhlofbpnpjaaGreatDoor
