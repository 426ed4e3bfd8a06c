/-
  Texts laid together: Copy, RFloodA, RFlood3, WalkR, NearW, LevM.
-/
import Derived.Test.YtmaefimaeelkbaaGreatDoorP3
import Derived.Test.YtmaefimaeelkbaaGreatDoorP9
import Derived.Test.YtmaefimaeelkbaaGreatDoorP6
import Derived.Test.YtmaefimaeelkbaaGreatDoorP4
import Derived.Test.YtmaefimaeelkbaaGreatDoorP5
import Derived.Test.YtmaefimaeelkbaaGreatDoorP2
import Derived.Deep.MidRow
import Derived.Maps.AppendAt
import Derived.Deep.RegionHeld3
import Derived.Deep.LoopGhost
import Derived.Deep.Light
import Derived.Deep.RegionWith
namespace Go.Proofs.YtmaefimaeelkbaaGreatDoor
section
open Go.RowKit
theorem run_alloc65 (w:World):(Instr.alloc 136 true (.tuple #[])).run Tryz.prog w=.ok (.pointer (some ⟨w.heap.size,0,none⟩)) (w.alloc (.cells (gridC 0 0) 136)):=by kernel_rfl
theorem wpList_alloc65 {ops:Array Oper}{rest:List Oper}{o:Oper}{a:Act}{w:World}{Q:Exit->Act->World->Prop}(hgd:o.guard=none)(ho:o.op=.alloc 136)
  (h:wpList Tryz.prog ops Q rest (a.put o.dst (.pointer (some ⟨w.heap.size,0,none⟩))) (w.alloc (.cells (gridC 0 0) 136))):wpList Tryz.prog ops Q (o::rest) a w :=
 wpList_plain hgd fun _ hK=>by
  unfold Oper.wp execOp
  simp only [ho,Sem.run_bind,run_alloc65 w,Result.andThen_ok]
  exact hK _ _ h
def gridL (W H V:Int) (bl:Nat->Bool):List Value:=[.int .i64 W,.int .i64 H,.int .i64 V]++(List.range 256).map fun i=>Value.bool (bl i)
theorem gridL_len (W H V:Int)(bl:Nat->Bool):(gridL W H V bl).length=259:=by unfold gridL;simp
theorem gridL_at (W H V:Int)(bl:Nat->Bool)(i:Nat)(hi:i<256):(gridL W H V bl)[3+i]? = some (.bool (bl i)):=by
 unfold gridL
 rw [List.getElem?_append_right (by simp)]
 simp [hi]
theorem gridL_one (W H V:Int)(bl:Nat->Bool):∀ v ∈ gridL W H V bl,v.oneCell'=true:=by
 intro v hv
 unfold gridL at hv
 simp only [List.mem_append,List.mem_cons,List.mem_map,List.not_mem_nil,or_false] at hv
 rcases hv with (rfl|rfl|rfl)|⟨i,_,rfl⟩ <;> rfl
theorem GridAt.range {w:World}{b:Nat}{W H V:Int}{bl:Nat->Bool}(g:GridAt w b W H V bl):w.rangeAt b 0 (gridL W H V bl):=by
 intro j v hj
 rw [Nat.zero_add]
 have hlt:j<259:=by
  have:=(List.getElem?_eq_some_iff.1 hj).1
  rw [gridL_len] at this
  exact this
 by_cases h:j<3
 ·have hc:j=0\/j=1\/j=2:=by omega
  unfold gridL at hj
  rw [List.getElem?_append_left (by simpa using h)] at hj
  rcases hc with rfl|rfl|rfl
  ·simp at hj;rw [<- hj];exact g.c0
  ·simp at hj;rw [<- hj];exact g.c1
  ·simp at hj;rw [<- hj];exact g.c2
 ·obtain ⟨i,rfl⟩:∃ i,j=3+i:=⟨j - 3,by omega⟩
  rw [gridL_at _ _ _ _ i (by omega)] at hj
  have:v=.bool (bl i):=(Option.some.inj hj).symm
  rw [this]
  exact g.cs i (by omega)
theorem gridAt_range {w:World}{b:Nat}{W H V:Int}{bl:Nat->Bool}(h:w.rangeAt b 0 (gridL W H V bl))(w1:1<=W)(w2:W<=16)(h1:1<=H)(h2:H<=16):GridAt w b W H V bl:=by
 have at_:∀ j v,(gridL W H V bl)[j]? = some v->w.cell? ⟨b,j,none⟩=some v:=fun j v hj=>by have:=h j v hj;rw [Nat.zero_add] at this;exact this
 refine ⟨w1,w2,h1,h2,at_ 0 _ ?_,at_ 1 _ ?_,at_ 2 _ ?_,fun i hi=>at_ (3+i) _ (gridL_at W H V bl i hi)⟩
 ·unfold gridL;rw [List.getElem?_append_left (by simp)];rfl
 ·unfold gridL;rw [List.getElem?_append_left (by simp)];rfl
 ·unfold gridL;rw [List.getElem?_append_left (by simp)];rfl
theorem gridC_size (W H:Int):(gridC W H).size=259:=by unfold gridC;simp
theorem there_new (w:World):(w.alloc (.cells (gridC 0 0) 136)).there w.heap.size 0 259:=by
 intro j hj
 rw [Nat.zero_add,World.cell?_alloc_new,Array.getElem?_eq_getElem (by rw [gridC_size];exact hj)]
 exact ⟨rfl,free_alloc w _ _ _ (Nat.le_refl _) j⟩
theorem below_setCells {B:Nat}{a:World}(b:Nat)(hb:B<=b):∀ (vs:List Value) (o:Nat) {w:World},Below B a w->Below B a (w.setCells b o vs)
 |[],_,_,h=>h
 |v::r,o,_,h=>below_setCells b hb r (o+1) (h.setCell (p:=⟨b,o,none⟩) hb v)
theorem lt_of_cellG {w:World}{b o:Nat}{v:Value}(h:w.cell? ⟨b,o,none⟩=some v):b<w.heap.size:=by
 by_cases hb:b<w.heap.size
 ·exact hb
 ·unfold World.cell? at h
  rw [Array.getElem?_eq_none (by simpa using hb)] at h
  simp at h
theorem info65:(Tryz.prog.info? 136).map (·.size)=some 259:=by kernel_rfl
set_option maxHeartbeats 400000 in
theorem copy_any {b:Nat}{W H V:Int}{bl:Nat->Bool}(w:World)(g:GridAt w b W H V bl) :
  Calls Tryz.prog 80 #[.pointer (some ⟨b,0,none⟩)] w fun e w'=>e=.returned (.pointer (some ⟨w.heap.size,0,none⟩))/\Below w.heap.size w w'/\w.heap.size<w'.heap.size/\GridAt w' w.heap.size W H V bl/\Free w' w.heap.size:=by
 have hr:=g.range
 have hl:=gridL_len W H V bl
 have h1:=gridL_one W H V bl
 have w1:=g.w1
 have w2:=g.w2
 have h3:=g.h1
 have h4:=g.h2
 have ht:=there_new w
 have hB:Below w.heap.size w ((w.alloc (.cells (gridC 0 0) 136)).setCells w.heap.size 0 (gridL W H V bl)):=below_setCells _ (Nat.le_refl _) _ _ ((Below.refl _ _).alloc (Nat.le_refl _) _)
 have hG:GridAt ((w.alloc (.cells (gridC 0 0) 136)).setCells w.heap.size 0 (gridL W H V bl)) w.heap.size W H V bl:=gridAt_range (World.rangeAt_setCells_same _ _ _ _ (by rw [hl];exact ht)) w1 w2 h3 h4
 have hF:Free ((w.alloc (.cells (gridC 0 0) 136)).setCells w.heap.size 0 (gridL W H V bl)) w.heap.size:=fun o=>by rw [World.frozen?_setCells];exact free_alloc w _ _ _ (Nat.le_refl _) o
 have hZ:w.heap.size<((w.alloc (.cells (gridC 0 0) 136)).setCells w.heap.size 0 (gridL W H V bl)).heap.size:=lt_of_cellG hG.c0
 clear w1 w2 h3 h4 g
 generalize gridL W H V bl=cs at *
 go_enter Tryz.func80,Tryz.ntmps80
 go_wp2_with (first|(refine wpList_load_mid rfl 136 _ rfl b 0 rfl cs _ hr Tryz.underlying136 rfl (by rw [hl];exact info65) ?_)|(refine wpList_alloc65 rfl rfl ?_)|(refine wpList_store_mid rfl 136 _ _ rfl w.heap.size 0 cs.toArray rfl rfl (by simpa [hl] using ht) (by simpa [hl] using info65) (all_oneCell_toArray h1) ?_))
 go_ret
 exact ⟨rfl,hB,hZ,hG,hF⟩
end
section
open Go.RowKit Go.Maps
def zC:Array Value:=(List.replicate 512 (Value.int .i64 0)).toArray
def zB:Array Value:=(List.replicate 256 (Value.bool false)).toArray
theorem run_alloc54 (w:World):(Instr.alloc 96 true (.tuple #[])).run Tryz.prog w=.ok (.pointer (some ⟨w.heap.size,0,none⟩)) (w.alloc (.cells zC 96)):=by kernel_rfl
theorem run_alloc55 (w:World):(Instr.alloc 36 true (.tuple #[])).run Tryz.prog w=.ok (.pointer (some ⟨w.heap.size,0,none⟩)) (w.alloc (.cells zB 36)):=by kernel_rfl
theorem wpList_alloc54 {ops:Array Oper}{rest:List Oper}{o:Oper}{a:Act}{w:World}{Q:Exit->Act->World->Prop}(hgd:o.guard=none)(ho:o.op=.alloc 96)
  (h:wpList Tryz.prog ops Q rest (a.put o.dst (.pointer (some ⟨w.heap.size,0,none⟩))) (w.alloc (.cells zC 96))):wpList Tryz.prog ops Q (o::rest) a w :=
 wpList_plain hgd fun _ hK=>by
  unfold Oper.wp execOp
  simp only [ho,Sem.run_bind,run_alloc54 w,Result.andThen_ok]
  exact hK _ _ h
theorem wpList_alloc55 {ops:Array Oper}{rest:List Oper}{o:Oper}{a:Act}{w:World}{Q:Exit->Act->World->Prop}(hgd:o.guard=none)(ho:o.op=.alloc 36)
  (h:wpList Tryz.prog ops Q rest (a.put o.dst (.pointer (some ⟨w.heap.size,0,none⟩))) (w.alloc (.cells zB 36))):wpList Tryz.prog ops Q (o::rest) a w :=
 wpList_plain hgd fun _ hK=>by
  unfold Oper.wp execOp
  simp only [ho,Sem.run_bind,run_alloc55 w,Result.andThen_ok]
  exact hK _ _ h
def labS (F:Int->Option (Int × Int)) (a:Int):Int:=match F a with|some c=>c.1|none=>0
def labD (F:Int->Option (Int × Int)) (a:Int):Int:=match F a with|some c=>c.2|none=>0
theorem lab_some {F:Int->Option (Int × Int)}{a s d:Int}(h:F a=some (s,d)):labS F a=s/\labD F a=d:=by unfold labS labD;rw [h];exact ⟨rfl,rfl⟩
theorem lab_none {F:Int->Option (Int × Int)}{a:Int}(h:F a=none):labS F a=0/\labD F a=0:=by unfold labS labD;rw [h];exact ⟨rfl,rfl⟩
theorem putH_same (F:Int->Option (Int × Int))(a s d:Int):putH F a s d a=some (s,d):=if_pos rfl
theorem putH_other (F:Int->Option (Int × Int)){a i:Int}(s d:Int)(h:i≠a):putH F a s d i=F i:=if_neg h
theorem lab_put (F:Int->Option (Int × Int))(a s d:Int):labS (putH F a s d) a=s/\labD (putH F a s d) a=d:=lab_some (putH_same F a s d)
theorem lab_other (F:Int->Option (Int × Int)){a i:Int}(s d:Int)(h:i≠a):labS (putH F a s d) i=labS F i/\labD (putH F a s d) i=labD F i:=by
 unfold labS labD;rw [putH_other F s d h];exact ⟨rfl,rfl⟩
structure LabAt (w:World) (cb ib:Nat) (F:Int->Option (Int × Int)):Prop where
 c0:∀ a:Nat,a<256->w.cell? ⟨cb,a*2,none⟩=some (.int .i64 (labS F a))
 c1:∀ a:Nat,a<256->w.cell? ⟨cb,a*2+1,none⟩=some (.int .i64 (labD F a))
 i0:∀ a:Nat,a<256->w.cell? ⟨ib,a,none⟩=some (.bool (F a).isSome)
 zc:Free w cb
 zi:Free w ib
 ne:cb≠ib
theorem LabAt.lt {w:World}{cb ib:Nat}{F:Int->Option (Int × Int)}(h:LabAt w cb ib F):cb<w.heap.size/\ib<w.heap.size:=⟨World.block_lt_of_cell? w _ (h.c0 0 (by decide)),World.block_lt_of_cell? w _ (h.i0 0 (by decide))⟩
theorem LabAt.keep {D:Nat->Prop}{w w':World}{cb ib:Nat}{F:Int->Option (Int × Int)}(h:LabAt w cb ib F)(K:Keep D w w')(h1:¬ D cb)(h2:¬ D ib):LabAt w' cb ib F :=
 ⟨fun a ha=>K.cellOf (h.c0 a ha) h1,fun a ha=>K.cellOf (h.c1 a ha) h1,fun a ha=>K.cellOf (h.i0 a ha) h2,fun o=>(K.frozen (p:=⟨cb,o,none⟩) h.lt.1 h1).trans (h.zc o),fun o=>(K.frozen (p:=⟨ib,o,none⟩) h.lt.2 h2).trans (h.zi o),h.ne⟩
theorem LabAt.below {w w':World}{cb ib:Nat}{F:Int->Option (Int × Int)}(h:LabAt w cb ib F)(hb:Below w.heap.size w w'):LabAt w' cb ib F:=h.keep (Keep.of_below (F:=fun _=>False) hb) id id
theorem zC_at (i:Nat)(hi:i<512):zC[i]? = some (Value.int .i64 0):=by unfold zC;rw [List.getElem?_toArray,List.getElem?_replicate,if_pos hi]
theorem zB_at (i:Nat)(hi:i<256):zB[i]? = some (Value.bool false):=by unfold zB;rw [List.getElem?_toArray,List.getElem?_replicate,if_pos hi]
theorem LabAt.new (w:World):LabAt ((w.alloc (.cells zC 96)).alloc (.cells zB 36)) w.heap.size (w.heap.size+1) (fun _=>none):=by
 have hB:Below (w.alloc (.cells zC 96)).heap.size (w.alloc (.cells zC 96)) ((w.alloc (.cells zC 96)).alloc (.cells zB 36)):=(Below.refl _ _).alloc (Nat.le_refl _) _
 have e:(w.alloc (.cells zC 96)).heap.size=w.heap.size+1:=by simp
 refine ⟨fun a ha=>?_,fun a ha=>?_,fun a ha=>?_,fun o=>?_,fun o=>?_,by omega⟩
 ·rw [hB.cell (p:=⟨w.heap.size,a*2,none⟩) (by rw [e];exact Nat.lt_succ_self _),World.cell?_alloc_new];exact zC_at _ (by omega)
 ·rw [hB.cell (p:=⟨w.heap.size,a*2+1,none⟩) (by rw [e];exact Nat.lt_succ_self _),World.cell?_alloc_new];exact zC_at _ (by omega)
 ·rw [<- e,World.cell?_alloc_new];exact zB_at _ ha
 ·rw [hB.frozen (p:=⟨w.heap.size,o,none⟩) (by rw [e];exact Nat.lt_succ_self _)];exact free_alloc w _ _ _ (Nat.le_refl _) o
 ·rw [<- e];exact free_alloc _ _ _ _ (Nat.le_refl _) o
theorem LabAt.first {w:World}{cb ib:Nat}(h:LabAt w cb ib (fun _=>none))(a:Nat)(ha:a<256):LabAt (w.setCell ⟨ib,a,none⟩ (.bool true)) cb ib (putH (fun _=>none) a 0 0):=by
 have K:Keep (fun k=>k=ib) w (w.setCell ⟨ib,a,none⟩ (.bool true)):=(Keep.refl (fun k=>k=ib) w).setCell (p:=⟨ib,a,none⟩) (fun _=>rfl) _
 have hl:∀ i:Int,labS (putH (fun _=>none) a 0 0) i=0/\labD (putH (fun _=>none) a 0 0) i=0:=fun i=>by
  by_cases q:i=a
  ·rw [q];exact lab_put _ _ _ _
  ·rw [(lab_other _ _ _ q).1,(lab_other _ _ _ q).2];exact lab_none rfl
 refine ⟨fun i hi=>?_,fun i hi=>?_,fun i hi=>?_,fun o=>(K.frozen (p:=⟨cb,o,none⟩) h.lt.1 h.ne).trans (h.zc o),fun o=>by simpa using h.zi o,h.ne⟩
 ·rw [(hl i).1];exact K.cellOf (h.c0 i hi) h.ne
 ·rw [(hl i).2];exact K.cellOf (h.c1 i hi) h.ne
 ·by_cases q:i=a
  ·subst q;rw [putH_same];exact World.cell?_setCell_same _ _ _ (h.i0 i hi)
  ·rw [putH_other _ _ _ (by omega),World.cell?_setCell_other _ _ _ _ (addr_ne (fun e=>q e.symm))];exact h.i0 i hi
theorem LabAt.put {w:World}{cb ib:Nat}{F:Int->Option (Int × Int)}(h:LabAt w cb ib F)(a:Nat)(ha:a<256)(s d:Int) :
  LabAt (((w.setCell ⟨cb,a*2,none⟩ (.int .i64 s)).setCell ⟨cb,a*2+1,none⟩ (.int .i64 d)).setCell ⟨ib,a,none⟩ (.bool true)) cb ib (putH F a s d):=by
 have nb:∀ o p,(⟨ib,o,none⟩:Addr)≠⟨cb,p,none⟩:=fun o p e=>h.ne (by cases e;rfl)
 refine ⟨fun i hi=>?_,fun i hi=>?_,fun i hi=>?_,fun o=>by simpa using h.zc o,fun o=>by simpa using h.zi o,h.ne⟩
 ·rw [World.cell?_setCell_other _ _ _ _ (nb _ _),World.cell?_setCell_other _ _ _ _ (addr_ne (by omega))]
  by_cases q:i=a
  ·subst q;rw [(lab_put F i s d).1];exact World.cell?_setCell_same _ _ _ (h.c0 i hi)
  ·rw [(lab_other F s d (show (i:Int)≠a by omega)).1,World.cell?_setCell_other _ _ _ _ (addr_ne (by omega))];exact h.c0 i hi
 ·rw [World.cell?_setCell_other _ _ _ _ (nb _ _)]
  by_cases q:i=a
  ·subst q;rw [(lab_put F i s d).2]
   refine World.cell?_setCell_same _ _ _ (u:=.int .i64 (labD F i)) ?_
   rw [World.cell?_setCell_other _ _ _ _ (addr_ne (by omega))];exact h.c1 i hi
  ·rw [(lab_other F s d (show (i:Int)≠a by omega)).2,World.cell?_setCell_other _ _ _ _ (addr_ne (by omega)),World.cell?_setCell_other _ _ _ _ (addr_ne (by omega))];exact h.c1 i hi
 ·by_cases q:i=a
  ·subst q;rw [putH_same]
   refine World.cell?_setCell_same _ _ _ (u:=.bool (F i).isSome) ?_
   rw [World.cell?_setCell_other _ _ _ _ (nb _ _).symm,World.cell?_setCell_other _ _ _ _ (nb _ _).symm];exact h.i0 i hi
  ·rw [putH_other F s d (show (i:Int)≠a by omega),World.cell?_setCell_other _ _ _ _ (addr_ne (by omega)),World.cell?_setCell_other _ _ _ _ (nb _ _).symm,World.cell?_setCell_other _ _ _ _ (nb _ _).symm];exact h.i0 i hi
theorem put_keep (w:World)(cb ib a:Nat)(s d:Int):Keep (fun k=>k=cb\/k=ib) w (((w.setCell ⟨cb,a*2,none⟩ (.int .i64 s)).setCell ⟨cb,a*2+1,none⟩ (.int .i64 d)).setCell ⟨ib,a,none⟩ (.bool true)) :=
 (((Keep.refl (fun k=>k=cb\/k=ib) w).setCell (p:=⟨cb,a*2,none⟩) (fun _=>Or.inl rfl) _).setCell (p:=⟨cb,a*2+1,none⟩) (fun _=>Or.inl rfl) _).setCell (p:=⟨ib,a,none⟩) (fun _=>Or.inr rfl) _
def costL (F:Int->Option (Int × Int)):List Value:=(List.range 512).map fun i=>Value.int .i64 (if i % 2=0 then labS F (i / 2:Nat) else labD F (i / 2:Nat))
def isL (F:Int->Option (Int × Int)):List Value:=(List.range 256).map fun (i:Nat)=>Value.bool (F (i:Int)).isSome
theorem costL_len (F:Int->Option (Int × Int)):(costL F).length=512:=by unfold costL;simp
theorem isL_len (F:Int->Option (Int × Int)):(isL F).length=256:=by unfold isL;simp
theorem LabAt.rangeC {w:World}{cb ib:Nat}{F:Int->Option (Int × Int)}(h:LabAt w cb ib F):w.rangeAt cb 0 (costL F):=by
 intro j v hj
 rw [Nat.zero_add]
 have hlt:j<512:=by have:=(List.getElem?_eq_some_iff.1 hj).1;rw [costL_len] at this;exact this
 unfold costL at hj
 rw [List.getElem?_map,List.getElem?_range hlt] at hj
 simp only [Option.map_some,Option.some.injEq] at hj
 rw [<- hj]
 by_cases q:j % 2=0
 ·rw [if_pos q]
  have:=h.c0 (j / 2) (by omega)
  rw [show j / 2*2=j by omega] at this
  exact this
 ·rw [if_neg q]
  have:=h.c1 (j / 2) (by omega)
  rw [show j / 2*2+1=j by omega] at this
  exact this
theorem LabAt.rangeI {w:World}{cb ib:Nat}{F:Int->Option (Int × Int)}(h:LabAt w cb ib F):w.rangeAt ib 0 (isL F):=by
 intro j v hj
 rw [Nat.zero_add]
 have hlt:j<256:=by have:=(List.getElem?_eq_some_iff.1 hj).1;rw [isL_len] at this;exact this
 unfold isL at hj
 rw [List.getElem?_map,List.getElem?_range hlt] at hj
 simp only [Option.map_some,Option.some.injEq] at hj
 rw [<- hj]
 exact h.i0 j hlt
theorem info54:(Tryz.prog.info? 96).map (·.size)=some 512:=by kernel_rfl
theorem info55:(Tryz.prog.info? 36).map (·.size)=some 256:=by kernel_rfl
def pend (td:List Nat) (i:Nat) (a:Int):Prop:=∃ j,i<=j/\j<td.length/\((td.getD j 0:Nat):Int)=a
structure FSt (w wr:World) (tv:Value) (td:List Nat) (W H:Int) (F:Int->Option (Int × Int)):Prop where
 own:wr.ownsRow (w.heap.size+4) 3 1 tv td.length (vals td)
 lab:LabAt wr (w.heap.size+2) (w.heap.size+3) F
 r0:wr.there w.heap.size 0 512
 r1:wr.there (w.heap.size+1) 0 256
 bel:Below w.heap.size w wr
 mem:∀ j,j<td.length->inB W H ((td.getD j 0:Nat):Int)=true/\(F ((td.getD j 0:Nat):Int)).isSome=true
 len:(td.length:Int)+pot F (W*H).toNat<=3578815643905
theorem there_keep {D:Nat->Prop}{w w':World}{b o n:Nat}(h:w.there b o n)(hb:b<w.heap.size)(K:Keep D w w')(hn:¬ D b):w'.there b o n:=fun j hj=>by
 obtain ⟨h1,h2⟩:=h j hj
 rw [K.cell (p:=⟨b,o+j,none⟩) hb hn,K.frozen (p:=⟨b,o+j,none⟩) hb hn]
 exact ⟨h1,h2⟩
theorem own_keepA {D:Nat->Prop}{w w':World}{base k n:Nat}{e:TypeId}{v:Value}{xs:List Value}(h:w.ownsRow base e k v n xs)(K:Keep D w w')(hn:∀ g,base<=g->¬ D g):w'.ownsRow base e k v n xs:=by
 refine ⟨h.1,?_⟩
 rcases h.2 with h2|⟨g,cap,cur,hv,hbase,hg,h3⟩
 ·exact Or.inl h2
 ·exact Or.inr ⟨g,cap,cur,hv,hbase,(K.block g (Array.getElem?_eq_some_iff.1 hg).1 (hn g hbase)).trans hg,h3⟩
theorem FSt.big {w wr:World}{tv:Value}{td:List Nat}{W H:Int}{F:Int->Option (Int × Int)}(h:FSt w wr tv td W H F):w.heap.size+4<=wr.heap.size:=by have:=h.lab.lt.2;omega
theorem FSt.below {w wr w':World}{tv:Value}{td:List Nat}{W H:Int}{F:Int->Option (Int × Int)}(h:FSt w wr tv td W H F)(hb:Below wr.heap.size wr w'):FSt w w' tv td W H F:=by
 have hs:=h.big
 have K:Keep (fun _=>False) wr w':=Keep.of_below hb
 exact ⟨own_below h.own hb,h.lab.below hb,there_keep h.r0 (by omega) K id,there_keep h.r1 (by omega) K id,h.bel.trans (hb.mono h.bel.size),h.mem,h.len⟩
theorem FSt.put {w wr:World}{tv:Value}{td:List Nat}{W H:Int}{F:Int->Option (Int × Int)}(h:FSt w wr tv td W H F)(a:Nat)(ha:a<256)(s d:Int)(hp:pot (putH F a s d) (W*H).toNat+1<=pot F (W*H).toNat) :
  FSt w (((wr.setCell ⟨w.heap.size+2,a*2,none⟩ (.int .i64 s)).setCell ⟨w.heap.size+2,a*2+1,none⟩ (.int .i64 d)).setCell ⟨w.heap.size+3,a,none⟩ (.bool true)) tv td W H (putH F a s d):=by
 have hs:=h.big
 have K:=put_keep wr (w.heap.size+2) (w.heap.size+3) a s d
 refine ⟨own_keepA h.own K (fun g hg=>by omega),h.lab.put a ha s d,there_keep h.r0 (by omega) K (by omega),there_keep h.r1 (by omega) K (by omega),h.bel.trans (K.to_below h.bel.size (fun k hk=>by omega)),fun j hj=>?_,by have:=h.len;omega⟩
 obtain ⟨m1,m2⟩:=h.mem j hj
 refine ⟨m1,?_⟩
 by_cases q:((td.getD j 0:Nat):Int)=a
 ·rw [q,putH_same];rfl
 ·rw [putH_other F s d q];exact m2
theorem FSt.app {w wr w':World}{tv tv':Value}{td:List Nat}{W H:Int}{F:Int->Option (Int × Int)}{a:Nat}(h:FSt w wr tv td W H F)(ho:w'.ownsRow (w.heap.size+4) 3 1 tv' (td++[a]).length (vals (td++[a])))(hg:wr.grownBy w' tv.ownBlock)(ha:inB W H a=true)(hF:(F a).isSome=true)(hl:(td.length:Int)+1+pot F (W*H).toNat<=3578815643905) :
  FSt w w' tv' (td++[a]) W H F:=by
 have hs:=h.big
 have K:Keep (fun k=>w.heap.size+4<=k) wr w':=(Keep.refl _ wr).grown hg (fun k hk _=>(h.own.lt k hk).1)
 refine ⟨ho,h.lab.keep K (by omega) (by omega),there_keep h.r0 (by omega) K (by omega),there_keep h.r1 (by omega) K (by omega),h.bel.trans (K.to_below h.bel.size (fun k hk=>by omega)),fun j hj=>?_,by simp;omega⟩
 rw [getD_app]
 by_cases q:j<td.length
 ·rw [if_pos q];exact h.mem j q
 ·rw [if_neg q,if_pos (by simp at hj;omega)];exact ⟨ha,hF⟩
theorem pend_app {td:List Nat}{i a:Nat}{x:Int}(hi:i<=td.length):pend (td++[a]) i x↔(pend td i x\/x=a):=by
 constructor
 ·rintro ⟨j,h1,h2,h3⟩
  rw [getD_app] at h3
  by_cases q:j<td.length
  ·rw [if_pos q] at h3;exact Or.inl ⟨j,h1,q,h3⟩
  ·rw [if_neg q,if_pos (by simp at h2;omega)] at h3;exact Or.inr h3.symm
 ·rintro (⟨j,h1,h2,h3⟩|rfl)
  ·exact ⟨j,h1,by simp;omega,by rw [getD_app,if_pos h2];exact h3⟩
  ·exact ⟨td.length,hi,by simp,by rw [getD_app,if_neg (Nat.lt_irrefl _),if_pos rfl]⟩
def RFlooded (w w':World) (e:Ending) (W H:Int) (bl:Nat->Bool) (o:Int):Prop :=
 ∃ F,e=.returned (.tuple #[.agg (costL F).toArray,.agg (isL F).toArray])/\Best (Edge W H bl) o F/\Below w.heap.size w w'
theorem new_there (w:World)(l:List Value)(t:TypeId)(n:Nat)(hl:l.length=n):(w.alloc (.cells l.toArray t)).there w.heap.size 0 n:=by
 intro j hj
 rw [Nat.zero_add,World.cell?_alloc_new,List.getElem?_toArray,List.getElem?_eq_getElem (by omega)]
 exact ⟨rfl,free_alloc w _ _ _ (Nat.le_refl _) j⟩
theorem fst_start {W H:Int}(w:World)(c:Nat)(hr:inB W H c=true)(h256:W*H<=256) :
  FSt w ((((((w.alloc (.cells zC 96)).alloc (.cells zB 36)).alloc (.cells zC 96)).alloc (.cells zB 36)).setCell ⟨w.heap.size+1+1+1,c,none⟩ (.bool true)).alloc (.cells #[.int .i64 (c:Int)] 3)) (.slice (some ⟨w.heap.size+1+1+1+1,0,none⟩) 1 1) [c] W H (putH (fun _=>none) c 0 0):=by
 have hc:0<=(c:Int)/\(c:Int)<W*H:=of_decide_eq_true hr
 have t0:(w.alloc (.cells zC 96)).there w.heap.size 0 512:=new_there w (List.replicate 512 (Value.int .i64 0)) 96 512 List.length_replicate
 have t1:((w.alloc (.cells zC 96)).alloc (.cells zB 36)).there (w.heap.size+1) 0 256:=by
  have:=new_there (w.alloc (.cells zC 96)) (List.replicate 256 (Value.bool false)) 36 256 List.length_replicate
  rw [show (w.alloc (.cells zC 96)).heap.size=w.heap.size+1 by simp] at this
  exact this
 have s1:(w.alloc (.cells zC 96)).heap.size=w.heap.size+1:=by simp
 have s2:((w.alloc (.cells zC 96)).alloc (.cells zB 36)).heap.size=w.heap.size+2:=by simp
 have B1:Below w.heap.size w (w.alloc (.cells zC 96)):=(Below.refl _ _).alloc (Nat.le_refl _) _
 have B2:Below (w.alloc (.cells zC 96)).heap.size (w.alloc (.cells zC 96)) ((w.alloc (.cells zC 96)).alloc (.cells zB 36)):=(Below.refl _ _).alloc (Nat.le_refl _) _
 have B12:=B1.trans (B2.mono (by rw [s1];omega))
 have t0':=there_keep t0 (by rw [s1];omega) (Keep.of_below (F:=fun _=>False) B2) id
 generalize (w.alloc (.cells zC 96)).alloc (.cells zB 36)=w2 at *
 have L0:=LabAt.new w2
 rw [s2] at L0
 have s4:((w2.alloc (.cells zC 96)).alloc (.cells zB 36)).heap.size=w.heap.size+4:=by simp [s2]
 have B3:Below w2.heap.size w2 ((w2.alloc (.cells zC 96)).alloc (.cells zB 36)):=((Below.refl _ _).alloc (Nat.le_refl _) _).alloc (by simp) _
 have B13:=B12.trans (B3.mono (by rw [s2];omega))
 have t0'':=there_keep t0' (by rw [s2];omega) (Keep.of_below (F:=fun _=>False) B3) id
 have t1'':=there_keep t1 (by rw [s2];omega) (Keep.of_below (F:=fun _=>False) B3) id
 generalize (w2.alloc (.cells zC 96)).alloc (.cells zB 36)=w4 at *
 have L1:=L0.first c (by omega)
 have K:Keep (fun k=>k=w.heap.size+2+1) w4 (w4.setCell ⟨w.heap.size+2+1,c,none⟩ (.bool true)):=(Keep.refl (fun k=>k=w.heap.size+2+1) w4).setCell (p:=⟨w.heap.size+2+1,c,none⟩) (fun _=>rfl) _
 have s5:(w4.setCell ⟨w.heap.size+2+1,c,none⟩ (.bool true)).heap.size=w.heap.size+4:=by rw [<- s4];simp
 have B14:=B13.trans (K.to_below (by rw [s4];omega) (fun k hk=>by omega))
 have u0:=there_keep t0'' (by rw [s4];omega) K (by omega)
 have u1:=there_keep t1'' (by rw [s4];omega) K (by omega)
 show FSt w ((w4.setCell ⟨w.heap.size+2+1,c,none⟩ (.bool true)).alloc (.cells #[.int .i64 (c:Int)] 3)) (.slice (some ⟨w.heap.size+4,0,none⟩) 1 1) [c] W H (putH (fun _=>none) c 0 0)
 generalize w4.setCell ⟨w.heap.size+2+1,c,none⟩ (.bool true)=w5 at *
 have own:=World.ownsRow_lit (base:=w.heap.size+4) (e:=3) (size:=1) w5 #[.int .i64 (c:Int)] 1 (by rw [s5];omega) (by unfold maxLen;omega) rfl
 rw [s5] at own
 have B5:Below w5.heap.size w5 (w5.alloc (.cells #[.int .i64 (c:Int)] 3)):=(Below.refl _ _).alloc (Nat.le_refl _) _
 refine ⟨own,L1.below B5,there_keep u0 (by rw [s5];omega) (Keep.of_below (F:=fun _=>False) B5) id,there_keep u1 (by rw [s5];omega) (Keep.of_below (F:=fun _=>False) B5) id,B14.trans (B5.mono (by rw [s5];omega)),fun j hj=>?_,?_⟩
 ·have:j=0:=by simp at hj;omega
  subst this
  exact ⟨hr,by show (putH _ (c:Int) 0 0 (c:Int)).isSome=true;rw [putH_same];rfl⟩
 ·have:=pot_start (c:Int) (W*H).toNat (by omega) (by omega) (by omega)
  show ((1:Nat):Int)+_<=_
  omega
end
section
open Go.RowKit Go.Maps
theorem rmoves_b {b:Nat}{W H V c:Int}{bl:Nat->Bool}{l:List Nat}(hl:DirsOf W H bl c l)(w:World)(g:RefAt w b W H V bl)(hr:inB W H c=true)(hb:b<w.heap.size) :
  Calls Tryz.prog 77 #[.pointer (some ⟨b,0,none⟩),.int .i64 c] w fun e w'=>∃ A cap,e=.returned (.slice A l.length cap)/\(OldRow w' A l.length (fun i=>(l.getD i 0:Nat))/\∀ g o,A=some ⟨g,o,none⟩->w.heap.size<=g)/\Below w.heap.size w w' :=
 (rmoves_in c w g hr hb).mono fun e w' ⟨v,he,hown,hbl⟩=>by
  rw [hl.eq] at hown
  obtain ⟨A,cap,rfl,hrow⟩:=row_of hown
  refine ⟨A,cap,he,⟨hrow,fun g o e=>?_⟩,hbl⟩
  rcases hown.2 with ⟨hv,_⟩|⟨g',cap',cur,hv,hg,_⟩
  ·simp only [Value.slice.injEq] at hv
   rw [hv.1] at e;cases e
  ·simp only [Value.slice.injEq] at hv
   rw [hv.1] at e;cases e;exact hg
theorem wrap_small' {n:Int}(h1:-1000000<=n)(h2:n<=1000000):IntKind.i64.wrap n=n:=by
 unfold IntKind.wrap
 simp [IntKind.bits,IntKind.signed]
 omega
theorem mem_take {l:List Nat}{q dk j:Nat}(hq:q<l.length)(hd:l.getD q 0=dk)(h:j ∈ l.take (q+1)):j ∈ l.take q\/j=dk:=by
 rw [List.take_add_one,List.getElem?_eq_getElem hq] at h
 rw [getD_at _ _ hq] at hd
 rw [List.mem_append] at h
 rcases h with h|h
 ·exact Or.inl h
 ·exact Or.inr ((by simpa using h:j=l[q]).trans hd)
theorem costL_one (F:Int->Option (Int × Int)):∀ v ∈ costL F,v.oneCell'=true:=by
 intro v hv
 unfold costL at hv
 rw [List.mem_map] at hv
 obtain ⟨i,_,rfl⟩:=hv
 rfl
theorem isL_one (F:Int->Option (Int × Int)):∀ v ∈ isL F,v.oneCell'=true:=by
 intro v hv
 unfold isL at hv
 rw [List.mem_map] at hv
 obtain ⟨i,_,rfl⟩:=hv
 rfl
theorem und54:Tryz.prog.underlying 96=some (.array 256 53):=by kernel_rfl
theorem und55:Tryz.prog.underlying 36=some (.array 256 4):=by kernel_rfl
theorem results_two {P:Program}{fn:Func}{tmps:Array Value}{w:World}{i j:Nat}{s t:TypeId}{A B:Addr}{u v:Value}(hr:fn.results=#[.cell i s,.cell j t])(a:tmps.getD i undef=.pointer (some A))(b:tmps.getD j undef=.pointer (some B))
  (h:(loadVar s A).run P w=.ok u w) (k:(loadVar t B).run P w=.ok v w):(results fn tmps).run P w=.ok (.tuple #[u,v]) w:=by
 unfold results
 rw [hr]
 rw [Array.getD_eq_getD_getElem?] at a b
 simp [a,b,h,k,asAddr]
theorem set_last (w:World)(c:Nat) :
  ((((w.alloc (.cells zC 96)).alloc (.cells zB 36)).alloc (.cells zC 96)).alloc (.cells zB 36)).setCell ⟨w.heap.size+1+1+1,c,none⟩ (.bool true)=(((w.alloc (.cells zC 96)).alloc (.cells zB 36)).alloc (.cells zC 96)).alloc (.cells (zB.setIfInBounds c (.bool true)) 36):=by
 simp [go_sem]
set_option maxHeartbeats 8000000 in
set_option maxRecDepth 1000000 in
theorem rflood_any {b:Nat}{W H V:Int}{bl:Nat->Bool}(c:Nat)(w:World)(g:RefAt w b W H V bl)(hb:b<w.heap.size)(hr:inB W H c=true) :
  Calls Tryz.prog 39 #[.pointer (some ⟨b,0,none⟩),.int .i64 (c:Int)] w fun e w'=>RFlooded w w' e W H bl c:=by
 obtain ⟨i0,hi0,hz0,hz1,hz2'⟩:=info_parts Tryz.info3
 have w1':=g.w1
 obtain ⟨kk1,kk2⟩:=wh_bd g.w1 g.w2 g.h1 g.h2
 have hc:0<=(c:Int)/\(c:Int)<W*H:=of_decide_eq_true hr
 have S0:=fst_start w c hr kk2
 have L0:=Lab.start (Edge W H bl) (c:Int) (W*H).toNat (by omega) (by omega) (fun a _=>¬ pend [c] 0 a) (fun _ h=>h ⟨0,Nat.le_refl _,by simp,rfl⟩)
 obtain ⟨N,hN⟩:∃ N:Nat,(W*H).toNat=N:=⟨_,rfl⟩
 obtain ⟨q1,q2⟩:=hc
 have q3:(c:Int)<256:=by omega
 have LN:=LabAt.new ((w.alloc (.cells zC 96)).alloc (.cells zB 36))
 have ci:=LN.i0 c (by omega)
 have cz:=LN.zi c
 have es:((w.alloc (.cells zC 96)).alloc (.cells zB 36)).heap.size+1=w.heap.size+1+1+1:=by simp
 rw [es] at ci cz
 clear LN es
 go_enter Tryz.func39,Tryz.ntmps39
 go_wp2_with (first|(refine wpList_alloc54 rfl rfl ?_)|(refine wpList_alloc55 rfl rfl ?_))
 rw [set_last] at S0
 generalize (((((w.alloc (.cells zC 96)).alloc (.cells zB 36)).alloc (.cells zC 96)).alloc (.cells (zB.setIfInBounds c (.bool true)) 36)).alloc (.cells #[.int .i64 (c:Int)] 3))=wS at *
 clear ci cz
 rw [hN] at L0
 have hN256:N<=256:=by omega
 go_loopg [8,9] ((pot (putH (fun _=>none) (c:Int) 0 0) N).toNat+1) (fun gk tv iv wr=>∃ (td:List Nat) (i:Nat) (F:Int->Option (Int × Int)),i<=td.length/\gk=(pot F N).toNat+(td.length - i)/\iv=.int .i64 i/\FSt w wr tv td W H F/\Lab (Edge W H bl) c N F (fun a _=>¬ pend td i a))
 case atStart=>exact ⟨[c],0,_,by simp,rfl,rfl,S0,L0⟩
 case round =>
  clear S0 L0
  obtain ⟨td,i,F,hi,hgk,rfl,S,L⟩:=hrel
  have HG:Hid (gk=(pot F N).toNat+(td.length - i)):=hgk
  clear hgk
  have hlen:=S.len
  rw [hN] at hlen
  have hpot:=L.pot0
  by_cases hlt:i<td.length
  ·obtain ⟨hain,haF⟩:=S.mem i hlt
   obtain ⟨⟨s,d⟩,hFa⟩:=Option.isSome_iff_exists.1 haF
   have hlt':(i:Int)<(td.length:Int):=by omega
   have i0':(0:Int)<=(i:Int):=by omega
   rcases S.own.2 with ⟨_,h0⟩|⟨gt,cap,cur,rfl,hbase,hg,_⟩
   ·omega
   ·have ca:=own_int S.own i hlt
    have hgt:gt<wr.heap.size:=(Array.getElem?_eq_some_iff.1 hg).1
    obtain ⟨a,ha⟩:∃ a,td.getD i 0=a:=⟨_,rfl⟩
    have HA:Hid (td.getD i 0=a):=ha
    rw [ha] at hain hFa ca
    clear haF ha hg
    have hac:0<=(a:Int)/\(a:Int)<W*H:=of_decide_eq_true hain
    obtain ⟨a1,a2⟩:=hac
    have haB:a<256:=by omega
    have a3:(a:Int)<256:=by omega
    have gr:=g.below S.bel hb
    obtain ⟨l,hl⟩:=dirsOf (W:=W) (H:=H) bl (a:Int) w1'
    have hbr:=Nat.lt_of_lt_of_le hb S.bel.size
    go_wp2_with fail
    refine (rmoves_b hl wr gr hain hbr).mono ?_
    rintro e w2 ⟨A1,cap1,rfl,⟨hrow,hnew⟩,hb2⟩
    have S2:=S.below hb2
    have L2:Lab (Edge W H bl) c N F (fun x j=>(¬ pend td (i+1) x/\x≠a)\/(x=a/\j ∈ l.take 0)):=by
     refine L.widen fun {x k y s d} _ _ h=>?_
     rcases h with ⟨h1,h2⟩|⟨_,h2⟩
     ·rintro ⟨j,j1,j2,j3⟩
      by_cases e:j=i
      ·subst e;rw [HA.out] at j3;exact h2 j3.symm
      ·exact h1 ⟨j,by omega,j2,j3⟩
     ·simp at h2
    have hz2:=hb2.size
    have hl8:=hl.len
    obtain ⟨L',hL'⟩:∃ L',l.length=L':=⟨_,rfl⟩
    have HL:Hid (l.length=L'):=hL'
    rw [hL'] at hrow hl8 ⊢
    obtain ⟨M0,hM0⟩:∃ M0,wr.heap.size=M0:=⟨_,rfl⟩
    rw [hM0] at hnew hgt hz2
    have hbig0:w.heap.size+4<=M0:=by have:=S.big;omega
    clear S L hL' gr hb2 hbr ca hM0
    go_wp2
    go_loopg [8,12] L' (fun gk tv kv wq=>∃ (q:Nat) (td':List Nat) (F':Int->Option (Int × Int)),q<=L'/\gk=L' - q/\kv=.int .i64 q/\FSt w wq tv td' W H F'/\Lab (Edge W H bl) c N F' (fun x j=>(¬ pend td' (i+1) x/\x≠a)\/(x=a/\j ∈ l.take q))/\F' a=some (s,d)/\i<td'.length/\(pot F' N).toNat+(td'.length - i)<=(pot F N).toNat+(td.length - i)/\Keep (fun k=>k<M0) w2 wq/\(∀ x,tv.ownBlock=some x->x<M0\/w2.heap.size<=x))
    case atStart=>exact ⟨0,td,F,by omega,rfl,rfl,S2,L2,hFa,hlt,Nat.le_refl _,Keep.refl _ _,fun x hx=>Or.inl (by simp [Value.ownBlock] at hx;omega)⟩
    case round =>
     clear S2 L2 hFa hbase hgt
     obtain ⟨q,td',F',hq,hgq,rfl,S3,L3,hFa3,hi3,hms,K3,hob⟩:=hrel
     have HGq:Hid (gk=L' - q):=hgq
     have HM:Hid ((pot F' N).toNat+(td'.length - i)<=(pot F N).toNat+(td.length - i)):=hms
     clear hgq hms
     by_cases hqlt:q<L'
     ·have hqlt':(q:Int)<(L':Int):=by omega
      have hq0:(0:Int)<=(q:Int):=by omega
      have hql:q<l.length:=by rw [HL.out];exact hqlt
      obtain ⟨bs,os,rfl,hbs,hcell⟩:=hrow q hqlt
      have hbn:=hnew bs os rfl
      have cl:wr.cell? ⟨bs,os+q,none⟩=some (.int .i64 ((l.getD q 0:Nat):Int)):=K3.cellOf hcell (by show ¬ bs<M0;omega)
      have hd8:=hl.lt q hql
      have hmay:mayB W H bl ((a:Int) % W) ((a:Int) / W) (l.getD q 0)=true:=by
       have hi':q<(mvs W H bl ((a:Int) % W) ((a:Int) / W) 8).length:=by rw [hl.eq];exact hql
       have:=(mvs_at hi').2
       rw [hl.eq] at this
       exact this
      obtain ⟨dk,hdk⟩:∃ dk,l.getD q 0=dk:=⟨_,rfl⟩
      have HDK:Hid (l.getD q 0=dk):=hdk
      rw [hdk] at cl hd8 hmay
      clear hcell hdk
      have hed:Edge W H bl a dk ((a:Int)+(stepY dk*W+stepX dk)):=⟨hd8,hain,hmay,rfl⟩
      have hti:=hed.in' w1'
      have htc:0<=(a:Int)+(stepY dk*W+stepX dk)/\(a:Int)+(stepY dk*W+stepX dk)<W*H:=of_decide_eq_true hti
      obtain ⟨tn,htn⟩:∃ tn:Nat,(a:Int)+(stepY dk*W+stepX dk)=tn:=⟨((a:Int)+(stepY dk*W+stepX dk)).toNat,by omega⟩
      have hto:=fun w g=>rto_v (b:=b) (W:=W) (H:=H) (V:=V) (bl:=bl) (c:=(a:Int)) (d:=dk) htn w g hd8 (by omega) (by omega)
      rw [htn] at hed hti htc
      obtain ⟨t1,t2⟩:=htc
      have t3:(tn:Int)<256:=by omega
      have htB:tn<256:=by omega
      have g3:=g.below S3.bel hb
      clear htn hmay
      go_wp2_with (go_at_call 49;refine (hto _ g3).mono ?_;rintro e w4 ⟨rfl,rfl⟩)
      have hrem:Int.tmod (dk:Int) 2=stD dk:=by unfold stD;rw [Int.tmod_eq_emod_of_nonneg (by omega)];omega
      have hsub:1 - stD dk=stS dk:=by unfold stS stD;omega
      have hst:=st_bd dk
      obtain ⟨v1,v2,v3⟩:=L3.val_bd hN256 hFa3
      obtain ⟨v4,v5⟩:=val_small v1 v2 v3
      have hok1:okC s d:=by unfold okC;omega
      have hok2:okC (stS dk) (stD dk):=by unfold okC;omega
      have hadd:=fun w=>plus_any s d (stS dk) (stD dk) w hok1 hok2
      have hu:IntKind.i64.wrap (stS dk)=stS dk:=wrap_small' (by omega) (by omega)
      have S4:FSt w w4.drew u8 td' W H F':=S3.below ((Below.refl _ _).drew)
      have K4:Keep (fun k=>k<M0) w2 w4.drew:=K3.drew
      have cl:w4.drew.cell? ⟨bs,os+q,none⟩=some (.int .i64 (dk:Int)):=cl
      have x0:w4.drew.cell? ⟨w.heap.size+1+1,a*2,none⟩=some (.int .i64 s):=by have:=S4.lab.c0 a haB;rw [(lab_some hFa3).1] at this;exact this
      have x1:w4.drew.cell? ⟨w.heap.size+1+1,a*2+1,none⟩=some (.int .i64 d):=by have:=S4.lab.c1 a haB;rw [(lab_some hFa3).2] at this;exact this
      have hbig:=S3.big
      have e1:bs<w4.heap.size:=World.block_lt_of_cell? w4.drew _ cl
      have CC:∀ w',Below w4.drew.heap.size w4.drew w'->w'.cell? ⟨w.heap.size+1+1,a*2,none⟩=some (.int .i64 s)/\w'.cell? ⟨w.heap.size+1+1,a*2+1,none⟩=some (.int .i64 d)/\w'.cell? ⟨bs,os+q,none⟩=some (.int .i64 (dk:Int)) :=
       fun w' hb'=>⟨(hb'.cell (World.block_lt_of_cell? _ _ x0)).trans x0,(hb'.cell (World.block_lt_of_cell? _ _ x1)).trans x1,(hb'.cell (World.block_lt_of_cell? _ _ cl)).trans cl⟩
      have HBx:Below w4.drew.heap.size w4.drew w4.drew:=Below.refl _ _
      clear S3 K3 g3 hto
      go_wp2
      go_region_held3 (fun w'=>w'.cell? ⟨w.heap.size+1+1,a*2,none⟩=some (.int .i64 s)/\w'.cell? ⟨w.heap.size+1+1,a*2+1,none⟩=some (.int .i64 d)/\w'.cell? ⟨bs,os+q,none⟩=some (.int .i64 (dk:Int)))
       (first|(exact CC _ HBx)|(exact CC _ (HBx.alloc HBx.size _))|(exact CC _ ((HBx.setCell (p:=⟨w4.heap.size,0,none⟩) (Nat.le_refl _) _).setCell (p:=⟨w4.heap.size,1,none⟩) (Nat.le_refl _) _))|(exact CC _ ((HBx.alloc HBx.size _).setCell HBx.size _))|(exact CC _ (((HBx.alloc HBx.size _).setCell HBx.size _).setCell HBx.size _))|(go_keep))
       (first|(go_at_call 78;refine (hadd _).mono ?_;rintro e w5 ⟨rfl,hb5⟩;have HBx:Below w4.drew.heap.size w4.drew w5:=(by first|exact hb5|exact (HBx.alloc HBx.size _).trans (hb5.mono (by simp)));obtain ⟨hc5,hf5⟩:=bcell hb5;have hz5:=hb5.size;simp at hz5))
      all_goals
       have hFD:∃ DB W6:Nat,True:=⟨0,0,trivial⟩
       clear hFD
       first
        |(have z0:w5.cell? ⟨w4.heap.size,0,none⟩=some (.int .i64 0):=(hc5 _ _ (by simp)).trans (World.cell?_alloc_at (w:=w4) #[.int .i64 0,.int .i64 0] 53 w4.heap.size 0 rfl)
          have z1:w5.cell? ⟨w4.heap.size,1,none⟩=some (.int .i64 0):=(hc5 _ _ (by simp)).trans (World.cell?_alloc_at (w:=w4) #[.int .i64 0,.int .i64 0] 53 w4.heap.size 1 rfl)
          have z2:w5.frozen? ⟨w4.heap.size,0,none⟩=false:=(hf5 _ _ (by simp)).trans (free_alloc w4 #[.int .i64 0,.int .i64 0] 53 w4.heap.size (Nat.le_refl _) 0)
          have z3:w5.frozen? ⟨w4.heap.size,1,none⟩=false:=(hf5 _ _ (by simp)).trans (free_alloc w4 #[.int .i64 0,.int .i64 0] 53 w4.heap.size (Nat.le_refl _) 1)
          have Sl:=(Slot.mk z0 z1 z2 z3).set (s+stS dk) (d+stD dk)
          have B6:=(HBx.setCell (p:=⟨w4.heap.size,0,none⟩) (Nat.le_refl _) (.int .i64 (s+stS dk))).setCell (p:=⟨w4.heap.size,1,none⟩) (Nat.le_refl _) (.int .i64 (d+stD dk))
          clear z0 z1 z2 z3
          have hDB:w4.heap.size<=w4.heap.size:=Nat.le_refl _
          generalize (w5.setCell ⟨w4.heap.size,0,none⟩ (.int .i64 (s+stS dk))).setCell ⟨w4.heap.size,1,none⟩ (.int .i64 (d+stD dk))=W6 at *
          obtain ⟨DB,hDB'⟩:∃ DB,w4.heap.size=DB:=⟨_,rfl⟩
          have hDB2:w4.heap.size<=DB:=by omega
          rw [hDB'] at Sl ⊢)
        |(have Sl:=Slot.new w5 (s+stS dk) (d+stD dk)
          have B6:=HBx.alloc HBx.size (.cells #[.int .i64 (s+stS dk),.int .i64 (d+stD dk)] 53)
          have hDB:w4.heap.size<=w5.heap.size:=hz5
          generalize w5.alloc (.cells #[.int .i64 (s+stS dk),.int .i64 (d+stD dk)] 53)=W6 at *
          obtain ⟨DB,hDB'⟩:∃ DB,w5.heap.size=DB:=⟨_,rfl⟩
          have hDB2:w4.heap.size<=DB:=by omega
          rw [hDB'] at Sl ⊢)
       have S6:=S4.below B6
       have K6:=K4.below B6
       clear hDB hDB' S4 K4 B6 x0 x1 cl CC HBx hb5 hc5 hf5 hz5 hadd
       have hI:=S6.lab.i0 tn htB
       cases hF:F' (tn:Int) with
       |none =>
        have hnr:∀ {t u},F' (tn:Int)=some (t,u)->val (s+stS dk) (d+stD dk)<val t u:=fun h=>by rw [hF] at h;cases h
        rw [hF] at hI
        have hI:W6.cell? ⟨w.heap.size+1+1+1,tn,none⟩=some (.bool false):=hI
        go_wp2
        go_quiet (fail)
        have S7:=S6.below (below_drewN (Below.refl W6.heap.size W6) nq)
        have K7:=K6.drewN nq
        have Sl7:=Sl.below (below_drewN (Below.refl W6.heap.size W6) nq)
        clear S6 K6 Sl hI
        generalize W6.drewN nq=W7 at *
        have hne:∀ {y},Edge W H bl a dk y->y=(tn:Int):=fun e=>hed.one e rfl
        obtain ⟨Lx,hpx,hatx⟩:=Lab.nearer (pend:=fun x=>pend td' (i+1) x) (dn:=fun j=>j ∈ l.take q) hN256 L3 hFa3 hed t1 (by omega) hnr hne
        have Ly:Lab (Edge W H bl) c N (putH F' tn (s+stS dk) (d+stD dk)) (fun x j=>(¬ pend (td'++[tn]) (i+1) x/\x≠a)\/(x=a/\j ∈ l.take (q+1))):=by
         refine Lx.widen fun {x k y s d} _ _ h=>?_
         rcases h with ⟨h1,h2⟩|⟨h1,h2⟩
         ·exact Or.inl ⟨fun h3=>h1 ((pend_app (by omega)).2 h3),h2⟩
         ·exact Or.inr ⟨h1,mem_take hql HDK.out h2⟩
        have hp0:=Lx.pot0
        have hlen7:=S7.len
        rw [hN] at hlen7
        have P8:FSt w (((W7.setCell ⟨w.heap.size+1+1,tn*2,none⟩ (.int .i64 (s+stS dk))).setCell ⟨w.heap.size+1+1,tn*2+1,none⟩ (.int .i64 (d+stD dk))).setCell ⟨w.heap.size+1+1+1,tn,none⟩ (.bool true)) u8 td' W H (putH F' tn (s+stS dk) (d+stD dk)):=S7.put tn htB _ _ (by rw [hN];exact hpx)
        have K8:Keep (fun k=>k<M0) w2 (((W7.setCell ⟨w.heap.size+1+1,tn*2,none⟩ (.int .i64 (s+stS dk))).setCell ⟨w.heap.size+1+1,tn*2+1,none⟩ (.int .i64 (d+stD dk))).setCell ⟨w.heap.size+1+1+1,tn,none⟩ (.bool true)):=K7.trans (put_keep W7 (w.heap.size+2) (w.heap.size+3) tn _ _) (fun k _ hk=>by omega)
        have y0:W7.cell? ⟨w.heap.size+1+1,tn*2,none⟩=some (.int .i64 (labS F' tn)):=S7.lab.c0 tn htB
        have y1:W7.cell? ⟨w.heap.size+1+1,tn*2+1,none⟩=some (.int .i64 (labD F' tn)):=S7.lab.c1 tn htB
        have y2:W7.frozen? ⟨w.heap.size+1+1,tn*2,none⟩=false:=S7.lab.zc _
        have y3:W7.frozen? ⟨w.heap.size+1+1,tn*2+1,none⟩=false:=S7.lab.zc _
        have y4:W7.cell? ⟨w.heap.size+1+1+1,tn,none⟩=some (.bool (F' tn).isSome):=S7.lab.i0 tn htB
        have y5:W7.frozen? ⟨w.heap.size+1+1+1,tn,none⟩=false:=S7.lab.zi _
        have y6:=Sl7.c0
        have y7:=Sl7.c1
        have hb7:=S7.big
        have n1:w.heap.size+1+1+1≠w.heap.size+1+1:=by omega
        clear S7 K7 Sl7 Lx
        go_wp2_with (at_builtin;refine wpList_append_own_at _ rfl _ _ 51 rfl (w.heap.size+4) 3 i0 (.int .i64 0) 1 8 Tryz.underlying51 hi0 hz0 hz1 hz2' rfl (by decide) _ _ _ rfl (World.ownsRow.alloc P8.own _) ⟨W7.heap.size,0,none⟩ 1 1 [.int .i64 (tn:Int)] rfl rfl ?c1 ?c2 ?c3 ?c4 ?c5 ?_)
        case c1 =>
         intro j u hj
         match j,hj with
         |0,hj =>
          simp at hj;subst hj;simp only [Addr.add]
          exact World.cell?_alloc_at #[.int .i64 (tn:Int)] 3 W7.heap.size 0 (by simp)
        case c2=>intro u hu;simp at hu;subst hu;rfl
        case c3=>unfold maxLen;omega
        case c4=>omega
        case c5=>simp;omega
        intro v' w9 hown' hgrow _ hloc
        have P8a:=P8.below ((Below.refl _ _).alloc (Nat.le_refl _) (.cells #[.int .i64 (tn:Int)] 3))
        have P9:FSt w w9 v' (td'++[tn]) W H (putH F' tn (s+stS dk) (d+stD dk)):=P8a.app (by simpa [vals] using hown') hgrow hti (by rw [putH_same];rfl) (by rw [hN];omega)
        have K9:Keep (fun k=>k<M0) w2 w9:=(K8.alloc _).grown hgrow (fun k hk hk2=>by rcases hob k hk with h|h <;> omega)
        have hob9:∀ x,v'.ownBlock=some x->x<M0\/w2.heap.size<=x:=fun x hx=>by
         rcases hloc with h|h
         ·exact hob x (h.symm.trans hx)
         ·right
          have:=h.symm.trans hx
          have h8:=K8.size
          simp at this h8
          omega
        clear hown' hgrow hloc P8 P8a K8 hob y0 y1 y2 y3 y4 y5 y6 y7
        go_wp2
        go_roundg (L' - (q+1))
        case measure=>have:=HGq.out;omega
        case rel=>exact ⟨q+1,td'++[tn],_,by omega,rfl,by go_num,P9,Ly,hatx,by simp;omega,by have:=HM.out;simp;omega,K9,hob9⟩
       |some p =>
        obtain ⟨t,u⟩:=p
        obtain ⟨r1,r2,r3⟩:=L3.val_bd hN256 hF
        obtain ⟨r4,r5⟩:=val_small r1 r2 r3
        have hok3:okC t u:=by unfold okC;omega
        have hok4:okC (s+stS dk) (d+stD dk):=by unfold okC;omega
        have hcv:=fun w=>rcmp_any (s+stS dk) (d+stD dk) t u w hok4 hok3
        have hcm:=cmpC_val' (s+stS dk) (d+stD dk) t u hok4 hok3
        rw [hF] at hI
        have hI:W6.drew.cell? ⟨w.heap.size+1+1+1,tn,none⟩=some (.bool true):=hI
        have g0:W6.drew.cell? ⟨w.heap.size+1+1,tn*2,none⟩=some (.int .i64 t):=by have:=S6.lab.c0 tn htB;rw [(lab_some hF).1] at this;exact this
        have g1:W6.drew.cell? ⟨w.heap.size+1+1,tn*2+1,none⟩=some (.int .i64 u):=by have:=S6.lab.c1 tn htB;rw [(lab_some hF).2] at this;exact this
        have g2:W6.drew.cell? ⟨DB,0,none⟩=some (.int .i64 (s+stS dk)):=Sl.c0
        have g4:W6.drew.cell? ⟨DB,1,none⟩=some (.int .i64 (d+stD dk)):=Sl.c1
        have CC:∀ w',Below W6.drew.heap.size W6.drew w'->w'.cell? ⟨w.heap.size+1+1+1,tn,none⟩=some (.bool true)/\w'.cell? ⟨w.heap.size+1+1,tn*2,none⟩=some (.int .i64 t)/\w'.cell? ⟨w.heap.size+1+1,tn*2+1,none⟩=some (.int .i64 u)/\w'.cell? ⟨DB,0,none⟩=some (.int .i64 (s+stS dk))/\w'.cell? ⟨DB,1,none⟩=some (.int .i64 (d+stD dk)) :=
         fun w' hb'=>⟨(hb'.cell (World.block_lt_of_cell? _ _ hI)).trans hI,(hb'.cell (World.block_lt_of_cell? _ _ g0)).trans g0,(hb'.cell (World.block_lt_of_cell? _ _ g1)).trans g1,(hb'.cell (World.block_lt_of_cell? _ _ g2)).trans g2,(hb'.cell (World.block_lt_of_cell? _ _ g4)).trans g4⟩
        have HB7:Below W6.drew.heap.size W6.drew W6.drew:=Below.refl _ _
        have HB67:Below W6.heap.size W6 W6.drew:=(Below.refl _ _).drew
        by_cases hlv:val (s+stS dk) (d+stD dk)<val t u
        ·have hnr:∀ {t u},F' (tn:Int)=some (t,u)->val (s+stS dk) (d+stD dk)<val t u:=fun h=>by rw [hF] at h;cases h;exact hlv
         have hc0:cmpC (s+stS dk) (d+stD dk) t u<0:=by rw [hcm];unfold cmpI;rw [if_pos hlv];decide
         generalize cmpC (s+stS dk) (d+stD dk) t u=cr at *
         clear hcm
         go_wp2
         go_region_held3 (fun w'=>w'.cell? ⟨w.heap.size+1+1+1,tn,none⟩=some (.bool true)/\w'.cell? ⟨w.heap.size+1+1,tn*2,none⟩=some (.int .i64 t)/\w'.cell? ⟨w.heap.size+1+1,tn*2+1,none⟩=some (.int .i64 u)/\w'.cell? ⟨DB,0,none⟩=some (.int .i64 (s+stS dk))/\w'.cell? ⟨DB,1,none⟩=some (.int .i64 (d+stD dk))) (first|(exact CC _ HB7)) (first|(go_at_call 79;refine (hcv _).mono ?_;rintro e W7 ⟨rfl,hb7'⟩;have HB7:=HB7.trans (hb7'.mono HB7.size)))
         have HBa:=HB67.trans (HB7.mono (by exact Nat.le_refl _))
         have S7:=S6.below HBa
         have K7:=K6.below HBa
         have Sl7:=Sl.below HBa
         clear S6 K6 Sl hI g0 g1 g2 g4 CC HB7 HB67 HBa hcv
         have hne:∀ {y},Edge W H bl a dk y->y=(tn:Int):=fun e=>hed.one e rfl
         obtain ⟨Lx,hpx,hatx⟩:=Lab.nearer (pend:=fun x=>pend td' (i+1) x) (dn:=fun j=>j ∈ l.take q) hN256 L3 hFa3 hed t1 (by omega) hnr hne
         have Ly:Lab (Edge W H bl) c N (putH F' tn (s+stS dk) (d+stD dk)) (fun x j=>(¬ pend (td'++[tn]) (i+1) x/\x≠a)\/(x=a/\j ∈ l.take (q+1))):=by
          refine Lx.widen fun {x k y s d} _ _ h=>?_
          rcases h with ⟨h1,h2⟩|⟨h1,h2⟩
          ·exact Or.inl ⟨fun h3=>h1 ((pend_app (by omega)).2 h3),h2⟩
          ·exact Or.inr ⟨h1,mem_take hql HDK.out h2⟩
         have hp0:=Lx.pot0
         have hlen7:=S7.len
         rw [hN] at hlen7
         have P8:FSt w (((W7.setCell ⟨w.heap.size+1+1,tn*2,none⟩ (.int .i64 (s+stS dk))).setCell ⟨w.heap.size+1+1,tn*2+1,none⟩ (.int .i64 (d+stD dk))).setCell ⟨w.heap.size+1+1+1,tn,none⟩ (.bool true)) u8 td' W H (putH F' tn (s+stS dk) (d+stD dk)):=S7.put tn htB _ _ (by rw [hN];exact hpx)
         have K8:Keep (fun k=>k<M0) w2 (((W7.setCell ⟨w.heap.size+1+1,tn*2,none⟩ (.int .i64 (s+stS dk))).setCell ⟨w.heap.size+1+1,tn*2+1,none⟩ (.int .i64 (d+stD dk))).setCell ⟨w.heap.size+1+1+1,tn,none⟩ (.bool true)):=K7.trans (put_keep W7 (w.heap.size+2) (w.heap.size+3) tn _ _) (fun k _ hk=>by omega)
         have y0:W7.cell? ⟨w.heap.size+1+1,tn*2,none⟩=some (.int .i64 (labS F' tn)):=S7.lab.c0 tn htB
         have y1:W7.cell? ⟨w.heap.size+1+1,tn*2+1,none⟩=some (.int .i64 (labD F' tn)):=S7.lab.c1 tn htB
         have y2:W7.frozen? ⟨w.heap.size+1+1,tn*2,none⟩=false:=S7.lab.zc _
         have y3:W7.frozen? ⟨w.heap.size+1+1,tn*2+1,none⟩=false:=S7.lab.zc _
         have y4:W7.cell? ⟨w.heap.size+1+1+1,tn,none⟩=some (.bool (F' tn).isSome):=S7.lab.i0 tn htB
         have y5:W7.frozen? ⟨w.heap.size+1+1+1,tn,none⟩=false:=S7.lab.zi _
         have y6:=Sl7.c0
         have y7:=Sl7.c1
         have hb7:=S7.big
         have n1:w.heap.size+1+1+1≠w.heap.size+1+1:=by omega
         clear S7 K7 Sl7 Lx
         go_wp2_with (at_builtin;refine wpList_append_own_at _ rfl _ _ 51 rfl (w.heap.size+4) 3 i0 (.int .i64 0) 1 8 Tryz.underlying51 hi0 hz0 hz1 hz2' rfl (by decide) _ _ _ rfl (World.ownsRow.alloc P8.own _) ⟨W7.heap.size,0,none⟩ 1 1 [.int .i64 (tn:Int)] rfl rfl ?c1 ?c2 ?c3 ?c4 ?c5 ?_)
         case c1 =>
          intro j u hj
          match j,hj with
          |0,hj =>
           simp at hj;subst hj;simp only [Addr.add]
           exact World.cell?_alloc_at #[.int .i64 (tn:Int)] 3 W7.heap.size 0 (by simp)
         case c2=>intro u hu;simp at hu;subst hu;rfl
         case c3=>unfold maxLen;omega
         case c4=>omega
         case c5=>simp;omega
         intro v' w9 hown' hgrow _ hloc
         have P8a:=P8.below ((Below.refl _ _).alloc (Nat.le_refl _) (.cells #[.int .i64 (tn:Int)] 3))
         have P9:FSt w w9 v' (td'++[tn]) W H (putH F' tn (s+stS dk) (d+stD dk)):=P8a.app (by simpa [vals] using hown') hgrow hti (by rw [putH_same];rfl) (by rw [hN];omega)
         have K9:Keep (fun k=>k<M0) w2 w9:=(K8.alloc _).grown hgrow (fun k hk hk2=>by rcases hob k hk with h|h <;> omega)
         have hob9:∀ x,v'.ownBlock=some x->x<M0\/w2.heap.size<=x:=fun x hx=>by
          rcases hloc with h|h
          ·exact hob x (h.symm.trans hx)
          ·right
           have:=h.symm.trans hx
           have h8:=K8.size
           simp at this h8
           omega
         clear hown' hgrow hloc P8 P8a K8 hob y0 y1 y2 y3 y4 y5 y6 y7
         go_wp2
         go_roundg (L' - (q+1))
         case measure=>have:=HGq.out;omega
         case rel=>exact ⟨q+1,td'++[tn],_,by omega,rfl,by go_num,P9,Ly,hatx,by simp;omega,by have:=HM.out;simp;omega,K9,hob9⟩
        ·have hc0:¬ cmpC (s+stS dk) (d+stD dk) t u<0:=by rw [hcm];unfold cmpI;rw [if_neg hlv];split <;> decide
         generalize cmpC (s+stS dk) (d+stD dk) t u=cr at *
         clear hcm
         have hne:∀ {y},Edge W H bl a dk y->y=(tn:Int):=fun e=>hed.one e rfl
         have Lx:=Lab.asfar (pend:=fun x=>pend td' (i+1) x) (dn:=fun j=>j ∈ l.take q) L3 hFa3 hF (by omega) hne
         have Ly:Lab (Edge W H bl) c N F' (fun x j=>(¬ pend td' (i+1) x/\x≠a)\/(x=a/\j ∈ l.take (q+1))):=by
          refine Lx.widen fun {x k y s d} _ _ h=>?_
          rcases h with h1|⟨h1,h2⟩
          ·exact Or.inl h1
          ·exact Or.inr ⟨h1,mem_take hql HDK.out h2⟩
         go_wp2
         go_region_held3 (fun w'=>w'.cell? ⟨w.heap.size+1+1+1,tn,none⟩=some (.bool true)/\w'.cell? ⟨w.heap.size+1+1,tn*2,none⟩=some (.int .i64 t)/\w'.cell? ⟨w.heap.size+1+1,tn*2+1,none⟩=some (.int .i64 u)/\w'.cell? ⟨DB,0,none⟩=some (.int .i64 (s+stS dk))/\w'.cell? ⟨DB,1,none⟩=some (.int .i64 (d+stD dk))) (first|(exact CC _ HB7)) (first|(go_at_call 79;refine (hcv _).mono ?_;rintro e W7 ⟨rfl,hb7'⟩;have HB7:=HB7.trans (hb7'.mono HB7.size)))
         have HBa:=HB67.trans (HB7.mono (by exact Nat.le_refl _))
         have S7:=S6.below HBa
         have K7:=K6.below HBa
         clear S6 K6 Sl hI g0 g1 g2 g4 CC HB7 HB67 HBa hcv
         go_wp2
         go_roundg (L' - (q+1))
         case measure=>have:=HGq.out;omega
         case rel=>exact ⟨q+1,td',F',by omega,rfl,by go_num,S7,Ly,hFa3,hi3,HM.out,K7,hob⟩
     ·have hqL:q=L':=by omega
      subst hqL
      have Lz:Lab (Edge W H bl) c N F' (fun x _=>¬ pend td' (i+1) x):=by
       refine L3.widen fun {x k y s d} _ e h=>?_
       by_cases hx:x=a
       ·refine Or.inr ⟨hx,?_⟩
        rw [List.take_of_length_le (by rw [HL.out];exact Nat.le_refl _),<- hl.eq,mem_mvs]
        obtain ⟨e1,_,e3,_⟩:=e
        rw [hx] at e3
        exact ⟨e1,e3⟩
       ·exact Or.inl ⟨h,hx⟩
      go_wp2
      go_roundg ((pot F' N).toNat+(td'.length - (i+1)))
      case measure=>have:=HG.out;have:=HM.out;omega
      case rel=>exact ⟨td',i+1,F',by omega,rfl,by go_num,S3,Lz⟩
  ·have hil:i=td.length:=by omega
   subst hil
   have B:Best (Edge W H bl) c F:=Lab.done hN256 (L.widen fun {x k y s d} _ _ _=>by rintro ⟨j,j1,j2,_⟩;omega)
   clear L HG hlt hlen hpot
   rcases S.own.2 with ⟨rfl,h0⟩|⟨gt,cap,cur,rfl,hbase,hg,_⟩
   all_goals
    have q0:=S.lab.rangeC
    have q4:=S.lab.rangeI
    have q5:=S.r0
    have q6:=S.r1
    have hB:=S.bel
    have o1:=costL_one F
    have o2:=isL_one F
    have hcl:=costL_len F
    have hil:=isL_len F
    have hFin:∀ w',Best (Edge W H bl) c F->Below w.heap.size w w'->RFlooded w w' (.returned (.tuple #[.agg (costL F).toArray,.agg (isL F).toArray])) W H bl c:=fun w' b h=>⟨F,rfl,b,h⟩
    generalize costL F=cs at *
    generalize isL F=is' at *
    have hu54:=und54
    have hu55:=und55
    have hi54:(Tryz.prog.info? 96).map (·.size)=some cs.length:=by rw [hcl];exact info54
    have hi55:(Tryz.prog.info? 36).map (·.size)=some is'.length:=by rw [hil];exact info55
    have SS:wr.drew.rangeAt (w.heap.size+1+1) 0 cs/\wr.drew.rangeAt (w.heap.size+1+1+1) 0 is'/\wr.drew.there w.heap.size 0 512/\wr.drew.there (w.heap.size+1) 0 256:=⟨q0,q4,q5,q6⟩
    have e5:wr.drew.there w.heap.size 0 512:=q5
    have e6:wr.drew.there (w.heap.size+1) 0 256:=q6
    have e7:(wr.drew.setCells w.heap.size 0 cs).there (w.heap.size+1) 0 256:=World.there_setCells e6 _ _ _
    have SS2:(wr.drew.setCells w.heap.size 0 cs).rangeAt (w.heap.size+1+1) 0 cs/\(wr.drew.setCells w.heap.size 0 cs).rangeAt (w.heap.size+1+1+1) 0 is'/\(wr.drew.setCells w.heap.size 0 cs).there w.heap.size 0 512/\(wr.drew.setCells w.heap.size 0 cs).there (w.heap.size+1) 0 256 :=
     ⟨World.rangeAt_setCells_apart SS.1 _ _ _ (Or.inl (by omega)),World.rangeAt_setCells_apart SS.2.1 _ _ _ (Or.inl (by omega)),World.there_setCells e5 _ _ _,e7⟩
    have SS3:((wr.drew.setCells w.heap.size 0 cs).setCells (w.heap.size+1) 0 is').rangeAt (w.heap.size+1+1) 0 cs/\((wr.drew.setCells w.heap.size 0 cs).setCells (w.heap.size+1) 0 is').rangeAt (w.heap.size+1+1+1) 0 is'/\((wr.drew.setCells w.heap.size 0 cs).setCells (w.heap.size+1) 0 is').there w.heap.size 0 512/\((wr.drew.setCells w.heap.size 0 cs).setCells (w.heap.size+1) 0 is').there (w.heap.size+1) 0 256 :=
     ⟨World.rangeAt_setCells_apart SS2.1 _ _ _ (Or.inl (by omega)),World.rangeAt_setCells_apart SS2.2.1 _ _ _ (Or.inl (by omega)),World.there_setCells SS2.2.2.1 _ _ _,World.there_setCells SS2.2.2.2 _ _ _⟩
    have RC:((wr.drew.setCells w.heap.size 0 cs).setCells (w.heap.size+1) 0 is').rangeAt w.heap.size 0 cs:=World.rangeAt_setCells_apart (World.rangeAt_setCells_same _ _ _ _ (by rw [hcl];exact e5)) _ _ _ (Or.inl (by omega))
    have RI:((wr.drew.setCells w.heap.size 0 cs).setCells (w.heap.size+1) 0 is').rangeAt (w.heap.size+1) 0 is':=World.rangeAt_setCells_same _ _ _ _ (by rw [hil];exact e7)
    have RW54:=run_loadVar_mid (P:=Tryz.prog) _ _ 0 96 cs _ RC und54 rfl hi54
    have RW55:=run_loadVar_mid (P:=Tryz.prog) _ _ 0 36 is' _ RI und55 rfl hi55
    have hBd:Below w.heap.size w ((wr.drew.setCells w.heap.size 0 cs).setCells (w.heap.size+1) 0 is'):=below_setCells _ (by omega) _ _ (below_setCells _ (Nat.le_refl _) _ _ hB.drew)
    clear S q0 q4 q5 q6 hB
    go_wp2
    refine wp_region_held_drew (S:=fun w'=>w'.rangeAt (w.heap.size+1+1) 0 cs/\w'.rangeAt (w.heap.size+1+1+1) 0 is'/\w'.there w.heap.size 0 512/\w'.there (w.heap.size+1) 0 256) (by kernel_rfl) SS (fun hHeld=>?_)
    refine wpAnyH_take (i:=0) (v:=.agg cs.toArray) rfl (by kernel_rfl) (by kernel_rfl) (by kernel_rfl) (fun _ _ _ h=>h) (yieldsIf_load_mid (by rfl) 96 (.tmp 6) rfl (w.heap.size+1+1) 0 rfl cs _ (fun _ h=>h.1) und54 rfl hi54) hHeld ?_
    simp only [Act.put]
    refine wpAnyH_take (i:=1) (v:=.agg is'.toArray) rfl (by kernel_rfl) (by kernel_rfl) (by kernel_rfl) (fun _ _ _ h=>h) (yieldsIf_load_mid (by rfl) 36 (.tmp 7) rfl (w.heap.size+1+1+1) 0 rfl is' _ (fun _ h=>h.2.1) und55 rfl hi55) hHeld ?_
    simp only [Act.put]
    refine wpAnyH_ready (rs:=[2]) (by kernel_rfl) (by simp) ?_
    refine AllReadyH.cons rfl (fun K hK=>?_) AllReadyH.nil
    rw [if_pos (by rfl)]
    refine wp_store_mid 96 (.tmp 4) (.tmp 82) rfl w.heap.size 0 cs.toArray rfl rfl (by simpa [hcl] using e5) (by simpa [hcl] using info54) (all_oneCell_toArray o1) ?_
    refine hK.out _ _ SS2 (fun hHeld2=>?_)
    refine wpAnyH_ready (rs:=[3]) (by kernel_rfl) (by simp) ?_
    refine AllReadyH.cons rfl (fun K2 hK2=>?_) AllReadyH.nil
    rw [if_pos (by rfl)]
    refine wp_store_mid 36 (.tmp 5) (.tmp 83) rfl (w.heap.size+1) 0 is'.toArray rfl rfl (by simpa [hil] using e7) (by simpa [hil] using info55) (all_oneCell_toArray o2) ?_
    refine hK2.out _ _ SS3 (fun hHeld3=>?_)
    refine wpAnyH_done (by kernel_rfl) ?_ _
    clear hK hK2 K K2
    go_wp2
    exact bodyPost_ret (v:=.tuple #[.agg cs.toArray,.agg is'.toArray]) (results_two Tryz.results39 rfl rfl RW54 RW55) rfl (hFin _ B hBd)
end
section
open Go.RowKit
end
section
open Go.RowKit
end
section
def Wg (Ed:Int->Int->Int->Int->Prop) (o a s d:Int):Prop:=∀ R:Int->Int->Int->Prop,R o 0 0->(∀ a s d b t u,R a s d->Ed a b t u->R b (s+t) (d+u))->R a s d
section
variable {Ed : Int → Int → Int → Int → Prop} {o a b s d t u : Int}
theorem Wg.nil:Wg Ed o o 0 0:=fun _ h _=>h
theorem Wg.step (h:Wg Ed o a s d)(e:Ed a b t u):Wg Ed o b (s+t) (d+u):=fun R h0 hs=>hs _ _ _ _ _ _ (h R h0 hs) e
theorem Wg.one (e:Ed o b t u):Wg Ed o b t u:=by
 have h:=Wg.nil.step e
 rwa [Int.zero_add,Int.zero_add] at h
theorem Wg.trans {c s' d':Int}(h:Wg Ed o a s d)(k:Wg Ed a c s' d'):Wg Ed o c (s+s') (d+d') :=
 k (fun x p q=>Wg Ed o x (s+p) (d+q)) (by rw [Int.add_zero,Int.add_zero];exact h) (fun x p q y p' q' hx e=>by
  have:=hx.step e
  rwa [Int.add_assoc,Int.add_assoc] at this)
theorem Wg.inv (h:Wg Ed o a s d):(a=o/\s=0/\d=0)\/∃ x p q t u,Wg Ed o x p q/\Ed x a t u/\s=p+t/\d=q+u:=by
 have h':Wg Ed o a s d/\((a=o/\s=0/\d=0)\/∃ x p q t u,Wg Ed o x p q/\Ed x a t u/\s=p+t/\d=q+u) :=
  h (fun a s d=>Wg Ed o a s d/\((a=o/\s=0/\d=0)\/∃ x p q t u,Wg Ed o x p q/\Ed x a t u/\s=p+t/\d=q+u)) ⟨Wg.nil,Or.inl ⟨rfl,rfl,rfl⟩⟩
   (fun a s d b t u hx e=>⟨hx.1.step e,Or.inr ⟨a,s,d,t,u,hx.1,e,rfl,rfl⟩⟩)
 exact h'.2
theorem Wg.mono {Ed':Int->Int->Int->Int->Prop}(h:Wg Ed o a s d)(hi:∀ a b t u,Ed a b t u->Ed' a b t u):Wg Ed' o a s d :=
 h (fun x p q=>Wg Ed' o x p q) Wg.nil (fun _ _ _ _ _ _ hx e=>hx.step (hi _ _ _ _ e))
end
end
end Go.Proofs.YtmaefimaeelkbaaGreatDoor
