/-
  Texts laid together: LvA, LvFind, LvB, LvC.
-/
import Derived.Test.YtipbhlofbpnpjaaGreatDoorQ22
import Derived.Test.YtipbhlofbpnpjaaGreatDoorQ18
import Derived.Test.YtipbhlofbpnpjaaGreatDoorQ21
namespace Go.Proofs.YtipbhlofbpnpjaaGreatDoor
section
open Go.RowKit
def leV (e:LE):List Value:=[.int .i64 (e.to:Int),.int .i64 e.s,.int .i64 e.d,.int .i64 e.mid]
def lesV (l:List LE):List Value:=l.flatMap leV
theorem lesV_cons (e:LE) (l:List LE):lesV (e::l)=leV e++lesV l:=rfl
theorem lesV_app (l l':List LE):lesV (l++l')=lesV l++lesV l':=by
 unfold lesV
 rw [List.flatMap_append]
theorem lesV_one (e:LE):lesV [e]=leV e:=by
 unfold lesV
 rw [List.flatMap_cons,List.flatMap_nil,List.append_nil]
theorem lesV_len (l:List LE):(lesV l).length=l.length*4:=by
 induction l with
 | nil=>rfl
 | cons n l ih=>rw [lesV_cons,List.length_append,ih,List.length_cons];show 4+_=_;omega
theorem lesV_cells (l:List LE):∀ u ∈ lesV l,u.oneCell'=true:=by
 intro u hu
 unfold lesV at hu
 obtain ⟨n,_,hn⟩:=List.mem_flatMap.1 hu
 unfold leV at hn
 simp at hn
 rcases hn with rfl | rfl | rfl | rfl <;> rfl
theorem lesV_at:∀ (l:List LE) (i:Nat) (e:LE),l[i]? = some e->(lesV l)[i*4]? = some (.int .i64 (e.to:Int))/\(lesV l)[i*4+1]? = some (.int .i64 e.s)/\(lesV l)[i*4+2]? = some (.int .i64 e.d)/\(lesV l)[i*4+3]? = some (.int .i64 e.mid)
 | [],i,e,h=>by simp at h
 | x::l,0,e,h=>by
   simp at h;subst h
   rw [lesV_cons]
   exact ⟨rfl,rfl,rfl,rfl⟩
 | x::l,i+1,e,h=>by
   have ih:=lesV_at l i e (by simpa using h)
   have hl:(leV x).length=4:=rfl
   have key:∀ k,(lesV (x::l))[(i+1)*4+k]? = (lesV l)[i*4+k]? := fun k=>by
    rw [lesV_cons,List.getElem?_append_right (by rw [hl];omega),hl]
    congr 1;omega
   exact ⟨(key 0).trans ih.1,(key 1).trans ih.2.1,(key 2).trans ih.2.2.1,(key 3).trans ih.2.2.2⟩
def RowL (w:World) (A:Option Addr) (l:List LE):Prop:=∀ (i:Nat) (e:LE),l[i]? = some e->∃ b o,A=some ⟨b,o,none⟩/\w.cell? ⟨b,o+i*4,none⟩=some (.int .i64 (e.to:Int))/\w.cell? ⟨b,o+i*4+1,none⟩=some (.int .i64 e.s)/\w.cell? ⟨b,o+i*4+2,none⟩=some (.int .i64 e.d)/\w.cell? ⟨b,o+i*4+3,none⟩=some (.int .i64 e.mid)
section
variable {w w' : World} {A : Option Addr} {l : List LE}
theorem RowL.keep {F:Nat->Prop}(h:RowL w A l) (K:Keep F w w') (hF:∀ b o,A=some ⟨b,o,none⟩->¬ F b):RowL w' A l:=fun i e hi=>by
 obtain ⟨b,o,e0,h1,h2,h3,h4⟩:=h i e hi
 have hb:=hF b o e0
 exact ⟨b,o,e0,K.cellOf h1 hb,K.cellOf h2 hb,K.cellOf h3 hb,K.cellOf h4 hb⟩
theorem RowL.below (h:RowL w A l) (hb:Below w.heap.size w w'):RowL w' A l:=h.keep (F:=fun _=>False) (Keep.of_below hb) (fun _ _ _=>id)
theorem RowL.nil (w:World) (A:Option Addr):RowL w A []:=fun i e h=>by simp at h
theorem RowL.lt (h:RowL w A l) (hl:0 < l.length):∃ b o,A=some ⟨b,o,none⟩/\b < w.heap.size:=by
 obtain ⟨b,o,e0,h1,_⟩:=h 0 l[0] (by simp)
 exact ⟨b,o,e0,World.block_lt_of_cell? _ _ h1⟩
theorem RowL.drop {b o:Nat}(h:RowL w (some ⟨b,o,none⟩) l) (k:Nat):RowL w (some ⟨b,o+k*4,none⟩) (l.drop k):=fun i e hi=>by
 rw [List.getElem?_drop] at hi
 obtain ⟨b',o',e0,h1,h2,h3,h4⟩:=h (k+i) e hi
 cases e0
 refine ⟨b,o+k*4,rfl,?_,?_,?_,?_⟩
 ·rw [show o+k*4+i*4=o+(k+i)*4 by omega];exact h1
 ·rw [show o+k*4+i*4+1=o+(k+i)*4+1 by omega];exact h2
 ·rw [show o+k*4+i*4+2=o+(k+i)*4+2 by omega];exact h3
 ·rw [show o+k*4+i*4+3=o+(k+i)*4+3 by omega];exact h4
theorem rowL_of {base:Nat}{v:Value}(h:w.ownsRow base 207 4 v l.length (lesV l)):∃ A cap,v=.slice A l.length cap/\RowL w A l/\((A=none/\l=[])\/∃ g,A=some ⟨g,0,none⟩/\v.ownBlock=some g/\base<=g/\g < w.heap.size):=by
 rcases h.2 with ⟨rfl,h0⟩ | ⟨g,cap,cur,rfl,hb,hg,_⟩
 ·have e:l=[]:=List.length_eq_zero_iff.1 h0
  subst e
  exact ⟨none,0,rfl,RowL.nil _ _,Or.inl ⟨rfl,rfl⟩⟩
 ·refine ⟨_,_,rfl,fun i e hi=>?_,Or.inr ⟨g,rfl,rfl,hb,(Array.getElem?_eq_some_iff.1 hg).1⟩⟩
  obtain ⟨e0,e1,e2,e3⟩:=lesV_at l i e hi
  have hi':i < l.length:=(List.getElem?_eq_some_iff.1 hi).1
  refine ⟨g,0,rfl,?_,?_,?_,?_⟩
  ·rw [Nat.zero_add];exact (h.cellAt _ (by omega)).trans e0
  ·rw [Nat.zero_add];exact (h.cellAt _ (by omega)).trans e1
  ·rw [Nat.zero_add];exact (h.cellAt _ (by omega)).trans e2
  ·rw [Nat.zero_add];exact (h.cellAt _ (by omega)).trans e3
end
def pickL (p:LE->Bool) (l:List LE) (k:Nat):List LE:=(l.take k).filter p
theorem pickL_no {p:LE->Bool}{l:List LE}{k:Nat}{e:LE}(h:l[k]? = some e) (hp:p e=false):pickL p l (k+1)=pickL p l k:=by
 unfold pickL
 rw [List.take_add_one,h,List.filter_append]
 simp [hp]
theorem pickL_yes {p:LE->Bool}{l:List LE}{k:Nat}{e:LE}(h:l[k]? = some e) (hp:p e=true):pickL p l (k+1)=pickL p l k++[e]:=by
 unfold pickL
 rw [List.take_add_one,h,List.filter_append]
 simp [hp]
theorem pickL_len {p:LE->Bool}{l:List LE}{k:Nat}:(pickL p l k).length<=l.length :=
 Nat.le_trans (List.length_filter_le _ _) (by rw [List.length_take];omega)
theorem pickL_all {p:LE->Bool}{l:List LE}:pickL p l l.length=l.filter p:=by
 unfold pickL
 rw [List.take_length]
end
section
open Go.RowKit
set_option maxHeartbeats 2000000 in
set_option maxRecDepth 1000000 in
theorem find_open {xb cap:Nat}{A:Option Addr}{l:List LE}{p:LE->Bool}(w:World) (hrow:RowL w A l) (hl:l.length<=256)
  (hC:∀ (w':World) (e:LE),Below w.heap.size w w'->e ∈ l->Calls Tryz.prog 162 #[.agg #[.int .i64 (e.to:Int),.int .i64 e.s,.int .i64 e.d,.int .i64 e.mid],.pointer (some ⟨xb,0,none⟩)] w' fun r w''=>r=.returned (.bool (p e))/\Below w'.heap.size w' w'') :
  Calls Tryz.prog 101 #[.slice A l.length cap,.func (.func 162) #[] #[.pointer (some ⟨xb,0,none⟩)]] w fun e w'=>∃ v,e=.returned v/\w'.ownsRow w.heap.size 207 4 v (l.filter p).length (lesV (l.filter p))/\Below w.heap.size w w':=by
 obtain ⟨i0,hi,hz0,hz1,hz2⟩:=info_parts Tryz.infoE
 have HC:Hid (∀ (w':World) (e:LE),Below w.heap.size w w'->e ∈ l->Calls Tryz.prog 162 #[.agg #[.int .i64 (e.to:Int),.int .i64 e.s,.int .i64 e.d,.int .i64 e.mid],.pointer (some ⟨xb,0,none⟩)] w' fun r w''=>r=.returned (.bool (p e))/\Below w'.heap.size w' w''):=hC
 clear hC
 go_enter Tryz.func101,Tryz.ntmps101
 go_wp2
 go_loopw [5,10] (fun fv iv wr=>∃ k:Nat,k<=l.length/\iv=.int .i64 k/\wr.ownsRow w.heap.size 207 4 fv (pickL p l k).length (lesV (pickL p l k))/\Below w.heap.size w wr)
  (fun _ i _=>l.length - (intOf i).toNat)
 case atStart=>exact ⟨0,Nat.zero_le _,rfl,World.ownsRow_nil _ _ _ _,Below.refl _ _⟩
 case round =>
  obtain ⟨k,hk,rfl,hown,hB⟩:=hrel
  by_cases hlt:k < l.length
  ·obtain ⟨e,he⟩:∃ e,l[k]? = some e:=⟨l[k],by simp [hlt]⟩
   obtain ⟨b,o,rfl,q1,q2,q3,q4⟩:=(hrow.below hB) k e he
   have hem:e ∈ l:=List.mem_of_getElem? he
   have i1:(0:Int)<=(k:Int):=by omega
   have i2:(k:Int) < (l.length:Int):=by omega
   have hbz:=hB.size
   have B0:Below w.heap.size w (wr.alloc (.cells #[.int .i64 (e.to:Int),.int .i64 e.s,.int .i64 e.d,.int .i64 e.mid] 207)):=hB.alloc hbz _
   have b0:Below wr.heap.size wr (wr.alloc (.cells #[.int .i64 (e.to:Int),.int .i64 e.s,.int .i64 e.d,.int .i64 e.mid] 207)):=(Below.refl _ _).alloc (Nat.le_refl _) _
   have hcl:=HC.out (wr.alloc (.cells #[.int .i64 (e.to:Int),.int .i64 e.s,.int .i64 e.d,.int .i64 e.mid] 207)) e B0 hem
   have hfl:(pickL p l k).length<=256:=Nat.le_trans pickL_len hl
   have hown0:=own_below hown b0
   have x0:(wr.alloc (.cells #[.int .i64 (e.to:Int),.int .i64 e.s,.int .i64 e.d,.int .i64 e.mid] 207)).cell? ⟨wr.heap.size,0,none⟩=some (.int .i64 (e.to:Int)):=World.cell?_alloc_at _ _ _ 0 rfl
   have x1:(wr.alloc (.cells #[.int .i64 (e.to:Int),.int .i64 e.s,.int .i64 e.d,.int .i64 e.mid] 207)).cell? ⟨wr.heap.size,1,none⟩=some (.int .i64 e.s):=World.cell?_alloc_at _ _ _ 1 rfl
   have x2:(wr.alloc (.cells #[.int .i64 (e.to:Int),.int .i64 e.s,.int .i64 e.d,.int .i64 e.mid] 207)).cell? ⟨wr.heap.size,2,none⟩=some (.int .i64 e.d):=World.cell?_alloc_at _ _ _ 2 rfl
   have x3:(wr.alloc (.cells #[.int .i64 (e.to:Int),.int .i64 e.s,.int .i64 e.d,.int .i64 e.mid] 207)).cell? ⟨wr.heap.size,3,none⟩=some (.int .i64 e.mid):=World.cell?_alloc_at _ _ _ 3 rfl
   have HEV:Hid (leV e=[.int .i64 (e.to:Int),.int .i64 e.s,.int .i64 e.d,.int .i64 e.mid]):=rfl
   have hno:=fun h=>pickL_no (p:=p) he h
   have hys:=fun h=>pickL_yes (p:=p) he h
   generalize hpe:p e=pe at *
   have HNO:Hid (pe=false->pickL p l (k+1)=pickL p l k):=hno
   have HYS:Hid (pe=true->pickL p l (k+1)=pickL p l k++[e]):=hys
   clear hno hys hpe hem he hown b0 hB
   generalize (e.to:Int)=et at *
   generalize e.s=es at *
   generalize e.d=ed at *
   generalize e.mid=em at *
   have hX:w.heap.size<=wr.heap.size:=hbz
   cases pe with
   | false =>
     have HS:Hid (pickL p l (k+1)=pickL p l k):=HNO.out rfl
     clear HNO HYS
     go_wp2_with fail
     generalize wr.alloc (.cells #[.int .i64 et,.int .i64 es,.int .i64 ed,.int .i64 em] 207)=w1 at *
     refine hcl.mono ?_
     rintro r w2 ⟨rfl,hb2⟩
     have hown2:=own_below hown0 hb2
     have B2:=B0.trans (hb2.mono B0.size)
     clear hcl hown0 hb2 x0 x1 x2 x3 B0
     go_wp2
     go_roundw
     case rel=>exact ⟨k+1,by omega,by go_num,by rw [HS.out];exact hown2,B2⟩
     case measure=>simp [intOf];omega
   | true =>
     have HS:Hid (pickL p l (k+1)=pickL p l k++[e]):=HYS.out rfl
     clear HNO HYS
     generalize pickL p l k=F at *
     go_wp2_with fail
     generalize wr.alloc (.cells #[.int .i64 et,.int .i64 es,.int .i64 ed,.int .i64 em] 207)=w1 at *
     refine hcl.mono ?_
     rintro r w2 ⟨rfl,hb2⟩
     have hown3:=own_below hown0 hb2
     have B3:=B0.trans (hb2.mono B0.size)
     have y0:=(hb2.cell (World.block_lt_of_cell? _ _ x0)).trans x0
     have y1:=(hb2.cell (World.block_lt_of_cell? _ _ x1)).trans x1
     have y2:=(hb2.cell (World.block_lt_of_cell? _ _ x2)).trans x2
     have y3:=(hb2.cell (World.block_lt_of_cell? _ _ x3)).trans x3
     have hz3:=B3.size
     clear hcl hown0 hb2 x0 x1 x2 x3 B0
     go_wp2_with (at_builtin;refine wpList_append_own _ rfl _ _ 141 rfl w.heap.size 207 i0 (.agg #[.int .i64 0,.int .i64 0,.int .i64 0,.int .i64 0]) 4 32 Tryz.underE hi hz0 hz1 hz2 rfl (by decide) _ _ _ rfl (hown3.alloc _) ⟨w2.heap.size,0,none⟩ 1 1 [.int .i64 et,.int .i64 es,.int .i64 ed,.int .i64 em] rfl rfl (cell_four_new _ _ _ _ _ _) (by intro u hu;simp at hu;rcases hu with rfl | rfl | rfl | rfl <;> rfl) ?c3 ?c4 ?c5 ?_)
     case c3=>unfold maxLen;omega
     case c4=>omega
     case c5=>simp;omega
     intro v' w4 hown' hgrow _
     have hbase:=fun q hq=>(hown3.lt q hq).1
     have B4:Below w.heap.size w w4:=(B3.alloc hz3 _).grown hgrow (by simp;omega) hbase
     have O4:w4.ownsRow w.heap.size 207 4 v' (F++[e]).length (lesV (F++[e])):=by
      rw [lesV_app,lesV_one,HEV.out]
      simpa using hown'
     clear hown' hgrow hown3 B3 y0 y1 y2 y3
     go_wp2
     go_roundw
     case rel=>exact ⟨k+1,by omega,by go_num,by rw [HS.out];exact O4,B4⟩
     case measure=>simp [intOf];omega
  ·have e:k=l.length:=by omega
   subst e
   have HF:Hid (pickL p l l.length=l.filter p):=pickL_all
   rw [HF.out] at hown
   go_wp2
   go_ret
   exact ⟨_,rfl,hown,hB⟩
set_option maxHeartbeats 2000000 in
set_option maxRecDepth 1000000 in
theorem find_ahead {kb nb xb cap:Nat}{A:Option Addr}{l:List LE}{p:LE->Bool}(w:World) (hrow:RowL w A l) (hl:l.length<=256)
  (hC:∀ (w':World) (e:LE),Below w.heap.size w w'->e ∈ l->Calls Tryz.prog 213 #[.agg #[.int .i64 (e.to:Int),.int .i64 e.s,.int .i64 e.d,.int .i64 e.mid],.pointer (some ⟨kb,0,none⟩),.pointer (some ⟨nb,0,none⟩),.pointer (some ⟨xb,0,none⟩)] w' fun r w''=>r=.returned (.bool (p e))/\Below w'.heap.size w' w'') :
  Calls Tryz.prog 101 #[.slice A l.length cap,.func (.func 213) #[] #[.pointer (some ⟨kb,0,none⟩),.pointer (some ⟨nb,0,none⟩),.pointer (some ⟨xb,0,none⟩)]] w fun e w'=>∃ v,e=.returned v/\w'.ownsRow w.heap.size 207 4 v (l.filter p).length (lesV (l.filter p))/\Below w.heap.size w w':=by
 obtain ⟨i0,hi,hz0,hz1,hz2⟩:=info_parts Tryz.infoE
 have HC:Hid (∀ (w':World) (e:LE),Below w.heap.size w w'->e ∈ l->Calls Tryz.prog 213 #[.agg #[.int .i64 (e.to:Int),.int .i64 e.s,.int .i64 e.d,.int .i64 e.mid],.pointer (some ⟨kb,0,none⟩),.pointer (some ⟨nb,0,none⟩),.pointer (some ⟨xb,0,none⟩)] w' fun r w''=>r=.returned (.bool (p e))/\Below w'.heap.size w' w''):=hC
 clear hC
 go_enter Tryz.func101,Tryz.ntmps101
 go_wp2
 go_loopw [5,10] (fun fv iv wr=>∃ k:Nat,k<=l.length/\iv=.int .i64 k/\wr.ownsRow w.heap.size 207 4 fv (pickL p l k).length (lesV (pickL p l k))/\Below w.heap.size w wr)
  (fun _ i _=>l.length - (intOf i).toNat)
 case atStart=>exact ⟨0,Nat.zero_le _,rfl,World.ownsRow_nil _ _ _ _,Below.refl _ _⟩
 case round =>
  obtain ⟨k,hk,rfl,hown,hB⟩:=hrel
  by_cases hlt:k < l.length
  ·obtain ⟨e,he⟩:∃ e,l[k]? = some e:=⟨l[k],by simp [hlt]⟩
   obtain ⟨b,o,rfl,q1,q2,q3,q4⟩:=(hrow.below hB) k e he
   have hem:e ∈ l:=List.mem_of_getElem? he
   have i1:(0:Int)<=(k:Int):=by omega
   have i2:(k:Int) < (l.length:Int):=by omega
   have hbz:=hB.size
   have B0:Below w.heap.size w (wr.alloc (.cells #[.int .i64 (e.to:Int),.int .i64 e.s,.int .i64 e.d,.int .i64 e.mid] 207)):=hB.alloc hbz _
   have b0:Below wr.heap.size wr (wr.alloc (.cells #[.int .i64 (e.to:Int),.int .i64 e.s,.int .i64 e.d,.int .i64 e.mid] 207)):=(Below.refl _ _).alloc (Nat.le_refl _) _
   have hcl:=HC.out (wr.alloc (.cells #[.int .i64 (e.to:Int),.int .i64 e.s,.int .i64 e.d,.int .i64 e.mid] 207)) e B0 hem
   have hfl:(pickL p l k).length<=256:=Nat.le_trans pickL_len hl
   have hown0:=own_below hown b0
   have x0:(wr.alloc (.cells #[.int .i64 (e.to:Int),.int .i64 e.s,.int .i64 e.d,.int .i64 e.mid] 207)).cell? ⟨wr.heap.size,0,none⟩=some (.int .i64 (e.to:Int)):=World.cell?_alloc_at _ _ _ 0 rfl
   have x1:(wr.alloc (.cells #[.int .i64 (e.to:Int),.int .i64 e.s,.int .i64 e.d,.int .i64 e.mid] 207)).cell? ⟨wr.heap.size,1,none⟩=some (.int .i64 e.s):=World.cell?_alloc_at _ _ _ 1 rfl
   have x2:(wr.alloc (.cells #[.int .i64 (e.to:Int),.int .i64 e.s,.int .i64 e.d,.int .i64 e.mid] 207)).cell? ⟨wr.heap.size,2,none⟩=some (.int .i64 e.d):=World.cell?_alloc_at _ _ _ 2 rfl
   have x3:(wr.alloc (.cells #[.int .i64 (e.to:Int),.int .i64 e.s,.int .i64 e.d,.int .i64 e.mid] 207)).cell? ⟨wr.heap.size,3,none⟩=some (.int .i64 e.mid):=World.cell?_alloc_at _ _ _ 3 rfl
   have HEV:Hid (leV e=[.int .i64 (e.to:Int),.int .i64 e.s,.int .i64 e.d,.int .i64 e.mid]):=rfl
   have hno:=fun h=>pickL_no (p:=p) he h
   have hys:=fun h=>pickL_yes (p:=p) he h
   generalize hpe:p e=pe at *
   have HNO:Hid (pe=false->pickL p l (k+1)=pickL p l k):=hno
   have HYS:Hid (pe=true->pickL p l (k+1)=pickL p l k++[e]):=hys
   clear hno hys hpe hem he hown b0 hB
   generalize (e.to:Int)=et at *
   generalize e.s=es at *
   generalize e.d=ed at *
   generalize e.mid=em at *
   have hX:w.heap.size<=wr.heap.size:=hbz
   cases pe with
   | false =>
     have HS:Hid (pickL p l (k+1)=pickL p l k):=HNO.out rfl
     clear HNO HYS
     go_wp2_with fail
     generalize wr.alloc (.cells #[.int .i64 et,.int .i64 es,.int .i64 ed,.int .i64 em] 207)=w1 at *
     refine hcl.mono ?_
     rintro r w2 ⟨rfl,hb2⟩
     have hown2:=own_below hown0 hb2
     have B2:=B0.trans (hb2.mono B0.size)
     clear hcl hown0 hb2 x0 x1 x2 x3 B0
     go_wp2
     go_roundw
     case rel=>exact ⟨k+1,by omega,by go_num,by rw [HS.out];exact hown2,B2⟩
     case measure=>simp [intOf];omega
   | true =>
     have HS:Hid (pickL p l (k+1)=pickL p l k++[e]):=HYS.out rfl
     clear HNO HYS
     generalize pickL p l k=F at *
     go_wp2_with fail
     generalize wr.alloc (.cells #[.int .i64 et,.int .i64 es,.int .i64 ed,.int .i64 em] 207)=w1 at *
     refine hcl.mono ?_
     rintro r w2 ⟨rfl,hb2⟩
     have hown3:=own_below hown0 hb2
     have B3:=B0.trans (hb2.mono B0.size)
     have y0:=(hb2.cell (World.block_lt_of_cell? _ _ x0)).trans x0
     have y1:=(hb2.cell (World.block_lt_of_cell? _ _ x1)).trans x1
     have y2:=(hb2.cell (World.block_lt_of_cell? _ _ x2)).trans x2
     have y3:=(hb2.cell (World.block_lt_of_cell? _ _ x3)).trans x3
     have hz3:=B3.size
     clear hcl hown0 hb2 x0 x1 x2 x3 B0
     go_wp2_with (at_builtin;refine wpList_append_own _ rfl _ _ 141 rfl w.heap.size 207 i0 (.agg #[.int .i64 0,.int .i64 0,.int .i64 0,.int .i64 0]) 4 32 Tryz.underE hi hz0 hz1 hz2 rfl (by decide) _ _ _ rfl (hown3.alloc _) ⟨w2.heap.size,0,none⟩ 1 1 [.int .i64 et,.int .i64 es,.int .i64 ed,.int .i64 em] rfl rfl (cell_four_new _ _ _ _ _ _) (by intro u hu;simp at hu;rcases hu with rfl | rfl | rfl | rfl <;> rfl) ?c3 ?c4 ?c5 ?_)
     case c3=>unfold maxLen;omega
     case c4=>omega
     case c5=>simp;omega
     intro v' w4 hown' hgrow _
     have hbase:=fun q hq=>(hown3.lt q hq).1
     have B4:Below w.heap.size w w4:=(B3.alloc hz3 _).grown hgrow (by simp;omega) hbase
     have O4:w4.ownsRow w.heap.size 207 4 v' (F++[e]).length (lesV (F++[e])):=by
      rw [lesV_app,lesV_one,HEV.out]
      simpa using hown'
     clear hown' hgrow hown3 B3 y0 y1 y2 y3
     go_wp2
     go_roundw
     case rel=>exact ⟨k+1,by omega,by go_num,by rw [HS.out];exact O4,B4⟩
     case measure=>simp [intOf];omega
  ·have e:k=l.length:=by omega
   subst e
   have HF:Hid (pickL p l l.length=l.filter p):=pickL_all
   rw [HF.out] at hown
   go_wp2
   go_ret
   exact ⟨_,rfl,hown,hB⟩
end
section
open Go.RowKit
theorem Tryz.underV:Tryz.prog.underlying 173=some (.map 3 3):=by kernel_rfl
theorem Tryz.underK:Tryz.prog.underlying 193=some (.map 3 38):=by kernel_rfl
theorem zeroK (w:World):(zeroValue 38).run Tryz.prog w=.ok (.agg #[.int .i64 0,.int .i64 0]) w:=by kernel_rfl
def lvF (L:List Nat) (lev:Nat->Nat):Int->Option Value:=fun i=>if 0<=i/\i.toNat ∈ L then some (.int .i64 (lev i.toNat:Int)) else none
theorem lvF_in {L:List Nat}{lev:Nat->Nat}{n:Nat}(h:n ∈ L):lvF L lev (n:Int)=some (.int .i64 (lev n:Int)):=by
 unfold lvF
 rw [if_pos ⟨by omega,by simpa using h⟩,Int.toNat_natCast]
theorem lvF_put {L:List Nat}{lev:Nat->Nat}{n:Nat}(h:n ∈ L) (t:Nat):putF (lvF L lev) (n:Int) (.int .i64 (t:Int))=lvF L (fun k=>if k=n then t else lev k):=by
 funext i
 unfold putF lvF
 by_cases e:i=(n:Int)
 ·subst e
  rw [if_pos rfl,if_pos ⟨by omega,by simpa using h⟩,Int.toNat_natCast]
  show _=some (Value.int .i64 ((if n=n then t else lev n:Nat):Int))
  rw [if_pos rfl]
 ·rw [if_neg e]
  by_cases hi:0<=i/\i.toNat ∈ L
  ·rw [if_pos hi,if_pos hi]
   show _=some (Value.int .i64 ((if i.toNat=n then t else lev i.toNat:Nat):Int))
   rw [if_neg (by omega)]
  ·rw [if_neg hi,if_neg hi]
structure LvAt (w:World) (N lb vb eb:Nat) (top:Nat) (L:List Nat) (st:LSt) (f:Int->Option Value):Prop where
 c0:w.cell? ⟨lb,0,none⟩=some (.int .i64 (top:Int))
 c1:w.cell? ⟨lb,1,none⟩=some (.map (some vb))
 c2:w.cell? ⟨lb,2,none⟩=some (.map (some eb))
 fz:w.frozen? ⟨lb,0,none⟩=false
 lv:MapF Tryz.prog 3 w vb (lvF L st.lev) L.length
 em:MapF Tryz.prog 3 w eb f L.length
 row:∀ n ∈ L,∃ v,f (n:Int)=some v/\w.ownsRow N 207 4 v (st.es n).length (lesV (st.es n))
 no:∀ i v,f i=some v->0<=i/\i.toNat ∈ L
 apart:∀ n m v v' g,f n=some v->f m=some v'->v.ownBlock=some g->v'.ownBlock=some g->n=m
 off:∀ n v,f n=some v->v.ownBlock≠some lb
 nb:N<=lb/\N<=vb/\N<=eb
 ne:vb≠eb
 bd:∀ n ∈ L,n < 256
 len:L.length<=256
def LvB (lb vb eb:Nat) (f:Int->Option Value) (g:Nat):Prop:=g=lb\/g=vb\/g=eb\/∃ i v,f i=some v/\v.ownBlock=some g
section
variable {w w' : World} {N lb vb eb top : Nat} {L : List Nat} {st : LSt} {f : Int → Option Value}
theorem LvAt.lts (V:LvAt w N lb vb eb top L st f):lb < w.heap.size/\vb < w.heap.size/\eb < w.heap.size:=⟨World.block_lt_of_cell? _ _ V.c0,V.lv.lt,V.em.lt⟩
theorem LvAt.nes (V:LvAt w N lb vb eb top L st f):lb≠vb/\lb≠eb:=by
 constructor
 ·intro e
  have h:=V.lv.cell 0
  rw [<- e,V.c0] at h;cases h
 ·intro e
  have h:=V.em.cell 0
  rw [<- e,V.c0] at h;cases h
theorem LvAt.keep {F:Nat->Prop}(V:LvAt w N lb vb eb top L st f) (K:Keep F w w') (h:∀ g,LvB lb vb eb f g->¬ F g):LvAt w' N lb vb eb top L st f:=by
 have h1:=h lb (Or.inl rfl)
 refine ⟨K.cellOf V.c0 h1,K.cellOf V.c1 h1,K.cellOf V.c2 h1,(K.frozen (p:=⟨lb,0,none⟩) V.lts.1 h1).trans V.fz,V.lv.keep K (h vb (Or.inr (Or.inl rfl))),V.em.keep K (h eb (Or.inr (Or.inr (Or.inl rfl)))),fun n hn=>?_,V.no,V.apart,V.off,V.nb,V.ne,V.bd,V.len⟩
 obtain ⟨v,e1,e2⟩:=V.row n hn
 exact ⟨v,e1,own_keep e2 K (fun g hg=>h g (Or.inr (Or.inr (Or.inr ⟨_,v,e1,hg⟩))))⟩
theorem LvAt.below (V:LvAt w N lb vb eb top L st f) (hb:Below w.heap.size w w'):LvAt w' N lb vb eb top L st f:=V.keep (F:=fun _=>False) (Keep.of_below hb) (fun _ _=>id)
theorem LvAt.look (V:LvAt w N lb vb eb top L st f) {n:Nat}(hn:n ∈ L):(Instr.lookup 173 (.map (some vb)) (.int .i64 (n:Int)) false).run Tryz.prog w=.ok (.int .i64 (st.lev n:Int)) w :=
 V.lv.look_some law3 Tryz.underV (zero3 w) (wf_small (by omega) (by have:=V.bd n hn;omega)) (lvF_in hn) false
theorem LvAt.edges (V:LvAt w N lb vb eb top L st f) {n:Nat}(hn:n ∈ L):∃ A cap,(Instr.lookup 129 (.map (some eb)) (.int .i64 (n:Int)) false).run Tryz.prog w=.ok (.slice A (st.es n).length cap) w/\RowL w A (st.es n)/\f (n:Int)=some (.slice A (st.es n).length cap):=by
 obtain ⟨v,e1,e2⟩:=V.row n hn
 obtain ⟨A,cap,rfl,h1,_⟩:=rowL_of e2
 exact ⟨A,cap,V.em.look_some law3 Tryz.underM (zeroM w) (wf_small (by omega) (by have:=V.bd n hn;omega)) e1 false,h1,e1⟩
end
set_option maxHeartbeats 400000 in
theorem isOpen_any {N lb vb eb top n:Nat}{L:List Nat}{st:LSt}{f:Int->Option Value}(w:World) (V:LvAt w N lb vb eb top L st f) (hn:n ∈ L) :
  Calls Tryz.prog 163 #[.pointer (some ⟨lb,0,none⟩),.int .i64 (n:Int)] w fun e w'=>e=.returned (.bool (st.lev n == 0))/\w'=w:=by
 have h1:=V.look hn
 have c1:=V.c1
 have hr:(st.lev n == 0)=decide ((st.lev n:Int)=0):=by
  by_cases e:st.lev n=0
  ·rw [e];rfl
  ·have e2:¬ (st.lev n:Int)=0:=by omega
   rw [decide_eq_false e2];simpa using e
 rw [hr]
 clear V hr
 generalize (st.lev n:Int)=k at *
 go_enter Tryz.func163,Tryz.ntmps163
 go_wp2
 go_ret
 exact ⟨rfl,rfl⟩
set_option maxHeartbeats 400000 in
theorem clo_open {N lb vb eb top xb:Nat}{L:List Nat}{st:LSt}{f:Int->Option Value}(w:World) (V:LvAt w N lb vb eb top L st f) (hx:w.cell? ⟨xb,0,none⟩=some (.pointer (some ⟨lb,0,none⟩))) (e:LE) (he:e.to ∈ L) :
  Calls Tryz.prog 162 #[.agg #[.int .i64 (e.to:Int),.int .i64 e.s,.int .i64 e.d,.int .i64 e.mid],.pointer (some ⟨xb,0,none⟩)] w fun r w'=>r=.returned (.bool (st.lev e.to == 0))/\Below w.heap.size w w':=by
 have B0:Below w.heap.size w (w.alloc (.cells #[.int .i64 (e.to:Int),.int .i64 e.s,.int .i64 e.d,.int .i64 e.mid] 207)):=(Below.refl _ _).alloc (Nat.le_refl _) _
 have h1:=isOpen_any _ (V.below B0) he
 have hx0:=(B0.cell (World.block_lt_of_cell? _ _ hx)).trans hx
 clear V hx
 generalize (st.lev e.to == 0)=r at *
 generalize (e.to:Int)=et at *
 generalize e.s=es at *
 generalize e.d=ed at *
 generalize e.mid=em at *
 go_enter Tryz.func162,Tryz.ntmps162
 go_wp2_with fail
 refine h1.mono ?_
 rintro r1 w1 ⟨rfl,rfl⟩
 clear h1
 go_wp2
 go_ret
 exact ⟨rfl,B0⟩
set_option maxHeartbeats 800000 in
set_option maxRecDepth 1000000 in
theorem clo_ahead {N lb vb eb top kb nb xb mb k n:Nat}{L:List Nat}{st:LSt}{f:Int->Option Value}{F:Int->Option (Int × Int)}(w:World) (V:LvAt w N lb vb eb top L st f) (hx:w.cell? ⟨xb,0,none⟩=some (.pointer (some ⟨lb,0,none⟩)))
  (hk:w.cell? ⟨kb,0,none⟩=some (.map (some mb))) (hn:w.cell? ⟨nb,0,none⟩=some (.int .i64 (n:Int))) (M:MapF Tryz.prog 3 w mb (fv F) k) (e:LE) (he:e.to ∈ L) :
  Calls Tryz.prog 213 #[.agg #[.int .i64 (e.to:Int),.int .i64 e.s,.int .i64 e.d,.int .i64 e.mid],.pointer (some ⟨kb,0,none⟩),.pointer (some ⟨nb,0,none⟩),.pointer (some ⟨xb,0,none⟩)] w fun r w'=>r=.returned (.bool (!(F (e.to:Int)).isSome&&(decide (e.to≠n)&&(st.lev e.to == 0))))/\Below w.heap.size w w':=by
 have B0:Below w.heap.size w (w.alloc (.cells #[.int .i64 (e.to:Int),.int .i64 e.s,.int .i64 e.d,.int .i64 e.mid] 207)):=(Below.refl _ _).alloc (Nat.le_refl _) _
 have hwf:=wf_small (a:=(e.to:Int)) (by omega) (by have:=V.bd _ he;omega)
 have M0:=M.keep (F:=fun _=>False) (Keep.of_below B0) id
 have hx0:=(B0.cell (World.block_lt_of_cell? _ _ hx)).trans hx
 have hk0:=(B0.cell (World.block_lt_of_cell? _ _ hk)).trans hk
 have hn0:=(B0.cell (World.block_lt_of_cell? _ _ hn)).trans hn
 have V0:=V.below B0
 have x0:(w.alloc (.cells #[.int .i64 (e.to:Int),.int .i64 e.s,.int .i64 e.d,.int .i64 e.mid] 207)).cell? ⟨w.heap.size,0,none⟩=some (.int .i64 (e.to:Int)):=World.cell?_alloc_at _ _ _ 0 rfl
 have hdn:decide (e.to≠n)=decide (¬ (e.to:Int)=(n:Int)):=by
  by_cases q:e.to=n
  ·have q2:(e.to:Int)=(n:Int):=by omega
   rw [decide_eq_false (by simpa using q),decide_eq_false (by simpa using q2)]
  ·have q2:¬ (e.to:Int)=(n:Int):=by omega
   rw [decide_eq_true q,decide_eq_true q2]
 rw [hdn]
 clear hdn M V hx hk hn
 cases hF:F (e.to:Int) with
 | some c =>
   obtain ⟨s,d⟩:=c
   have hl:(Instr.lookup 193 (.map (some mb)) (.int .i64 (e.to:Int)) true).run Tryz.prog (w.alloc (.cells #[.int .i64 (e.to:Int),.int .i64 e.s,.int .i64 e.d,.int .i64 e.mid] 207))=.ok (.tuple #[.agg #[.int .i64 s,.int .i64 d],.bool true]) (w.alloc (.cells #[.int .i64 (e.to:Int),.int .i64 e.s,.int .i64 e.d,.int .i64 e.mid] 207)):=M0.look_some law3 Tryz.underK (zeroK _) hwf (fv_some hF) true
   have er:(!(some (s,d)).isSome&&(decide (¬ (e.to:Int)=(n:Int))&&(st.lev e.to == 0)))=false:=rfl
   rw [er]
   have B1:=B0.alloc B0.size (.cells #[.int .i64 s,.int .i64 d] 38)
   clear er hF M0 V0
   generalize (e.to:Int)=et at *
   generalize e.s=es at *
   generalize e.d=ed at *
   generalize e.mid=em at *
   go_enter Tryz.func213,Tryz.ntmps213
   go_wp2
   go_ret
   exact ⟨rfl,B1⟩
 | none =>
   have hl:(Instr.lookup 193 (.map (some mb)) (.int .i64 (e.to:Int)) true).run Tryz.prog (w.alloc (.cells #[.int .i64 (e.to:Int),.int .i64 e.s,.int .i64 e.d,.int .i64 e.mid] 207))=.ok (.tuple #[.agg #[.int .i64 0,.int .i64 0],.bool false]) (w.alloc (.cells #[.int .i64 (e.to:Int),.int .i64 e.s,.int .i64 e.d,.int .i64 e.mid] 207)):=M0.look_none law3 Tryz.underK (zeroK _) hwf (fv_none hF) true
   have B1:=B0.alloc B0.size (.cells #[.int .i64 0,.int .i64 0] 38)
   have b1:Below (w.alloc (.cells #[.int .i64 (e.to:Int),.int .i64 e.s,.int .i64 e.d,.int .i64 e.mid] 207)).heap.size (w.alloc (.cells #[.int .i64 (e.to:Int),.int .i64 e.s,.int .i64 e.d,.int .i64 e.mid] 207)) ((w.alloc (.cells #[.int .i64 (e.to:Int),.int .i64 e.s,.int .i64 e.d,.int .i64 e.mid] 207)).alloc (.cells #[.int .i64 0,.int .i64 0] 38)):=(Below.refl _ _).alloc (Nat.le_refl _) _
   have h1:=isOpen_any _ (V0.below b1) he
   have hx1:=(b1.cell (World.block_lt_of_cell? _ _ hx0)).trans hx0
   have hn1:=(b1.cell (World.block_lt_of_cell? _ _ hn0)).trans hn0
   have x1:=(b1.cell (World.block_lt_of_cell? _ _ x0)).trans x0
   by_cases q:(e.to:Int)=(n:Int)
   ·have er:(!(none:Option (Int × Int)).isSome&&(decide (¬ (e.to:Int)=(n:Int))&&(st.lev e.to == 0)))=false:=by rw [decide_eq_false (by simpa using q)];rfl
    rw [er]
    rw [<- q] at hn0 hn1
    clear er hF M0 V0 h1 b1 q
    generalize (e.to:Int)=et at *
    generalize e.s=es at *
    generalize e.d=ed at *
    generalize e.mid=em at *
    go_enter Tryz.func213,Tryz.ntmps213
    go_wp2
    go_ret
    exact ⟨rfl,B1⟩
   ·have er:(!(none:Option (Int × Int)).isSome&&(decide (¬ (e.to:Int)=(n:Int))&&(st.lev e.to == 0)))=(st.lev e.to == 0):=by rw [decide_eq_true q];rfl
    rw [er]
    clear er hF M0 V0
    generalize (st.lev e.to == 0)=r at *
    generalize (e.to:Int)=et at *
    generalize e.s=es at *
    generalize e.d=ed at *
    generalize e.mid=em at *
    have q2:(et != (n:Int))=true:=by simpa using q
    go_enter Tryz.func213,Tryz.ntmps213
    go_wp2_with fail
    refine h1.mono ?_
    rintro r1 w1 ⟨rfl,rfl⟩
    clear h1
    go_wp2
    go_ret
    refine ⟨?_,B1⟩
    simp
end
section
open Go.RowKit
structure Okl (L:List Nat) (K:Int) (st:LSt):Prop where
 esy:Esy st.es
 cor:Cor L st
 bd:∀ {a e},e ∈ st.es a->0<=e.s/\0<=e.d/\e.s<=K/\e.d<=K
section
variable {L : List Nat} {K : Int} {st : LSt} {n o : Nat}
theorem Okl.edge (O:Okl L K st) {a b t u:Int}(h:EdR st n a b t u):0<=t/\0<=u/\t<=K/\u<=K/\∃ m:Nat,b=(m:Int)/\m ∈ L:=by
 obtain ⟨e,h1,rfl,rfl,rfl,_,_⟩:=h
 obtain ⟨b1,b2,b3,b4⟩:=O.bd h1
 exact ⟨b1,b2,b3,b4,e.to,rfl,(O.cor.ends h1).2⟩
theorem Okl.way (O:Okl L K st) (ho:o ∈ L) {a s d:Int}(h:Wg (EdR st n) (o:Int) a s d):0<=s/\0<=d/\∃ m:Nat,a=(m:Int)/\m ∈ L :=
 h (fun a s d=>0<=s/\0<=d/\∃ m:Nat,a=(m:Int)/\m ∈ L) ⟨Int.le_refl _,Int.le_refl _,o,rfl,ho⟩ (fun a s d b t u hx e=>by
  obtain ⟨h1,h2,_,_,h3⟩:=O.edge e
  exact ⟨by omega,by omega,h3⟩)
theorem Okl.one (O:Okl L K st) {a b t u t' u':Int}(h:EdR st n a b t u) (h':EdR st n a b t' u'):t'=t/\u'=u:=by
 obtain ⟨e,h1,h2,rfl,rfl,_,_⟩:=h
 obtain ⟨e',h1',h2',rfl,rfl,_,_⟩:=h'
 have:=(O.esy.ord _).one h1' h1 (by omega)
 subst this
 exact ⟨rfl,rfl⟩
theorem Okl.len (O:Okl L K st) (hb:∀ n ∈ L,n < 256) (a:Nat):(st.es a).length<=256:=by
 have h1:((st.es a).map (·.to)).Nodup:=by
  unfold List.Nodup
  rw [List.pairwise_map]
  exact (O.esy.ord a).imp (fun h=>Nat.ne_of_lt h)
 have:=nodup_len 256 h1 (fun n hn=>by
  obtain ⟨e,he,rfl⟩:=List.mem_map.1 hn
  exact hb _ (O.cor.ends he).2)
 simpa using this
end
theorem val_le {s d:Int}(h1:0<=s) (h2:0<=d) (h:val s d<=val 1024 1024):s<=2500/\d<=2500:=by
 have e:val 1024 1024=95459694592:=by decide
 rw [e] at h
 unfold val at h
 omega
def Dist (st:LSt) (n a:Nat) (M:Int) (F:Int->Option (Int × Int)):Prop :=
 ∀ (b x y:Int),val x y<=M->((∃ p q,Wg (EdR st n) (a:Int) b p q/\val p q<=val x y)↔∃ p q,F b=some (p,q)/\val p q<=val x y)
structure DMem (w:World) (X lb:Nat) (n ms md:Int) (v:Value) (nh:Nat) (R F:Int->Option (Int × Int)):Prop where
 x:w.cell? ⟨X,0,none⟩=some (.pointer (some ⟨lb,0,none⟩))
 n:w.cell? ⟨X+1,0,none⟩=some (.int .i64 n)
 m:Slot w (X+2) ms md
 k:w.cell? ⟨X+4,0,none⟩=some (.map (some (X+3)))
 mp:MapF Tryz.prog 3 w (X+3) (fv F) (cnt F 256)
 hp:HeapAt w (X+6) (X+5) v nh R
 own:∀ g,v.ownBlock=some g->X+7<=g
 few:nh<=1+256*cnt F 256
section
variable {w w' : World} {X lb : Nat} {n ms md : Int} {v v' : Value} {nh nh' : Nat} {R R' F : Int → Option (Int × Int)}
theorem DMem.below (D:DMem w X lb n ms md v nh R F) (hb:Below w.heap.size w w'):DMem w' X lb n ms md v nh R F :=
 ⟨(hb.cell (World.block_lt_of_cell? _ _ D.x)).trans D.x,(hb.cell (World.block_lt_of_cell? _ _ D.n)).trans D.n,D.m.below hb,(hb.cell (World.block_lt_of_cell? _ _ D.k)).trans D.k,D.mp.keep (F:=fun _=>False) (Keep.of_below hb) id,D.hp.below hb,D.own,D.few⟩
theorem DMem.far (D:DMem w X lb n ms md v nh R F):∀ g,hb3 (X+6) (X+5) v g->X+5<=g:=by
 rintro g (rfl | rfl | h)
 ·omega
 ·omega
 ·have:=D.own g h;omega
theorem DMem.heap (D:DMem w X lb n ms md v nh R F) (K:Keep (hb3 (X+6) (X+5) v) w w') (hp:HeapAt w' (X+6) (X+5) v' nh' R') (hown:∀ g,v'.ownBlock=some g->X+7<=g) (hf:nh'<=1+256*cnt F 256):DMem w' X lb n ms md v' nh' R' F:=by
 have nf:∀ g,g < X+5->¬ hb3 (X+6) (X+5) v g:=fun g hg h=>by have:=D.far g h;omega
 exact ⟨K.cellOf D.x (nf X (by omega)),K.cellOf D.n (nf (X+1) (by omega)),D.m.keep K (nf (X+2) (by omega)),K.cellOf D.k (nf (X+4) (by omega)),D.mp.keep K (nf (X+3) (by omega)),hp,hown,hf⟩
theorem DMem.known (D:DMem w X lb n ms md v nh R F) {a s d:Int}(h0:0<=a) (h1:a < 256) (hF:F a=none) (hm:MapF Tryz.prog 3 w' (X+3) (putF (fv F) a (.agg #[.int .i64 s,.int .i64 d])) (if (fv F a).isSome then cnt F 256 else cnt F 256+1)) (ht:w.mapTurned w' (X+3)):DMem w' X lb n ms md v nh R (putH F a s d):=by
 have K:=turned_keep ht
 have e:cnt (putH F a s d) 256=cnt F 256+1:=cnt_put F a s d 256 h0 h1 hF
 rw [fv_put,fv_none hF] at hm
 have hown:=D.own
 refine ⟨K.cellOf D.x (by show ¬ X=X+3;omega),K.cellOf D.n (by show ¬ X+1=X+3;omega),D.m.keep K (by omega),K.cellOf D.k (by show ¬ X+4=X+3;omega),?_,D.hp.keep K (by omega) (by omega) (fun g hg=>by have:=hown g hg;omega),D.own,?_⟩
 ·rw [e];exact hm
 ·have:=D.few;rw [e];omega
end
end
end Go.Proofs.YtipbhlofbpnpjaaGreatDoor
