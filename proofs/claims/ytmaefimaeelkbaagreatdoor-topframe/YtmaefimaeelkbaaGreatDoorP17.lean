/-
  Texts laid together: LvIns, LvIns2, LvIns3, LvPut, LvOpen, LvE.
-/
import Derived.Test.YtmaefimaeelkbaaGreatDoorP16
import Derived.Shelf.Spec.SlicesInsertGrow
import Derived.WideKeyEntry
namespace Go.Proofs.YtmaefimaeelkbaaGreatDoor
section
open Go.RowKit Go.Lib
theorem lesV_take (l:List LE)(i:Nat):lesV (l.take i)=(lesV l).take (i*4):=by
 induction l generalizing i with
 |nil=>simp [lesV]
 |cons x l ih =>
  cases i with
  |zero=>simp [lesV]
  |succ i =>
   rw [List.take_succ_cons,lesV_cons,lesV_cons,ih,List.take_append]
   have h:(leV x).length=4:=rfl
   rw [List.take_of_length_le (l:=leV x) (by rw [h];omega),h,show (i+1)*4 - 4=i*4 by omega]
theorem lesV_drop (l:List LE)(i:Nat):lesV (l.drop i)=(lesV l).drop (i*4):=by
 induction l generalizing i with
 |nil=>simp [lesV]
 |cons x l ih =>
  cases i with
  |zero=>simp
  |succ i =>
   rw [List.drop_succ_cons,ih,lesV_cons,List.drop_append]
   have h:(leV x).length=4:=rfl
   rw [List.drop_of_length_le (l:=leV x) (by rw [h];omega),h,List.nil_append,show (i+1)*4 - 4=i*4 by omega]
theorem lesV_ins (l:List LE)(i:Nat)(e:LE):lesV (l.take i++e::l.drop i)=(lesV l).take (i*4)++leV e++(lesV l).drop (i*4):=by
 rw [lesV_app,lesV_cons,lesV_take,lesV_drop,List.append_assoc]
theorem run_copy_row_k {P:Program}(w:World)(dT sT ty elem:TypeId)(g o dLen dCap k m:Nat)(a:Addr)(sLen sCap:Nat)(cur:Array Value)(t:TypeId)(cs:List Value)
  (hu:P.underlying dT=some (.slice elem)) (hs:(P.info? elem).map (·.size)=some k)
  (hg:w.heap[g]? = some (.cells cur t (0,0))) (hm:Nat.min sLen dLen=m) (hn:cs.length=m*k)
  (hsrc:∀ j v,cs[j]? = some v->w.cell? (a.add j)=some v) (hfit:o+cs.length<=cur.size) (h1:∀ v ∈ cs,v.oneCell'=true) :
  (Builtin.copy_ #[dT,sT] ty #[.slice (some ⟨g,o,none⟩) dLen dCap,.slice (some a) sLen sCap]).run P w =
   .ok (goInt m) (w.setRow g (cur.toList.take o++cs++cur.toList.drop (o+cs.length)).toArray):=by
 have hl:=run_loadCells_list (P:=P) w a cs hsrc
 have hst:=run_storeCells_at P g o t cs 0 cur w hg (by simpa using hfit) h1
 cases hq:P.info? elem with
 |none=>simp [hq] at hs
 |some i =>
  have hi:i.size=k:=by simpa [hq] using hs
  simp [Builtin.copy_,run_underlying hu,Builtin.lenOf,Builtin.firstCells,sizeOf,typeInfo,hq,hi,hm,<- hn,hl,hst]
theorem shift_row {cur xs ev:List Value}{n i:Nat}(hx:cur.take (n*4)=xs)(hl:xs.length=n*4)(he:ev.length=4)(hi:i<n)(hc:(n+1)*4<=cur.length) :
  let c1:=cur.take (i*4+4)++xs.drop (i*4)++cur.drop (i*4+4+(xs.drop (i*4)).length)
  c1.length=cur.length/\(c1.take (i*4)++ev++c1.drop (i*4+ev.length)).length=cur.length/\(c1.take (i*4)++ev++c1.drop (i*4+ev.length)).take ((n+1)*4)=xs.take (i*4)++ev++xs.drop (i*4):=by
 intro c1
 have hd:(xs.drop (i*4)).length=n*4 - i*4:=by rw [List.length_drop,hl]
 have ht:(cur.take (i*4+4)).length=i*4+4:=by rw [List.length_take];omega
 have h1:c1.length=cur.length:=by
  show (cur.take (i*4+4)++xs.drop (i*4)++cur.drop (i*4+4+(xs.drop (i*4)).length)).length=_
  simp only [List.length_append,List.length_take,List.length_drop,hl]
  omega
 have h2:c1.take (i*4)=xs.take (i*4):=by
  show (cur.take (i*4+4)++xs.drop (i*4)++cur.drop (i*4+4+(xs.drop (i*4)).length)).take (i*4)=_
  rw [List.append_assoc,List.take_append_of_le_length (by rw [ht];omega),List.take_take,<- hx,List.take_take]
  congr 1;omega
 have h3:c1.drop (i*4+4)=xs.drop (i*4)++cur.drop (i*4+4+(xs.drop (i*4)).length):=by
  show (cur.take (i*4+4)++xs.drop (i*4)++cur.drop (i*4+4+(xs.drop (i*4)).length)).drop (i*4+4)=_
  rw [List.append_assoc,List.drop_append_of_le_length (by rw [ht];omega),List.drop_of_length_le (by rw [ht];omega),List.nil_append]
 refine ⟨h1,?_,?_⟩
 ·rw [List.length_append,List.length_append,List.length_take,List.length_drop,h1,he]
  omega
 ·rw [he,h2,h3,<- List.append_assoc,List.take_append_of_le_length (by
   rw [List.length_append,List.length_append,List.length_take,hd,he,hl];omega),List.take_of_length_le (by
   rw [List.length_append,List.length_append,List.length_take,hd,he,hl];omega)]
theorem grow_row {row xs ev:List Value}{n i:Nat}(hx:row.take (i*4)=xs.take (i*4))(hl:xs.length=n*4)(he:ev.length=4)(hi:i<n)(hc:(n+1)*4<=row.length) :
  let c1:=row.take (i*4)++ev++row.drop (i*4+ev.length)
  c1.length=row.length/\(c1.take (i*4+4)++xs.drop (i*4)++c1.drop (i*4+4+(xs.drop (i*4)).length)).length=row.length/\(c1.take (i*4+4)++xs.drop (i*4)++c1.drop (i*4+4+(xs.drop (i*4)).length)).take ((n+1)*4)=xs.take (i*4)++ev++xs.drop (i*4):=by
 intro c1
 have hd:(xs.drop (i*4)).length=n*4 - i*4:=by rw [List.length_drop,hl]
 have ht:(row.take (i*4)).length=i*4:=by rw [List.length_take];omega
 have h1:c1.length=row.length:=by
  show (row.take (i*4)++ev++row.drop (i*4+ev.length)).length=_
  rw [List.length_append,List.length_append,List.length_drop,ht,he]
  omega
 have h2:c1.take (i*4+4)=xs.take (i*4)++ev:=by
  show (row.take (i*4)++ev++row.drop (i*4+ev.length)).take (i*4+4)=_
  rw [List.take_append_of_le_length (by rw [List.length_append,ht,he];omega),List.take_of_length_le (by rw [List.length_append,ht,he];omega),hx]
 refine ⟨h1,?_,?_⟩
 ·simp only [List.length_append,List.length_take,List.length_drop,h1,hl]
  omega
 ·rw [h2,List.take_append_of_le_length (by
   rw [List.length_append,List.length_append,List.length_take,hd,he,hl];omega),List.take_of_length_le (by
   rw [List.length_append,List.length_append,List.length_take,hd,he,hl];omega)]
end
section
open Go.RowKit Go.Lib
theorem run_sizeE (w:World):(Go.sizeOf 204).run Tryz.prog w=.ok 4 w:=by kernel_rfl
theorem sizE:(Tryz.prog.info? 204).map (·.size)=some 4:=by kernel_rfl
theorem ex_cells {w:World}{xb:Nat}{vs:List Value}(h:w.heap[xb]? = some (.cells vs.toArray 204 (0,0))):∀ j u,vs[j]? = some u->w.cell? ((⟨xb,0,none⟩:Addr).add j)=some u:=by
 intro j u hj
 rw [Addr.add_lit,Nat.zero_add,cell_of_row w xb j _ 204 (0,0) h]
 simpa using hj
set_option maxHeartbeats 4000000 in
set_option maxRecDepth 100000 in
theorem insert_end {N xb:Nat}{v:Value}{l:List LE}{e:LE}(w:World)(hown:w.ownsRow N 204 4 v l.length (lesV l))(hl:l.length<=256)(hN:N<=w.heap.size)(hxb:w.heap[xb]? = some (.cells (leV e).toArray 204 (0,0))) :
  Calls Tryz.prog 199 #[v,.int .i64 (l.length:Int),.slice (some ⟨xb,0,none⟩) 1 1] w fun r w'=>∃ v',r=.returned v'/\w'.ownsRow N 204 4 v' (l.length+1) (lesV l++leV e)/\w.grownBy w' v.ownBlock/\(v'.ownBlock=v.ownBlock\/v'.ownBlock=some w.heap.size):=by
 obtain ⟨i0,hi,hz0,hz1,hz2⟩:=info_parts Tryz.infoE
 have hcells:=ex_cells hxb
 have hone:∀ u ∈ leV e,u.oneCell'=true:=fun u hu=>lesV_cells [e] u (by rw [lesV_one];exact hu)
 obtain ⟨A,cap,rfl,hcap,hnil⟩:∃ A cap,v=.slice A l.length cap/\(l.length<=cap)/\cap<=9223372036854775807:=by
  rcases hown.2 with ⟨rfl,h0⟩|⟨g,cap,cur,rfl,_,_,h1,h2,_⟩
  ·exact ⟨none,0,by rw [h0],by omega,by omega⟩
  ·exact ⟨_,cap,rfl,h1,by unfold maxLen at h2;omega⟩
 have hlen:(leV e).length=1*4:=rfl
 clear hxb
 generalize leV e=ev at *
 generalize lesV l=xs at *
 rcases Decidable.em (cap=l.length) with hc|hc
 all_goals
  try subst hc
  go_enter Tryz.func199,Tryz.ntmps199
  go_wp2_with (at_builtin;refine wpList_append_own_at _ rfl _ _ 126 rfl N 204 i0 (.agg #[.int .i64 0,.int .i64 0,.int .i64 0,.int .i64 0]) 4 32 Tryz.underE hi hz0 hz1 hz2 rfl (by decide) _ _ _ rfl hown ⟨xb,0,none⟩ 1 1 ev rfl hlen hcells hone ?c3 ?c4 ?c5 ?_)
  case c3=>unfold maxLen;omega
  case c4=>omega
  case c5=>exact hN
  intro v' w1 hown' hgrow _ hat
  go_wp2
  go_ret
  exact ⟨v',rfl,hown',hgrow,hat⟩
set_option maxHeartbeats 4000000 in
set_option maxRecDepth 100000 in
theorem insert_shift {N xb g cap i:Nat}{l:List LE}{e:LE}(w:World)(hown:w.ownsRow N 204 4 (.slice (some ⟨g,0,none⟩) l.length cap) l.length (lesV l))(hl:l.length<=256)(hi:i<l.length)(hroom:l.length+1<=cap)(hxg:xb≠g)(hxb:w.heap[xb]? = some (.cells (leV e).toArray 204 (0,0))) :
  Calls Tryz.prog 199 #[.slice (some ⟨g,0,none⟩) l.length cap,.int .i64 (i:Int),.slice (some ⟨xb,0,none⟩) 1 1] w fun r w'=>r=.returned (.slice (some ⟨g,0,none⟩) (l.length+1) cap)/\w'.ownsRow N 204 4 (.slice (some ⟨g,0,none⟩) (l.length+1) cap) (l.length+1) ((lesV l).take (i*4)++leV e++(lesV l).drop (i*4))/\w.grownBy w' (some g):=by
 obtain ⟨g',cap',cur,hv,hNg,hg,hnc,hcm,hcs,htake⟩:∃ g' cap' cur,(Value.slice (some ⟨g,0,none⟩) l.length cap)=.slice (some ⟨g',0,none⟩) l.length cap'/\N<=g'/\w.heap[g']? = some (.cells cur 204 (0,0))/\l.length<=cap'/\cap'<=maxLen/\cur.size=cap'*4/\cur.toList.take (l.length*4)=lesV l:=by
  rcases hown.2 with ⟨h,_⟩|h
  ·cases h
  ·exact h
 cases hv
 have hx1:=hown.1
 have hcells:=ex_cells hxb
 have hone:∀ u ∈ leV e,u.oneCell'=true:=fun u hu=>lesV_cells [e] u (by rw [lesV_one];exact hu)
 have honX:∀ u ∈ (lesV l).drop (i*4),u.oneCell'=true:=fun u hu=>lesV_cells l u (List.mem_of_mem_drop hu)
 have hlen:(leV e).length=4:=rfl
 have hsrc:∀ j u,(lesV l)[j]? = some u->w.cell? ⟨g,j,none⟩=some u:=fun j u hj=>by
  have:=hown.cells (g:=g) rfl j u hj
  rwa [Addr.add_lit,Nat.zero_add] at this
 have hc63:cap<=9223372036854775807:=by unfold maxLen at hcm;omega
 have hov:∀ lb cb,(callFunc 231 #[.slice (some ⟨xb,0,none⟩) 1 1,.slice (some ⟨g,(i+1)*4,none⟩) lb cb]).run Tryz.prog w=.ok (.value (.bool false)) w:=fun lb cb=>by
  rw [run_callFunc_extern Tryz.func231 (by kernel_rfl) (by kernel_rfl) (by kernel_rfl) (e:=Extern.SlicesOverlaps.overlaps #[126,126] #[4]) (by kernel_rfl),
   Lib.run_overlaps_apart w 126 4 204 Tryz.underE 4 run_sizeE ⟨xb,0,none⟩ ⟨g,(i+1)*4,none⟩ 1 1 lb cb hxg 204 204 4 cur.size (by simp [World.shape?,hxb,hlen]) (by simp [World.shape?,hg]) (by omega) (by simp [World.frozen?,hxb]) (by simp [World.frozen?,hxb])]
  rfl
 have hcl:cur.toList.length=cap*4:=by rw [Array.length_toList (xs:=cur),hcs]
 obtain ⟨hA,hB,hC⟩:=shift_row (n:=l.length) (i:=i) htake hx1 hlen hi (by rw [hcl];omega)
 clear hxb
 generalize hXS:lesV l=xs at *
 generalize leV e=ev at *
 obtain ⟨c1,hc1⟩:∃ c1,c1=cur.toList.take (i*4+4)++xs.drop (i*4)++cur.toList.drop (i*4+4+(xs.drop (i*4)).length):=⟨_,rfl⟩
 rw [<- hc1] at hA hB hC
 have hdl:(xs.drop (i*4)).length=(l.length - i)*4:=by rw [List.length_drop,hx1];omega
 have hcp1:∀ (ty:TypeId) (dc sc:Nat) (W:World),W.heap[g]? = some (.cells cur 204 (0,0))->(∀ x,W.cell? x=w.cell? x)->(Builtin.copy_ #[126,126] ty #[.slice (some ⟨g,(i+1)*4,none⟩) (l.length - i) dc,.slice (some ⟨g,i*4,none⟩) (l.length+1 - i) sc]).run Tryz.prog W=.ok (goInt ((l.length - i:Nat):Int)) (W.setRow g c1.toArray):=fun ty dc sc W hW hWc=>by
  rw [run_copy_row_k W 126 126 ty 204 g ((i+1)*4) _ dc 4 (l.length - i) ⟨g,i*4,none⟩ _ sc cur 204 (xs.drop (i*4)) Tryz.underE sizE hW (by simp only [Nat.min_def];split <;> omega) hdl (fun j u hj=>by
   rw [Addr.add_lit,hWc]
   rw [List.getElem?_drop] at hj
   exact hsrc _ u hj) (by rw [hdl,hcs];omega) honX,hc1,show (i+1)*4=i*4+4 by omega]
 have hcp2:∀ (ty:TypeId) (dc:Nat) (W:World),W.heap[g]? = some (.cells c1.toArray 204 (0,0))->(∀ j u,ev[j]? = some u->W.cell? ((⟨xb,0,none⟩:Addr).add j)=some u)->(Builtin.copy_ #[126,126] ty #[.slice (some ⟨g,i*4,none⟩) (l.length+1 - i) dc,.slice (some ⟨xb,0,none⟩) 1 1]).run Tryz.prog W=.ok (goInt 1) (W.setRow g (c1.take (i*4)++ev++c1.drop (i*4+ev.length)).toArray):=fun ty dc W hW hWc=>by
  rw [run_copy_row_k W 126 126 ty 204 g (i*4) _ dc 4 1 ⟨xb,0,none⟩ _ 1 c1.toArray 204 ev Tryz.underE sizE hW (by simp only [Nat.min_def];split <;> omega) (by rw [hlen]) hWc (by rw [List.size_toArray,hA,hcl,hlen];omega) hone]
  rfl
 have hcW1:(w.drew.setRow g c1.toArray).heap[g]? = some (.cells c1.toArray 204 (0,0)):=setRow_heap w.drew g cur _ 204 _ hg
 have hcW2:∀ j u,ev[j]? = some u->(w.drew.setRow g c1.toArray).cell? ((⟨xb,0,none⟩:Addr).add j)=some u:=fun j u hj=>by
  rw [World.cell?_of_block (w:=w.drew) (setRow_other w.drew g _ _ (fun h=>hxg (by rw [Addr.add_lit] at h;exact h)))]
  exact hcells j u hj
 have H1:∀ (ty:TypeId) (dc sc:Nat),(Builtin.copy_ #[126,126] ty #[.slice (some ⟨g,(i+1)*4,none⟩) (l.length - i) dc,.slice (some ⟨g,i*4,none⟩) (l.length+1 - i) sc]).run Tryz.prog w.drew=.ok (goInt ((l.length - i:Nat):Int)) (w.drew.setRow g c1.toArray):=fun ty dc sc=>hcp1 ty dc sc w.drew hg (fun _=>rfl)
 have H2:∀ (ty:TypeId) (dc:Nat),(Builtin.copy_ #[126,126] ty #[.slice (some ⟨g,i*4,none⟩) (l.length+1 - i) dc,.slice (some ⟨xb,0,none⟩) 1 1]).run Tryz.prog (w.drew.setRow g c1.toArray)=.ok (goInt 1) ((w.drew.setRow g c1.toArray).setRow g (c1.take (i*4)++ev++c1.drop (i*4+ev.length)).toArray):=fun ty dc=>hcp2 ty dc _ hcW1 hcW2
 have hw1:IntKind.i64.wrap ((i:Int)+1)=(i:Int)+1:=by rw [IntKind.wrap_i64];omega
 have hb2:¬ (cap=i+1):=by omega
 have hb4:¬ (cap=i):=by omega
 have hz2:¬ ((i:Int)=(l.length:Int)):=by omega
 have mixed:Tryz.prog.follows .mixedOrders=true:=by kernel_rfl
 have hb1:(0:Int)<=(i:Int)+1:=by omega
 have hin:i<=l.length:=by omega
 have htn:((i:Int)+1).toNat=i+1:=by omega
 have hb3:(i:Int)<=(l.length:Int)+1:=by omega
 have hb5:(i:Int)<=(l.length:Int):=by omega
 have Hx1:Hid _:=hx1
 have Hlen:Hid _:=hlen
 have Hcl:Hid _:=hcl
 have HB:Hid _:=hB
 have HC:Hid _:=hC
 clear hcp1 hcp2 hc1 hdl hx1 hlen hcl hA hB hC hcs htake hXS
 go_enter Tryz.func199,Tryz.ntmps199
 go_wp2_with (simp only [hov])
 go_region_law_o (refine step_copy_runI rfl _ _ 126 126 rfl _ _ (by simp [Act.eval,Act.put]) (by simp [Act.eval,Act.put]) (H1 _ _ _) ?_)
 go_wp2_with (at_builtin;refine wpList_copy_runI _ rfl _ _ 126 126 rfl _ _ rfl rfl (H2 _ _) ?_)
 go_ret
 refine ⟨rfl,⟨?_,Or.inr ⟨g,cap,_,rfl,hNg,setRow_heap _ g _ _ 204 _ hcW1,hroom,hcm,?_,?_⟩⟩,?_⟩
 ·rw [List.length_append,List.length_append,List.length_take,List.length_drop,Hlen.out,Hx1.out];omega
 ·rw [List.size_toArray,<- List.append_assoc,HB.out,Hcl.out]
 ·have h:=HC.out
  rw [List.append_assoc (c1.take (i*4))] at h
  exact h
 ·exact ⟨rfl,rfl,rfl,by simp,fun k hk hne=>by
   rw [setRow_other _ g k _ (fun h=>hne (by rw [h])),setRow_other _ g k _ (fun h=>hne (by rw [h]))];rfl⟩
end
section
open Go.RowKit Go.Lib
set_option maxHeartbeats 4000000 in
set_option maxRecDepth 100000 in
theorem insert_grow {N xb g cap i:Nat}{l:List LE}{e:LE}(w:World)(hown:w.ownsRow N 204 4 (.slice (some ⟨g,0,none⟩) l.length cap) l.length (lesV l))(hl:l.length<=256)(hi:i<l.length)(hroom:cap<l.length+1)(hN:N<=w.heap.size)(hxb:w.heap[xb]? = some (.cells (leV e).toArray 204 (0,0))) :
  Calls Tryz.prog 199 #[.slice (some ⟨g,0,none⟩) l.length cap,.int .i64 (i:Int),.slice (some ⟨xb,0,none⟩) 1 1] w fun r w'=>∃ G,r=.returned (.slice (some ⟨w.heap.size,0,none⟩) (l.length+1) G)/\w'.ownsRow N 204 4 (.slice (some ⟨w.heap.size,0,none⟩) (l.length+1) G) (l.length+1) ((lesV l).take (i*4)++leV e++(lesV l).drop (i*4))/\Below w.heap.size w w':=by
 obtain ⟨i0,hi0,hz0,hz1,hz2⟩:=info_parts Tryz.infoE
 have hcap:cap=l.length:=by
  rcases hown.2 with ⟨h,_⟩|⟨g',cap',cur,hv,_,_,hnc,_⟩
  ·cases h
  ·cases hv;omega
 subst hcap
 have hx1:=hown.1
 have hcells:=ex_cells hxb
 have hone:∀ u ∈ leV e,u.oneCell'=true:=fun u hu=>lesV_cells [e] u (by rw [lesV_one];exact hu)
 have honX:∀ u ∈ (lesV l).drop (i*4),u.oneCell'=true:=fun u hu=>lesV_cells l u (List.mem_of_mem_drop hu)
 have hlen:(leV e).length=4:=rfl
 have hgw:g<w.heap.size:=(hown.lt g rfl).2
 have hxw:xb<w.heap.size:=(Array.getElem?_eq_some_iff.1 hxb).1
 have hsrc:∀ j u,(lesV l)[j]? = some u->w.cell? ⟨g,j,none⟩=some u:=fun j u hj=>by
  have:=hown.cells (g:=g) rfl j u hj
  rwa [Addr.add_lit,Nat.zero_add] at this
 have hkk:(l.length:Int)+1 - (i:Int)=((l.length+1 - i:Nat):Int):=by omega
 have hik:i+(l.length+1 - i)=l.length+1:=by omega
 have hold:(Builtin.firstCells i0.size i (.slice (some ⟨g,0,none⟩) i l.length)).run Tryz.prog w.drew=.ok ((lesV l).take (i*4)).toArray w.drew:=by
  rw [hz1]
  exact run_firstCells_some w.drew 4 i ⟨g,0,none⟩ i l.length ((lesV l).take (i*4)) (by rw [List.length_take,hx1];omega) (fun j v hj=>by
   rw [Addr.add_lit,Nat.zero_add]
   rw [List.getElem?_take] at hj
   split at hj
   ·exact hsrc j v hj
   ·cases hj)
 obtain ⟨G,hG⟩:∃ G,G=grownCap w (l.length+1) l.length 204:=⟨_,rfl⟩
 obtain ⟨ROW,hROW⟩:∃ ROW:List Value,ROW=(lesV l).take (i*4)++((Builtin.zeroCells (Value.agg #[.int .i64 0,.int .i64 0,.int .i64 0,.int .i64 0]).cells (l.length+1 - i)).toList++(Builtin.zeroCells (Value.agg #[.int .i64 0,.int .i64 0,.int .i64 0,.int .i64 0]).cells (G - (l.length+1))).toList):=⟨_,rfl⟩
 have hrz:∀ ty,(Builtin.append_ #[126,3] ty #[.slice (some ⟨g,0,none⟩) i l.length,.int .i64 ((l.length:Int)+1 - (i:Int))]).run Tryz.prog w=.ok (.slice (some ⟨w.heap.size,0,none⟩) (l.length+1) G) (w.drew.alloc (.cells ROW.toArray 204)):=fun ty=>by
  have h:=Lib.run_append_grow_zeros w 126 3 ty 204 i0 _ .i64 .i64 Tryz.underE law3 hi0 hz0 (some ⟨g,0,none⟩) i l.length ((lesV l).take (i*4)) hold (l.length+1 - i) (by omega) (by omega) (by omega) (by omega) (by rw [hz2];omega) (by rw [hz2,hik];exact growslice_fits hroom (by omega))
  rw [hik,<- hG] at h
  rw [hkk,h,hROW]
  congr 3
  simp
 have hGn:l.length+1<=G:=by rw [hG];exact grownCap_ge w _ _ _
 have hGm:G<=maxLen:=by rw [hG];exact grownCap_le_maxLen w _ _ _ (by unfold maxLen;omega)
 have hG63:G<=9223372036854775807:=by unfold maxLen at hGm;omega
 have hRl:ROW.length=G*4:=by
  rw [hROW]
  simp [Builtin.zeroCells,Value.cells,hx1]
  omega
 have hRt:ROW.take (i*4)=(lesV l).take (i*4):=by
  rw [hROW,List.take_append_of_le_length (by rw [List.length_take,hx1];omega),List.take_take,Nat.min_self]
 obtain ⟨hA,hB,hC⟩:=grow_row (n:=l.length) (i:=i) hRt hx1 hlen hi (by rw [hRl];omega)
 clear hxb hROW hold hkk hik
 generalize lesV l=xs at *
 generalize leV e=ev at *
 obtain ⟨c1,hc1⟩:∃ c1,c1=ROW.take (i*4)++ev++ROW.drop (i*4+ev.length):=⟨_,rfl⟩
 rw [<- hc1] at hA hB hC
 have hdl:(xs.drop (i*4)).length=(l.length - i)*4:=by rw [List.length_drop,hx1];omega
 have hW1:((w.alloc (.cells ROW.toArray 204)).drew).heap[w.heap.size]? = some (.cells ROW.toArray 204 (0,0)):=heap_alloc_new w _
 have hcp1:∀ (ty:TypeId) (dc:Nat) (W:World),W.heap[w.heap.size]? = some (.cells ROW.toArray 204 (0,0))->(∀ j u,ev[j]? = some u->W.cell? ((⟨xb,0,none⟩:Addr).add j)=some u)->(Builtin.copy_ #[126,126] ty #[.slice (some ⟨w.heap.size,i*4,none⟩) (l.length+1 - i) dc,.slice (some ⟨xb,0,none⟩) 1 1]).run Tryz.prog W=.ok (goInt 1) (W.setRow w.heap.size c1.toArray):=fun ty dc W hW hWc=>by
  rw [run_copy_row_k W 126 126 ty 204 w.heap.size (i*4) _ dc 4 1 ⟨xb,0,none⟩ _ 1 ROW.toArray 204 ev Tryz.underE sizE hW (by simp only [Nat.min_def];split <;> omega) (by rw [hlen]) hWc (by rw [List.size_toArray,hRl,hlen];omega) hone,hc1]
  rfl
 obtain ⟨c2,hc2⟩:∃ c2,c2=c1.take (i*4+4)++xs.drop (i*4)++c1.drop (i*4+4+(xs.drop (i*4)).length):=⟨_,rfl⟩
 rw [<- hc2] at hB hC
 have hcp2:∀ (ty:TypeId) (dc sc:Nat) (W:World),W.heap[w.heap.size]? = some (.cells c1.toArray 204 (0,0))->(∀ x:Addr,x.block<w.heap.size->W.cell? x=w.cell? x)->(Builtin.copy_ #[126,126] ty #[.slice (some ⟨w.heap.size,(i+1)*4,none⟩) (l.length - i) dc,.slice (some ⟨g,i*4,none⟩) (l.length - i) sc]).run Tryz.prog W=.ok (goInt ((l.length - i:Nat):Int)) (W.setRow w.heap.size c2.toArray):=fun ty dc sc W hW hWc=>by
  rw [run_copy_row_k W 126 126 ty 204 w.heap.size ((i+1)*4) _ dc 4 (l.length - i) ⟨g,i*4,none⟩ _ sc c1.toArray 204 (xs.drop (i*4)) Tryz.underE sizE hW (by simp only [Nat.min_def];split <;> omega) hdl (fun j u hj=>by
   rw [Addr.add_lit,hWc _ hgw]
   rw [List.getElem?_drop] at hj
   exact hsrc _ u hj) (by rw [hdl,List.size_toArray,hA,hRl];omega) honX,hc2,show (i+1)*4=i*4+4 by omega]
 have hold1:∀ x:Addr,x.block<w.heap.size->((w.alloc (.cells ROW.toArray 204)).drew).cell? x=w.cell? x:=fun x hx=>World.cell?_of_block (w:=w) (Below.heap_alloc w _ _ hx)
 have H1:∀ (ty:TypeId) (dc:Nat),(Builtin.copy_ #[126,126] ty #[.slice (some ⟨w.heap.size,i*4,none⟩) (l.length+1 - i) dc,.slice (some ⟨xb,0,none⟩) 1 1]).run Tryz.prog (w.alloc (.cells ROW.toArray 204)).drew=.ok (goInt 1) ((w.alloc (.cells ROW.toArray 204)).drew.setRow w.heap.size c1.toArray):=fun ty dc=>hcp1 ty dc _ hW1 (fun j u hj=>by
  have:=hcells j u hj
  rw [Addr.add_lit] at this ⊢
  exact (hold1 _ hxw).trans this)
 have hW2:((w.alloc (.cells ROW.toArray 204)).drew.setRow w.heap.size c1.toArray).drew.heap[w.heap.size]? = some (.cells c1.toArray 204 (0,0)):=setRow_heap _ w.heap.size _ _ 204 _ hW1
 have H2:∀ (ty:TypeId) (dc sc:Nat),(Builtin.copy_ #[126,126] ty #[.slice (some ⟨w.heap.size,(i+1)*4,none⟩) (l.length - i) dc,.slice (some ⟨g,i*4,none⟩) (l.length - i) sc]).run Tryz.prog ((w.alloc (.cells ROW.toArray 204)).drew.setRow w.heap.size c1.toArray).drew=.ok (goInt ((l.length - i:Nat):Int)) (((w.alloc (.cells ROW.toArray 204)).drew.setRow w.heap.size c1.toArray).drew.setRow w.heap.size c2.toArray):=fun ty dc sc=>hcp2 ty dc sc _ hW2 (fun x hx=>by
  have h1:((w.alloc (.cells ROW.toArray 204)).drew.setRow w.heap.size c1.toArray).drew.cell? x=(w.alloc (.cells ROW.toArray 204)).drew.cell? x:=World.cell?_of_block (setRow_other _ w.heap.size _ _ (by omega))
  exact h1.trans (hold1 x hx))
 have hw1:IntKind.i64.wrap ((i:Int)+1)=(i:Int)+1:=by rw [IntKind.wrap_i64];omega
 have hb2:¬ (G=i+1):=by omega
 have hb4:¬ (G=i):=by omega
 have hb6:¬ (l.length=i):=by omega
 have hz3:¬ ((i:Int)=(l.length:Int)):=by omega
 have mixed:Tryz.prog.follows .mixedOrders=true:=by kernel_rfl
 have hb1:(0:Int)<=(i:Int)+1:=by omega
 have hin:i<=l.length:=by omega
 have htn:((i:Int)+1).toNat=i+1:=by omega
 have hb3:(i:Int)<=(l.length:Int)+1:=by omega
 have hb5:(i:Int)<=(l.length:Int):=by omega
 have Hx1:Hid _:=hx1
 have Hlen:Hid _:=hlen
 have HRL:Hid _:=hRl
 have HB:Hid _:=hB
 have HC:Hid _:=hC
 have HGM:Hid _:=hGm
 clear hcp1 hcp2 hc1 hc2 hdl hx1 hlen hA hB hC hRl hRt hG hGm
 go_enter Tryz.func199,Tryz.ntmps199
 go_wp2_with (first
  |(at_builtin;refine Lib.wpList_append_run _ rfl _ _ _ _ rfl _ _ rfl rfl _ _ (hrz _) ?_)
  |(at_builtin;refine wpList_copy_runI _ rfl _ _ 126 126 rfl _ _ rfl rfl (H1 _ _) ?_))
 go_region_law_o (refine step_copy_runI rfl _ _ 126 126 rfl _ _ (by simp [Act.eval,Act.put]) (by simp [Act.eval,Act.put]) (H2 _ _ _) ?_)
 go_wp2
 go_ret
 refine ⟨G,rfl,⟨?_,Or.inr ⟨w.heap.size,G,_,rfl,hN,setRow_heap _ w.heap.size _ _ 204 _ hW2,hGn,HGM.out,?_,?_⟩⟩,?_⟩
 ·rw [List.length_append,List.length_append,List.length_take,List.length_drop,Hlen.out,Hx1.out];omega
 ·rw [List.size_toArray,HB.out,HRL.out]
 ·exact HC.out
 ·refine ⟨rfl,rfl,rfl,by simp,fun k hk=>?_⟩
  rw [setRow_other _ w.heap.size k _ (by omega)]
  show ((w.alloc (.cells ROW.toArray 204)).drew.setRow w.heap.size c1.toArray).heap[k]? = _
  rw [setRow_other _ w.heap.size k _ (by omega)]
  exact Below.heap_alloc w _ _ hk
end
section
open Go.RowKit Go.Lib
theorem putF_self {f:Int->Option Value}{a:Int}{v:Value}(h:f a=some v):putF f a v=f:=by
 funext i
 unfold putF
 by_cases e:i=a
 ·rw [if_pos e,e,h]
 ·rw [if_neg e]
section
variable {w w' : World} {N lb vb eb top : Nat} {L : List Nat} {st : LSt} {f : Int → Option Value}
theorem LvAt.upd (V:LvAt w N lb vb eb top L st f){a:Nat}(ha:a ∈ L){v v':Value}{l':List LE}(hv:f (a:Int)=some v)(K:Keep (fun k=>k=eb\/v.ownBlock=some k) w w')(em:MapF Tryz.prog 3 w' eb (putF f (a:Int) v') L.length)(row:w'.ownsRow N 204 4 v' l'.length (lesV l'))(hb:∀ g,v'.ownBlock=some g->v.ownBlock=some g\/w.heap.size<=g) :
  LvAt w' N lb vb eb top L ⟨st.lev,putE st.es a l'⟩ (putF f (a:Int) v')/\∀ g,LvB lb vb eb (putF f (a:Int) v') g->LvB lb vb eb f g\/w.heap.size<=g:=by
 have n1:¬ (lb=eb\/v.ownBlock=some lb):=fun h=>h.elim V.nes.2 (V.off _ _ hv)
 have n2:¬ (vb=eb\/v.ownBlock=some vb):=fun h=>h.elim V.ne (fun h=>by
  obtain ⟨v2,e1,e2⟩:=V.row a ha
  rw [hv] at e1;cases e1
  exact own_map e2 V.lv vb h rfl)
 have hfa:∀ {i:Int},i≠(a:Int)->putF f (a:Int) v' i=f i:=fun h=>putF_other _ _ h
 have hlt:∀ {i u g},f i=some u->u.ownBlock=some g->g<w.heap.size:=fun {i u g} hi hg=>by
  obtain ⟨i1,i2⟩:=V.no i u hi
  obtain ⟨v2,e1,e2⟩:=V.row i.toNat i2
  rw [Int.toNat_of_nonneg i1,hi] at e1;cases e1
  exact (e2.lt g hg).2
 refine ⟨⟨K.cellOf V.c0 n1,K.cellOf V.c1 n1,K.cellOf V.c2 n1,(K.frozen (p:=⟨lb,0,none⟩) V.lts.1 n1).trans V.fz,V.lv.keep K n2,em,fun n hn=>?_,fun i u hi=>?_,fun n m u u' g h1 h2 h3 h4=>?_,fun n u h1 h2=>?_,V.nb,V.ne,V.bd,V.len⟩,fun g hg=>?_⟩
 ·by_cases e:n=a
  ·subst e
   refine ⟨v',putF_same _ _ _,?_⟩
   show w'.ownsRow N 204 4 v' (putE st.es n l' n).length (lesV (putE st.es n l' n))
   rw [putE_at];exact row
  ·obtain ⟨u,e1,e2⟩:=V.row n hn
   have hne:(n:Int)≠(a:Int):=by omega
   refine ⟨u,(hfa hne).trans e1,?_⟩
   show w'.ownsRow N 204 4 u (putE st.es a l' n).length (lesV (putE st.es a l' n))
   rw [putE_off _ e]
   exact own_keep e2 K (fun g hg h=>h.elim (own_map e2 V.em g hg) (fun h=>hne (V.apart _ _ _ _ g e1 hv hg h)))
 ·by_cases e:i=(a:Int)
  ·subst e;exact ⟨by omega,by simpa using ha⟩
  ·rw [hfa e] at hi;exact V.no i u hi
 ·by_cases e1:n=(a:Int)
  ·by_cases e2:m=(a:Int)
   ·rw [e1,e2]
   ·subst e1
    rw [putF_same] at h1;cases h1
    rw [hfa e2] at h2
    rcases hb g h3 with h|h
    ·exact V.apart _ _ _ _ g hv h2 h h4
    ·have:=hlt h2 h4;omega
  ·rw [hfa e1] at h1
   by_cases e2:m=(a:Int)
   ·subst e2
    rw [putF_same] at h2;cases h2
    rcases hb g h4 with h|h
    ·exact V.apart _ _ _ _ g h1 hv h3 h
    ·have:=hlt h1 h3;omega
   ·rw [hfa e2] at h2
    exact V.apart _ _ _ _ g h1 h2 h3 h4
 ·by_cases e:n=(a:Int)
  ·subst e
   rw [putF_same] at h1;cases h1
   rcases hb lb h2 with h|h
   ·exact V.off _ _ hv h
   ·have:=V.lts.1;omega
  ·rw [hfa e] at h1;exact V.off _ _ h1 h2
 ·rcases hg with h|h|h|⟨i,u,h1,h2⟩
  ·exact Or.inl (Or.inl h)
  ·exact Or.inl (Or.inr (Or.inl h))
  ·exact Or.inl (Or.inr (Or.inr (Or.inl h)))
  ·by_cases e:i=(a:Int)
   ·subst e
    rw [putF_same] at h1;cases h1
    rcases hb g h2 with h|h
    ·exact Or.inl (Or.inr (Or.inr (Or.inr ⟨_,v,hv,h⟩)))
    ·exact Or.inr h
   ·rw [hfa e] at h1
    exact Or.inl (Or.inr (Or.inr (Or.inr ⟨i,u,h1,h2⟩)))
end
theorem own_four {w:World}{N g n cap p:Nat}{xs:List Value}{a b c d:Value}(h:w.ownsRow N 204 4 (.slice (some ⟨g,0,none⟩) n cap) n xs) :
  ((((w.setCell ⟨g,p*4,none⟩ a).setCell ⟨g,p*4+1,none⟩ b).setCell ⟨g,p*4+2,none⟩ c).setCell ⟨g,p*4+3,none⟩ d).ownsRow N 204 4 (.slice (some ⟨g,0,none⟩) n cap) n ((((xs.set (p*4) a).set (p*4+1) b).set (p*4+2) c).set (p*4+3) d) :=
 ((((h.stored _ a).1.stored _ b).1.stored _ c).1.stored _ d).1
theorem les_set:∀ (l:List LE) (p:Nat) (x:LE),p<l.length->((((lesV l).set (p*4) (.int .i64 (x.to:Int))).set (p*4+1) (.int .i64 x.s)).set (p*4+2) (.int .i64 x.d)).set (p*4+3) (.int .i64 x.mid)=lesV (l.take p++x::l.drop (p+1))
 |[],_,_,h=>by simp at h
 |y::l,0,x,_=>by
  rw [lesV_cons]
  show _=lesV (x::l)
  rw [lesV_cons]
  rfl
 |y::l,p+1,x,h=>by
  have ih:=les_set l p x (by simpa using h)
  show _=lesV (y::(l.take p++x::l.drop (p+1)))
  rw [lesV_cons y (l.take p++x::l.drop (p+1)),<- ih,lesV_cons y l]
  have key:∀ (q:Nat) (zs:List Value) (u:Value),(leV y++zs).set ((p+1)*4+q) u=leV y++zs.set (p*4+q) u:=fun q zs u=>by
   rw [List.set_append_right _ _ (by show (leV y).length<=_;show 4<=_;omega)]
   congr 2
   show (p+1)*4+q - 4=_
   omega
  have k0:=key 0
  rw [Nat.add_zero,Nat.add_zero] at k0
  rw [k0,key 1,key 2,key 3]
  rfl
theorem insert_any {N xb i:Nat}{v:Value}{l:List LE}{e:LE}(w:World)(hown:w.ownsRow N 204 4 v l.length (lesV l))(hl:l.length<=256)(hi:i<=l.length)(hN:N<=w.heap.size)(hxv:v.ownBlock≠some xb)(hxb:w.heap[xb]? = some (.cells (leV e).toArray 204 (0,0))) :
  Calls Tryz.prog 199 #[v,.int .i64 (i:Int),.slice (some ⟨xb,0,none⟩) 1 1] w fun r w'=>∃ v',r=.returned v'/\w'.ownsRow N 204 4 v' (l.length+1) (lesV (l.take i++e::l.drop i))/\w.grownBy w' v.ownBlock/\∀ g,v'.ownBlock=some g->v.ownBlock=some g\/w.heap.size<=g:=by
 rw [lesV_ins]
 by_cases he:i=l.length
 ·subst he
  refine (insert_end w hown hl hN hxb).mono ?_
  rintro r w' ⟨v',rfl,h1,h2,h3⟩
  refine ⟨v',rfl,?_,h2,fun g hg=>?_⟩
  ·rw [List.take_of_length_le (by rw [lesV_len];omega),List.drop_of_length_le (by rw [lesV_len];omega),List.append_nil]
   exact h1
  ·rcases h3 with h|h
   ·exact Or.inl (by rw [<- h];exact hg)
   ·rw [h] at hg;cases hg;exact Or.inr (Nat.le_refl _)
 ·rcases hown.2 with ⟨_,h0⟩|⟨g,cap,cur,rfl,_⟩
  ·omega
  ·by_cases hroom:l.length+1<=cap
   ·refine (insert_shift w hown hl (by omega) hroom (fun h=>hxv (by rw [h];rfl)) hxb).mono ?_
    rintro r w' ⟨rfl,h1,h2⟩
    exact ⟨_,rfl,h1,h2,fun g hg=>Or.inl hg⟩
   ·refine (insert_grow w hown hl (by omega) (by omega) hN hxb).mono ?_
    rintro r w' ⟨G,rfl,h1,h2⟩
    exact ⟨_,rfl,h1,⟨h2.os,h2.tape,h2.output,h2.size,fun k hk _=>h2.block k hk⟩,fun g hg=>by
     cases hg;exact Or.inr (Nat.le_refl _)⟩
set_option maxHeartbeats 4000000 in
set_option maxRecDepth 1000000 in
theorem put_edge {N lb vb eb top a:Nat}{L:List Nat}{st:LSt}{f:Int->Option Value}(w:World)(V:LvAt w N lb vb eb top L st f)(ha:a ∈ L)(hR:Rsg (st.es a))(hl:(st.es a).length<=256)(x:LE) :
  Calls Tryz.prog 164 #[.pointer (some ⟨lb,0,none⟩),.int .i64 (a:Int),.agg #[.int .i64 (x.to:Int),.int .i64 x.s,.int .i64 x.d,.int .i64 x.mid]] w fun r w'=>r=.returned (.tuple #[])/\(∃ f',LvAt w' N lb vb eb top L ⟨st.lev,putE st.es a (layF x (st.es a))⟩ f'/\∀ g,LvB lb vb eb f' g->LvB lb vb eb f g\/w.heap.size<=g)/\Keep (LvB lb vb eb f) w w':=by
 have haL:=V.bd a ha
 have hwa:=wf_small (a:=(a:Int)) (by omega) (by omega)
 have hNw:N<=w.heap.size:=by have:=V.nb.1;have:=V.lts.1;omega
 obtain ⟨v,hfv,hown⟩:=V.row a ha
 obtain ⟨A,cap,rfl,row,hA⟩:=rowL_of hown
 have b0:Below w.heap.size w (w.alloc (.cells #[.int .i64 (x.to:Int),.int .i64 x.s,.int .i64 x.d,.int .i64 x.mid] 204)):=(Below.refl _ _).alloc (Nat.le_refl _) _
 have V0:=V.below b0
 have c2:=V0.c2
 have hlk:(Instr.lookup 123 (.map (some eb)) (.int .i64 (a:Int)) false).run Tryz.prog (w.alloc (.cells #[.int .i64 (x.to:Int),.int .i64 x.s,.int .i64 x.d,.int .i64 x.mid] 204))=.ok (.slice A (st.es a).length cap) (w.alloc (.cells #[.int .i64 (x.to:Int),.int .i64 x.s,.int .i64 x.d,.int .i64 x.mid] 204)):=V0.em.look_some law3 Tryz.underM (zeroM _) hwa hfv false
 have hpl:=place_any (cap:=cap) (t:=x.to) (w.alloc (.cells #[.int .i64 (x.to:Int),.int .i64 x.s,.int .i64 x.d,.int .i64 x.mid] 204)) (row.below b0) hl hR
 have y0:(w.alloc (.cells #[.int .i64 (x.to:Int),.int .i64 x.s,.int .i64 x.d,.int .i64 x.mid] 204)).cell? ⟨w.heap.size,0,none⟩=some (.int .i64 (x.to:Int)):=World.cell?_alloc_at _ _ _ 0 rfl
 have y1:(w.alloc (.cells #[.int .i64 (x.to:Int),.int .i64 x.s,.int .i64 x.d,.int .i64 x.mid] 204)).cell? ⟨w.heap.size,1,none⟩=some (.int .i64 x.s):=World.cell?_alloc_at _ _ _ 1 rfl
 have y2:(w.alloc (.cells #[.int .i64 (x.to:Int),.int .i64 x.s,.int .i64 x.d,.int .i64 x.mid] 204)).cell? ⟨w.heap.size,2,none⟩=some (.int .i64 x.d):=World.cell?_alloc_at _ _ _ 2 rfl
 have y3:(w.alloc (.cells #[.int .i64 (x.to:Int),.int .i64 x.s,.int .i64 x.d,.int .i64 x.mid] 204)).cell? ⟨w.heap.size,3,none⟩=some (.int .i64 x.mid):=World.cell?_alloc_at _ _ _ 3 rfl
 have hlay:=layF_at x hR
 have hple:=posL_le (st.es a) x.to
 have hhas:hasL (st.es a) x.to=true->posL (st.es a) x.to<(st.es a).length:=fun h=>by
  unfold hasL at h
  cases he:(st.es a)[posL (st.es a) x.to]? with
  |none=>rw [he] at h;cases h
  |some e=>exact (List.getElem?_eq_some_iff.1 he).1
 have own0:=own_below hown b0
 generalize hasL (st.es a) x.to=hs at *
 generalize posL (st.es a) x.to=ps at *
 have HLY:Hid (layF x (st.es a)=(st.es a).take ps++x::(st.es a).drop (ps+if hs then 1 else 0)):=hlay
 have HEV:Hid (leV x=[.int .i64 (x.to:Int),.int .i64 x.s,.int .i64 x.d,.int .i64 x.mid]):=rfl
 have HSET:=les_set (st.es a) ps x
 rw [show (x.to:Int)=(x.to:Int) from rfl] at HSET
 have HSET:Hid (ps<(st.es a).length->_):=HSET
 clear hlay hown
 generalize hxt:(x.to:Int)=xt at *
 generalize hxs:x.s=xs at *
 generalize hxd:x.d=xd at *
 generalize hxm:x.mid=xm at *
 clear hxt hxs hxd hxm
 generalize hll:(st.es a).length=len at *
 have HLL:Hid ((st.es a).length=len):=hll
 clear hll
 go_enter Tryz.func164,Tryz.ntmps164
 go_wp2_with fail
 generalize hw0:w.alloc (.cells #[.int .i64 xt,.int .i64 xs,.int .i64 xd,.int .i64 xm] 204)=w0 at *
 refine hpl.mono ?_
 rintro r w1 ⟨rfl,hb1⟩
 have b1:=b0.trans (hb1.mono b0.size)
 have own1:=own_below own0 hb1
 have V1:=V0.below hb1
 have z0:=(hb1.cell (World.block_lt_of_cell? _ _ y0)).trans y0
 have z1:=(hb1.cell (World.block_lt_of_cell? _ _ y1)).trans y1
 have z2:=(hb1.cell (World.block_lt_of_cell? _ _ y2)).trans y2
 have z3:=(hb1.cell (World.block_lt_of_cell? _ _ y3)).trans y3
 have c21:=V1.c2
 have hX1:w.heap.size<w1.heap.size:=World.block_lt_of_cell? _ _ z0
 clear hpl hb1 own0 V0 y0 y1 y2 y3 b0 c2 hlk
 cases hs with
 |true =>
  have hlt:=hhas rfl
  obtain ⟨g,rfl,hgN,hgw⟩:∃ g,A=some ⟨g,0,none⟩/\N<=g/\g<w.heap.size:=by
   rcases hA with ⟨_,h⟩|⟨g,h1,_,h2,h3⟩
   ·have:=HLL.out;rw [h] at this;simp at this;omega
   ·exact ⟨g,h1,h2,h3⟩
  have hlt':(ps:Int)<(len:Int):=by omega
  have q:∀ j,j<4->∃ u,w1.cell? ⟨g,ps*4+j,none⟩=some u:=fun j hj=>by
   have h1:=own1.cellAt (ps*4+j) (by omega)
   have h2:ps*4+j<(lesV (st.es a)).length:=by rw [lesV_len,HLL.out];omega
   rw [List.getElem?_eq_getElem h2] at h1
   exact ⟨_,h1⟩
  obtain ⟨u0,q0⟩:=q 0 (by omega)
  obtain ⟨u1,q1⟩:=q 1 (by omega)
  obtain ⟨u2,q2⟩:=q 2 (by omega)
  obtain ⟨u3,q3⟩:=q 3 (by omega)
  rw [Nat.add_zero] at q0
  have f0:=own1.frozenAt (ps*4)
  have f1:=own1.frozenAt (ps*4+1)
  have f2:=own1.frozenAt (ps*4+2)
  have f3:=own1.frozenAt (ps*4+3)
  clear q
  go_wp2
  have K4:Keep (fun k=>k=eb\/(Value.slice (some ⟨g,0,none⟩) len cap).ownBlock=some k) w1 ((((w1.setCell ⟨g,ps*4,none⟩ (.int .i64 xt)).setCell ⟨g,ps*4+1,none⟩ (.int .i64 xs)).setCell ⟨g,ps*4+2,none⟩ (.int .i64 xd)).setCell ⟨g,ps*4+3,none⟩ (.int .i64 xm)) :=
   ((((Keep.refl (fun k=>k=eb\/(Value.slice (some ⟨g,0,none⟩) len cap).ownBlock=some k) w1).setCell (p:=⟨g,ps*4,none⟩) (fun _=>Or.inr rfl) _).setCell (p:=⟨g,ps*4+1,none⟩) (fun _=>Or.inr rfl) _).setCell (p:=⟨g,ps*4+2,none⟩) (fun _=>Or.inr rfl) _).setCell (p:=⟨g,ps*4+3,none⟩) (fun _=>Or.inr rfl) _
  have K5:Keep (fun k=>k=g) w1 ((((w1.setCell ⟨g,ps*4,none⟩ (.int .i64 xt)).setCell ⟨g,ps*4+1,none⟩ (.int .i64 xs)).setCell ⟨g,ps*4+2,none⟩ (.int .i64 xd)).setCell ⟨g,ps*4+3,none⟩ (.int .i64 xm)) :=
   ((((Keep.refl (fun k=>k=g) w1).setCell (p:=⟨g,ps*4,none⟩) (fun _=>rfl) _).setCell (p:=⟨g,ps*4+1,none⟩) (fun _=>rfl) _).setCell (p:=⟨g,ps*4+2,none⟩) (fun _=>rfl) _).setCell (p:=⟨g,ps*4+3,none⟩) (fun _=>rfl) _
  have O4:=own_four (p:=ps) (a:=.int .i64 xt) (b:=.int .i64 xs) (c:=.int .i64 xd) (d:=.int .i64 xm) own1
  rw [HSET.out hlt] at O4
  have e1:layF x (st.es a)=(st.es a).take ps++x::(st.es a).drop (ps+1):=HLY.out
  have e2:((st.es a).take ps++x::(st.es a).drop (ps+1)).length=len:=by
   have:=HLL.out
   rw [List.length_append,List.length_cons,List.length_take,List.length_drop]
   omega
  have hup:=V1.upd (l':=(st.es a).take ps++x::(st.es a).drop (ps+1)) ha hfv K4 (by rw [putF_self hfv];exact V1.em.keep K5 (fun e=>own_map own1 V1.em g rfl e.symm)) (by rw [e2];exact O4) (fun g hg=>Or.inl hg)
  refine bodyPost_ret (v:=.tuple #[]) (by simp [results,Tryz.results164,go_sem]) rfl ⟨rfl,⟨_,by rw [e1];exact hup.1,fun g' hg'=>?_⟩,?_⟩
  ·rcases hup.2 g' hg' with h|h
   ·exact Or.inl h
   ·exact Or.inr (by omega)
  ·refine (Keep.of_below b1).trans K4 (fun k _ h=>?_)
   rcases h with h|h
   ·exact Or.inr (Or.inr (Or.inl h))
   ·exact Or.inr (Or.inr (Or.inr ⟨_,_,hfv,h⟩))
 |false =>
  have e1:layF x (st.es a)=(st.es a).take ps++x::(st.es a).drop ps:=HLY.out
  have e2:((st.es a).take ps++x::(st.es a).drop ps).length=len+1:=by
   have:=HLL.out
   rw [List.length_append,List.length_cons,List.length_take,List.length_drop]
   omega
  have HE1:Hid _:=e1
  have HE2:Hid _:=e2
  have bD:Below w1.heap.size w1 w1.drew:=(Below.refl _ _).drew
  have bI:Below w1.heap.size w1 (w1.drew.alloc (.cells #[.int .i64 xt,.int .i64 xs,.int .i64 xd,.int .i64 xm] 204)):=bD.alloc bD.size _
  have ownI:=own_below own1 bI
  have hxI:(w1.drew.alloc (.cells #[.int .i64 xt,.int .i64 xs,.int .i64 xd,.int .i64 xm] 204)).heap[w1.heap.size]? = some (.cells (leV x).toArray 204 (0,0)):=by
   rw [HEV.out]
   exact heap_alloc_new w1.drew _
  have hvb:∀ q,(Value.slice A len cap).ownBlock=some q->q<w.heap.size:=fun q hq=>by
   rcases hA with ⟨h,_⟩|⟨g,h1,_,_,h3⟩
   ·rw [h] at hq;cases hq
   ·rw [h1] at hq;cases hq;exact h3
  have hins:=insert_any (N:=N) (xb:=w1.heap.size) (i:=ps) (v:=.slice A len cap) (l:=st.es a) (e:=x) (w1.drew.alloc (.cells #[.int .i64 xt,.int .i64 xs,.int .i64 xd,.int .i64 xm] 204)) (by rw [HLL.out];exact ownI) (by rw [HLL.out];exact hl) (by rw [HLL.out];exact hple) (by have:=bI.size;omega) (fun h=>by have:=hvb _ h;omega) hxI
  have r0:w1.drew.cell? ⟨w.heap.size,0,none⟩=some (.int .i64 xt):=z0
  have r1:w1.drew.cell? ⟨w.heap.size,1,none⟩=some (.int .i64 xs):=z1
  have r2:w1.drew.cell? ⟨w.heap.size,2,none⟩=some (.int .i64 xd):=z2
  have r3:w1.drew.cell? ⟨w.heap.size,3,none⟩=some (.int .i64 xm):=z3
  have r4:w1.drew.cell? ⟨lb,2,none⟩=some (.map (some eb)):=c21
  have i0:=Lib.cell?_alloc_some (.cells #[.int .i64 xt,.int .i64 xs,.int .i64 xd,.int .i64 xm] 204) r0
  have i1:=Lib.cell?_alloc_some (.cells #[.int .i64 xt,.int .i64 xs,.int .i64 xd,.int .i64 xm] 204) r1
  have i2:=Lib.cell?_alloc_some (.cells #[.int .i64 xt,.int .i64 xs,.int .i64 xd,.int .i64 xm] 204) r2
  have i3:=Lib.cell?_alloc_some (.cells #[.int .i64 xt,.int .i64 xs,.int .i64 xd,.int .i64 xm] 204) r3
  have i4:=Lib.cell?_alloc_some (.cells #[.int .i64 xt,.int .i64 xs,.int .i64 xd,.int .i64 xm] 204) r4
  have VI:=V1.below bI
  have hXne:¬ (Value.slice A len cap).ownBlock=some w.heap.size:=fun h=>by have:=hvb _ h;omega
  have hLne:¬ (Value.slice A len cap).ownBlock=some lb:=V1.off _ _ hfv
  have hEne:¬ (Value.slice A len cap).ownBlock=some eb:=fun h=>own_map own1 V1.em eb h rfl
  have hXe:w.heap.size≠eb:=by have:=V.lts.2.2;omega
  have hLe:=V1.nes.2
  clear hA e1 e2 HSET z0 z1 z2 z3 c21 hxI
  go_wp2_with fail
  go_region_held3 (fun w'=>w'.cell? ⟨w.heap.size,0,none⟩=some (.int .i64 xt)/\w'.cell? ⟨w.heap.size,1,none⟩=some (.int .i64 xs)/\w'.cell? ⟨w.heap.size,2,none⟩=some (.int .i64 xd)/\w'.cell? ⟨w.heap.size,3,none⟩=some (.int .i64 xm)/\w'.cell? ⟨lb,2,none⟩=some (.map (some eb))) (first|(exact ⟨r0,r1,r2,r3,r4⟩)|(exact ⟨i0,i1,i2,i3,i4⟩)|(exact ⟨j0,j1,j2,j3,j4⟩)|(exact ⟨k0,k1,k2,k3,k4⟩))
   (first|(go_at_call 199;refine hins.mono ?_;rintro r w3 ⟨v',rfl,hown3,hg3,hat3⟩;have K3:Keep (fun k=>(Value.slice A len cap).ownBlock=some k) _ w3:=(Keep.refl _ _).grown hg3 (fun k hk _=>hk);have j0:=K3.cellOf i0 hXne;have j1:=K3.cellOf i1 hXne;have j2:=K3.cellOf i2 hXne;have j3:=K3.cellOf i3 hXne;have j4:=K3.cellOf i4 hLne;obtain ⟨w4,hrun4,hm4,ht4⟩:=(VI.em.keep K3 hEne).store law3 Tryz.underM (by have:=V1.len;unfold maxLen;omega) hwa v';have k0:=(turned_keep ht4).cellOf j0 hXe;have k1:=(turned_keep ht4).cellOf j1 hXe;have k2:=(turned_keep ht4).cellOf j2 hXe;have k3:=(turned_keep ht4).cellOf j3 hXe;have k4:=(turned_keep ht4).cellOf j4 hLe))
  have M3:=VI.em.keep K3 hEne
  have K4:Keep (fun k=>k=eb\/(Value.slice A len cap).ownBlock=some k) w1 w4:=((Keep.of_below bI).trans K3 (fun _ _ h=>Or.inr h)).trans (turned_keep ht4) (fun _ _ h=>Or.inl h)
  have R4:w4.ownsRow N 204 4 v' ((st.es a).take ps++x::(st.es a).drop ps).length (lesV ((st.es a).take ps++x::(st.es a).drop ps)):=by
   rw [HE2.out,<- HLL.out]
   exact own_keep hown3 (turned_keep ht4) (own_map hown3 M3)
  have E4:MapF Tryz.prog 3 w4 eb (putF f (a:Int) v') L.length:=by
   rw [hfv] at hm4
   exact hm4
  have HUP:Hid _:=V1.upd ha hfv K4 E4 R4 (fun g hg=>by
   rcases hat3 g hg with h|h
   ·exact Or.inl h
   ·exact Or.inr (by simp at h;omega))
  have HK:Hid (Keep (LvB lb vb eb f) w w4):=(Keep.of_below b1).trans K4 (fun k _ h=>by
   rcases h with h|h
   ·exact Or.inr (Or.inr (Or.inl h))
   ·exact Or.inr (Or.inr (Or.inr ⟨_,_,hfv,h⟩)))
  clear hins hown3 hg3 hat3 K3 M3 hm4 ht4 hrun4 K4 R4 E4
  go_end0
  refine ⟨rfl,⟨_,by rw [HE1.out];exact HUP.out.1,fun g' hg'=>?_⟩,HK.out⟩
  rcases HUP.out.2 g' hg' with h|h
  ·exact Or.inl h
  ·exact Or.inr (by omega)
end
section
open Go.RowKit Go.Maps Go.Sort Go.Shelf
def openL (L:List Nat) (st:LSt):List Nat:=L.filter (fun n=>st.lev n == 0)
theorem sort_some {base:Nat}{v:Value}{L l:List Nat}(w:World)(h:w.ownsRow base 3 1 v L.length (vals L))(hl:l.length=L.length)(hs:(intsN L).mergeSort (fun x y=>decide (x<=y))=intsN l)(hlen:L.length<=256) :
  Calls Tryz.prog 142 #[v] w fun e w'=>e=.returned (.tuple #[])/\w'.ownsRow base 3 1 v l.length (vals l)/\w.grownBy w' v.ownBlock:=by
 by_cases hne:L=[]
 ·subst hne
  have e:l=[]:=List.length_eq_zero_iff.1 hl
  subst e
  obtain ⟨A,cap,rfl⟩:∃ A cap,v=.slice A 0 cap:=by
   rcases h.2 with ⟨rfl,_⟩|⟨g,cap,cur,rfl,_⟩
   ·exact ⟨_,_,rfl⟩
   ·exact ⟨_,_,rfl⟩
  refine (AnyM.slices_Sort_int_none Tryz.sortA A cap w).mono ?_
  rintro e w' ⟨rfl,rfl⟩
  exact ⟨rfl,h,⟨rfl,rfl,rfl,Nat.le_refl _,fun _ _ _=>rfl⟩⟩
 ·exact sort_row w h hne hl hs hlen
set_option maxHeartbeats 4000000 in
set_option maxRecDepth 1000000 in
theorem opens_any {N lb vb eb top:Nat}{L:List Nat}{st:LSt}{f:Int->Option Value}(w:World)(V:LvAt w N lb vb eb top L st f)(hr:L.Pairwise (·<·)) :
  Calls Tryz.prog 122 #[.pointer (some ⟨lb,0,none⟩)] w fun e w'=>∃ v,e=.returned v/\w'.ownsRow w.heap.size 3 1 v (openL L st).length (vals (openL L st))/\Below w.heap.size w w':=by
 obtain ⟨i0,hi,hz0,hz1,hz2⟩:=info_parts Tryz.info3
 have c1:=V.c1
 have HOR:Hid ((openL L st).Pairwise (·<·)):=hr.filter _
 have HOM:Hid (∀ n,n ∈ openL L st↔n ∈ L/\st.lev n=0):=fun n=>by
  unfold openL
  rw [List.mem_filter]
  simp
 have HLV:Hid (∀ (x:Int) (v:Value),lvF L st.lev x=some v->∃ n:Nat,x=(n:Int)/\n ∈ L/\v=.int .i64 (st.lev n:Int)):=fun x v h=>by
  unfold lvF at h
  by_cases hx:0<=x/\x.toNat ∈ L
  ·rw [if_pos hx] at h
   exact ⟨x.toNat,by omega,hx.2,(Option.some.inj h).symm⟩
  ·rw [if_neg hx] at h;cases h
 have HIS:Hid (∀ n:Nat,(lvF L st.lev (n:Int)).isSome=true↔n ∈ L):=fun n=>by
  unfold lvF
  by_cases hx:(0:Int)<=(n:Int)/\(n:Int).toNat ∈ L
  ·rw [if_pos hx];exact ⟨fun _=>by simpa using hx.2,fun _=>rfl⟩
  ·rw [if_neg hx];exact ⟨fun h=>(by cases h),fun h=>absurd ⟨by omega,by simpa using h⟩ hx⟩
 have hlen:=V.len
 have hvl:=V.lts.2.1
 have lvm:=V.lv
 have HBD:Hid (∀ n ∈ L,n<256):=V.bd
 clear V hr
 go_enter Tryz.func122,Tryz.ntmps122
 go_wp2_with (first|(at_range;refine wpList_rangeF rfl _ 129 rfl 3 3 law3 Tryz.underV vb _ _ rfl lvm ?_;intro w3 hrg3 hg3 hs3)|go_in)
 have B3:Below w.heap.size w w3:=(Below.refl _ _).grown hg3 (Nat.le_refl _) (by simp)
 have hvr:vb≠w.heap.size:=by omega
 clear hg3 lvm
 go_frame
 go_loopg [3] L.length (fun gj ov wq=>∃ (left:Int->Bool) (cnt:Nat) (L':List Nat),gj=cnt/\RngF Tryz.prog 3 wq vb w.heap.size (lvF L st.lev) L.length left cnt/\wq.ownsRow w.heap.size 3 1 ov L'.length (vals L')/\Hid L'.Nodup/\Hid (∀ n:Nat,n ∈ L'↔(n ∈ L/\left n=false)/\st.lev n=0)/\Below w.heap.size w wq/\w.heap.size<wq.heap.size)
 case atStart =>
  refine ⟨_,_,[],rfl,hrg3,World.ownsRow_nil _ _ _ _,List.nodup_nil,fun n=>⟨fun h=>(by cases h),?_⟩,B3,by omega⟩
  rintro ⟨⟨h1,h2⟩,_⟩
  have:=(HIS.out n).2 h1
  rw [h2] at this;cases this
 case round =>
  clear hrg3 B3
  obtain ⟨left,cnt,L',hgj,hrg,hown,hnd,hLq,hBw,hrq⟩:=hrel
  have hbq:=hBw.size
  have hLL':L'.length<=256:=nodup_len 256 hnd.out (fun n hn=>HBD.out n ((hLq.out n).1 hn).1.1)
  go_wp2_with (first|(at_next;refine wpList_nextF rfl _ rfl 3 law3 vb w.heap.size _ _ _ _ rfl hrg ?_ ?_)|go_in)
  ·intro hc0 hl0
   obtain ⟨l,l1,l2,l3,l4⟩:=srt_ex L' hnd.out
   have el:l=openL L st:=rise_eq l1 HOR.out (fun n=>by
    rw [l2 n,hLq.out n,HOM.out n]
    exact ⟨fun h=>⟨h.1.1,h.2⟩,fun h=>⟨⟨h.1,hl0 n⟩,h.2⟩⟩)
   have hso:=sort_some wr hown l3 l4 hLL'
   rw [el] at hso
   have hbase:=fun q hq=>(hown.lt q hq).1
   clear hrg hown hnd hLq l1 l2 l3 l4 el hl0
   go_wp2_with fail
   refine hso.mono ?_
   rintro e w5 ⟨rfl,hown5,hg5⟩
   have B5:Below w.heap.size w w5:=hBw.grown hg5 hbq hbase
   clear hso hg5 hbase hBw
   go_wp2
   go_ret
   exact ⟨_,rfl,hown5,B5⟩
  ·intro x v w4 cnt1 hwx hlx hfx hrg1 hlt hg1 hs1 hen
   obtain ⟨n,hxn,hnL,rfl⟩:=HLV.out x v hfx
   subst hxn
   have hown4:=own_grown hown hg1 (own_rng hown hrg)
   have B4:Below w.heap.size w w4:=hBw.grown hg1 hbq (fun k e=>by cases e;omega)
   have hr4:w.heap.size<w4.heap.size:=by omega
   clear hs1
   by_cases h0:st.lev n=0
   ·have h0':((st.lev n:Nat):Int)=0:=by omega
    clear hrg hBw hown hg1
    have hz5:=B4.size
    go_wp2_with (at_builtin;refine wpList_append_own _ rfl _ _ 51 rfl w.heap.size 3 i0 (.int .i64 0) 1 8 Tryz.underlying51 hi hz0 hz1 hz2 rfl (by decide) _ _ _ rfl (hown4.alloc _) ⟨w4.heap.size,0,none⟩ 1 1 [.int .i64 (n:Int)] rfl rfl ?c1 ?c2 ?c3 ?c4 ?c5 ?_)
    case c1 =>
     intro j u hj
     match j,hj with
     |0,hj =>
      simp at hj;subst hj;simp only [Addr.add]
      exact World.cell?_alloc_at (w:=w4) #[.int .i64 (n:Int)] 3 w4.heap.size 0 rfl
    case c2=>intro u hu;simp at hu;subst hu;rfl
    case c3=>unfold maxLen;omega
    case c4=>omega
    case c5=>simp;omega
    intro v' w6 hown' hgrow _
    have hbase:=fun q hq=>(hown4.lt q hq).1
    have B6:Below w.heap.size w w6:=(B4.alloc hz5 _).grown hgrow (by simp;omega) hbase
    have O6:w6.ownsRow w.heap.size 3 1 v' (L'++[n]).length (vals (L'++[n])):=by
     simpa [vals] using hown'
    have K6:Keep (fun k=>u3.ownBlock=some k) w4 w6:=((Keep.refl _ _).alloc _).grown hgrow (fun k hk _=>hk)
    have hrg6:=hrg1.keep K6 (fun h=>own_map hown4 hrg1.map _ h rfl) (fun h=>own_rng hown4 hrg1 _ h rfl)
    have hr6:w.heap.size<w6.heap.size:=Nat.lt_of_lt_of_le hr4 K6.size
    have HN:Hid (L'++[n]).Nodup:=by
     have hnm:n ∉ L':=fun hm=>by
      have:=((hLq.out n).1 hm).1.2
      rw [hlx] at this;cases this
     unfold Hid List.Nodup
     rw [List.pairwise_append]
     exact ⟨hnd.out,List.pairwise_singleton _ _,fun p hp q hq e=>by
      rw [List.mem_singleton] at hq
      rw [e,hq] at hp
      exact hnm hp⟩
    have HMM:Hid (∀ m:Nat,m ∈ L'++[n]↔(m ∈ L/\(left m&&!decide ((m:Int)=(n:Int)))=false)/\st.lev m=0):=fun m=>by
     rw [List.mem_append,List.mem_singleton,hLq.out m]
     by_cases e:m=n
     ·subst e
      simp [hnL,h0]
     ·have e':¬ (m:Int)=(n:Int):=by omega
      simp [e,e']
    clear hown' hgrow hown4 B4 K6 hrg1 hnd hLq
    go_wp2
    go_roundg cnt1
    case measure=>omega
    case rel=>exact ⟨_,cnt1,L'++[n],rfl,hrg6,O6,HN.out,HMM.out,B6,hr6⟩
   ·have h0':¬ ((st.lev n:Nat):Int)=0:=by omega
    have HMM:Hid (∀ m:Nat,m ∈ L'↔(m ∈ L/\(left m&&!decide ((m:Int)=(n:Int)))=false)/\st.lev m=0):=fun m=>by
     rw [hLq.out m]
     by_cases e:m=n
     ·subst e
      simp [h0]
     ·have e':¬ (m:Int)=(n:Int):=by omega
      simp [e']
    clear hrg hBw hown hg1 hLq
    go_wp2
    go_roundg cnt1
    case measure=>omega
    case rel=>exact ⟨_,cnt1,L',rfl,hrg1,hown4,hnd.out,HMM.out,B4,hr4⟩
end
section
open Go.RowKit Go.Maps Go.ChangeMaps Go.MapKept
theorem block_set (w:World)(b:Nat)(o:Obj)(k:Nat)(h:k≠b):(setBlock w b o).heap[k]? = w.heap[k]? := by
 unfold setBlock
 show (w.heap.setIfInBounds b o)[k]? = _
 rw [Array.getElem?_setIfInBounds_ne (by omega)]
theorem keep_set (w:World)(b:Nat)(o:Obj):Keep (fun k=>k=b) w (setBlock w b o) :=
 ⟨rfl,rfl,rfl,by unfold setBlock;simp,fun k _ h=>block_set w b o k h⟩
theorem MapF.entry {P:Program}{k e t:TypeId}{w:World}{b n:Nat}{f:Int->Option Value}(h:MapF P k w b f n)(hk:P.underlying k=some (.int .i64))(ht:P.underlying t=some (.map k e)){z:Value}(hz:(zeroValue e).run P w=.ok z w)(hn:n<maxLen){a:Int}(ha:(Lit.int .i64 a).wf=true)(hf:(f a).isSome=true)(val:Value) :
  ∃ (v0:Value) (st:Nat) (w1 w2:World),(Instr.mapEntry t (.map (some b)) (.int .i64 a)).run P w=.ok (.tuple #[v0,goInt st]) w1/\Keep (fun k=>k=b) w w1/\(Instr.entryStore t (.map (some b)) (goInt st) val).run P w1=.ok () w2/\MapF P k w2 b (putF f a val) n/\Keep (fun k=>k=b) w w2:=by
 obtain ⟨w',hrun,hm,_⟩:=h.store hk ht hn ha val
 rw [hf] at hm
 have K:=int_keyed hk
 have hkey:=key_of hk ha
 obtain ⟨D,⟨es,clock,hb,F,h5,h6⟩,h7,h8⟩:=h
 have hbl:b<w.heap.size:=(Array.getElem?_eq_some_iff.1 hb).1
 obtain ⟨s1,s2,_⟩:=F.stamped
 rcases K.find w hkey es.toList F.keys with ⟨h1,h2⟩|⟨j,e0,h1,h2,h3⟩
 ·exfalso
  obtain ⟨v,hv⟩:=Option.isSome_iff_exists.1 hf
  have hl:=MapF.look_some ⟨D,⟨es,clock,hb,F,h5,h6⟩,h7,h8⟩ hk ht hz ha hv true
  simp [Instr.lookup,run_underlying ht,MapKept.run_getObj_map hb,K.check w es.isEmpty hkey,h1,hz,Result.andThen] at hl
 ·have hj:es[j]? = some e0:=by simpa using h2
  have hidx:es.findIdx? (fun e=>((e.born:Nat):Int) == ((e0.born:Nat):Int))=some j:=by
   rw [WideElems.findIdx_arr]
   exact WideElems.findIdx_born s2 h2
  have hsame:es.modify j (fun e=>{ e with key:=.int .i64 a })=es:=by
   apply Array.ext'
   rw [Array.toList_modify,modify_eq_set _ _ _ _ h2]
   have:({ e0 with key:=.int .i64 a }:MapEntry)=e0:=by rw [<- h3]
   rw [this]
   exact WideElems.set_self _ _ _ h2
  have hmod:es.modify j (fun e=>{ e with val:=val })=es.modify j (fun e'=>{ e' with key:=.int .i64 a,val:=val }):=by
   apply Array.ext'
   rw [Array.toList_modify,Array.toList_modify,modify_eq_set _ _ _ _ h2,modify_eq_set _ _ _ _ h2,<- h3]
  have hu:(Instr.mapUpdate t (.map (some b)) (.int .i64 a) val).run P w=.ok () (setBlock w b (.map (es.modify j (fun e'=>{ e' with key:=.int .i64 a,val:=val })) clock)):=by
   simp [Instr.mapUpdate,run_underlying ht,MapKept.run_getObj_map hb,K.check w false hkey,h1,hj,h3,K.stays w hkey,MapKept.run_setObj_map _ hb,Result.andThen,setBlock]
  rw [hrun] at hu
  cases hu
  have hb1:(setBlock w b (.map es clock)).heap[b]? = some (.map es clock):=by
   unfold setBlock
   show (w.heap.setIfInBounds b _)[b]? = _
   simp [hbl]
  have hrE:(Instr.mapEntry t (.map (some b)) (.int .i64 a)).run P w=.ok (.tuple #[e0.val,goInt e0.born]) (setBlock w b (.map es clock)):=by
   simp [Instr.mapEntry,run_underlying ht,MapKept.run_getObj_map hb,K.check w false hkey,h1,hj,h3,K.stays w hkey,hsame,MapKept.run_setObj_map _ hb,Result.andThen,setBlock]
  have K1:=keep_set w b (.map es clock)
  generalize setBlock w b (.map es clock)=W1 at *
  refine ⟨e0.val,e0.born,W1,setBlock W1 b (.map (es.modify j (fun e'=>{ e' with key:=.int .i64 a,val:=val })) clock),hrE,K1,?_,hm.kept ?_,K1.trans (keep_set _ _ _) (fun _ _ h=>h)⟩
  ·simp [Instr.entryStore,MapKept.run_getObj_map hb1,asInt,asIntOf,goInt,hidx,hmod,MapKept.run_setObj_map _ hb1,Result.andThen,setBlock]
  ·unfold setBlock
   show (W1.heap.setIfInBounds b _)[b]? = (w.heap.setIfInBounds b _)[b]?
   simp [hbl,(Array.getElem?_eq_some_iff.1 hb1).1]
end
end Go.Proofs.YtmaefimaeelkbaaGreatDoor
