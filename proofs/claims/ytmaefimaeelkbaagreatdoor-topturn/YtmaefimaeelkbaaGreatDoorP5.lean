/-
  Texts laid together: WalkF, NearM, MapF, RangeF, Corner, Towards.
-/
import Derived.Test.YtmaefimaeelkbaaGreatDoorP3
import Derived.Test.YtmaefimaeelkbaaGreatDoorP4
import Derived.Test.YtmaefimaeelkbaaGreatDoorP1
import Derived.WalkKit
import Derived.WalkSpells
import Derived.Maps.OwnSet
import Derived.Maps.OwnOps
import Derived.Deep.QuietTactic
import Derived.BigQuiet
import Derived.Maps.Ext
import Derived.Maps.RangeWalk
import Derived.Laws.IdiomRangeMap
import Derived.Deep.LoopGhost
namespace Go.Proofs.YtmaefimaeelkbaaGreatDoor
section
open Go.RowKit
def ffv (W H:Int) (bl:Nat->Bool) (c:Int):Int:=if inB W H c then (if bl c.toNat then 4 else 0) else 1
def errV (n:Int):Value:=if n=0 then .nilIface else .iface 54 (.int .i64 n)
theorem check_any {b:Nat}{W H V:Int}{bl:Nat->Bool}(c:Int)(w:World)(g:GridAt w b W H V bl) :
  Calls Tryz.prog 123 #[.pointer (some ⟨b,0,none⟩),.int .i64 c] w fun e w'=>e=.returned (errV (ffv W H bl c))/\Below w.heap.size w w':=by
 have q:∀ {v:Value},(Calls Tryz.prog 123 #[.pointer (some ⟨b,0,none⟩),.int .i64 c] w fun e w'=>e=.returned v/\∃ m,w'=w.drewN m)->Calls Tryz.prog 123 #[.pointer (some ⟨b,0,none⟩),.int .i64 c] w fun e w'=>e=.returned v/\Below w.heap.size w w':=fun h=>h.mono fun _ _ ⟨he,m,hm⟩=>⟨he,by subst hm;exact below_drewN (Below.refl _ _) m⟩
 cases hr:inB W H c with
 |false =>
  have e:ffv W H bl c=1:=by unfold ffv;rw [hr];rfl
  rw [e];exact q (check_out c w g hr)
 |true =>
  have hc:0<=c/\c<W*H:=of_decide_eq_true hr
  obtain ⟨n,rfl⟩:∃ n:Nat,c=n:=⟨c.toNat,by omega⟩
  have e:ffv W H bl n=if bl n then 4 else 0:=by unfold ffv;rw [hr];rfl
  rw [e]
  cases hb:bl n with
  |true=>exact q (check_bl n w g hr hb)
  |false=>exact q (check_ok n w g hr hb)
end
section
open Go.RowKit
variable {W H : Int} {bl : Nat → Bool}
theorem On.sym {a b k:Int}(h:On W H bl a b k):On W H bl b a k:=⟨h.2,h.1⟩
theorem near_iff {a b:Int}{F:Int->Option (Int × Int)}(w1:1<=W)(hS:octS W a b<=1000)(hD:octD W a b<=1000)(BA:Best (Edge W H bl) a F):(∃ z,On W H bl a b z)↔F b=some (octS W a b,octD W a b):=by
 constructor
 ·rintro ⟨z,h⟩
  exact best_oct w1 BA (h.ends w1 hS hD).2.2
 ·intro h
  exact ⟨b,On.of_near w1 hS hD (BA.sound h)⟩
theorem ffv_zero {c:Int}(h1:inB W H c=true)(h2:bl c.toNat=false):ffv W H bl c=0:=by unfold ffv;rw [h1,h2];rfl
end
section
open Go.RowKit Go.Maps
structure Keep (F:Nat->Prop) (w w':World):Prop where
 os:w'.os=w.os
 tape:w'.tape=w.tape
 output:w'.output=w.output
 size:w.heap.size<=w'.heap.size
 block:∀ k,k<w.heap.size->¬ F k->w'.heap[k]? = w.heap[k]?
theorem Keep.refl (F:Nat->Prop)(w:World):Keep F w w:=⟨rfl,rfl,rfl,Nat.le_refl _,fun _ _ _=>rfl⟩
theorem Keep.trans {F G:Nat->Prop}{a b c:World}(h:Keep F a b)(k:Keep G b c)(hs:∀ i,i<a.heap.size->G i->F i):Keep F a c :=
 ⟨k.os.trans h.os,k.tape.trans h.tape,k.output.trans h.output,Nat.le_trans h.size k.size,fun i hi hn=>(k.block i (Nat.lt_of_lt_of_le hi h.size) (fun g=>hn (hs i hi g))).trans (h.block i hi hn)⟩
theorem Keep.mono {F G:Nat->Prop}{a b:World}(h:Keep F a b)(hs:∀ i,i<a.heap.size->F i->G i):Keep G a b :=
 ⟨h.os,h.tape,h.output,h.size,fun i hi hn=>h.block i hi (fun g=>hn (hs i hi g))⟩
theorem Keep.grown {F:Nat->Prop}{a b c:World}{row:Option Nat}(h:Keep F a b)(hg:b.grownBy c row)(hr:∀ k,row=some k->k<a.heap.size->F k):Keep F a c :=
 ⟨hg.os.trans h.os,hg.tape.trans h.tape,hg.output.trans h.output,Nat.le_trans h.size hg.size,fun i hi hn=>(hg.block i (Nat.lt_of_lt_of_le hi h.size) (fun e=>hn (hr i e.symm hi))).trans (h.block i hi hn)⟩
theorem Keep.alloc {F:Nat->Prop}{a b:World}(h:Keep F a b)(o:Obj):Keep F a (b.alloc o):=h.grown (World.grownBy_alloc b o none) (by simp)
theorem Keep.setCell {F:Nat->Prop}{a b:World}(h:Keep F a b){p:Addr}(hp:p.block<a.heap.size->F p.block)(u:Value):Keep F a (b.setCell p u) :=
 ⟨h.os,h.tape,h.output,by simpa using h.size,fun i hi hn=>(Below.heap_setCell b p u i (fun e=>hn (by rw [e] at hi ⊢;exact hp hi))).trans (h.block i hi hn)⟩
theorem Keep.drewN {F:Nat->Prop}{a b:World}(h:Keep F a b)(m:Nat):Keep F a (b.drewN m):=⟨h.os,h.tape,h.output,h.size,h.block⟩
theorem Keep.drew {F:Nat->Prop}{a b:World}(h:Keep F a b):Keep F a b.drew:=⟨h.os,h.tape,h.output,h.size,h.block⟩
theorem Keep.below {F:Nat->Prop}{a b c:World}(h:Keep F a b)(hb:Below b.heap.size b c):Keep F a c :=
 ⟨hb.os.trans h.os,hb.tape.trans h.tape,hb.output.trans h.output,Nat.le_trans h.size hb.size,fun i hi hn=>(hb.block i (Nat.lt_of_lt_of_le hi h.size)).trans (h.block i hi hn)⟩
theorem Keep.of_below {F:Nat->Prop}{b c:World}(hb:Below b.heap.size b c):Keep F b c:=(Keep.refl F b).below hb
theorem Keep.to_below {F:Nat->Prop}{B:Nat}{a b:World}(h:Keep F a b)(hB:B<=a.heap.size)(hF:∀ k,F k->B<=k):Below B a b :=
 ⟨h.os,h.tape,h.output,h.size,fun i hi=>h.block i (by omega) (fun g=>by have:=hF i g;omega)⟩
theorem Keep.cell {F:Nat->Prop}{w w':World}(h:Keep F w w'){p:Addr}(hp:p.block<w.heap.size)(hn:¬ F p.block):w'.cell? p=w.cell? p:=World.cell?_of_block (w:=w) (h.block p.block hp hn)
theorem Keep.frozen {F:Nat->Prop}{w w':World}(h:Keep F w w'){p:Addr}(hp:p.block<w.heap.size)(hn:¬ F p.block):w'.frozen? p=w.frozen? p:=World.frozen?_of_block (w:=w) (h.block p.block hp hn)
theorem Keep.cellOf {F:Nat->Prop}{w w':World}(h:Keep F w w'){p:Addr}{v:Value}(hc:w.cell? p=some v)(hn:¬ F p.block):w'.cell? p=some v:=(h.cell (World.block_lt_of_cell? w p hc) hn).trans hc
def asIs (v:Value):Option (DataW Value × List MemPlace):=some (.held v,[])
def MapF (P:Program) (k:TypeId) (w:World) (b:Nat) (f:Int->Option Value) (n:Nat):Prop :=
 ∃ D:DataW Value,w.ownsMap P k asIs b n D/\Maps.size D=n/\∀ a:Int,Maps.has D (.int .i64 a)=(f a).isSome/\∀ v,f a=some v->∀ z,D.atKey (.int .i64 a) z=.held v
def putF (f:Int->Option Value) (a:Int) (v:Value):Int->Option Value:=fun i=>if i=a then some v else f i
def delF (f:Int->Option Value) (a:Int):Int->Option Value:=fun i=>if i=a then none else f i
theorem putF_same (f:Int->Option Value)(a:Int)(v:Value):putF f a v a=some v:=if_pos rfl
theorem putF_other (f:Int->Option Value){a i:Int}(v:Value)(h:i≠a):putF f a v i=f i:=if_neg h
theorem delF_same (f:Int->Option Value)(a:Int):delF f a a=none:=if_pos rfl
theorem delF_other (f:Int->Option Value){a i:Int}(h:i≠a):delF f a i=f i:=if_neg h
variable {P : Program} {k e t : TypeId} {w : World} {b n : Nat} {f : Int → Option Value}
theorem tight {D:DataW Value}{R:Value->Option (DataW Value × List MemPlace)}{m:Nat}(h:w.ownsMap P k R b m D):w.ownsMap P k R b (Maps.size D) D:=by
 obtain ⟨es,clock,hb,F,_,rfl⟩:=h
 exact ⟨es,clock,hb,F,by simp [Maps.size,length_sorted],rfl⟩
theorem MapF.made (w:World)(P:Program)(k:TypeId):MapF P k (w.alloc (.map #[] 0)) w.heap.size (fun _=>none) 0 :=
 ⟨_,World.ownsMap_made w P k asIs,rfl,fun a=>⟨rfl,fun v h=>by cases h⟩⟩
theorem MapF.lt (h:MapF P k w b f n):b<w.heap.size:=by obtain ⟨D,h,_⟩:=h;exact h.lt
theorem MapF.kept {w':World}(h:MapF P k w b f n)(hb:w'.heap[b]? = w.heap[b]?):MapF P k w' b f n:=by
 obtain ⟨D,⟨es,clock,h1,h2⟩,h3⟩:=h
 exact ⟨D,⟨es,clock,hb.trans h1,h2⟩,h3⟩
theorem MapF.keep {F:Nat->Prop}{w':World}(h:MapF P k w b f n)(hk:Keep F w w')(hn:¬ F b):MapF P k w' b f n:=h.kept (hk.block b h.lt hn)
theorem MapF.cell (h:MapF P k w b f n)(o:Nat):w.cell? ⟨b,o,none⟩=none:=by
 obtain ⟨D,⟨es,clock,h1,_⟩,_⟩:=h
 simp [World.cell?,h1]
theorem key_of (hk:P.underlying k=some (.int .i64)){a:Int}(ha:(Lit.int .i64 a).wf=true):keyOf P k (.int .i64 a)=some (.int .i64 a):=keyOf_int_mk hk ha
theorem MapF.look_some (h:MapF P k w b f n)(hk:P.underlying k=some (.int .i64))(ht:P.underlying t=some (.map k e)){z:Value}(hz:(zeroValue e).run P w=.ok z w){a:Int}(ha:(Lit.int .i64 a).wf=true){v:Value}(hv:f a=some v)(c:Bool) :
  (Instr.lookup t (.map (some b)) (.int .i64 a) c).run P w=.ok (if c then .tuple #[v,.bool true] else v) w:=by
 obtain ⟨D,h1,_,h3⟩:=h
 obtain ⟨h4,h5⟩:=h3 a
 rw [hv] at h4
 cases c with
 |true =>
  obtain ⟨v',ps,hrun,hR⟩:=h1.look_ok (int_keyed hk) ht hz (zd:=.held z) (zp:=[]) rfl (key_of hk ha)
  rw [h5 v hv] at hR
  simp only [asIs,Option.some.injEq,Prod.mk.injEq,DataW.held.injEq] at hR
  rw [h4,hR.1] at hrun
  exact hrun
 |false =>
  obtain ⟨v',ps,hrun,hR⟩:=h1.lookup (int_keyed hk) ht hz (zd:=.held z) (zp:=[]) rfl (key_of hk ha)
  rw [h5 v hv] at hR
  simp only [asIs,Option.some.injEq,Prod.mk.injEq,DataW.held.injEq] at hR
  rw [hR.1] at hrun
  exact hrun
theorem MapF.look_none (h:MapF P k w b f n)(hk:P.underlying k=some (.int .i64))(ht:P.underlying t=some (.map k e)){z:Value}(hz:(zeroValue e).run P w=.ok z w){a:Int}(ha:(Lit.int .i64 a).wf=true)(hv:f a=none)(c:Bool) :
  (Instr.lookup t (.map (some b)) (.int .i64 a) c).run P w=.ok (if c then .tuple #[z,.bool false] else z) w:=by
 obtain ⟨D,h1,_,h3⟩:=h
 obtain ⟨h4,_⟩:=h3 a
 rw [hv] at h4
 have h5:D.atKey (.int .i64 a) (.held z)=.held z:=atKey_of_not_has h4 _
 cases c with
 |true =>
  obtain ⟨v',ps,hrun,hR⟩:=h1.look_ok (int_keyed hk) ht hz (zd:=.held z) (zp:=[]) rfl (key_of hk ha)
  rw [h5] at hR
  simp only [asIs,Option.some.injEq,Prod.mk.injEq,DataW.held.injEq] at hR
  rw [h4,hR.1] at hrun
  exact hrun
 |false =>
  obtain ⟨v',ps,hrun,hR⟩:=h1.lookup (int_keyed hk) ht hz (zd:=.held z) (zp:=[]) rfl (key_of hk ha)
  rw [h5] at hR
  simp only [asIs,Option.some.injEq,Prod.mk.injEq,DataW.held.injEq] at hR
  rw [hR.1] at hrun
  exact hrun
theorem MapF.len (h:MapF P k w b f n)(ht:P.underlying t=some (.map k e))(ty:TypeId):(Builtin.len_ #[t] ty #[.map (some b)]).run P w=.ok (.int .i64 n) w:=by
 obtain ⟨D,h1,h2,_⟩:=h
 rw [<- h2]
 exact h1.len ht ty
theorem lit_ne {a i:Int}(h:i≠a):(Lit.int .i64 i)≠.int .i64 a:=fun e=>h (by cases e;rfl)
theorem is_key (a:Int):WideAt.IsKeyLit (.int .i64 a):=trivial
theorem MapF.store (h:MapF P k w b f n)(hk:P.underlying k=some (.int .i64))(ht:P.underlying t=some (.map k e))(hn:n<maxLen){a:Int}(ha:(Lit.int .i64 a).wf=true)(v:Value) :
  ∃ w',(Instr.mapUpdate t (.map (some b)) (.int .i64 a) v).run P w=.ok () w'/\MapF P k w' b (putF f a v) (if (f a).isSome then n else n+1)/\w.mapTurned w' b:=by
 obtain ⟨D,h1,h2,h3⟩:=h
 obtain ⟨w',hrun,ho,hg⟩:=h1.store (int_keyed hk) ht hn (key_of hk ha) (val:=v) (d:=.held v) (ps:=[]) rfl
 refine ⟨w',hrun,⟨D.put (.int .i64 a) (.held v),?_,?_,fun i=>?_⟩,hg⟩
 ·have:=tight ho
  rw [size_put (h1.tidy (int_keyed hk)),(h3 a).1,h2] at this
  exact this
 ·rw [size_put (h1.tidy (int_keyed hk)),(h3 a).1,h2]
 ·by_cases hi:i=a
  ·subst hi
   rw [putF_same]
   exact ⟨has_put_same h1.isMap (is_key i) _,fun u hu z=>by cases hu;exact atKey_put_same h1.isMap (is_key i) _ _⟩
  ·rw [putF_other _ _ hi,has_put_other (lit_ne hi)]
   exact ⟨(h3 i).1,fun u hu z=>by rw [atKey_put_other (lit_ne hi)];exact (h3 i).2 u hu z⟩
theorem MapF.drop (h:MapF P k w b f n)(hk:P.underlying k=some (.int .i64))(ht:P.underlying t=some (.map k e)){a:Int}(ha:(Lit.int .i64 a).wf=true)(ty:TypeId) :
  ∃ w',(Builtin.delete_ #[t,k] ty #[.map (some b),.int .i64 a]).run P w=.ok (.tuple #[]) w'/\MapF P k w' b (delF f a) (if (f a).isSome then n - 1 else n)/\w.mapTurned w' b:=by
 obtain ⟨D,h1,h2,h3⟩:=h
 obtain ⟨w',hrun,ho,hg⟩:=h1.drop (int_keyed hk) ht (key_of hk ha) ty
 have hs:=size_del (k:=.int .i64 a) (h1.tidy (int_keyed hk))
 rw [(h3 a).1,h2] at hs
 have hs2:Maps.size (D.del (.int .i64 a))=if (f a).isSome then n - 1 else n:=by
  cases hx:(f a).isSome <;> simp [hx] at hs ⊢ <;> omega
 refine ⟨w',hrun,⟨D.del (.int .i64 a),?_,hs2,fun i=>?_⟩,hg⟩
 ·rw [<- hs2];exact tight ho
 ·by_cases hi:i=a
  ·subst hi
   rw [delF_same]
   exact ⟨has_del_same,fun u hu=>by cases hu⟩
  ·rw [delF_other _ hi,has_del_other (lit_ne hi)]
   exact ⟨(h3 i).1,fun u hu z=>by rw [atKey_del_other (lit_ne hi)];exact (h3 i).2 u hu z⟩
section
variable {ops : Array Oper} {rest : List Oper} {o : Oper} {a : Act} {Q : Exit → Act → World → Prop}
theorem wpList_put (hg:o.guard=none)(m x v:Operand)(t:TypeId)(hop:o.op=Op.mapUpdate t m x v)(k e:TypeId)(hk:P.underlying k=some (.int .i64))(ht:P.underlying t=some (.map k e))(b n:Nat)(f:Int->Option Value)
  (hm:a.eval m=.map (some b)) (h:MapF P k w b f n) (hn:n<maxLen) (i:Int) (val:Value) (hx:a.eval x=.int .i64 i) (hv:a.eval v=val) (hi:(Lit.int .i64 i).wf=true)
  (hK:∀ w',MapF P k w' b (putF f i val) (if (f i).isSome then n else n+1)->w.mapTurned w' b->wpList P ops Q rest (a.put o.dst undef) w') :
  wpList P ops Q (o::rest) a w:=by
 refine wpList_plain hg fun K' hK'=>?_
 obtain ⟨w',hrun,r1,r2⟩:=h.store hk ht hn hi val
 unfold Oper.wp
 simp [execOp,hop,hm,hx,hv,hrun,Result.andThen]
 exact hK' _ _ (hK w' r1 r2)
end
end
section
open Go.Maps Go.RowKit
def RngF (P:Program) (k:TypeId) (w:World) (b r:Nat) (f:Int->Option Value) (n:Nat) (left:Int->Bool) (cnt:Nat):Prop :=
 ∃ (D:DataW Value) (lf:Lit->Bool),w.ranges P k asIs b r n D lf cnt/\Maps.size D=n/\(∀ a:Int,Maps.has D (.int .i64 a)=(f a).isSome/\∀ v,f a=some v->∀ z,D.atKey (.int .i64 a) z=.held v)/\∀ a:Int,lf (.int .i64 a)=left a
variable {P : Program} {k e t : TypeId} {w : World} {b r n cnt : Nat} {f : Int → Option Value} {left : Int → Bool}
theorem RngF.map (h:RngF P k w b r f n left cnt):MapF P k w b f n:=by
 obtain ⟨D,lf,h1,h2,h3,_⟩:=h
 exact ⟨D,h1.owns,h2,h3⟩
theorem RngF.lt (h:RngF P k w b r f n left cnt):r<w.heap.size:=by obtain ⟨D,lf,h1,_⟩:=h;exact h1.lt
theorem RngF.kept {w':World}(h:RngF P k w b r f n left cnt)(hb:w'.heap[b]? = w.heap[b]?)(hr:w'.heap[r]? = w.heap[r]?):RngF P k w' b r f n left cnt:=by
 obtain ⟨D,lf,⟨es,clock,since,seen,c0,h1,h2,h3,h4,h5,h6⟩,h7⟩:=h
 exact ⟨D,lf,⟨es,clock,since,seen,c0,hb.trans h1,h2,h3,h4,hr.trans h5,h6⟩,h7⟩
theorem RngF.keep {F:Nat->Prop}{w':World}(h:RngF P k w b r f n left cnt)(hk:Keep F w w')(hb:¬ F b)(hr:¬ F r):RngF P k w' b r f n left cnt :=
 h.kept (hk.block b h.map.lt hb) (hk.block r h.lt hr)
section
variable {ops : Array Oper} {rest : List Oper} {o : Oper} {a : Act} {Q : Exit → Act → World → Prop}
theorem wpList_rangeF (hg:o.guard=none)(m:Operand)(t:TypeId)(hop:o.op=Op.range t m)(k e:TypeId)(hk:P.underlying k=some (.int .i64))(ht:P.underlying t=some (.map k e))(b n:Nat)(f:Int->Option Value)
  (hm:a.eval m=.map (some b)) (h:MapF P k w b f n)
  (hK:∀ w',RngF P k w' b w.heap.size f n (fun x=>(f x).isSome) n->w.grownBy w' none->w'.heap.size=w.heap.size+1->wpList P ops Q rest (a.put o.dst (.pointer (some ⟨w.heap.size,0,none⟩))) w') :
  wpList P ops Q (o::rest) a w:=by
 obtain ⟨D,h1,h2,h3⟩:=h
 refine wpList_range_own w hg m t hop k e (int_keyed hk) ht asIs b n D hm h1 fun w' r1 r2 r3=>hK w' ⟨D,_,h2 ▸ r1,h2,h3,fun a=>(h3 a).1⟩ r2 r3
theorem wpList_nextF (hg:o.guard=none)(it:Operand)(hop:o.op=Op.next it false)(k:TypeId)(hk:P.underlying k=some (.int .i64))(b r n:Nat)(f:Int->Option Value)(left:Int->Bool)(cnt:Nat)
  (hit:a.eval it=.pointer (some ⟨r,0,none⟩)) (h:RngF P k w b r f n left cnt)
  (hDone:cnt=0->(∀ x,left x=false)->wpList P ops Q rest (a.put o.dst (.tuple #[.bool false])) w)
  (hMore:∀ (x:Int) (v:Value) (w':World) (cnt':Nat),(Lit.int .i64 x).wf=true->left x=true->f x=some v->RngF P k w' b r f n (fun z=>left z&&!decide (z=x)) cnt'->cnt'<cnt ->
   w.grownBy w' (some r)->w'.heap.size=w.heap.size->(Instr.entry (.pointer (some ⟨r,0,none⟩))).run P w'=.ok (.tuple #[.int .i64 x,v]) w'->wpList P ops Q rest (a.put o.dst (.tuple #[.bool true,.int .i64 x,v])) w') :
  wpList P ops Q (o::rest) a w:=by
 obtain ⟨D,lf,h1,h2,h3,h4⟩:=h
 refine wpList_next_ranges w hg it hop k (int_keyed hk) asIs (Value.int .i64) id (fun key kl hkey=>by obtain ⟨x,rfl,_⟩:=Maps.keyOf_int_inv hk hkey;exact ⟨x,rfl⟩) (fun v y _=>⟨v,rfl⟩) b r n D lf cnt hit h1 (fun h0 hl=>hDone h0 fun x=>(h4 x).symm.trans (hl _)) ?_
 intro x v kl y w' cnt' hkey hl hv hat hrg hlt hgr hsz hen
 obtain ⟨x',ex,rfl,hwx⟩:=Maps.keyOf_int_inv hk hkey
 cases ex
 have hy:y.1=.held v:=by
  simp only [asIs,Option.some.injEq,id] at hv
  rw [<- hv]
 rw [hy] at hat
 have hh:Maps.has D (.int .i64 x)=true:=has_true_of_atKey hat
 obtain ⟨g1,g2⟩:=h3 x
 rw [hh] at g1
 have hf:f x=some v:=by
  cases hfx:f x with
  |none=>rw [hfx] at g1;cases g1
  |some u =>
   have:=(g2 u hfx (.held v)).symm.trans (hat (.held v))
   cases this
   rfl
 refine hMore x v w' cnt' hwx ((h4 x).symm.trans hl) hf ⟨D,_,hrg,h2,h3,fun a=>?_⟩ hlt hgr hsz hen
 show (lf (.int .i64 a)&&!(Lit.int .i64 a).sameKey (.int .i64 x))=(left a&&!decide (a=x))
 rw [h4 a]
 by_cases e:a=x
 ·subst e
  rw [WideAt.sameKey_self (is_key a),decide_eq_true rfl]
 ·rw [sameKey_ne (lit_ne e),decide_eq_false e]
end
end
section
open Go.RowKit
def crB (W H:Int) (bl:Nat->Bool) (x y:Int) (k:Nat):Bool:=openB W H bl (x+stepX k) y&&openB W H bl x (y+stepY k)&&!openB W H bl (x+stepX k) (y+stepY k)
def turnB (W H:Int) (bl:Nat->Bool) (x y:Int):Bool:=(List.range 4).any fun j=>crB W H bl x y (2*j+1)
def cornB (W H:Int) (bl:Nat->Bool) (c:Int):Bool:=openB W H bl (c % W) (c / W)&&turnB W H bl (c % W) (c / W)
theorem turnB_false {W H x y:Int}{bl:Nat->Bool}(h:∀ j,j<4->crB W H bl x y (2*j+1)=false):turnB W H bl x y=false:=by
 unfold turnB
 rw [List.any_eq_false]
 intro j hj
 rw [h j (List.mem_range.1 hj)]
 simp
theorem turnB_true {W H x y:Int}{bl:Nat->Bool}{j:Nat}(hj:j<4)(h:crB W H bl x y (2*j+1)=true):turnB W H bl x y=true :=
 List.any_eq_true.2 ⟨j,List.mem_range.2 hj,h⟩
set_option maxHeartbeats 1600000 in
theorem turns_any {b:Nat}{W H V:Int}{bl:Nat->Bool}(x y:Int)(w:World)(g:GridAt w b W H V bl)(s:StepsAt w)(x1:-100<=x)(x2:x<=100)(y1:-100<=y)(y2:y<=100) :
  Calls Tryz.prog 188 #[.pointer (some ⟨b,0,none⟩),.int .i64 x,.int .i64 y] w fun e w'=>e=.returned (.bool (turnB W H bl x y))/\∃ m,w'=w.drewN m:=by
 go_enter Tryz.func188,Tryz.ntmps188
 go_wp2
 go_loopg [7] (4:Nat) (fun gk dv wr=>∃ i:Nat,i<=4/\gk=4 - i/\dv=.int .i64 ((2*i+1:Nat):Int)/\(∀ j,j<i->crB W H bl x y (2*j+1)=false)/\∃ m,wr=w.drewN m)
 case atStart=>exact ⟨0,Nat.zero_le _,rfl,rfl,fun j hj=>absurd hj (by omega),0,rfl⟩
 case round =>
  obtain ⟨i,hi,hgk,rfl,hall,m,rfl⟩:=hrel
  by_cases hlt:i<4
  ·have hd:2*i+1<8:=by omega
   obtain ⟨s1,s2,s3,s4⟩:=step_bd (2*i+1)
   have hs:=fun w h=>step_any (2*i+1) w h hd
   have hcr:crB W H bl x y (2*i+1)=(openB W H bl (x+stepX (2*i+1)) y&&openB W H bl x (y+stepY (2*i+1))&&!openB W H bl (x+stepX (2*i+1)) (y+stepY (2*i+1))):=rfl
   generalize stepX (2*i+1)=dx at *
   generalize stepY (2*i+1)=dy at *
   have go_on:crB W H bl x y (2*i+1)=false->Hid (∀ j,j<i+1->crB W H bl x y (2*j+1)=false):=fun h j hj=>by
    by_cases e:j=i
    ·rw [e];exact h
    ·exact hall j (by omega)
   clear hall
   cases hA:openB W H bl (x+dx) y with
   |false =>
    rw [hA] at hcr
    have HN:=go_on (by rw [hcr];rfl)
    clear hcr go_on
    go_wp2_with (first|(go_at_call 151;refine (hs _ (s.drewN _)).mono ?_;rintro e w' ⟨rfl,m,rfl⟩)|(go_at_call 97;refine (open_v (by assumption) _ (g.drewN _)).mono ?_;rintro e w' ⟨rfl,m,rfl⟩))
    go_roundg (4 - (i+1))
    case measure=>omega
    case rel=>exact ⟨i+1,by omega,rfl,by go_num,HN.out,_,rfl⟩
   |true =>
    cases hB:openB W H bl x (y+dy) with
    |false =>
     rw [hA,hB] at hcr
     have HN:=go_on (by rw [hcr];rfl)
     clear hcr go_on
     go_wp2_with (first|(go_at_call 151;refine (hs _ (s.drewN _)).mono ?_;rintro e w' ⟨rfl,m,rfl⟩)|(go_at_call 97;refine (open_v (by assumption) _ (g.drewN _)).mono ?_;rintro e w' ⟨rfl,m,rfl⟩))
     go_roundg (4 - (i+1))
     case measure=>omega
     case rel=>exact ⟨i+1,by omega,rfl,by go_num,HN.out,_,rfl⟩
    |true =>
     cases hC:openB W H bl (x+dx) (y+dy) with
     |true =>
      rw [hA,hB,hC] at hcr
      have HN:=go_on (by rw [hcr];rfl)
      clear hcr go_on
      go_wp2_with (first|(go_at_call 151;refine (hs _ (s.drewN _)).mono ?_;rintro e w' ⟨rfl,m,rfl⟩)|(go_at_call 97;refine (open_v (by assumption) _ (g.drewN _)).mono ?_;rintro e w' ⟨rfl,m,rfl⟩))
      go_roundg (4 - (i+1))
      case measure=>omega
      case rel=>exact ⟨i+1,by omega,rfl,by go_num,HN.out,_,rfl⟩
     |false =>
      rw [hA,hB,hC] at hcr
      have HT:Hid (turnB W H bl x y=true):=turnB_true hlt hcr
      clear hcr go_on
      go_wp2_with (first|(go_at_call 151;refine (hs _ (s.drewN _)).mono ?_;rintro e w' ⟨rfl,m,rfl⟩)|(go_at_call 97;refine (open_v (by assumption) _ (g.drewN _)).mono ?_;rintro e w' ⟨rfl,m,rfl⟩))
      go_ret
      exact ⟨by rw [HT.out];rfl,_,rfl⟩
  ·have:i=4:=by omega
   subst this
   have HT:Hid (turnB W H bl x y=false):=turnB_false hall
   clear hall
   go_wp2
   go_ret
   exact ⟨by rw [HT.out];rfl,_,rfl⟩
theorem turns_v {b:Nat}{W H V:Int}{bl:Nat->Bool}{x y:Int}{r:Bool}(hr:turnB W H bl x y=r)(w:World)(g:GridAt w b W H V bl)(s:StepsAt w)(x1:-100<=x)(x2:x<=100)(y1:-100<=y)(y2:y<=100) :
  Calls Tryz.prog 188 #[.pointer (some ⟨b,0,none⟩),.int .i64 x,.int .i64 y] w fun e w'=>e=.returned (.bool r)/\∃ m,w'=w.drewN m:=hr ▸ turns_any x y w g s x1 x2 y1 y2
theorem place_bd {W H c:Int}(w1:1<=W)(hr:inB W H c=true):0<=c % W/\c % W<W/\0<=c / W/\c / W<H:=by
 have hc:0<=c/\c<W*H:=of_decide_eq_true hr
 exact ⟨Int.emod_nonneg _ (by omega),Int.emod_lt_of_pos _ (by omega),Int.ediv_nonneg hc.1 (by omega),Int.ediv_lt_of_lt_mul (by omega) (by rw [Int.mul_comm];exact hc.2)⟩
set_option maxHeartbeats 1000000 in
theorem is_in {b:Nat}{W H V:Int}{bl:Nat->Bool}(c:Int)(w:World)(g:GridAt w b W H V bl)(s:StepsAt w)(hr:inB W H c=true) :
  Calls Tryz.prog 149 #[.pointer (some ⟨b,0,none⟩),.int .i64 c] w fun e w'=>e=.returned (.tuple #[.bool (cornB W H bl c),.nilIface])/\∃ m,w'=w.drewN m:=by
 obtain ⟨x1,x2,y1,y2⟩:=place_bd g.w1 hr
 have gw:=g.w2
 have gh:=g.h2
 have hP:=fun w g=>place_in (b:=b) (W:=W) (H:=H) (V:=V) (bl:=bl) c w g hr
 have hm:cornB W H bl c=(openB W H bl (c % W) (c / W)&&turnB W H bl (c % W) (c / W)):=rfl
 rw [hm]
 clear hm
 generalize c % W=x at *
 generalize c / W=y at *
 cases hA:openB W H bl x y with
 |false =>
  simp only [Bool.false_and]
  go_enter Tryz.func149,Tryz.ntmps149
  go_wp2_with (first|(go_at_call 84;refine (hP _ g).mono ?_;rintro e w' ⟨rfl,m,rfl⟩)|(go_at_call 97;refine (open_v (by assumption) _ (g.drewN _)).mono ?_;rintro e w' ⟨rfl,m,rfl⟩))
  go_ret2
  exact ⟨rfl,_,rfl⟩
 |true =>
  cases hB:turnB W H bl x y with
  |false =>
   simp only [Bool.and_false]
   go_enter Tryz.func149,Tryz.ntmps149
   go_wp2_with (first|(go_at_call 84;refine (hP _ g).mono ?_;rintro e w' ⟨rfl,m,rfl⟩)|(go_at_call 97;refine (open_v (by assumption) _ (g.drewN _)).mono ?_;rintro e w' ⟨rfl,m,rfl⟩)|(go_at_call 188;refine (turns_v (by assumption) _ (g.drewN _) (s.drewN _) (by omega) (by omega) (by omega) (by omega)).mono ?_;rintro e w' ⟨rfl,m,rfl⟩))
   go_ret2
   exact ⟨rfl,_,rfl⟩
  |true =>
   simp only [Bool.and_true]
   go_enter Tryz.func149,Tryz.ntmps149
   go_wp2_with (first|(go_at_call 84;refine (hP _ g).mono ?_;rintro e w' ⟨rfl,m,rfl⟩)|(go_at_call 97;refine (open_v (by assumption) _ (g.drewN _)).mono ?_;rintro e w' ⟨rfl,m,rfl⟩)|(go_at_call 188;refine (turns_v (by assumption) _ (g.drewN _) (s.drewN _) (by omega) (by omega) (by omega) (by omega)).mono ?_;rintro e w' ⟨rfl,m,rfl⟩))
   go_ret2
   exact ⟨rfl,_,rfl⟩
theorem is_v {b:Nat}{W H V:Int}{bl:Nat->Bool}{c:Int}{r:Bool}(hc:cornB W H bl c=r)(w:World)(g:GridAt w b W H V bl)(s:StepsAt w)(hr:inB W H c=true) :
  Calls Tryz.prog 149 #[.pointer (some ⟨b,0,none⟩),.int .i64 c] w fun e w'=>e=.returned (.tuple #[.bool r,.nilIface])/\∃ m,w'=w.drewN m:=hc ▸ is_in c w g s hr
def crs (W H:Int) (bl:Nat->Bool) (k:Nat):List Nat:=(List.range k).filter fun c=>cornB W H bl (c:Nat)
theorem crs_succ (W H:Int)(bl:Nat->Bool)(k:Nat):crs W H bl (k+1)=crs W H bl k++(if cornB W H bl (k:Nat) then [k] else []):=by
 unfold crs
 rw [List.range_succ,List.filter_append]
 cases h:cornB W H bl (k:Nat) <;> simp [h]
theorem crs_len (W H:Int)(bl:Nat->Bool)(k:Nat):(crs W H bl k).length<=k:=by
 unfold crs
 have:=List.length_filter_le (fun c:Nat=>cornB W H bl (c:Nat)) (List.range k)
 simpa using this
set_option maxHeartbeats 1600000 in
set_option maxRecDepth 1000000 in
theorem all_any {b:Nat}{W H V:Int}{bl:Nat->Bool}(w:World)(g:GridAt w b W H V bl)(s:StepsAt w)(hb:b<w.heap.size) :
  Calls Tryz.prog 108 #[.pointer (some ⟨b,0,none⟩)] w fun e w'=>∃ v,e=.returned v /\
   w'.ownsRow w.heap.size 3 1 v (crs W H bl (W*H).toNat).length (vals (crs W H bl (W*H).toNat))/\Below w.heap.size w w':=by
 obtain ⟨i0,hi,hz0,hz1,hz2⟩:=info_parts Tryz.info3
 obtain ⟨k1,k2⟩:=wh_bd g.w1 g.w2 g.h1 g.h2
 go_enter Tryz.func108,Tryz.ntmps108
 go_wp2_with (go_at_call 52;refine (cells_any _ g).mono ?_;rintro e w' ⟨rfl,m,rfl⟩)
 go_loopw [3,9] (fun v i wr=>∃ k:Nat,(k:Int)<=W*H/\i=.int .i64 k/\wr.ownsRow w.heap.size 3 1 v (crs W H bl k).length (vals (crs W H bl k))/\Below w.heap.size w wr)
  (fun _ i _=>1000 - (intOf i).toNat)
 case atStart=>exact ⟨0,by omega,rfl,World.ownsRow_nil _ _ _ _,below_drewN (Below.refl _ _) _⟩
 case round =>
  obtain ⟨k,hk,rfl,hown,hnx⟩:=hrel
  have hl:=crs_len W H bl k
  have gr:=g.below hnx hb
  have sr:=s.below hnx (by omega)
  have hsz:=hnx.size
  by_cases hlt:(k:Int)<W*H
  ·have hms:=crs_succ W H bl k
   have hin:inB W H (k:Nat)=true:=decide_eq_true ⟨by omega,hlt⟩
   cases hM:cornB W H bl (k:Nat) with
   |false =>
    rw [hM] at hms
    have h0:crs W H bl (k+1)=crs W H bl k:=by simpa using hms
    have HS:Hid (crs W H bl (k+1)=crs W H bl k):=h0
    clear h0
    clear hms
    go_wp2_with (go_at_call 149;refine (is_v hM _ gr sr hin).mono ?_;rintro e w' ⟨rfl,m,rfl⟩)
    go_roundw
    case rel=>exact ⟨k+1,by omega,by go_num,by rw [HS.out];exact hown,below_drewN hnx _⟩
    case measure=>simp [intOf];omega
   |true =>
    rw [hM] at hms
    have h0:crs W H bl (k+1)=crs W H bl k++[k]:=by simpa using hms
    have HS:Hid (crs W H bl (k+1)=crs W H bl k++[k]):=h0
    clear h0
    clear hms
    go_wp2_with (first|(go_at_call 149;refine (is_v hM _ gr sr hin).mono ?_;rintro e w' ⟨rfl,m,rfl⟩)|(at_builtin;refine wpList_append_own _ rfl _ _ 51 rfl w.heap.size 3 i0 (.int .i64 0) 1 8 Tryz.underlying51 hi hz0 hz1 hz2 rfl (by decide) _ _ _ rfl (World.ownsRow.alloc hown _) ⟨wr.heap.size,0,none⟩ 1 1 [.int .i64 k] rfl rfl ?c1 ?c2 ?c3 ?c4 ?c5 ?_))
    case c1 =>
     intro j u hj
     match j,hj with
     |0,hj =>
      simp at hj;subst hj;simp only [Addr.add]
      exact World.cell?_alloc_at (w:=wr.drewN m) #[.int .i64 k] 3 wr.heap.size 0 rfl
    case c2=>intro u hu;simp at hu;subst hu;rfl
    case c3=>unfold maxLen;omega
    case c4=>omega
    case c5=>simp;omega
    intro v' w1 hown' hgrow _
    have hbase:=fun q hq=>(hown.lt q hq).1
    have B1:Below w.heap.size w w1:=((below_drewN hnx m).alloc hsz _).grown hgrow (by simp;omega) hbase
    have O1:w1.ownsRow w.heap.size 3 1 v' (crs W H bl (k+1)).length (vals (crs W H bl (k+1))):=by
     rw [HS.out]
     simpa [vals] using hown'
    clear hown' hgrow hown hnx gr sr
    go_wp2
    go_roundw
    case rel=>exact ⟨k+1,by omega,by go_num,O1,B1⟩
    case measure=>simp [intOf];omega
  ·have e:(W*H).toNat=k:=by omega
   have HE:Hid ((W*H).toNat=k):=e
   clear e
   go_wp2
   go_ret
   exact ⟨_,rfl,by rw [HE.out];exact hown,hnx⟩
end
section
open Go.RowKit
def goodB (x y u v:Int) (k:Nat):Bool:=decide (dst (dst (x+stepX k) u) (dst (y+stepY k) v)+stS k=dst (dst x u) (dst y v))&&decide (les (dst (x+stepX k) u) (dst (y+stepY k) v)+stD k=les (dst x u) (dst y v))
theorem goodB_iff {x y u v:Int}{k:Nat}:goodB x y u v k=true↔Good x y u v k:=by
 unfold goodB Good
 rw [Bool.and_eq_true,decide_eq_true_eq,decide_eq_true_eq]
theorem oct_step (k:Nat)(h:k<8):dst (dst 0 (stepX k)) (dst 0 (stepY k))=stS k/\les (dst 0 (stepX k)) (dst 0 (stepY k))=stD k:=by
 rcases k8 h with rfl|rfl|rfl|rfl|rfl|rfl|rfl|rfl <;> decide
set_option maxHeartbeats 2000000 in
set_option maxRecDepth 1000000 in
theorem isTowards' {x y u v dx dy s1 d1 s2 d2 s3 d3:Int}{k:Nat}{r:Bool}(w:World)
  (x1:-100<=x) (x2:x<=100) (y1:-100<=y) (y2:y<=100) (e1:-1<=dx) (e2:dx<=1) (e3:-1<=dy) (e4:dy<=1)
  (hs:Calls Tryz.prog 151 #[.int .i64 k] w fun e w'=>e=.returned (.tuple #[.int .i64 dx,.int .i64 dy])/\∃ m,w'=w.drewN m)
  (ho1:∀ w,Calls Tryz.prog 86 #[.int .i64 0,.int .i64 0,.int .i64 dx,.int .i64 dy] w fun e w'=>e=.returned (.agg #[.int .i64 s1,.int .i64 d1])/\Below w.heap.size w w')
  (ho2:∀ w,Calls Tryz.prog 86 #[.int .i64 (x+dx),.int .i64 (y+dy),.int .i64 u,.int .i64 v] w fun e w'=>e=.returned (.agg #[.int .i64 s2,.int .i64 d2])/\Below w.heap.size w w')
  (ho3:∀ w,Calls Tryz.prog 86 #[.int .i64 x,.int .i64 y,.int .i64 u,.int .i64 v] w fun e w'=>e=.returned (.agg #[.int .i64 s3,.int .i64 d3])/\Below w.heap.size w w')
  (ha:∀ w,Calls Tryz.prog 177 #[.agg #[.int .i64 s1,.int .i64 d1],.agg #[.int .i64 s2,.int .i64 d2]] w fun e w'=>e=.returned (.agg #[.int .i64 (s1+s2),.int .i64 (d1+d2)])/\Below w.heap.size w w')
  (hr:(decide (s1+s2=s3)&&decide (d1+d2=d3))=r) :
  Calls Tryz.prog 167 #[.int .i64 x,.int .i64 y,.int .i64 k,.int .i64 u,.int .i64 v] w fun e w'=>e=.returned (.bool r)/\Below w.heap.size w w':=by
 go_enter Tryz.func167,Tryz.ntmps167
 go_wp2_with (go_at_call 151;refine hs.mono ?_;rintro e w' ⟨rfl,m,rfl⟩)
 refine (ho1 _).mono ?_
 rintro e w1 ⟨rfl,hb1⟩
 have B1:Below w.heap.size w w1:=(below_drewN (Below.refl _ _) m).trans hb1
 clear hb1 ho1 hs
 go_wp2_with fail
 refine (ho2 _).mono ?_
 rintro e w2 ⟨rfl,hb2⟩
 have B2:Below w.heap.size w w2:=B1.trans (hb2.mono B1.size)
 clear hb2 ho2 B1
 go_wp2_with fail
 refine (ha _).mono ?_
 rintro e w3 ⟨rfl,hb3⟩
 have B2':Below w.heap.size w ((w2.alloc (.cells #[.int .i64 s1,.int .i64 d1] 53)).alloc (.cells #[.int .i64 s2,.int .i64 d2] 53)):=(B2.alloc B2.size _).alloc (by have:=B2.size;simp;omega) _
 have B3:Below w.heap.size w w3:=B2'.trans (hb3.mono B2'.size)
 clear hb3 ha B2 B2'
 go_wp2_with fail
 refine (ho3 _).mono ?_
 rintro e w4 ⟨rfl,hb4⟩
 have B4:Below w.heap.size w w4:=B3.trans (hb4.mono B3.size)
 clear hb4 ho3 B3
 by_cases q1:s1+s2=s3
 ·by_cases q2:d1+d2=d3
  ·rw [decide_eq_true q1,decide_eq_true q2] at hr
   subst hr q1 q2
   go_wp2
   go_ret
   exact ⟨rfl,B4⟩
  ·rw [decide_eq_true q1,decide_eq_false q2] at hr
   subst hr q1
   go_wp2
   go_ret
   exact ⟨rfl,B4⟩
 ·rw [decide_eq_false q1] at hr
  subst hr
  go_wp2
  go_ret
  exact ⟨rfl,B4⟩
theorem near_place {a:Int}(h:-100<=a)(k:a<=100):nearB a:=by unfold nearB;omega
theorem okC_oct {x y u v:Int}(x1:-100<=x)(x2:x<=100)(y1:-100<=y)(y2:y<=100)(u1:-100<=u)(u2:u<=100)(v1:-100<=v)(v2:v<=100):okC (dst (dst x u) (dst y v)) (les (dst x u) (dst y v)):=by
 unfold okC
 have a:0<=dst x u/\dst x u<=200:=by unfold dst;split <;> omega
 have b:0<=dst y v/\dst y v<=200:=by unfold dst;split <;> omega
 generalize dst x u=X at *
 generalize dst y v=Y at *
 unfold dst les
 split <;> omega
theorem okC_st (k:Nat):okC (stS k) (stD k):=by
 have:=st_bd k
 unfold okC
 omega
theorem isTowards_v {x y u v:Int}{k:Nat}{r:Bool}(hr:goodB x y u v k=r)(w:World)(s:StepsAt w)(hk:k<8)(x1:0<=x)(x2:x<=50)(y1:0<=y)(y2:y<=50)(u1:0<=u)(u2:u<=50)(v1:0<=v)(v2:v<=50) :
  Calls Tryz.prog 167 #[.int .i64 x,.int .i64 y,.int .i64 k,.int .i64 u,.int .i64 v] w fun e w'=>e=.returned (.bool r)/\Below w.heap.size w w':=by
 obtain ⟨e1,e2,e3,e4⟩:=step_bd k
 obtain ⟨o1,o2⟩:=oct_step k hk
 have n1:=near_place (show -100<=stepX k by omega) (by omega)
 have n2:=near_place (show -100<=stepY k by omega) (by omega)
 have n0:=near_place (show -100<=(0:Int) by omega) (by omega)
 have nx:=near_place (show -100<=x by omega) (by omega)
 have ny:=near_place (show -100<=y by omega) (by omega)
 have nu:=near_place (show -100<=u by omega) (by omega)
 have nv:=near_place (show -100<=v by omega) (by omega)
 have nx':=near_place (show -100<=x+stepX k by omega) (by omega)
 have ny':=near_place (show -100<=y+stepY k by omega) (by omega)
 refine isTowards' (s1:=stS k) (d1:=stD k) w (by omega) (by omega) (by omega) (by omega) e1 e2 e3 e4 (step_any k w s hk) (fun w=>?_) (fun w=>oct_any _ _ _ _ w nx' ny' nu nv) (fun w=>oct_any _ _ _ _ w nx ny nu nv) (fun w=>add_any _ _ _ _ w (okC_st k) (okC_oct (by omega) (by omega) (by omega) (by omega) (by omega) (by omega) (by omega) (by omega))) ?_
 ·have:=oct_any 0 0 (stepX k) (stepY k) w n0 n0 n1 n2
  rw [o1,o2] at this
  exact this
 ·rw [<- hr]
  unfold goodB
  rw [Int.add_comm (stS k),Int.add_comm (stD k)]
end
end Go.Proofs.YtmaefimaeelkbaaGreatDoor
