/-
  Texts laid together: WalkF, NearM, MapF, RangeF.
-/
import Derived.Test.YtipbhlofbpnpjaaGreatDoorQ5
import Derived.Test.YtipbhlofbpnpjaaGreatDoorQ6
import Derived.WalkKit
import Derived.WalkSpells
import Derived.Maps.OwnSet
import Derived.Maps.OwnOps
import Derived.Deep.QuietTactic
import Derived.BigQuiet
import Derived.Maps.Ext
import Derived.Maps.RangeWalk
import Derived.Laws.IdiomRangeMap
namespace Go.Proofs.YtipbhlofbpnpjaaGreatDoor
section
open Go.RowKit
def ffv (W H:Int) (bl:Nat->Bool) (c:Int):Int:=if inB W H c then (if bl c.toNat then 4 else 0) else 1
def errV (n:Int):Value:=if n=0 then .nilIface else .iface 39 (.int .i64 n)
theorem check_any {b:Nat}{W H V:Int}{bl:Nat->Bool}(c:Int) (w:World) (g:GridAt w b W H V bl) :
  Calls Tryz.prog 106 #[.pointer (some ⟨b,0,none⟩),.int .i64 c] w fun e w'=>e=.returned (errV (ffv W H bl c))/\Below w.heap.size w w':=by
 have q:∀ {v:Value},(Calls Tryz.prog 106 #[.pointer (some ⟨b,0,none⟩),.int .i64 c] w fun e w'=>e=.returned v/\∃ m,w'=w.drewN m)->Calls Tryz.prog 106 #[.pointer (some ⟨b,0,none⟩),.int .i64 c] w fun e w'=>e=.returned v/\Below w.heap.size w w':=fun h=>h.mono fun _ _ ⟨he,m,hm⟩=>⟨he,by subst hm;exact below_drewN (Below.refl _ _) m⟩
 cases hr:inB W H c with
 | false =>
   have e:ffv W H bl c=1:=by unfold ffv;rw [hr];rfl
   rw [e];exact q (check_out c w g hr)
 | true =>
   have hc:0<=c/\c < W*H:=of_decide_eq_true hr
   obtain ⟨n,rfl⟩:∃ n:Nat,c=n:=⟨c.toNat,by omega⟩
   have e:ffv W H bl n=if bl n then 4 else 0:=by unfold ffv;rw [hr];rfl
   rw [e]
   cases hb:bl n with
   | true=>exact q (check_bl n w g hr hb)
   | false=>exact q (check_ok n w g hr hb)
end
section
open Go.RowKit
variable {W H : Int} {bl : Nat → Bool}
theorem On.sym {a b k:Int}(h:On W H bl a b k):On W H bl b a k:=⟨h.2,h.1⟩
theorem near_iff {a b:Int}{F:Int->Option (Int × Int)}(w1:1<=W) (hS:octS W a b<=1000) (hD:octD W a b<=1000) (BA:Best (Edge W H bl) a F):(∃ z,On W H bl a b z)↔F b=some (octS W a b,octD W a b):=by
 constructor
 ·rintro ⟨z,h⟩
  exact best_oct w1 BA (h.ends w1 hS hD).2.2
 ·intro h
  exact ⟨b,On.of_near w1 hS hD (BA.sound h)⟩
theorem On.near_a {a b k:Int}(w1:1<=W) (hS:octS W a b<=1000) (hD:octD W a b<=1000) (kS:octS W a k<=1000) (kD:octD W a k<=1000) (h:On W H bl a b k):∃ z,On W H bl a k z :=
 ⟨k,On.of_near w1 kS kD (h.walks w1 hS hD).1⟩
theorem On.free {a b k:Int}(w1:1<=W) (hS:octS W a b<=1000) (hD:octD W a b<=1000) (ha:bl a.toNat=false) (h:On W H bl a b k):bl k.toNat=false:=wk_free ha (h.walks w1 hS hD).1
theorem ffv_zero {c:Int}(h1:inB W H c=true) (h2:bl c.toNat=false):ffv W H bl c=0:=by unfold ffv;rw [h1,h2];rfl
end
section
open Go.RowKit Go.Maps
structure Keep (F:Nat->Prop) (w w':World):Prop where
 os:w'.os=w.os
 tape:w'.tape=w.tape
 output:w'.output=w.output
 size:w.heap.size<=w'.heap.size
 block:∀ k,k < w.heap.size->¬ F k->w'.heap[k]? = w.heap[k]?
theorem Keep.refl (F:Nat->Prop) (w:World):Keep F w w:=⟨rfl,rfl,rfl,Nat.le_refl _,fun _ _ _=>rfl⟩
theorem Keep.trans {F G:Nat->Prop}{a b c:World}(h:Keep F a b) (k:Keep G b c) (hs:∀ i,i < a.heap.size->G i->F i):Keep F a c :=
 ⟨k.os.trans h.os,k.tape.trans h.tape,k.output.trans h.output,Nat.le_trans h.size k.size,fun i hi hn=>(k.block i (Nat.lt_of_lt_of_le hi h.size) (fun g=>hn (hs i hi g))).trans (h.block i hi hn)⟩
theorem Keep.mono {F G:Nat->Prop}{a b:World}(h:Keep F a b) (hs:∀ i,i < a.heap.size->F i->G i):Keep G a b :=
 ⟨h.os,h.tape,h.output,h.size,fun i hi hn=>h.block i hi (fun g=>hn (hs i hi g))⟩
theorem Keep.grown {F:Nat->Prop}{a b c:World}{row:Option Nat}(h:Keep F a b) (hg:b.grownBy c row) (hr:∀ k,row=some k->k < a.heap.size->F k):Keep F a c :=
 ⟨hg.os.trans h.os,hg.tape.trans h.tape,hg.output.trans h.output,Nat.le_trans h.size hg.size,fun i hi hn=>(hg.block i (Nat.lt_of_lt_of_le hi h.size) (fun e=>hn (hr i e.symm hi))).trans (h.block i hi hn)⟩
theorem Keep.alloc {F:Nat->Prop}{a b:World}(h:Keep F a b) (o:Obj):Keep F a (b.alloc o):=h.grown (World.grownBy_alloc b o none) (by simp)
theorem Keep.setCell {F:Nat->Prop}{a b:World}(h:Keep F a b) {p:Addr}(hp:p.block < a.heap.size->F p.block) (u:Value):Keep F a (b.setCell p u) :=
 ⟨h.os,h.tape,h.output,by simpa using h.size,fun i hi hn=>(Below.heap_setCell b p u i (fun e=>hn (by rw [e] at hi ⊢;exact hp hi))).trans (h.block i hi hn)⟩
theorem Keep.drewN {F:Nat->Prop}{a b:World}(h:Keep F a b) (m:Nat):Keep F a (b.drewN m):=⟨h.os,h.tape,h.output,h.size,h.block⟩
theorem Keep.drew {F:Nat->Prop}{a b:World}(h:Keep F a b):Keep F a b.drew:=⟨h.os,h.tape,h.output,h.size,h.block⟩
theorem Keep.below {F:Nat->Prop}{a b c:World}(h:Keep F a b) (hb:Below b.heap.size b c):Keep F a c :=
 ⟨hb.os.trans h.os,hb.tape.trans h.tape,hb.output.trans h.output,Nat.le_trans h.size hb.size,fun i hi hn=>(hb.block i (Nat.lt_of_lt_of_le hi h.size)).trans (h.block i hi hn)⟩
theorem Keep.of_below {F:Nat->Prop}{b c:World}(hb:Below b.heap.size b c):Keep F b c:=(Keep.refl F b).below hb
theorem Keep.to_below {F:Nat->Prop}{B:Nat}{a b:World}(h:Keep F a b) (hB:B<=a.heap.size) (hF:∀ k,F k->B<=k):Below B a b :=
 ⟨h.os,h.tape,h.output,h.size,fun i hi=>h.block i (by omega) (fun g=>by have:=hF i g;omega)⟩
theorem Keep.cell {F:Nat->Prop}{w w':World}(h:Keep F w w') {p:Addr}(hp:p.block < w.heap.size) (hn:¬ F p.block):w'.cell? p=w.cell? p:=World.cell?_of_block (w:=w) (h.block p.block hp hn)
theorem Keep.frozen {F:Nat->Prop}{w w':World}(h:Keep F w w') {p:Addr}(hp:p.block < w.heap.size) (hn:¬ F p.block):w'.frozen? p=w.frozen? p:=World.frozen?_of_block (w:=w) (h.block p.block hp hn)
theorem Keep.cellOf {F:Nat->Prop}{w w':World}(h:Keep F w w') {p:Addr}{v:Value}(hc:w.cell? p=some v) (hn:¬ F p.block):w'.cell? p=some v:=(h.cell (World.block_lt_of_cell? w p hc) hn).trans hc
def asIs (v:Value):Option (DataW Value × List MemPlace):=some (.held v,[])
def MapF (P:Program) (k:TypeId) (w:World) (b:Nat) (f:Int->Option Value) (n:Nat):Prop :=
 ∃ D:DataW Value,w.ownsMap P k asIs b n D/\Maps.size D=n/\∀ a:Int,Maps.has D (.int .i64 a)=(f a).isSome/\∀ v,f a=some v->∀ z,D.atKey (.int .i64 a) z=.held v
def putF (f:Int->Option Value) (a:Int) (v:Value):Int->Option Value:=fun i=>if i=a then some v else f i
def delF (f:Int->Option Value) (a:Int):Int->Option Value:=fun i=>if i=a then none else f i
theorem putF_same (f:Int->Option Value) (a:Int) (v:Value):putF f a v a=some v:=if_pos rfl
theorem putF_other (f:Int->Option Value) {a i:Int}(v:Value) (h:i≠a):putF f a v i=f i:=if_neg h
theorem delF_same (f:Int->Option Value) (a:Int):delF f a a=none:=if_pos rfl
theorem delF_other (f:Int->Option Value) {a i:Int}(h:i≠a):delF f a i=f i:=if_neg h
variable {P : Program} {k e t : TypeId} {w : World} {b n : Nat} {f : Int → Option Value}
theorem tight {D:DataW Value}{R:Value->Option (DataW Value × List MemPlace)}{m:Nat}(h:w.ownsMap P k R b m D):w.ownsMap P k R b (Maps.size D) D:=by
 obtain ⟨es,clock,hb,F,_,rfl⟩:=h
 exact ⟨es,clock,hb,F,by simp [Maps.size,length_sorted],rfl⟩
theorem MapF.made (w:World) (P:Program) (k:TypeId):MapF P k (w.alloc (.map #[] 0)) w.heap.size (fun _=>none) 0 :=
 ⟨_,World.ownsMap_made w P k asIs,rfl,fun a=>⟨rfl,fun v h=>by cases h⟩⟩
theorem MapF.lt (h:MapF P k w b f n):b < w.heap.size:=by obtain ⟨D,h,_⟩:=h;exact h.lt
theorem MapF.kept {w':World}(h:MapF P k w b f n) (hb:w'.heap[b]? = w.heap[b]?):MapF P k w' b f n:=by
 obtain ⟨D,⟨es,clock,h1,h2⟩,h3⟩:=h
 exact ⟨D,⟨es,clock,hb.trans h1,h2⟩,h3⟩
theorem MapF.keep {F:Nat->Prop}{w':World}(h:MapF P k w b f n) (hk:Keep F w w') (hn:¬ F b):MapF P k w' b f n:=h.kept (hk.block b h.lt hn)
theorem MapF.cell (h:MapF P k w b f n) (o:Nat):w.cell? ⟨b,o,none⟩=none:=by
 obtain ⟨D,⟨es,clock,h1,_⟩,_⟩:=h
 simp [World.cell?,h1]
theorem key_of (hk:P.underlying k=some (.int .i64)) {a:Int}(ha:(Lit.int .i64 a).wf=true):keyOf P k (.int .i64 a)=some (.int .i64 a):=keyOf_int_mk hk ha
theorem MapF.look_some (h:MapF P k w b f n) (hk:P.underlying k=some (.int .i64)) (ht:P.underlying t=some (.map k e)) {z:Value}(hz:(zeroValue e).run P w=.ok z w) {a:Int}(ha:(Lit.int .i64 a).wf=true) {v:Value}(hv:f a=some v) (c:Bool) :
  (Instr.lookup t (.map (some b)) (.int .i64 a) c).run P w=.ok (if c then .tuple #[v,.bool true] else v) w:=by
 obtain ⟨D,h1,_,h3⟩:=h
 obtain ⟨h4,h5⟩:=h3 a
 rw [hv] at h4
 cases c with
 | true =>
   obtain ⟨v',ps,hrun,hR⟩:=h1.look_ok (int_keyed hk) ht hz (zd:=.held z) (zp:=[]) rfl (key_of hk ha)
   rw [h5 v hv] at hR
   simp only [asIs,Option.some.injEq,Prod.mk.injEq,DataW.held.injEq] at hR
   rw [h4,hR.1] at hrun
   exact hrun
 | false =>
   obtain ⟨v',ps,hrun,hR⟩:=h1.lookup (int_keyed hk) ht hz (zd:=.held z) (zp:=[]) rfl (key_of hk ha)
   rw [h5 v hv] at hR
   simp only [asIs,Option.some.injEq,Prod.mk.injEq,DataW.held.injEq] at hR
   rw [hR.1] at hrun
   exact hrun
theorem MapF.look_none (h:MapF P k w b f n) (hk:P.underlying k=some (.int .i64)) (ht:P.underlying t=some (.map k e)) {z:Value}(hz:(zeroValue e).run P w=.ok z w) {a:Int}(ha:(Lit.int .i64 a).wf=true) (hv:f a=none) (c:Bool) :
  (Instr.lookup t (.map (some b)) (.int .i64 a) c).run P w=.ok (if c then .tuple #[z,.bool false] else z) w:=by
 obtain ⟨D,h1,_,h3⟩:=h
 obtain ⟨h4,_⟩:=h3 a
 rw [hv] at h4
 have h5:D.atKey (.int .i64 a) (.held z)=.held z:=atKey_of_not_has h4 _
 cases c with
 | true =>
   obtain ⟨v',ps,hrun,hR⟩:=h1.look_ok (int_keyed hk) ht hz (zd:=.held z) (zp:=[]) rfl (key_of hk ha)
   rw [h5] at hR
   simp only [asIs,Option.some.injEq,Prod.mk.injEq,DataW.held.injEq] at hR
   rw [h4,hR.1] at hrun
   exact hrun
 | false =>
   obtain ⟨v',ps,hrun,hR⟩:=h1.lookup (int_keyed hk) ht hz (zd:=.held z) (zp:=[]) rfl (key_of hk ha)
   rw [h5] at hR
   simp only [asIs,Option.some.injEq,Prod.mk.injEq,DataW.held.injEq] at hR
   rw [hR.1] at hrun
   exact hrun
theorem MapF.len (h:MapF P k w b f n) (ht:P.underlying t=some (.map k e)) (ty:TypeId):(Builtin.len_ #[t] ty #[.map (some b)]).run P w=.ok (.int .i64 n) w:=by
 obtain ⟨D,h1,h2,_⟩:=h
 rw [<- h2]
 exact h1.len ht ty
theorem lit_ne {a i:Int}(h:i≠a):(Lit.int .i64 i)≠.int .i64 a:=fun e=>h (by cases e;rfl)
theorem is_key (a:Int):WideAt.IsKeyLit (.int .i64 a):=trivial
theorem MapF.store (h:MapF P k w b f n) (hk:P.underlying k=some (.int .i64)) (ht:P.underlying t=some (.map k e)) (hn:n < maxLen) {a:Int}(ha:(Lit.int .i64 a).wf=true) (v:Value) :
  ∃ w',(Instr.mapUpdate t (.map (some b)) (.int .i64 a) v).run P w=.ok () w'/\MapF P k w' b (putF f a v) (if (f a).isSome then n else n+1)/\w.mapTurned w' b:=by
 obtain ⟨D,h1,h2,h3⟩:=h
 obtain ⟨w',hrun,ho,hg⟩:=h1.store (int_keyed hk) ht hn (key_of hk ha) (val:=v) (d:=.held v) (ps:=[]) rfl
 refine ⟨w',hrun,⟨D.put (.int .i64 a) (.held v),?_,?_,fun i=>?_⟩,hg⟩
 ·have:=tight ho
  rw [size_put (h1.tidy (int_keyed hk)),(h3 a).1,h2] at this
  exact this
 ·rw [size_put (h1.tidy (int_keyed hk)),(h3 a).1,h2]
 ·by_cases hi:i=a
  ·subst hi
   rw [putF_same]
   exact ⟨has_put_same h1.isMap (is_key i) _,fun u hu z=>by cases hu;exact atKey_put_same h1.isMap (is_key i) _ _⟩
  ·rw [putF_other _ _ hi,has_put_other (lit_ne hi)]
   exact ⟨(h3 i).1,fun u hu z=>by rw [atKey_put_other (lit_ne hi)];exact (h3 i).2 u hu z⟩
theorem MapF.drop (h:MapF P k w b f n) (hk:P.underlying k=some (.int .i64)) (ht:P.underlying t=some (.map k e)) {a:Int}(ha:(Lit.int .i64 a).wf=true) (ty:TypeId) :
  ∃ w',(Builtin.delete_ #[t,k] ty #[.map (some b),.int .i64 a]).run P w=.ok (.tuple #[]) w'/\MapF P k w' b (delF f a) (if (f a).isSome then n - 1 else n)/\w.mapTurned w' b:=by
 obtain ⟨D,h1,h2,h3⟩:=h
 obtain ⟨w',hrun,ho,hg⟩:=h1.drop (int_keyed hk) ht (key_of hk ha) ty
 have hs:=size_del (k:=.int .i64 a) (h1.tidy (int_keyed hk))
 rw [(h3 a).1,h2] at hs
 have hs2:Maps.size (D.del (.int .i64 a))=if (f a).isSome then n - 1 else n:=by
  cases hx:(f a).isSome <;> simp [hx] at hs ⊢ <;> omega
 refine ⟨w',hrun,⟨D.del (.int .i64 a),?_,hs2,fun i=>?_⟩,hg⟩
 ·rw [<- hs2];exact tight ho
 ·by_cases hi:i=a
  ·subst hi
   rw [delF_same]
   exact ⟨has_del_same,fun u hu=>by cases hu⟩
  ·rw [delF_other _ hi,has_del_other (lit_ne hi)]
   exact ⟨(h3 i).1,fun u hu z=>by rw [atKey_del_other (lit_ne hi)];exact (h3 i).2 u hu z⟩
section
variable {ops : Array Oper} {rest : List Oper} {o : Oper} {a : Act} {Q : Exit → Act → World → Prop}
theorem wpList_put (hg:o.guard=none) (m x v:Operand) (t:TypeId) (hop:o.op=Op.mapUpdate t m x v) (k e:TypeId) (hk:P.underlying k=some (.int .i64)) (ht:P.underlying t=some (.map k e)) (b n:Nat) (f:Int->Option Value)
  (hm:a.eval m=.map (some b)) (h:MapF P k w b f n) (hn:n < maxLen) (i:Int) (val:Value) (hx:a.eval x=.int .i64 i) (hv:a.eval v=val) (hi:(Lit.int .i64 i).wf=true)
  (hK:∀ w',MapF P k w' b (putF f i val) (if (f i).isSome then n else n+1)->w.mapTurned w' b->wpList P ops Q rest (a.put o.dst undef) w') :
  wpList P ops Q (o::rest) a w:=by
 refine wpList_plain hg fun K' hK'=>?_
 obtain ⟨w',hrun,r1,r2⟩:=h.store hk ht hn hi val
 unfold Oper.wp
 simp [execOp,hop,hm,hx,hv,hrun,Result.andThen]
 exact hK' _ _ (hK w' r1 r2)
end
end
section
open Go.Maps Go.RowKit
def RngF (P:Program) (k:TypeId) (w:World) (b r:Nat) (f:Int->Option Value) (n:Nat) (left:Int->Bool) (cnt:Nat):Prop :=
 ∃ (D:DataW Value) (lf:Lit->Bool),w.ranges P k asIs b r n D lf cnt/\Maps.size D=n/\(∀ a:Int,Maps.has D (.int .i64 a)=(f a).isSome/\∀ v,f a=some v->∀ z,D.atKey (.int .i64 a) z=.held v)/\∀ a:Int,lf (.int .i64 a)=left a
variable {P : Program} {k e t : TypeId} {w : World} {b r n cnt : Nat} {f : Int → Option Value} {left : Int → Bool}
theorem RngF.map (h:RngF P k w b r f n left cnt):MapF P k w b f n:=by
 obtain ⟨D,lf,h1,h2,h3,_⟩:=h
 exact ⟨D,h1.owns,h2,h3⟩
theorem RngF.lt (h:RngF P k w b r f n left cnt):r < w.heap.size:=by obtain ⟨D,lf,h1,_⟩:=h;exact h1.lt
theorem RngF.kept {w':World}(h:RngF P k w b r f n left cnt) (hb:w'.heap[b]? = w.heap[b]?) (hr:w'.heap[r]? = w.heap[r]?):RngF P k w' b r f n left cnt:=by
 obtain ⟨D,lf,⟨es,clock,since,seen,c0,h1,h2,h3,h4,h5,h6⟩,h7⟩:=h
 exact ⟨D,lf,⟨es,clock,since,seen,c0,hb.trans h1,h2,h3,h4,hr.trans h5,h6⟩,h7⟩
theorem RngF.keep {F:Nat->Prop}{w':World}(h:RngF P k w b r f n left cnt) (hk:Keep F w w') (hb:¬ F b) (hr:¬ F r):RngF P k w' b r f n left cnt :=
 h.kept (hk.block b h.map.lt hb) (hk.block r h.lt hr)
section
variable {ops : Array Oper} {rest : List Oper} {o : Oper} {a : Act} {Q : Exit → Act → World → Prop}
theorem wpList_rangeF (hg:o.guard=none) (m:Operand) (t:TypeId) (hop:o.op=Op.range t m) (k e:TypeId) (hk:P.underlying k=some (.int .i64)) (ht:P.underlying t=some (.map k e)) (b n:Nat) (f:Int->Option Value)
  (hm:a.eval m=.map (some b)) (h:MapF P k w b f n)
  (hK:∀ w',RngF P k w' b w.heap.size f n (fun x=>(f x).isSome) n->w.grownBy w' none->w'.heap.size=w.heap.size+1->wpList P ops Q rest (a.put o.dst (.pointer (some ⟨w.heap.size,0,none⟩))) w') :
  wpList P ops Q (o::rest) a w:=by
 obtain ⟨D,h1,h2,h3⟩:=h
 refine wpList_range_own w hg m t hop k e (int_keyed hk) ht asIs b n D hm h1 fun w' r1 r2 r3=>hK w' ⟨D,_,h2 ▸ r1,h2,h3,fun a=>(h3 a).1⟩ r2 r3
theorem wpList_nextF (hg:o.guard=none) (it:Operand) (hop:o.op=Op.next it false) (k:TypeId) (hk:P.underlying k=some (.int .i64)) (b r n:Nat) (f:Int->Option Value) (left:Int->Bool) (cnt:Nat)
  (hit:a.eval it=.pointer (some ⟨r,0,none⟩)) (h:RngF P k w b r f n left cnt)
  (hDone:cnt=0->(∀ x,left x=false)->wpList P ops Q rest (a.put o.dst (.tuple #[.bool false])) w)
  (hMore:∀ (x:Int) (v:Value) (w':World) (cnt':Nat),(Lit.int .i64 x).wf=true->left x=true->f x=some v->RngF P k w' b r f n (fun z=>left z&&!decide (z=x)) cnt'->cnt' < cnt ->
   w.grownBy w' (some r)->w'.heap.size=w.heap.size->(Instr.entry (.pointer (some ⟨r,0,none⟩))).run P w'=.ok (.tuple #[.int .i64 x,v]) w'->wpList P ops Q rest (a.put o.dst (.tuple #[.bool true,.int .i64 x,v])) w') :
  wpList P ops Q (o::rest) a w:=by
 obtain ⟨D,lf,h1,h2,h3,h4⟩:=h
 refine wpList_next_ranges w hg it hop k (int_keyed hk) asIs (Value.int .i64) id (fun key kl hkey=>by obtain ⟨x,rfl,_⟩:=Maps.keyOf_int_inv hk hkey;exact ⟨x,rfl⟩) (fun v y _=>⟨v,rfl⟩) b r n D lf cnt hit h1 (fun h0 hl=>hDone h0 fun x=>(h4 x).symm.trans (hl _)) ?_
 intro x v kl y w' cnt' hkey hl hv hat hrg hlt hgr hsz hen
 obtain ⟨x',ex,rfl,hwx⟩:=Maps.keyOf_int_inv hk hkey
 cases ex
 have hy:y.1=.held v:=by
  simp only [asIs,Option.some.injEq,id] at hv
  rw [<- hv]
 rw [hy] at hat
 have hh:Maps.has D (.int .i64 x)=true:=has_true_of_atKey hat
 obtain ⟨g1,g2⟩:=h3 x
 rw [hh] at g1
 have hf:f x=some v:=by
  cases hfx:f x with
  | none=>rw [hfx] at g1;cases g1
  | some u =>
    have:=(g2 u hfx (.held v)).symm.trans (hat (.held v))
    cases this
    rfl
 refine hMore x v w' cnt' hwx ((h4 x).symm.trans hl) hf ⟨D,_,hrg,h2,h3,fun a=>?_⟩ hlt hgr hsz hen
 show (lf (.int .i64 a)&&!(Lit.int .i64 a).sameKey (.int .i64 x))=(left a&&!decide (a=x))
 rw [h4 a]
 by_cases e:a=x
 ·subst e
  rw [WideAt.sameKey_self (is_key a),decide_eq_true rfl]
 ·rw [sameKey_ne (lit_ne e),decide_eq_false e]
end
end
end Go.Proofs.YtipbhlofbpnpjaaGreatDoor
