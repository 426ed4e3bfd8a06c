/-
  Texts laid together: MapF, RangeF, Math, HeapM, FloodM, Aid.
-/
import Derived.WalkKit
import Derived.WalkSpells
import Derived.Maps.OwnSet
import Derived.Maps.OwnOps
import Derived.Deep.QuietTactic
import Derived.BigQuiet
import Derived.Maps.Ext
import Derived.Maps.RangeWalk
import Derived.Laws.IdiomRangeMap
import Derived.WalkLawsBesides
namespace Go.Proofs.YtipbhlofbpnpjaaGreatDoor
section
open Go.RowKit Go.Maps
structure Keep (F:Nat->Prop) (w w':World):Prop where
 os:w'.os=w.os
 tape:w'.tape=w.tape
 output:w'.output=w.output
 size:w.heap.size<=w'.heap.size
 block:∀ k,k<w.heap.size->¬ F k->w'.heap[k]? = w.heap[k]?
theorem Keep.refl (F:Nat->Prop)(w:World):Keep F w w:=⟨rfl,rfl,rfl,Nat.le_refl _,fun _ _ _=>rfl⟩
theorem Keep.trans {F G:Nat->Prop}{a b c:World}(h:Keep F a b)(k:Keep G b c)(hs:∀ i,i<a.heap.size->G i->F i):Keep F a c :=
 ⟨k.os.trans h.os,k.tape.trans h.tape,k.output.trans h.output,Nat.le_trans h.size k.size,fun i hi hn=>(k.block i (Nat.lt_of_lt_of_le hi h.size) (fun g=>hn (hs i hi g))).trans (h.block i hi hn)⟩
theorem Keep.mono {F G:Nat->Prop}{a b:World}(h:Keep F a b)(hs:∀ i,i<a.heap.size->F i->G i):Keep G a b :=
 ⟨h.os,h.tape,h.output,h.size,fun i hi hn=>h.block i hi (fun g=>hn (hs i hi g))⟩
theorem Keep.grown {F:Nat->Prop}{a b c:World}{row:Option Nat}(h:Keep F a b)(hg:b.grownBy c row)(hr:∀ k,row=some k->k<a.heap.size->F k):Keep F a c :=
 ⟨hg.os.trans h.os,hg.tape.trans h.tape,hg.output.trans h.output,Nat.le_trans h.size hg.size,fun i hi hn=>(hg.block i (Nat.lt_of_lt_of_le hi h.size) (fun e=>hn (hr i e.symm hi))).trans (h.block i hi hn)⟩
theorem Keep.alloc {F:Nat->Prop}{a b:World}(h:Keep F a b)(o:Obj):Keep F a (b.alloc o):=h.grown (World.grownBy_alloc b o none) (by simp)
theorem Keep.setCell {F:Nat->Prop}{a b:World}(h:Keep F a b){p:Addr}(hp:p.block<a.heap.size->F p.block)(u:Value):Keep F a (b.setCell p u) :=
 ⟨h.os,h.tape,h.output,by simpa using h.size,fun i hi hn=>(Below.heap_setCell b p u i (fun e=>hn (by rw [e] at hi ⊢;exact hp hi))).trans (h.block i hi hn)⟩
theorem Keep.drewN {F:Nat->Prop}{a b:World}(h:Keep F a b)(m:Nat):Keep F a (b.drewN m):=⟨h.os,h.tape,h.output,h.size,h.block⟩
theorem Keep.drew {F:Nat->Prop}{a b:World}(h:Keep F a b):Keep F a b.drew:=⟨h.os,h.tape,h.output,h.size,h.block⟩
theorem Keep.below {F:Nat->Prop}{a b c:World}(h:Keep F a b)(hb:Below b.heap.size b c):Keep F a c :=
 ⟨hb.os.trans h.os,hb.tape.trans h.tape,hb.output.trans h.output,Nat.le_trans h.size hb.size,fun i hi hn=>(hb.block i (Nat.lt_of_lt_of_le hi h.size)).trans (h.block i hi hn)⟩
theorem Keep.of_below {F:Nat->Prop}{b c:World}(hb:Below b.heap.size b c):Keep F b c:=(Keep.refl F b).below hb
theorem Keep.to_below {F:Nat->Prop}{B:Nat}{a b:World}(h:Keep F a b)(hB:B<=a.heap.size)(hF:∀ k,F k->B<=k):Below B a b :=
 ⟨h.os,h.tape,h.output,h.size,fun i hi=>h.block i (by omega) (fun g=>by have:=hF i g;omega)⟩
theorem Keep.cell {F:Nat->Prop}{w w':World}(h:Keep F w w'){p:Addr}(hp:p.block<w.heap.size)(hn:¬ F p.block):w'.cell? p=w.cell? p:=World.cell?_of_block (w:=w) (h.block p.block hp hn)
theorem Keep.frozen {F:Nat->Prop}{w w':World}(h:Keep F w w'){p:Addr}(hp:p.block<w.heap.size)(hn:¬ F p.block):w'.frozen? p=w.frozen? p:=World.frozen?_of_block (w:=w) (h.block p.block hp hn)
theorem Keep.cellOf {F:Nat->Prop}{w w':World}(h:Keep F w w'){p:Addr}{v:Value}(hc:w.cell? p=some v)(hn:¬ F p.block):w'.cell? p=some v:=(h.cell (World.block_lt_of_cell? w p hc) hn).trans hc
def asIs (v:Value):Option (DataW Value × List MemPlace):=some (.held v,[])
def MapF (P:Program) (k:TypeId) (w:World) (b:Nat) (f:Int->Option Value) (n:Nat):Prop :=
 ∃ D:DataW Value,w.ownsMap P k asIs b n D/\Maps.size D=n/\∀ a:Int,Maps.has D (.int .i64 a)=(f a).isSome/\∀ v,f a=some v->∀ z,D.atKey (.int .i64 a) z=.held v
def putF (f:Int->Option Value) (a:Int) (v:Value):Int->Option Value:=fun i=>if i=a then some v else f i
def delF (f:Int->Option Value) (a:Int):Int->Option Value:=fun i=>if i=a then none else f i
theorem putF_same (f:Int->Option Value)(a:Int)(v:Value):putF f a v a=some v:=if_pos rfl
theorem putF_other (f:Int->Option Value){a i:Int}(v:Value)(h:i≠a):putF f a v i=f i:=if_neg h
theorem delF_same (f:Int->Option Value)(a:Int):delF f a a=none:=if_pos rfl
theorem delF_other (f:Int->Option Value){a i:Int}(h:i≠a):delF f a i=f i:=if_neg h
variable {P : Program} {k e t : TypeId} {w : World} {b n : Nat} {f : Int → Option Value}
theorem tight {D:DataW Value}{R:Value->Option (DataW Value × List MemPlace)}{m:Nat}(h:w.ownsMap P k R b m D):w.ownsMap P k R b (Maps.size D) D:=by
 obtain ⟨es,clock,hb,F,_,rfl⟩:=h
 exact ⟨es,clock,hb,F,by simp [Maps.size,length_sorted],rfl⟩
theorem MapF.made (w:World)(P:Program)(k:TypeId):MapF P k (w.alloc (.map #[] 0)) w.heap.size (fun _=>none) 0 :=
 ⟨_,World.ownsMap_made w P k asIs,rfl,fun a=>⟨rfl,fun v h=>by cases h⟩⟩
theorem MapF.lt (h:MapF P k w b f n):b<w.heap.size:=by obtain ⟨D,h,_⟩:=h;exact h.lt
theorem MapF.kept {w':World}(h:MapF P k w b f n)(hb:w'.heap[b]? = w.heap[b]?):MapF P k w' b f n:=by
 obtain ⟨D,⟨es,clock,h1,h2⟩,h3⟩:=h
 exact ⟨D,⟨es,clock,hb.trans h1,h2⟩,h3⟩
theorem MapF.keep {F:Nat->Prop}{w':World}(h:MapF P k w b f n)(hk:Keep F w w')(hn:¬ F b):MapF P k w' b f n:=h.kept (hk.block b h.lt hn)
theorem MapF.cell (h:MapF P k w b f n)(o:Nat):w.cell? ⟨b,o,none⟩=none:=by
 obtain ⟨D,⟨es,clock,h1,_⟩,_⟩:=h
 simp [World.cell?,h1]
theorem key_of (hk:P.underlying k=some (.int .i64)){a:Int}(ha:(Lit.int .i64 a).wf=true):keyOf P k (.int .i64 a)=some (.int .i64 a):=keyOf_int_mk hk ha
theorem MapF.look_some (h:MapF P k w b f n)(hk:P.underlying k=some (.int .i64))(ht:P.underlying t=some (.map k e)){z:Value}(hz:(zeroValue e).run P w=.ok z w){a:Int}(ha:(Lit.int .i64 a).wf=true){v:Value}(hv:f a=some v)(c:Bool) :
  (Instr.lookup t (.map (some b)) (.int .i64 a) c).run P w=.ok (if c then .tuple #[v,.bool true] else v) w:=by
 obtain ⟨D,h1,_,h3⟩:=h
 obtain ⟨h4,h5⟩:=h3 a
 rw [hv] at h4
 cases c with
 |true =>
  obtain ⟨v',ps,hrun,hR⟩:=h1.look_ok (int_keyed hk) ht hz (zd:=.held z) (zp:=[]) rfl (key_of hk ha)
  rw [h5 v hv] at hR
  simp only [asIs,Option.some.injEq,Prod.mk.injEq,DataW.held.injEq] at hR
  rw [h4,hR.1] at hrun
  exact hrun
 |false =>
  obtain ⟨v',ps,hrun,hR⟩:=h1.lookup (int_keyed hk) ht hz (zd:=.held z) (zp:=[]) rfl (key_of hk ha)
  rw [h5 v hv] at hR
  simp only [asIs,Option.some.injEq,Prod.mk.injEq,DataW.held.injEq] at hR
  rw [hR.1] at hrun
  exact hrun
theorem MapF.look_none (h:MapF P k w b f n)(hk:P.underlying k=some (.int .i64))(ht:P.underlying t=some (.map k e)){z:Value}(hz:(zeroValue e).run P w=.ok z w){a:Int}(ha:(Lit.int .i64 a).wf=true)(hv:f a=none)(c:Bool) :
  (Instr.lookup t (.map (some b)) (.int .i64 a) c).run P w=.ok (if c then .tuple #[z,.bool false] else z) w:=by
 obtain ⟨D,h1,_,h3⟩:=h
 obtain ⟨h4,_⟩:=h3 a
 rw [hv] at h4
 have h5:D.atKey (.int .i64 a) (.held z)=.held z:=atKey_of_not_has h4 _
 cases c with
 |true =>
  obtain ⟨v',ps,hrun,hR⟩:=h1.look_ok (int_keyed hk) ht hz (zd:=.held z) (zp:=[]) rfl (key_of hk ha)
  rw [h5] at hR
  simp only [asIs,Option.some.injEq,Prod.mk.injEq,DataW.held.injEq] at hR
  rw [h4,hR.1] at hrun
  exact hrun
 |false =>
  obtain ⟨v',ps,hrun,hR⟩:=h1.lookup (int_keyed hk) ht hz (zd:=.held z) (zp:=[]) rfl (key_of hk ha)
  rw [h5] at hR
  simp only [asIs,Option.some.injEq,Prod.mk.injEq,DataW.held.injEq] at hR
  rw [hR.1] at hrun
  exact hrun
theorem MapF.len (h:MapF P k w b f n)(ht:P.underlying t=some (.map k e))(ty:TypeId):(Builtin.len_ #[t] ty #[.map (some b)]).run P w=.ok (.int .i64 n) w:=by
 obtain ⟨D,h1,h2,_⟩:=h
 rw [<- h2]
 exact h1.len ht ty
theorem lit_ne {a i:Int}(h:i≠a):(Lit.int .i64 i)≠.int .i64 a:=fun e=>h (by cases e;rfl)
theorem is_key (a:Int):WideAt.IsKeyLit (.int .i64 a):=trivial
theorem MapF.store (h:MapF P k w b f n)(hk:P.underlying k=some (.int .i64))(ht:P.underlying t=some (.map k e))(hn:n<maxLen){a:Int}(ha:(Lit.int .i64 a).wf=true)(v:Value) :
  ∃ w',(Instr.mapUpdate t (.map (some b)) (.int .i64 a) v).run P w=.ok () w'/\MapF P k w' b (putF f a v) (if (f a).isSome then n else n+1)/\w.mapTurned w' b:=by
 obtain ⟨D,h1,h2,h3⟩:=h
 obtain ⟨w',hrun,ho,hg⟩:=h1.store (int_keyed hk) ht hn (key_of hk ha) (val:=v) (d:=.held v) (ps:=[]) rfl
 refine ⟨w',hrun,⟨D.put (.int .i64 a) (.held v),?_,?_,fun i=>?_⟩,hg⟩
 ·have:=tight ho
  rw [size_put (h1.tidy (int_keyed hk)),(h3 a).1,h2] at this
  exact this
 ·rw [size_put (h1.tidy (int_keyed hk)),(h3 a).1,h2]
 ·by_cases hi:i=a
  ·subst hi
   rw [putF_same]
   exact ⟨has_put_same h1.isMap (is_key i) _,fun u hu z=>by cases hu;exact atKey_put_same h1.isMap (is_key i) _ _⟩
  ·rw [putF_other _ _ hi,has_put_other (lit_ne hi)]
   exact ⟨(h3 i).1,fun u hu z=>by rw [atKey_put_other (lit_ne hi)];exact (h3 i).2 u hu z⟩
theorem MapF.drop (h:MapF P k w b f n)(hk:P.underlying k=some (.int .i64))(ht:P.underlying t=some (.map k e)){a:Int}(ha:(Lit.int .i64 a).wf=true)(ty:TypeId) :
  ∃ w',(Builtin.delete_ #[t,k] ty #[.map (some b),.int .i64 a]).run P w=.ok (.tuple #[]) w'/\MapF P k w' b (delF f a) (if (f a).isSome then n - 1 else n)/\w.mapTurned w' b:=by
 obtain ⟨D,h1,h2,h3⟩:=h
 obtain ⟨w',hrun,ho,hg⟩:=h1.drop (int_keyed hk) ht (key_of hk ha) ty
 have hs:=size_del (k:=.int .i64 a) (h1.tidy (int_keyed hk))
 rw [(h3 a).1,h2] at hs
 have hs2:Maps.size (D.del (.int .i64 a))=if (f a).isSome then n - 1 else n:=by
  cases hx:(f a).isSome <;> simp [hx] at hs ⊢ <;> omega
 refine ⟨w',hrun,⟨D.del (.int .i64 a),?_,hs2,fun i=>?_⟩,hg⟩
 ·rw [<- hs2];exact tight ho
 ·by_cases hi:i=a
  ·subst hi
   rw [delF_same]
   exact ⟨has_del_same,fun u hu=>by cases hu⟩
  ·rw [delF_other _ hi,has_del_other (lit_ne hi)]
   exact ⟨(h3 i).1,fun u hu z=>by rw [atKey_del_other (lit_ne hi)];exact (h3 i).2 u hu z⟩
section
variable {ops : Array Oper} {rest : List Oper} {o : Oper} {a : Act} {Q : Exit → Act → World → Prop}
theorem wpList_put (hg:o.guard=none)(m x v:Operand)(t:TypeId)(hop:o.op=Op.mapUpdate t m x v)(k e:TypeId)(hk:P.underlying k=some (.int .i64))(ht:P.underlying t=some (.map k e))(b n:Nat)(f:Int->Option Value)
  (hm:a.eval m=.map (some b)) (h:MapF P k w b f n) (hn:n<maxLen) (i:Int) (val:Value) (hx:a.eval x=.int .i64 i) (hv:a.eval v=val) (hi:(Lit.int .i64 i).wf=true)
  (hK:∀ w',MapF P k w' b (putF f i val) (if (f i).isSome then n else n+1)->w.mapTurned w' b->wpList P ops Q rest (a.put o.dst undef) w') :
  wpList P ops Q (o::rest) a w:=by
 refine wpList_plain hg fun K' hK'=>?_
 obtain ⟨w',hrun,r1,r2⟩:=h.store hk ht hn hi val
 unfold Oper.wp
 simp [execOp,hop,hm,hx,hv,hrun,Result.andThen]
 exact hK' _ _ (hK w' r1 r2)
end
end
section
open Go.Maps Go.RowKit
def RngF (P:Program) (k:TypeId) (w:World) (b r:Nat) (f:Int->Option Value) (n:Nat) (left:Int->Bool) (cnt:Nat):Prop :=
 ∃ (D:DataW Value) (lf:Lit->Bool),w.ranges P k asIs b r n D lf cnt/\Maps.size D=n/\(∀ a:Int,Maps.has D (.int .i64 a)=(f a).isSome/\∀ v,f a=some v->∀ z,D.atKey (.int .i64 a) z=.held v)/\∀ a:Int,lf (.int .i64 a)=left a
variable {P : Program} {k e t : TypeId} {w : World} {b r n cnt : Nat} {f : Int → Option Value} {left : Int → Bool}
theorem RngF.map (h:RngF P k w b r f n left cnt):MapF P k w b f n:=by
 obtain ⟨D,lf,h1,h2,h3,_⟩:=h
 exact ⟨D,h1.owns,h2,h3⟩
theorem RngF.lt (h:RngF P k w b r f n left cnt):r<w.heap.size:=by obtain ⟨D,lf,h1,_⟩:=h;exact h1.lt
theorem RngF.kept {w':World}(h:RngF P k w b r f n left cnt)(hb:w'.heap[b]? = w.heap[b]?)(hr:w'.heap[r]? = w.heap[r]?):RngF P k w' b r f n left cnt:=by
 obtain ⟨D,lf,⟨es,clock,since,seen,c0,h1,h2,h3,h4,h5,h6⟩,h7⟩:=h
 exact ⟨D,lf,⟨es,clock,since,seen,c0,hb.trans h1,h2,h3,h4,hr.trans h5,h6⟩,h7⟩
theorem RngF.keep {F:Nat->Prop}{w':World}(h:RngF P k w b r f n left cnt)(hk:Keep F w w')(hb:¬ F b)(hr:¬ F r):RngF P k w' b r f n left cnt :=
 h.kept (hk.block b h.map.lt hb) (hk.block r h.lt hr)
section
variable {ops : Array Oper} {rest : List Oper} {o : Oper} {a : Act} {Q : Exit → Act → World → Prop}
theorem wpList_rangeF (hg:o.guard=none)(m:Operand)(t:TypeId)(hop:o.op=Op.range t m)(k e:TypeId)(hk:P.underlying k=some (.int .i64))(ht:P.underlying t=some (.map k e))(b n:Nat)(f:Int->Option Value)
  (hm:a.eval m=.map (some b)) (h:MapF P k w b f n)
  (hK:∀ w',RngF P k w' b w.heap.size f n (fun x=>(f x).isSome) n->w.grownBy w' none->w'.heap.size=w.heap.size+1->wpList P ops Q rest (a.put o.dst (.pointer (some ⟨w.heap.size,0,none⟩))) w') :
  wpList P ops Q (o::rest) a w:=by
 obtain ⟨D,h1,h2,h3⟩:=h
 refine wpList_range_own w hg m t hop k e (int_keyed hk) ht asIs b n D hm h1 fun w' r1 r2 r3=>hK w' ⟨D,_,h2 ▸ r1,h2,h3,fun a=>(h3 a).1⟩ r2 r3
theorem wpList_nextF (hg:o.guard=none)(it:Operand)(hop:o.op=Op.next it false)(k:TypeId)(hk:P.underlying k=some (.int .i64))(b r n:Nat)(f:Int->Option Value)(left:Int->Bool)(cnt:Nat)
  (hit:a.eval it=.pointer (some ⟨r,0,none⟩)) (h:RngF P k w b r f n left cnt)
  (hDone:cnt=0->(∀ x,left x=false)->wpList P ops Q rest (a.put o.dst (.tuple #[.bool false])) w)
  (hMore:∀ (x:Int) (v:Value) (w':World) (cnt':Nat),(Lit.int .i64 x).wf=true->left x=true->f x=some v->RngF P k w' b r f n (fun z=>left z&&!decide (z=x)) cnt'->cnt'<cnt ->
   w.grownBy w' (some r)->w'.heap.size=w.heap.size->(Instr.entry (.pointer (some ⟨r,0,none⟩))).run P w'=.ok (.tuple #[.int .i64 x,v]) w'->wpList P ops Q rest (a.put o.dst (.tuple #[.bool true,.int .i64 x,v])) w') :
  wpList P ops Q (o::rest) a w:=by
 obtain ⟨D,lf,h1,h2,h3,h4⟩:=h
 refine wpList_next_ranges w hg it hop k (int_keyed hk) asIs (Value.int .i64) id (fun key kl hkey=>by obtain ⟨x,rfl,_⟩:=Maps.keyOf_int_inv hk hkey;exact ⟨x,rfl⟩) (fun v y _=>⟨v,rfl⟩) b r n D lf cnt hit h1 (fun h0 hl=>hDone h0 fun x=>(h4 x).symm.trans (hl _)) ?_
 intro x v kl y w' cnt' hkey hl hv hat hrg hlt hgr hsz hen
 obtain ⟨x',ex,rfl,hwx⟩:=Maps.keyOf_int_inv hk hkey
 cases ex
 have hy:y.1=.held v:=by
  simp only [asIs,Option.some.injEq,id] at hv
  rw [<- hv]
 rw [hy] at hat
 have hh:Maps.has D (.int .i64 x)=true:=has_true_of_atKey hat
 obtain ⟨g1,g2⟩:=h3 x
 rw [hh] at g1
 have hf:f x=some v:=by
  cases hfx:f x with
  |none=>rw [hfx] at g1;cases g1
  |some u =>
   have:=(g2 u hfx (.held v)).symm.trans (hat (.held v))
   cases this
   rfl
 refine hMore x v w' cnt' hwx ((h4 x).symm.trans hl) hf ⟨D,_,hrg,h2,h3,fun a=>?_⟩ hlt hgr hsz hen
 show (lf (.int .i64 a)&&!(Lit.int .i64 a).sameKey (.int .i64 x))=(left a&&!decide (a=x))
 rw [h4 a]
 by_cases e:a=x
 ·subst e
  rw [WideAt.sameKey_self (is_key a),decide_eq_true rfl]
 ·rw [sameKey_ne (lit_ne e),decide_eq_false e]
end
end
section
def sqs (n:Int):Int:=if n<0 then -n*n else n*n
def cmpI (a b:Int):Int:=if a<b then -1 else if b<a then 1 else 0
def cmpC (s d t e:Int):Int:=cmpI (sqs (s - t)) (2*sqs (e - d))
def val (s d:Int):Int:=38613965*s+54608393*d
theorem mul_self_nonneg (n:Int):0<=n*n:=by
 rcases Int.le_total 0 n with h|h
 ·exact Int.mul_nonneg h h
 ·exact Int.mul_nonneg_of_nonpos_of_nonpos h h
theorem mul_self_bd (n:Int)(h1:-8388608<=n)(h2:n<=8388608):0<=n*n/\n*n<=70368744177664:=by
 refine ⟨mul_self_nonneg n,?_⟩
 rcases Int.le_total 0 n with h|h
 ·have:=Int.mul_le_mul_of_nonneg_right h2 h
  omega
 ·have:=Int.mul_le_mul_of_nonpos_right h1 h
  omega
theorem sqs_bd (n:Int)(h1:-8388608<=n)(h2:n<=8388608):-70368744177664<=sqs n/\sqs n<=70368744177664:=by
 have:=mul_self_bd n h1 h2
 unfold sqs
 have e:-n*n=-(n*n):=Int.neg_mul n n
 split <;> omega
theorem sqs_neg (n:Int):sqs (-n)=-sqs n:=by
 unfold sqs
 have e1:-n*n=-(n*n):=Int.neg_mul n n
 have e2:- -n*-n=-(n*n):=by rw [Int.neg_neg,Int.mul_neg]
 have e3:-n*-n=n*n:=by rw [Int.neg_mul,Int.mul_neg,Int.neg_neg]
 split
 ·split
  ·omega
  ·omega
 ·split
  ·omega
  ·have:n=0:=by omega
   subst this;rfl
theorem sq_mul (k x:Int):k*x*(k*x)=k*k*(x*x):=by
 rw [Int.mul_assoc,Int.mul_assoc,Int.mul_left_comm x k x]
theorem sq_p (y:Int):54608393*y*(54608393*y)=2982076586042449*(y*y):=by
 rw [sq_mul];rfl
theorem sq_q (y:Int):38613965*y*(38613965*y)=1491038293021225*(y*y):=by
 rw [sq_mul];rfl
theorem sq_le (a b:Int)(h0:0<=a)(h:a<=b):a*a<=b*b:=Int.mul_le_mul h h h0 (by omega)
theorem pos_lt (x y:Int)(hx:0<=x)(hy:0<=y)(hq:y<38613965):x*x<2*(y*y)↔38613965*x<54608393*y:=by
 constructor
 ·intro h
  by_cases g:38613965*x<54608393*y
  ·exact g
  ·have g:54608393*y<=38613965*x:=by omega
   have k:=sq_le (54608393*y) (38613965*x) (by omega) g
   have e1:=sq_p y
   have e2:=sq_q x
   have k2:=sq_le y 38613964 hy (by omega)
   have e3:(38613964*38613964:Int)=1491038215793296:=by decide
   rw [e1,e2] at k
   rw [e3] at k2
   clear e1 e2 e3 g hx hy hq
   generalize x*x=X at *
   generalize y*y=Y at *
   omega
 ·intro g
  have hlt:38613965*x+1<=54608393*y:=by omega
  have k:=sq_le (38613965*x) (54608393*y) (by omega) (by omega)
  have e1:=sq_p y
  have e2:=sq_q x
  have hy1:1<=y:=by omega
  have k3:=sq_le 1 y (by omega) hy1
  rw [e1,e2] at k
  clear e1 e2 g hx hy hq hlt hy1
  generalize x*x=X at *
  generalize y*y=Y at *
  omega
theorem no_mid (x y:Int)(h:38613965*x=54608393*y)(h1:-38613965<y)(h2:y<38613965):x=0/\y=0:=by
 have e0:54608393*(38613965*x)=54608393*(54608393*y):=by rw [h]
 have e:y=38613965*(77227930*y - 54608393*x):=by
  rw [Int.mul_sub,<- Int.mul_assoc,<- Int.mul_assoc]
  rw [<- Int.mul_assoc,<- Int.mul_assoc] at e0
  have n1:(54608393*38613965:Int)=2108646576008245:=by decide
  have n2:(54608393*54608393:Int)=2982076586042449:=by decide
  have n3:(38613965*77227930:Int)=2982076586042450:=by decide
  have n4:(38613965*54608393:Int)=2108646576008245:=by decide
  rw [n1,n2] at e0
  rw [n3,n4,e0]
  clear e0 h n1 n2 n3 n4
  omega
 have hy:y=0:=by
  clear e0 h
  generalize 77227930*y - 54608393*x=k at e
  omega
 subst hy
 exact ⟨by clear e e0;omega,rfl⟩
theorem sq_zero (n:Int)(h:n*n=0):n=0:=by
 rcases Int.mul_eq_zero.mp h with h|h <;> exact h
theorem pos_gt (x y:Int)(hx:0<=x)(hy:0<=y)(hq:y<38613965):2*(y*y)<x*x↔54608393*y<38613965*x:=by
 have h:=pos_lt x y hx hy hq
 constructor
 ·intro g
  rcases Int.lt_trichotomy (38613965*x) (54608393*y) with k|k|k
  ·have:=h.mpr k;omega
  ·obtain ⟨rfl,rfl⟩:=no_mid x y k (Int.lt_of_lt_of_le (by decide) hy) hq
   clear k;omega
  ·exact k
 ·intro g
  rcases Int.lt_trichotomy (x*x) (2*(y*y)) with k|k|k
  ·have:=h.mp k;omega
  ·exfalso
   have k1:=sq_le (54608393*y+1) (38613965*x) (by omega) (by omega)
   have e2:=sq_q x
   have e1:(54608393*y+1)*(54608393*y+1)=2982076586042449*(y*y)+109216786*y+1:=by
    have:=sq_p y
    rw [Int.add_mul,Int.mul_add,this];omega
   rw [e1,e2] at k1
   have k2:y*y<=38613964*y:=Int.mul_le_mul_of_nonneg_right (by omega) hy
   clear e1 e2 g hx h
   generalize x*x=X at *
   generalize y*y=Y at *
   omega
  ·exact k
theorem any_lt (x y:Int)(h1:-38613965<y)(h2:y<38613965):sqs x<2*sqs y↔38613965*x<54608393*y:=by
 have ex:=mul_self_nonneg x
 have ey:=mul_self_nonneg y
 have nx:-x*x=-(x*x):=Int.neg_mul x x
 have ny:-y*y=-(y*y):=Int.neg_mul y y
 have mx:-x*-x=x*x:=by rw [Int.neg_mul,Int.mul_neg,Int.neg_neg]
 have my:-y*-y=y*y:=by rw [Int.neg_mul,Int.mul_neg,Int.neg_neg]
 unfold sqs
 by_cases hx:x<0 <;> by_cases hy:y<0
 ·rw [if_pos hx,if_pos hy]
  have:=pos_gt (-x) (-y) (by omega) (by omega) (by omega)
  rw [mx,my] at this
  constructor
  ·intro g;have:=this.mp (by omega);omega
  ·intro g;have:=this.mpr (by omega);omega
 ·rw [if_pos hx,if_neg hy]
  constructor
  ·intro _;omega
  ·intro _
   by_cases g:0<x*x
   ·omega
   ·have:=sq_zero x (by omega);omega
 ·rw [if_neg hx,if_pos hy]
  constructor
  ·intro _;omega
  ·intro _;omega
 ·rw [if_neg hx,if_neg hy]
  exact pos_lt x y (by omega) (by omega) h2
theorem any_gt (x y:Int)(h1:-38613965<y)(h2:y<38613965):2*sqs y<sqs x↔54608393*y<38613965*x:=by
 have h:=any_lt (-x) (-y) (by omega) (by omega)
 rw [sqs_neg,sqs_neg] at h
 constructor
 ·intro g;have:=h.mp (by omega);omega
 ·intro g;have:=h.mpr (by omega);omega
theorem cmpC_val (s d t u:Int)(h1:-38613965<u - d)(h2:u - d<38613965):cmpC s d t u=cmpI (val s d) (val t u):=by
 have a:=any_lt (s - t) (u - d) h1 h2
 have b:=any_gt (s - t) (u - d) h1 h2
 unfold cmpC cmpI val
 have a':(sqs (s - t)<2*sqs (u - d))=(38613965*s+54608393*d<38613965*t+54608393*u):=by
  rw [propext a];apply propext;constructor <;> intro _ <;> omega
 have b':(2*sqs (u - d)<sqs (s - t))=(38613965*t+54608393*u<38613965*s+54608393*d):=by
  rw [propext b];apply propext;constructor <;> intro _ <;> omega
 simp only [a',b']
theorem shift (a b c d:Int)(h:a+b=c+d):a - c=d - b:=by omega
theorem val_inj (s d t u:Int)(h1:-38613965<u - d)(h2:u - d<38613965)(h:val s d=val t u):s=t/\d=u:=by
 unfold val at h
 have:=no_mid (s - t) (u - d) (by rw [Int.mul_sub,Int.mul_sub];exact shift _ _ _ _ h) h1 h2
 clear h
 omega
theorem cmpI_neg (a b:Int):cmpI a b<0↔a<b:=by
 unfold cmpI
 split
 ·omega
 ·split <;> omega
theorem cmpI_zero (a b:Int):cmpI a b=0↔a=b:=by
 unfold cmpI
 split
 ·omega
 ·split <;> omega
end
section
structure Item where
 id:Int
 s:Int
 d:Int
def Item.v (x:Item):Int:=val x.s x.d
def bef (x y:Item):Prop:=x.v<y.v\/(x.v=y.v/\x.id<y.id)
def upN (i:Nat):Nat:=(i - 1) / 2
theorem bef_trans {x y z:Item}(h:¬ bef y x)(k:¬ bef z y):¬ bef z x:=by
 unfold bef at *;omega
theorem bef_asymm {x y:Item}(h:bef x y):¬ bef y x:=by
 unfold bef at *;omega
theorem bef_irrefl (x:Item):¬ bef x x:=by
 unfold bef;omega
def swI (it:Nat->Item) (i j:Nat):Nat->Item:=fun k=>if k=i then it j else if k=j then it i else it k
def updI (it:Nat->Item) (i:Nat) (x:Item):Nat->Item:=fun k=>if k=i then x else it k
theorem swI_i (it:Nat->Item)(i j:Nat):swI it i j i=it j:=if_pos rfl
theorem swI_j (it:Nat->Item)(i j:Nat):swI it i j j=it i:=by
 unfold swI;by_cases h:j=i
 ·subst h;rw [if_pos rfl]
 ·rw [if_neg h,if_pos rfl]
theorem swI_k (it:Nat->Item){i j k:Nat}(h:k≠i)(h2:k≠j):swI it i j k=it k:=by
 unfold swI;rw [if_neg h,if_neg h2]
theorem updI_i (it:Nat->Item)(i:Nat)(x:Item):updI it i x i=x:=if_pos rfl
theorem updI_k (it:Nat->Item){i k:Nat}(x:Item)(h:k≠i):updI it i x k=it k:=if_neg h
theorem swI_upd (it:Nat->Item)(i j:Nat):swI it i j=updI (updI it i (it j)) j (it i):=by
 funext k
 unfold swI updI
 by_cases h:k=j
 ·by_cases g:k=i
  ·rw [if_pos g,if_pos h];rw [<- h,<- g]
  ·rw [if_neg g,if_pos h,if_pos h]
 ·by_cases g:k=i
  ·rw [if_pos g,if_neg h,if_pos g]
  ·rw [if_neg g,if_neg h,if_neg h,if_neg g]
def Ord (it:Nat->Item) (n:Nat):Prop:=∀ j,0<j->j<n->¬ bef (it j) (it (upN j))
theorem Ord.root {it:Nat->Item}{n:Nat}(h:Ord it n):∀ j,j<n->¬ bef (it j) (it 0):=by
 intro j
 induction j using Nat.strongRecOn with
 |ind j ih =>
  intro hj
  by_cases h0:j=0
  ·subst h0;exact bef_irrefl _
  ·have hlt:upN j<j:=by unfold upN;omega
   exact bef_trans (ih (upN j) hlt (by omega)) (h j (by omega) hj)
structure Rising (it:Nat->Item) (n i:Nat):Prop where
 lt:i<n
 ord:∀ j,0<j->j<n->j≠i->¬ bef (it j) (it (upN j))
 over:∀ j,0<j->j<n->upN j=i->0<i->¬ bef (it j) (it (upN i))
theorem Rising.done {it:Nat->Item}{n i:Nat}(h:Rising it n i)(hd:i=0\/¬ bef (it i) (it (upN i))):Ord it n:=by
 intro j h0 hj
 by_cases e:j=i
 ·subst e
  rcases hd with hd|hd
  ·omega
  ·exact hd
 ·exact h.ord j h0 hj e
theorem Rising.step {it:Nat->Item}{n i:Nat}(h:Rising it n i)(h0:0<i)(hb:bef (it i) (it (upN i))):Rising (swI it i (upN i)) n (upN i):=by
 have hlt:upN i<i:=by unfold upN;omega
 have hn:=h.lt
 refine ⟨by omega,fun j j0 jn jne=>?_,fun j j0 jn ju u0=>?_⟩
 ·by_cases e:j=i
  ·subst e
   rw [swI_i,swI_j]
   exact bef_asymm hb
  ·rw [swI_k it e jne]
   by_cases e1:upN j=i
   ·rw [e1,swI_i]
    exact h.over j j0 jn e1 h0
   ·by_cases e2:upN j=upN i
    ·rw [e2,swI_j]
     have:=h.ord j j0 jn e
     rw [e2] at this
     exact bef_trans (bef_asymm hb) this
    ·rw [swI_k it e1 e2]
     exact h.ord j j0 jn e
 ·have hlt2:upN (upN i)<upN i:=by unfold upN at *;omega
  rw [swI_k it (k:=upN (upN i)) (by omega) (by omega)]
  have ha:=h.ord (upN i) u0 (by omega) (by omega)
  by_cases e:j=i
  ·subst e;rw [swI_i];exact ha
  ·have hj:j≠upN i:=by unfold upN at *;omega
   rw [swI_k it e hj]
   have:=h.ord j j0 jn e
   rw [ju] at this
   exact bef_trans ha this
theorem Rising.last {it:Nat->Item}{n:Nat}(h:Ord it n)(x:Item):Rising (updI it n x) (n+1) n:=by
 refine ⟨by omega,fun j j0 jn jne=>?_,fun j j0 jn ju _=>?_⟩
 ·rw [updI_k it x jne,updI_k it x (by unfold upN;omega)]
  exact h j j0 (by omega)
 ·unfold upN at ju;omega
theorem Rising.less {it:Nat->Item}{n i:Nat}(h:Ord it n)(hi:i<n)(x:Item)(hx:¬ bef (it i) x):Rising (updI it i x) n i:=by
 refine ⟨hi,fun j j0 jn jne=>?_,fun j j0 jn ju u0=>?_⟩
 ·rw [updI_k it x jne]
  by_cases e:upN j=i
  ·rw [e,updI_i]
   have:=h j j0 jn
   rw [e] at this
   exact bef_trans hx this
  ·rw [updI_k it x e];exact h j j0 jn
 ·have hlt:upN i<i:=by unfold upN;omega
  have hj:j≠i:=by unfold upN at ju;omega
  rw [updI_k it x hj,updI_k it x (k:=upN i) (by omega)]
  have a:=h j j0 jn
  rw [ju] at a
  exact bef_trans (h i u0 hi) a
structure Sinking (it:Nat->Item) (n i:Nat):Prop where
 ord:∀ j,0<j->j<n->upN j≠i->¬ bef (it j) (it (upN j))
 over:∀ j,0<j->j<n->upN j=i->0<i->¬ bef (it j) (it (upN i))
structure FirstOf (it:Nat->Item) (n i m:Nat):Prop where
 lt:m<n
 who:m=i\/m=2*i+1\/m=2*i+2
 self:¬ bef (it i) (it m)
 below:∀ j,0<j->j<n->upN j=i->¬ bef (it j) (it m)
theorem Sinking.done {it:Nat->Item}{n i:Nat}(h:Sinking it n i)(hd:FirstOf it n i i):Ord it n:=by
 intro j h0 hj
 by_cases e:upN j=i
 ·rw [e];exact hd.below j h0 hj e
 ·exact h.ord j h0 hj e
theorem Sinking.step {it:Nat->Item}{n i m:Nat}(h:Sinking it n i)(f:FirstOf it n i m)(hne:m≠i):Sinking (swI it i m) n m:=by
 have hm:upN m=i/\i<m/\0<m:=by have:=f.who;unfold upN;omega
 obtain ⟨hu,him,hm0⟩:=hm
 refine ⟨fun j j0 jn ju=>?_,fun j j0 jn ju _=>?_⟩
 ·by_cases e:j=m
  ·subst e
   rw [swI_j,hu,swI_i]
   exact f.self
  ·by_cases e1:j=i
   ·subst e1
    have hlt:upN j<j:=by unfold upN;omega
    rw [swI_i,swI_k it (k:=upN j) (by omega) (by omega)]
    exact h.over m hm0 f.lt hu j0
   ·rw [swI_k it e1 e]
    by_cases e2:upN j=i
    ·rw [e2,swI_i]
     exact f.below j j0 jn e2
    ·rw [swI_k it e2 ju]
     exact h.ord j j0 jn e2
 ·have hj:j≠m:=by unfold upN at ju;omega
  have hj2:j≠i:=by unfold upN at ju;omega
  rw [swI_k it hj2 hj,hu,swI_i]
  have:=h.ord j j0 jn (by omega)
  rw [ju] at this
  exact this
theorem Sinking.first {it:Nat->Item}{n:Nat}(h:Ord it (n+1))(x:Item):Sinking (updI it 0 x) n 0:=by
 refine ⟨fun j j0 jn ju=>?_,fun j j0 jn ju h0=>by omega⟩
 rw [updI_k it x (by omega),updI_k it x ju]
 exact h j j0 (by omega)
def Holds (it:Nat->Item) (n:Nat) (H:Int->Option (Int × Int)):Prop:=∀ a s d,H a=some (s,d)↔∃ i,i<n/\it i=⟨a,s,d⟩
theorem Holds.sw {it:Nat->Item}{n:Nat}{H:Int->Option (Int × Int)}(h:Holds it n H){i j:Nat}(hi:i<n)(hj:j<n):Holds (swI it i j) n H:=by
 intro a s d
 rw [h a s d]
 constructor
 ·rintro ⟨k,hk,e⟩
  by_cases e1:k=i
  ·subst e1;exact ⟨j,hj,by rw [swI_j];exact e⟩
  ·by_cases e2:k=j
   ·subst e2;exact ⟨i,hi,by rw [swI_i];exact e⟩
   ·exact ⟨k,hk,by rw [swI_k it e1 e2];exact e⟩
 ·rintro ⟨k,hk,e⟩
  by_cases e1:k=i
  ·subst e1;rw [swI_i] at e;exact ⟨j,hj,e⟩
  ·by_cases e2:k=j
   ·subst e2;rw [swI_j] at e;exact ⟨i,hi,e⟩
   ·rw [swI_k it e1 e2] at e;exact ⟨k,hk,e⟩
def Apart (it:Nat->Item) (n:Nat):Prop:=∀ i j,i<n->j<n->(it i).id=(it j).id->i=j
def putH (H:Int->Option (Int × Int)) (a s d:Int):Int->Option (Int × Int):=fun i=>if i=a then some (s,d) else H i
def delH (H:Int->Option (Int × Int)) (a:Int):Int->Option (Int × Int):=fun i=>if i=a then none else H i
theorem Holds.gone {it:Nat->Item}{n:Nat}{H:Int->Option (Int × Int)}(h:Holds it n H){a:Int}(ha:H a=none):∀ i,i<n->(it i).id≠a:=by
 intro i hi e
 have:=(h (it i).id (it i).s (it i).d).mpr ⟨i,hi,rfl⟩
 rw [e,ha] at this
 cases this
theorem Holds.last {it:Nat->Item}{n:Nat}{H:Int->Option (Int × Int)}(h:Holds it n H){a s d:Int}(ha:H a=none):Holds (updI it n ⟨a,s,d⟩) (n+1) (putH H a s d):=by
 intro a' s' d'
 unfold putH
 by_cases e:a'=a
 ·subst e
  rw [if_pos rfl]
  constructor
  ·intro q;cases q;exact ⟨n,by omega,updI_i it n _⟩
  ·rintro ⟨i,hi,q⟩
   by_cases e1:i=n
   ·subst e1;rw [updI_i] at q;cases q;rfl
   ·rw [updI_k it _ e1] at q
    exact absurd (by rw [q]) (h.gone ha i (by omega))
 ·rw [if_neg e,h a' s' d']
  constructor
  ·rintro ⟨i,hi,q⟩
   exact ⟨i,by omega,by rw [updI_k it _ (by omega)];exact q⟩
  ·rintro ⟨i,hi,q⟩
   by_cases e1:i=n
   ·subst e1;rw [updI_i] at q;cases q;exact absurd rfl e
   ·rw [updI_k it _ e1] at q;exact ⟨i,by omega,q⟩
theorem Holds.at {it:Nat->Item}{n:Nat}{H:Int->Option (Int × Int)}(h:Holds it n H){i:Nat}(hi:i<n):H (it i).id=some ((it i).s,(it i).d):=(h _ _ _).mpr ⟨i,hi,rfl⟩
theorem Holds.same {it:Nat->Item}{n i:Nat}{H:Int->Option (Int × Int)}(h:Holds it n H)(hp:Apart it n){a s d:Int}(hi:i<n)(ha:(it i).id=a):Holds (updI it i ⟨a,s,d⟩) n (putH H a s d):=by
 intro a' s' d'
 unfold putH
 by_cases e:a'=a
 ·subst e
  rw [if_pos rfl]
  constructor
  ·intro q;cases q;exact ⟨i,hi,updI_i it i _⟩
  ·rintro ⟨k,hk,q⟩
   by_cases e1:k=i
   ·subst e1;rw [updI_i] at q;cases q;rfl
   ·rw [updI_k it _ e1] at q
    exact absurd (hp k i hk hi (by rw [q,ha])) e1
 ·rw [if_neg e,h a' s' d']
  constructor
  ·rintro ⟨k,hk,q⟩
   have e1:k≠i:=fun e1=>e (by rw [<- ha,<- e1,q])
   exact ⟨k,hk,by rw [updI_k it _ e1];exact q⟩
  ·rintro ⟨k,hk,q⟩
   by_cases e1:k=i
   ·subst e1;rw [updI_i] at q;cases q;exact absurd rfl e
   ·rw [updI_k it _ e1] at q;exact ⟨k,hk,q⟩
theorem Holds.pop {it:Nat->Item}{n:Nat}{H:Int->Option (Int × Int)}(h:Holds it (n+1) H)(hp:Apart it (n+1)):Holds (updI it 0 (it n)) n (delH H (it 0).id):=by
 intro a s d
 unfold delH
 by_cases e:a=(it 0).id
 ·rw [if_pos e]
  constructor
  ·intro q;cases q
  ·rintro ⟨k,hk,q⟩
   by_cases e1:k=0
   ·subst e1;rw [updI_i] at q
    have:=hp n 0 (by omega) (by omega) (by rw [q,<- e])
    omega
   ·rw [updI_k it _ e1] at q
    have:=hp k 0 (by omega) (by omega) (by rw [q,<- e])
    omega
 ·rw [if_neg e,h a s d]
  constructor
  ·rintro ⟨k,hk,q⟩
   have k0:k≠0:=fun k0=>e (by rw [<- k0,q])
   by_cases e1:k=n
   ·exact ⟨0,by omega,by rw [updI_i,<- e1];exact q⟩
   ·exact ⟨k,by omega,by rw [updI_k it _ k0];exact q⟩
  ·rintro ⟨k,hk,q⟩
   by_cases e1:k=0
   ·subst e1;rw [updI_i] at q;exact ⟨n,by omega,q⟩
   ·rw [updI_k it _ e1] at q;exact ⟨k,by omega,q⟩
theorem Holds.least {it:Nat->Item}{n:Nat}{H:Int->Option (Int × Int)}(h:Holds it n H)(ho:Ord it n){a s d:Int}(ha:H a=some (s,d)):¬ bef ⟨a,s,d⟩ (it 0):=by
 obtain ⟨i,hi,e⟩:=(h a s d).mp ha
 rw [<- e]
 exact ho.root i hi
end
section
def stS (k:Nat):Int:=1 - (k % 2:Nat)
def stD (k:Nat):Int:=(k % 2:Nat)
theorem st_bd (k:Nat):(stS k=1/\stD k=0)\/(stS k=0/\stD k=1):=by
 unfold stS stD;omega
theorem val_add (s d t u:Int):val (s+t) (d+u)=val s d+val t u:=by unfold val;omega
theorem val_st (k:Nat):1<=val (stS k) (stD k)/\val (stS k) (stD k)<=54608393:=by
 have:=st_bd k;unfold val;omega
theorem val_small {s d:Int}(h1:0<=s)(h2:0<=d)(h:val s d<=13979748608):s<=400/\d<=256:=by
 unfold val at h;omega
variable {E : Int → Nat → Int → Prop} {o : Int}
def Wk (E:Int->Nat->Int->Prop) (o a s d:Int):Prop :=
 ∀ R:Int->Int->Int->Prop,R o 0 0->(∀ (a s d:Int) (k:Nat) (b:Int),R a s d->E a k b->R b (s+stS k) (d+stD k))->R a s d
theorem Wk.nil:Wk E o o 0 0:=fun _ h0 _=>h0
theorem Wk.step {a b s d:Int}{k:Nat}(h:Wk E o a s d)(e:E a k b):Wk E o b (s+stS k) (d+stD k):=fun R h0 hs=>hs _ _ _ _ _ (h R h0 hs) e
theorem Wk.ind {R:Int->Int->Int->Prop}{a s d:Int}(h:Wk E o a s d)(h0:R o 0 0)(hs:∀ (a s d:Int) (k:Nat) (b:Int),Wk E o a s d->R a s d->E a k b->R b (s+stS k) (d+stD k)):R a s d :=
 (h (fun a s d=>Wk E o a s d/\R a s d) ⟨Wk.nil,h0⟩ (fun a s d k b hr e=>⟨hr.1.step e,hs a s d k b hr.1 hr.2 e⟩)).2
theorem Wk.inv {a s d:Int}(h:Wk E o a s d):(a=o/\s=0/\d=0)\/∃ a' s' d' k,Wk E o a' s' d'/\E a' k a/\s=s'+stS k/\d=d'+stD k :=
 h.ind (R:=fun a s d=>(a=o/\s=0/\d=0)\/∃ a' s' d' k,Wk E o a' s' d'/\E a' k a/\s=s'+stS k/\d=d'+stD k) (Or.inl ⟨rfl,rfl,rfl⟩) (fun a s d k _ hw _ e=>Or.inr ⟨a,s,d,k,hw,e,rfl,rfl⟩)
theorem Wk.nonneg {a s d:Int}(h:Wk E o a s d):0<=s/\0<=d :=
 h.ind (R:=fun _ s d=>0<=s/\0<=d) ⟨Int.le_refl _,Int.le_refl _⟩ (fun a s d k b _ ih _=>by have:=st_bd k;omega)
theorem Wk.cons {p a s d:Int}{k:Nat}(e:E p k o)(h:Wk E o a s d):Wk E p a (s+stS k) (d+stD k) :=
 h.ind (R:=fun a s d=>Wk E p a (s+stS k) (d+stD k)) (Wk.nil.step e) (fun a' s' d' k' b' _ ih e'=>by
  have:=ih.step e'
  have e1:s'+stS k'+stS k=s'+stS k+stS k':=by omega
  have e2:d'+stD k'+stD k=d'+stD k+stD k':=by omega
  rw [e1,e2]
  exact this)
theorem Wk.back (hE:∀ a k b,E a k b->∃ k',E b k' a/\stS k'=stS k/\stD k'=stD k){a s d:Int}(h:Wk E o a s d):Wk E a o s d :=
 h.ind (R:=fun a s d=>Wk E a o s d) Wk.nil (fun a' s' d' k' b' _ ih e'=>by
  obtain ⟨k2,e2,h1,h2⟩:=hE _ _ _ e'
  have:=ih.cons e2
  rw [h1,h2] at this
  exact this)
structure Best (E:Int->Nat->Int->Prop) (o:Int) (F:Int->Option (Int × Int)):Prop where
 sound:∀ {a s d},F a=some (s,d)->Wk E o a s d
 least:∀ {a s d},Wk E o a s d->∃ s' d',F a=some (s',d')/\val s' d'<=val s d
 small:∀ {a s d},F a=some (s,d)->0<=s/\0<=d/\val s d<=13979748608
theorem Best.home {F:Int->Option (Int × Int)}(h:Best E o F):F o=some (0,0):=by
 obtain ⟨s,d,h1,h2⟩:=h.least Wk.nil
 obtain ⟨a1,a2,_⟩:=h.small h1
 have:s=0/\d=0:=by unfold val at h2;omega
 rw [h1,this.1,this.2]
theorem Best.edge {F:Int->Option (Int × Int)}(h:Best E o F){a b s d:Int}{k:Nat}(ha:F a=some (s,d))(e:E a k b):∃ s' d',F b=some (s',d')/\val s' d'<=val s d+val (stS k) (stD k):=by
 obtain ⟨s',d',h1,h2⟩:=h.least (Wk.step (h.sound ha) e)
 rw [val_add] at h2
 exact ⟨s',d',h1,h2⟩
def cnt (F:Int->Option (Int × Int)):Nat->Nat
 |0=>0
 |N+1=>cnt F N+if (F N).isSome then 1 else 0
theorem cnt_le (F:Int->Option (Int × Int))(N:Nat):cnt F N<=N:=by
 induction N with
 |zero=>exact Nat.le_refl _
 |succ N ih=>unfold cnt;split <;> omega
theorem cnt_same (F:Int->Option (Int × Int))(a s d:Int)(N:Nat)(h:(N:Int)<=a):cnt (putH F a s d) N=cnt F N:=by
 induction N with
 |zero=>rfl
 |succ N ih =>
  unfold cnt
  rw [ih (by omega)]
  have:putH F a s d N=F N:=if_neg (by omega)
  rw [this]
theorem cnt_put (F:Int->Option (Int × Int))(a s d:Int)(N:Nat)(h0:0<=a)(h:a<N)(hn:F a=none):cnt (putH F a s d) N=cnt F N+1:=by
 induction N with
 |zero=>omega
 |succ N ih =>
  unfold cnt
  by_cases e:a=N
  ·rw [cnt_same F a s d N (by omega)]
   have:putH F a s d N=some (s,d):=if_pos e.symm
   rw [this,<- e,hn]
   simp
  ·rw [ih (by omega)]
   have:putH F a s d N=F N:=if_neg (fun q=>e q.symm)
   rw [this]
   omega
theorem cnt_none (N:Nat):cnt (fun _=>none) N=0:=by
 induction N with
 |zero=>rfl
 |succ N ih=>unfold cnt;rw [ih];rfl
def Pushed (H:Int->Option (Int × Int)) (b s d:Int) (H':Int->Option (Int × Int)):Prop :=
 (H'=putH H b s d/\∀ {t u},H b=some (t,u)->val s d<val t u)\/(H'=H/\∃ t u,H b=some (t,u)/\val t u<=val s d)
end
section
open Go.RowKit
structure Since (w:World) where
 u:World
 h:Below w.heap.size w u
theorem since_ne (w:World):Nonempty (Since w):=⟨⟨w,Below.refl _ _⟩⟩
theorem Since.cell {w:World}(x:Since w)(b o:Nat)(hb:b<w.heap.size):x.u.cell? ⟨b,o,none⟩=w.cell? ⟨b,o,none⟩:=x.h.cell (p:=⟨b,o,none⟩) hb
theorem wp_region_since {P:Program}{id:Nat}{Q:Exit->Act->World->Prop}{a:Act}{w:World}{l:List Oper}(hm:P.follows .mixedOrders=true)(hB:Region.lexB .any l.toArray=true)
  (h:wpQuiet P l.toArray (fun w'=>∃ x:Since w,w'=x.u) (fun a'=>∀ w',(∃ x:Since w,w'=x.u)->Q .normal a' w') l a):(Code.region id l.toArray true).wp P Q a w :=
 wp_region_quiet (C:=fun w'=>∃ x:Since w,w'=x.u) hm hB ⟨⟨{ w with drawn:=w.drawn+1 },(Below.refl _ w).drew⟩,rfl⟩ (by simpa using h)
theorem Calls.since_of {P:Program}{f:FuncId}{args:Array Value}{w:World}{x:Since w}{v:Value}
  (h:Calls P f args x.u fun e w'=>e=.returned v/\Below x.u.heap.size x.u w'):Calls P f args x.u fun e w''=>e=.returned v/\∃ y:Since w,w''=y.u :=
 h.mono fun _ w' ⟨he,hb⟩=>⟨he,⟨w',x.h.trans (hb.mono x.h.size)⟩,rfl⟩
theorem bcell {W w1:World}(hb:Below W.heap.size W w1):(∀ b o,b<W.heap.size->w1.cell? ⟨b,o,none⟩=W.cell? ⟨b,o,none⟩)/\(∀ b o,b<W.heap.size->w1.frozen? ⟨b,o,none⟩=W.frozen? ⟨b,o,none⟩) :=
 ⟨fun b o h=>hb.cell (p:=⟨b,o,none⟩) h,fun b o h=>hb.frozen (p:=⟨b,o,none⟩) h⟩
end
end Go.Proofs.YtipbhlofbpnpjaaGreatDoor
