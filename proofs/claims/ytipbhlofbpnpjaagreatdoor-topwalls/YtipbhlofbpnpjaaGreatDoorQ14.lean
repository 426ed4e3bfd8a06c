/-
  Texts laid together: FF, RefM, Copy, RFloodA.
-/
import Derived.Test.YtipbhlofbpnpjaaGreatDoorQ7
import Derived.Test.YtipbhlofbpnpjaaGreatDoorQ1
import Derived.Test.YtipbhlofbpnpjaaGreatDoorQ4
import Derived.Test.YtipbhlofbpnpjaaGreatDoorQ8
import Derived.Test.YtipbhlofbpnpjaaGreatDoorQ13
import Derived.Deep.MidRow
import Derived.Maps.AppendAt
namespace Go.Proofs.YtipbhlofbpnpjaaGreatDoor
section
open Go.RowKit
end
section
variable {E : Int → Nat → Int → Prop} {o : Int} {N : Nat}
def pot (F:Int->Option (Int × Int)):Nat->Int
 | 0=>0
 | N+1=>pot F N+(match F N with | some c=>val c.1 c.2 | none=>13979748609)
def pot1 (c:Option (Int × Int)):Int:=match c with | some c=>val c.1 c.2 | none=>13979748609
theorem pot_succ (F:Int->Option (Int × Int)) (N:Nat):pot F (N+1)=pot F N+pot1 (F N):=rfl
theorem pot_same (F:Int->Option (Int × Int)) (a s d:Int) (N:Nat) (h:(N:Int)<=a):pot (putH F a s d) N=pot F N:=by
 induction N with
 | zero=>rfl
 | succ N ih =>
   rw [pot_succ,pot_succ,ih (by omega)]
   have:putH F a s d N=F N:=if_neg (by omega)
   rw [this]
theorem pot_put (F:Int->Option (Int × Int)) (a s d:Int) (N:Nat) (h0:0<=a) (h:a < N):pot (putH F a s d) N=pot F N - pot1 (F a)+val s d:=by
 induction N with
 | zero=>omega
 | succ N ih =>
   rw [pot_succ,pot_succ]
   by_cases e:a=N
   ·rw [pot_same F a s d N (by omega)]
    have:putH F a s d N=some (s,d):=if_pos e.symm
    rw [this,<- e]
    show _+val s d=_
    omega
   ·rw [ih (by omega)]
    have:putH F a s d N=F N:=if_neg (fun q=>e q.symm)
    rw [this]
    omega
structure Lab (E:Int->Nat->Int->Prop) (o:Int) (N:Nat) (F:Int->Option (Int × Int)) (ok:Int->Nat->Prop):Prop where
 sound:∀ {a s d},F a=some (s,d)->Wk E o a s d/\val s d<=cnt F N*54608393
 edge:∀ {a b s d k},F a=some (s,d)->E a k b->ok a k->∃ s' d',F b=some (s',d')/\val s' d'<=val s d+val (stS k) (stD k)
 org:∃ s d,F o=some (s,d)/\val s d<=0
 dom:∀ {a c},F a=some c->0<=a/\a < N
theorem Lab.widen {F:Int->Option (Int × Int)}{ok ok':Int->Nat->Prop}(h:Lab E o N F ok) (hk:∀ {a k b s d},F a=some (s,d)->E a k b->ok' a k->ok a k):Lab E o N F ok' :=
 ⟨fun hx=>h.sound hx,fun hx e hd=>h.edge hx e (hk hx e hd),h.org,fun hx=>h.dom hx⟩
theorem Lab.val_bd {F:Int->Option (Int × Int)}{ok:Int->Nat->Prop}(h:Lab E o N F ok) (hN:N<=256) {a s d:Int}(ha:F a=some (s,d)):0<=s/\0<=d/\val s d<=13979748608:=by
 obtain ⟨h1,h2⟩:=h.sound ha
 obtain ⟨n1,n2⟩:=h1.nonneg
 have:=cnt_le F N
 exact ⟨n1,n2,by omega⟩
theorem pot_nonneg {F:Int->Option (Int × Int)}(h:∀ {a s d},F a=some (s,d)->0<=val s d) (N:Nat):0<=pot F N:=by
 induction N with
 | zero=>exact Int.le_refl _
 | succ N ih =>
   rw [pot_succ]
   cases hc:F N with
   | none=>show 0<=pot F N+13979748609;omega
   | some c=>obtain ⟨s,d⟩:=c;have:=h hc;show 0<=pot F N+val s d;omega
theorem Lab.pot0 {F:Int->Option (Int × Int)}{ok:Int->Nat->Prop}(h:Lab E o N F ok):0<=pot F N :=
 pot_nonneg (fun hx=>by obtain ⟨n1,n2⟩:=(h.sound hx).1.nonneg;unfold val;omega) N
theorem Lab.start (E:Int->Nat->Int->Prop) (o:Int) (N:Nat) (h0:0<=o) (h1:o < N) (ok:Int->Nat->Prop) (hk:∀ k,¬ ok o k):Lab E o N (putH (fun _=>none) o 0 0) ok:=by
 refine ⟨fun {a s d} h=>?_,fun {a b s d k} h _ hd=>?_,⟨0,0,if_pos rfl,by decide⟩,fun {a c} h=>?_⟩
 ·unfold putH at h
  split at h
  ·cases h;rename_i e;subst e
   have e0:val 0 0=0:=by decide
   exact ⟨Wk.nil,by rw [e0];omega⟩
  ·cases h
 ·unfold putH at h
  split at h
  ·rename_i e;subst e;exact absurd hd (hk k)
  ·cases h
 ·unfold putH at h
  split at h
  ·rename_i e;subst e;exact ⟨h0,h1⟩
  ·cases h
theorem pot_start (o:Int) (N:Nat) (hN:N<=256) (h0:0<=o) (h1:o < N):pot (putH (fun _=>none) o 0 0) N<=3578815643904:=by
 rw [pot_put _ _ _ _ _ h0 h1]
 have:∀ n:Nat,pot (fun _=>none) n=n*13979748609:=by
  intro n
  induction n with
  | zero=>rfl
  | succ n ih=>rw [pot_succ,ih];show _+13979748609=_;omega
 rw [this]
 show _ - 13979748609+val 0 0<=_
 have:val 0 0=0:=by decide
 omega
theorem Lab.nearer {F:Int->Option (Int × Int)}{pend:Int->Prop}{dn:Nat->Prop}{at' b s d:Int}{k:Nat}(hN:N<=256) (h:Lab E o N F (fun a j=>(¬ pend a/\a≠at')\/(a=at'/\dn j))) (ha:F at'=some (s,d)) (e:E at' k b)
  (hb0:0<=b) (hb1:b < N) (hb:∀ {t u},F b=some (t,u)->val (s+stS k) (d+stD k) < val t u) (hu:∀ {y},E at' k y->y=b) :
  Lab E o N (putH F b (s+stS k) (d+stD k)) (fun a j=>(¬ (pend a\/a=b)/\a≠at')\/(a=at'/\(dn j\/j=k)))/\pot (putH F b (s+stS k) (d+stD k)) N+1<=pot F N/\putH F b (s+stS k) (d+stD k) at'=some (s,d):=by
 have hk:=val_st k
 have hva:=val_add s d (stS k) (stD k)
 have hne:b≠at':=by
  intro q;subst q
  have:=hb ha
  omega
 have hat:putH F b (s+stS k) (d+stD k) at'=some (s,d):=by unfold putH;rw [if_neg (fun q=>hne q.symm)];exact ha
 have hcnt:cnt F N<=cnt (putH F b (s+stS k) (d+stD k)) N/\(F b=none->cnt (putH F b (s+stS k) (d+stD k)) N=cnt F N+1):=by
  refine ⟨?_,fun q=>cnt_put F b _ _ N hb0 hb1 q⟩
  cases hc:F b with
  | none=>rw [cnt_put F b _ _ N hb0 hb1 hc];omega
  | some c =>
    have:∀ n:Nat,cnt F n<=cnt (putH F b (s+stS k) (d+stD k)) n:=by
     intro n
     induction n with
     | zero=>exact Nat.le_refl _
     | succ n ih =>
       unfold cnt
       by_cases q:(n:Int)=b
       ·have:putH F b (s+stS k) (d+stD k) n=some (s+stS k,d+stD k):=if_pos q
        rw [this];simp;split <;> omega
       ·have:putH F b (s+stS k) (d+stD k) n=F n:=if_neg q
        rw [this];omega
    exact this N
 have h1:=h.sound ha
 refine ⟨⟨fun {x t u} hx=>?_,fun {x y t u j} hx ex hd=>?_,?_,fun {x c} hx=>?_⟩,?_,hat⟩
 ·unfold putH at hx
  split at hx
  ·cases hx;rename_i q;subst q
   refine ⟨Wk.step h1.1 e,?_⟩
   cases hc:F x with
   | none=>rw [hcnt.2 hc,hva];have:=h1.2;omega
   | some c =>
     obtain ⟨t,u⟩:=c
     have:=hb hc
     have:=(h.sound hc).2
     have:=hcnt.1
     omega
  ·have:=h.sound hx;exact ⟨this.1,by have:=this.2;have:=hcnt.1;omega⟩
 ·have key:∀ {s2 d2:Int},F y=some (s2,d2)->val s2 d2<=val t u+val (stS j) (stD j)->∃ s' d',putH F b (s+stS k) (d+stD k) y=some (s',d')/\val s' d'<=val t u+val (stS j) (stD j):=by
   intro s2 d2 h2 h3
   by_cases q:y=b
   ·subst q
    have:=hb h2
    exact ⟨_,_,if_pos rfl,by omega⟩
   ·exact ⟨s2,d2,by unfold putH;rw [if_neg q];exact h2,h3⟩
  rcases hd with ⟨hd1,hd2⟩ | ⟨rfl,hd⟩
  ·have q:x≠b:=fun q=>hd1 (Or.inr q)
   have hx':F x=some (t,u):=by unfold putH at hx;rw [if_neg q] at hx;exact hx
   obtain ⟨s2,d2,h2,h3⟩:=h.edge hx' ex (Or.inl ⟨fun q2=>hd1 (Or.inl q2),hd2⟩)
   exact key h2 h3
  ·rw [hat] at hx;cases hx
   rcases hd with hd | rfl
   ·obtain ⟨s2,d2,h2,h3⟩:=h.edge ha ex (Or.inr ⟨rfl,hd⟩)
    exact key h2 h3
   ·have:=hu ex
    subst this
    exact ⟨_,_,if_pos rfl,by rw [hva];exact Int.le_refl _⟩
 ·obtain ⟨s2,d2,h2,h3⟩:=h.org
  by_cases q:o=b
  ·subst q
   have:=hb h2
   exact ⟨_,_,if_pos rfl,by omega⟩
  ·exact ⟨s2,d2,by unfold putH;rw [if_neg q];exact h2,h3⟩
 ·unfold putH at hx
  split at hx
  ·rename_i q;subst q;exact ⟨hb0,hb1⟩
  ·exact h.dom hx
 ·rw [pot_put F b _ _ N hb0 hb1]
  have:val (s+stS k) (d+stD k)+1<=pot1 (F b):=by
   cases hc:F b with
   | none =>
     show _<=13979748609
     have h2:=h1.2
     have h3:=hcnt.2 hc
     have h4:=cnt_le (putH F b (s+stS k) (d+stD k)) N
     rw [hva]
     omega
   | some c=>obtain ⟨t,u⟩:=c;have:=hb hc;show _<=val t u;omega
  omega
theorem Lab.asfar {F:Int->Option (Int × Int)}{pend:Int->Prop}{dn:Nat->Prop}{at' b s d t u:Int}{k:Nat}(h:Lab E o N F (fun a j=>(¬ pend a/\a≠at')\/(a=at'/\dn j))) (ha:F at'=some (s,d))
  (hb:F b=some (t,u)) (hle:val t u<=val (s+stS k) (d+stD k)) (hu:∀ {y},E at' k y->y=b) :
  Lab E o N F (fun a j=>(¬ pend a/\a≠at')\/(a=at'/\(dn j\/j=k))):=by
 refine ⟨fun hx=>h.sound hx,fun {x y t' u' j} hx ex hd=>?_,h.org,fun hx=>h.dom hx⟩
 rcases hd with hd | ⟨rfl,hd | rfl⟩
 ·exact h.edge hx ex (Or.inl hd)
 ·exact h.edge hx ex (Or.inr ⟨rfl,hd⟩)
 ·rw [ha] at hx;cases hx
  have:=hu ex
  subst this
  exact ⟨t,u,hb,by rw [val_add] at hle;exact hle⟩
theorem Lab.done {F:Int->Option (Int × Int)}(hN:N<=256) (h:Lab E o N F (fun _ _=>True)):Best E o F:=by
 refine ⟨fun hx=>(h.sound hx).1,fun {a s d} hw=>?_,fun {a s d} hx=>h.val_bd hN hx⟩
 refine hw.ind (R:=fun a s d=>∃ s' d',F a=some (s',d')/\val s' d'<=val s d) h.org (fun a s d k b _ ih e=>?_)
 obtain ⟨s',d',h1,h2⟩:=ih
 obtain ⟨s2,d2,h3,h4⟩:=h.edge h1 e trivial
 exact ⟨s2,d2,h3,by rw [val_add];omega⟩
end
section
open Go.RowKit
theorem run_alloc65 (w:World):(Instr.alloc 168 true (.tuple #[])).run Tryz.prog w=.ok (.pointer (some ⟨w.heap.size,0,none⟩)) (w.alloc (.cells (gridC 0 0) 168)):=by kernel_rfl
theorem wpList_alloc65 {ops:Array Oper}{rest:List Oper}{o:Oper}{a:Act}{w:World}{Q:Exit->Act->World->Prop}(hgd:o.guard=none) (ho:o.op=.alloc 168)
  (h:wpList Tryz.prog ops Q rest (a.put o.dst (.pointer (some ⟨w.heap.size,0,none⟩))) (w.alloc (.cells (gridC 0 0) 168))):wpList Tryz.prog ops Q (o::rest) a w :=
 wpList_plain hgd fun _ hK=>by
  unfold Oper.wp execOp
  simp only [ho,Sem.run_bind,run_alloc65 w,Result.andThen_ok]
  exact hK _ _ h
def gridL (W H V:Int) (bl:Nat->Bool):List Value:=[.int .i64 W,.int .i64 H,.int .i64 V]++(List.range 256).map fun i=>Value.bool (bl i)
theorem gridL_len (W H V:Int) (bl:Nat->Bool):(gridL W H V bl).length=259:=by unfold gridL;simp
theorem gridL_at (W H V:Int) (bl:Nat->Bool) (i:Nat) (hi:i < 256):(gridL W H V bl)[3+i]? = some (.bool (bl i)):=by
 unfold gridL
 rw [List.getElem?_append_right (by simp)]
 simp [hi]
theorem gridL_one (W H V:Int) (bl:Nat->Bool):∀ v ∈ gridL W H V bl,v.oneCell'=true:=by
 intro v hv
 unfold gridL at hv
 simp only [List.mem_append,List.mem_cons,List.mem_map,List.not_mem_nil,or_false] at hv
 rcases hv with (rfl | rfl | rfl) | ⟨i,_,rfl⟩ <;> rfl
theorem GridAt.range {w:World}{b:Nat}{W H V:Int}{bl:Nat->Bool}(g:GridAt w b W H V bl):w.rangeAt b 0 (gridL W H V bl):=by
 intro j v hj
 rw [Nat.zero_add]
 have hlt:j < 259:=by
  have:=(List.getElem?_eq_some_iff.1 hj).1
  rw [gridL_len] at this
  exact this
 by_cases h:j < 3
 ·have hc:j=0\/j=1\/j=2:=by omega
  unfold gridL at hj
  rw [List.getElem?_append_left (by simpa using h)] at hj
  rcases hc with rfl | rfl | rfl
  ·simp at hj;rw [<- hj];exact g.c0
  ·simp at hj;rw [<- hj];exact g.c1
  ·simp at hj;rw [<- hj];exact g.c2
 ·obtain ⟨i,rfl⟩:∃ i,j=3+i:=⟨j - 3,by omega⟩
  rw [gridL_at _ _ _ _ i (by omega)] at hj
  have:v=.bool (bl i):=(Option.some.inj hj).symm
  rw [this]
  exact g.cs i (by omega)
theorem gridAt_range {w:World}{b:Nat}{W H V:Int}{bl:Nat->Bool}(h:w.rangeAt b 0 (gridL W H V bl)) (w1:1<=W) (w2:W<=16) (h1:1<=H) (h2:H<=16):GridAt w b W H V bl:=by
 have at_:∀ j v,(gridL W H V bl)[j]? = some v->w.cell? ⟨b,j,none⟩=some v:=fun j v hj=>by have:=h j v hj;rw [Nat.zero_add] at this;exact this
 refine ⟨w1,w2,h1,h2,at_ 0 _ ?_,at_ 1 _ ?_,at_ 2 _ ?_,fun i hi=>at_ (3+i) _ (gridL_at W H V bl i hi)⟩
 ·unfold gridL;rw [List.getElem?_append_left (by simp)];rfl
 ·unfold gridL;rw [List.getElem?_append_left (by simp)];rfl
 ·unfold gridL;rw [List.getElem?_append_left (by simp)];rfl
theorem gridC_size (W H:Int):(gridC W H).size=259:=by unfold gridC;simp
theorem there_new (w:World):(w.alloc (.cells (gridC 0 0) 168)).there w.heap.size 0 259:=by
 intro j hj
 rw [Nat.zero_add,World.cell?_alloc_new,Array.getElem?_eq_getElem (by rw [gridC_size];exact hj)]
 exact ⟨rfl,free_alloc w _ _ _ (Nat.le_refl _) j⟩
theorem below_setCells {B:Nat}{a:World}(b:Nat) (hb:B<=b):∀ (vs:List Value) (o:Nat) {w:World},Below B a w->Below B a (w.setCells b o vs)
 | [],_,_,h=>h
 | v::r,o,_,h=>below_setCells b hb r (o+1) (h.setCell (p:=⟨b,o,none⟩) hb v)
theorem lt_of_cellG {w:World}{b o:Nat}{v:Value}(h:w.cell? ⟨b,o,none⟩=some v):b < w.heap.size:=by
 by_cases hb:b < w.heap.size
 ·exact hb
 ·unfold World.cell? at h
  rw [Array.getElem?_eq_none (by simpa using hb)] at h
  simp at h
theorem info65:(Tryz.prog.info? 168).map (·.size)=some 259:=by kernel_rfl
set_option maxHeartbeats 400000 in
theorem copy_any {b:Nat}{W H V:Int}{bl:Nat->Bool}(w:World) (g:GridAt w b W H V bl) :
  Calls Tryz.prog 72 #[.pointer (some ⟨b,0,none⟩)] w fun e w'=>e=.returned (.pointer (some ⟨w.heap.size,0,none⟩))/\Below w.heap.size w w'/\w.heap.size < w'.heap.size/\GridAt w' w.heap.size W H V bl/\Free w' w.heap.size:=by
 have hr:=g.range
 have hl:=gridL_len W H V bl
 have h1:=gridL_one W H V bl
 have w1:=g.w1
 have w2:=g.w2
 have h3:=g.h1
 have h4:=g.h2
 have ht:=there_new w
 have hB:Below w.heap.size w ((w.alloc (.cells (gridC 0 0) 168)).setCells w.heap.size 0 (gridL W H V bl)):=below_setCells _ (Nat.le_refl _) _ _ ((Below.refl _ _).alloc (Nat.le_refl _) _)
 have hG:GridAt ((w.alloc (.cells (gridC 0 0) 168)).setCells w.heap.size 0 (gridL W H V bl)) w.heap.size W H V bl:=gridAt_range (World.rangeAt_setCells_same _ _ _ _ (by rw [hl];exact ht)) w1 w2 h3 h4
 have hF:Free ((w.alloc (.cells (gridC 0 0) 168)).setCells w.heap.size 0 (gridL W H V bl)) w.heap.size:=fun o=>by rw [World.frozen?_setCells];exact free_alloc w _ _ _ (Nat.le_refl _) o
 have hZ:w.heap.size < ((w.alloc (.cells (gridC 0 0) 168)).setCells w.heap.size 0 (gridL W H V bl)).heap.size:=lt_of_cellG hG.c0
 clear w1 w2 h3 h4 g
 generalize gridL W H V bl=cs at *
 go_enter Tryz.func72,Tryz.ntmps72
 go_wp2_with (first | (refine wpList_load_mid rfl 168 _ rfl b 0 rfl cs _ hr Tryz.underlying168 rfl (by rw [hl];exact info65) ?_) | (refine wpList_alloc65 rfl rfl ?_) | (refine wpList_store_mid rfl 168 _ _ rfl w.heap.size 0 cs.toArray rfl rfl (by simpa [hl] using ht) (by simpa [hl] using info65) (all_oneCell_toArray h1) ?_))
 go_ret
 exact ⟨rfl,hB,hZ,hG,hF⟩
end
section
open Go.RowKit Go.Maps
def zC:Array Value:=(List.replicate 512 (Value.int .i64 0)).toArray
def zB:Array Value:=(List.replicate 256 (Value.bool false)).toArray
theorem run_alloc54 (w:World):(Instr.alloc 88 true (.tuple #[])).run Tryz.prog w=.ok (.pointer (some ⟨w.heap.size,0,none⟩)) (w.alloc (.cells zC 88)):=by kernel_rfl
theorem run_alloc55 (w:World):(Instr.alloc 63 true (.tuple #[])).run Tryz.prog w=.ok (.pointer (some ⟨w.heap.size,0,none⟩)) (w.alloc (.cells zB 63)):=by kernel_rfl
theorem wpList_alloc54 {ops:Array Oper}{rest:List Oper}{o:Oper}{a:Act}{w:World}{Q:Exit->Act->World->Prop}(hgd:o.guard=none) (ho:o.op=.alloc 88)
  (h:wpList Tryz.prog ops Q rest (a.put o.dst (.pointer (some ⟨w.heap.size,0,none⟩))) (w.alloc (.cells zC 88))):wpList Tryz.prog ops Q (o::rest) a w :=
 wpList_plain hgd fun _ hK=>by
  unfold Oper.wp execOp
  simp only [ho,Sem.run_bind,run_alloc54 w,Result.andThen_ok]
  exact hK _ _ h
theorem wpList_alloc55 {ops:Array Oper}{rest:List Oper}{o:Oper}{a:Act}{w:World}{Q:Exit->Act->World->Prop}(hgd:o.guard=none) (ho:o.op=.alloc 63)
  (h:wpList Tryz.prog ops Q rest (a.put o.dst (.pointer (some ⟨w.heap.size,0,none⟩))) (w.alloc (.cells zB 63))):wpList Tryz.prog ops Q (o::rest) a w :=
 wpList_plain hgd fun _ hK=>by
  unfold Oper.wp execOp
  simp only [ho,Sem.run_bind,run_alloc55 w,Result.andThen_ok]
  exact hK _ _ h
def labS (F:Int->Option (Int × Int)) (a:Int):Int:=match F a with | some c=>c.1 | none=>0
def labD (F:Int->Option (Int × Int)) (a:Int):Int:=match F a with | some c=>c.2 | none=>0
theorem lab_some {F:Int->Option (Int × Int)}{a s d:Int}(h:F a=some (s,d)):labS F a=s/\labD F a=d:=by unfold labS labD;rw [h];exact ⟨rfl,rfl⟩
theorem lab_none {F:Int->Option (Int × Int)}{a:Int}(h:F a=none):labS F a=0/\labD F a=0:=by unfold labS labD;rw [h];exact ⟨rfl,rfl⟩
theorem putH_same (F:Int->Option (Int × Int)) (a s d:Int):putH F a s d a=some (s,d):=if_pos rfl
theorem putH_other (F:Int->Option (Int × Int)) {a i:Int}(s d:Int) (h:i≠a):putH F a s d i=F i:=if_neg h
theorem lab_put (F:Int->Option (Int × Int)) (a s d:Int):labS (putH F a s d) a=s/\labD (putH F a s d) a=d:=lab_some (putH_same F a s d)
theorem lab_other (F:Int->Option (Int × Int)) {a i:Int}(s d:Int) (h:i≠a):labS (putH F a s d) i=labS F i/\labD (putH F a s d) i=labD F i:=by
 unfold labS labD;rw [putH_other F s d h];exact ⟨rfl,rfl⟩
structure LabAt (w:World) (cb ib:Nat) (F:Int->Option (Int × Int)):Prop where
 c0:∀ a:Nat,a < 256->w.cell? ⟨cb,a*2,none⟩=some (.int .i64 (labS F a))
 c1:∀ a:Nat,a < 256->w.cell? ⟨cb,a*2+1,none⟩=some (.int .i64 (labD F a))
 i0:∀ a:Nat,a < 256->w.cell? ⟨ib,a,none⟩=some (.bool (F a).isSome)
 zc:Free w cb
 zi:Free w ib
 ne:cb≠ib
theorem LabAt.lt {w:World}{cb ib:Nat}{F:Int->Option (Int × Int)}(h:LabAt w cb ib F):cb < w.heap.size/\ib < w.heap.size:=⟨World.block_lt_of_cell? w _ (h.c0 0 (by decide)),World.block_lt_of_cell? w _ (h.i0 0 (by decide))⟩
theorem LabAt.keep {D:Nat->Prop}{w w':World}{cb ib:Nat}{F:Int->Option (Int × Int)}(h:LabAt w cb ib F) (K:Keep D w w') (h1:¬ D cb) (h2:¬ D ib):LabAt w' cb ib F :=
 ⟨fun a ha=>K.cellOf (h.c0 a ha) h1,fun a ha=>K.cellOf (h.c1 a ha) h1,fun a ha=>K.cellOf (h.i0 a ha) h2,fun o=>(K.frozen (p:=⟨cb,o,none⟩) h.lt.1 h1).trans (h.zc o),fun o=>(K.frozen (p:=⟨ib,o,none⟩) h.lt.2 h2).trans (h.zi o),h.ne⟩
theorem LabAt.below {w w':World}{cb ib:Nat}{F:Int->Option (Int × Int)}(h:LabAt w cb ib F) (hb:Below w.heap.size w w'):LabAt w' cb ib F:=h.keep (Keep.of_below (F:=fun _=>False) hb) id id
theorem zC_at (i:Nat) (hi:i < 512):zC[i]? = some (Value.int .i64 0):=by unfold zC;rw [List.getElem?_toArray,List.getElem?_replicate,if_pos hi]
theorem zB_at (i:Nat) (hi:i < 256):zB[i]? = some (Value.bool false):=by unfold zB;rw [List.getElem?_toArray,List.getElem?_replicate,if_pos hi]
theorem LabAt.new (w:World):LabAt ((w.alloc (.cells zC 88)).alloc (.cells zB 63)) w.heap.size (w.heap.size+1) (fun _=>none):=by
 have hB:Below (w.alloc (.cells zC 88)).heap.size (w.alloc (.cells zC 88)) ((w.alloc (.cells zC 88)).alloc (.cells zB 63)):=(Below.refl _ _).alloc (Nat.le_refl _) _
 have e:(w.alloc (.cells zC 88)).heap.size=w.heap.size+1:=by simp
 refine ⟨fun a ha=>?_,fun a ha=>?_,fun a ha=>?_,fun o=>?_,fun o=>?_,by omega⟩
 ·rw [hB.cell (p:=⟨w.heap.size,a*2,none⟩) (by rw [e];exact Nat.lt_succ_self _),World.cell?_alloc_new];exact zC_at _ (by omega)
 ·rw [hB.cell (p:=⟨w.heap.size,a*2+1,none⟩) (by rw [e];exact Nat.lt_succ_self _),World.cell?_alloc_new];exact zC_at _ (by omega)
 ·rw [<- e,World.cell?_alloc_new];exact zB_at _ ha
 ·rw [hB.frozen (p:=⟨w.heap.size,o,none⟩) (by rw [e];exact Nat.lt_succ_self _)];exact free_alloc w _ _ _ (Nat.le_refl _) o
 ·rw [<- e];exact free_alloc _ _ _ _ (Nat.le_refl _) o
theorem LabAt.first {w:World}{cb ib:Nat}(h:LabAt w cb ib (fun _=>none)) (a:Nat) (ha:a < 256):LabAt (w.setCell ⟨ib,a,none⟩ (.bool true)) cb ib (putH (fun _=>none) a 0 0):=by
 have K:Keep (fun k=>k=ib) w (w.setCell ⟨ib,a,none⟩ (.bool true)):=(Keep.refl (fun k=>k=ib) w).setCell (p:=⟨ib,a,none⟩) (fun _=>rfl) _
 have hl:∀ i:Int,labS (putH (fun _=>none) a 0 0) i=0/\labD (putH (fun _=>none) a 0 0) i=0:=fun i=>by
  by_cases q:i=a
  ·rw [q];exact lab_put _ _ _ _
  ·rw [(lab_other _ _ _ q).1,(lab_other _ _ _ q).2];exact lab_none rfl
 refine ⟨fun i hi=>?_,fun i hi=>?_,fun i hi=>?_,fun o=>(K.frozen (p:=⟨cb,o,none⟩) h.lt.1 h.ne).trans (h.zc o),fun o=>by simpa using h.zi o,h.ne⟩
 ·rw [(hl i).1];exact K.cellOf (h.c0 i hi) h.ne
 ·rw [(hl i).2];exact K.cellOf (h.c1 i hi) h.ne
 ·by_cases q:i=a
  ·subst q;rw [putH_same];exact World.cell?_setCell_same _ _ _ (h.i0 i hi)
  ·rw [putH_other _ _ _ (by omega),World.cell?_setCell_other _ _ _ _ (addr_ne (fun e=>q e.symm))];exact h.i0 i hi
theorem LabAt.put {w:World}{cb ib:Nat}{F:Int->Option (Int × Int)}(h:LabAt w cb ib F) (a:Nat) (ha:a < 256) (s d:Int) :
  LabAt (((w.setCell ⟨cb,a*2,none⟩ (.int .i64 s)).setCell ⟨cb,a*2+1,none⟩ (.int .i64 d)).setCell ⟨ib,a,none⟩ (.bool true)) cb ib (putH F a s d):=by
 have nb:∀ o p,(⟨ib,o,none⟩:Addr)≠⟨cb,p,none⟩:=fun o p e=>h.ne (by cases e;rfl)
 refine ⟨fun i hi=>?_,fun i hi=>?_,fun i hi=>?_,fun o=>by simpa using h.zc o,fun o=>by simpa using h.zi o,h.ne⟩
 ·rw [World.cell?_setCell_other _ _ _ _ (nb _ _),World.cell?_setCell_other _ _ _ _ (addr_ne (by omega))]
  by_cases q:i=a
  ·subst q;rw [(lab_put F i s d).1];exact World.cell?_setCell_same _ _ _ (h.c0 i hi)
  ·rw [(lab_other F s d (show (i:Int)≠a by omega)).1,World.cell?_setCell_other _ _ _ _ (addr_ne (by omega))];exact h.c0 i hi
 ·rw [World.cell?_setCell_other _ _ _ _ (nb _ _)]
  by_cases q:i=a
  ·subst q;rw [(lab_put F i s d).2]
   refine World.cell?_setCell_same _ _ _ (u:=.int .i64 (labD F i)) ?_
   rw [World.cell?_setCell_other _ _ _ _ (addr_ne (by omega))];exact h.c1 i hi
  ·rw [(lab_other F s d (show (i:Int)≠a by omega)).2,World.cell?_setCell_other _ _ _ _ (addr_ne (by omega)),World.cell?_setCell_other _ _ _ _ (addr_ne (by omega))];exact h.c1 i hi
 ·by_cases q:i=a
  ·subst q;rw [putH_same]
   refine World.cell?_setCell_same _ _ _ (u:=.bool (F i).isSome) ?_
   rw [World.cell?_setCell_other _ _ _ _ (nb _ _).symm,World.cell?_setCell_other _ _ _ _ (nb _ _).symm];exact h.i0 i hi
  ·rw [putH_other F s d (show (i:Int)≠a by omega),World.cell?_setCell_other _ _ _ _ (addr_ne (by omega)),World.cell?_setCell_other _ _ _ _ (nb _ _).symm,World.cell?_setCell_other _ _ _ _ (nb _ _).symm];exact h.i0 i hi
theorem put_keep (w:World) (cb ib a:Nat) (s d:Int):Keep (fun k=>k=cb\/k=ib) w (((w.setCell ⟨cb,a*2,none⟩ (.int .i64 s)).setCell ⟨cb,a*2+1,none⟩ (.int .i64 d)).setCell ⟨ib,a,none⟩ (.bool true)) :=
 (((Keep.refl (fun k=>k=cb\/k=ib) w).setCell (p:=⟨cb,a*2,none⟩) (fun _=>Or.inl rfl) _).setCell (p:=⟨cb,a*2+1,none⟩) (fun _=>Or.inl rfl) _).setCell (p:=⟨ib,a,none⟩) (fun _=>Or.inr rfl) _
def costL (F:Int->Option (Int × Int)):List Value:=(List.range 512).map fun i=>Value.int .i64 (if i % 2=0 then labS F (i / 2:Nat) else labD F (i / 2:Nat))
def isL (F:Int->Option (Int × Int)):List Value:=(List.range 256).map fun (i:Nat)=>Value.bool (F (i:Int)).isSome
theorem costL_len (F:Int->Option (Int × Int)):(costL F).length=512:=by unfold costL;simp
theorem isL_len (F:Int->Option (Int × Int)):(isL F).length=256:=by unfold isL;simp
theorem LabAt.rangeC {w:World}{cb ib:Nat}{F:Int->Option (Int × Int)}(h:LabAt w cb ib F):w.rangeAt cb 0 (costL F):=by
 intro j v hj
 rw [Nat.zero_add]
 have hlt:j < 512:=by have:=(List.getElem?_eq_some_iff.1 hj).1;rw [costL_len] at this;exact this
 unfold costL at hj
 rw [List.getElem?_map,List.getElem?_range hlt] at hj
 simp only [Option.map_some,Option.some.injEq] at hj
 rw [<- hj]
 by_cases q:j % 2=0
 ·rw [if_pos q]
  have:=h.c0 (j / 2) (by omega)
  rw [show j / 2*2=j by omega] at this
  exact this
 ·rw [if_neg q]
  have:=h.c1 (j / 2) (by omega)
  rw [show j / 2*2+1=j by omega] at this
  exact this
theorem LabAt.rangeI {w:World}{cb ib:Nat}{F:Int->Option (Int × Int)}(h:LabAt w cb ib F):w.rangeAt ib 0 (isL F):=by
 intro j v hj
 rw [Nat.zero_add]
 have hlt:j < 256:=by have:=(List.getElem?_eq_some_iff.1 hj).1;rw [isL_len] at this;exact this
 unfold isL at hj
 rw [List.getElem?_map,List.getElem?_range hlt] at hj
 simp only [Option.map_some,Option.some.injEq] at hj
 rw [<- hj]
 exact h.i0 j hlt
theorem info54:(Tryz.prog.info? 88).map (·.size)=some 512:=by kernel_rfl
theorem info55:(Tryz.prog.info? 63).map (·.size)=some 256:=by kernel_rfl
def pend (td:List Nat) (i:Nat) (a:Int):Prop:=∃ j,i<=j/\j < td.length/\((td.getD j 0:Nat):Int)=a
structure FSt (w wr:World) (tv:Value) (td:List Nat) (W H:Int) (F:Int->Option (Int × Int)):Prop where
 own:wr.ownsRow (w.heap.size+4) 3 1 tv td.length (vals td)
 lab:LabAt wr (w.heap.size+2) (w.heap.size+3) F
 r0:wr.there w.heap.size 0 512
 r1:wr.there (w.heap.size+1) 0 256
 bel:Below w.heap.size w wr
 mem:∀ j,j < td.length->inB W H ((td.getD j 0:Nat):Int)=true/\(F ((td.getD j 0:Nat):Int)).isSome=true
 len:(td.length:Int)+pot F (W*H).toNat<=3578815643905
theorem there_keep {D:Nat->Prop}{w w':World}{b o n:Nat}(h:w.there b o n) (hb:b < w.heap.size) (K:Keep D w w') (hn:¬ D b):w'.there b o n:=fun j hj=>by
 obtain ⟨h1,h2⟩:=h j hj
 rw [K.cell (p:=⟨b,o+j,none⟩) hb hn,K.frozen (p:=⟨b,o+j,none⟩) hb hn]
 exact ⟨h1,h2⟩
theorem own_keepA {D:Nat->Prop}{w w':World}{base k n:Nat}{e:TypeId}{v:Value}{xs:List Value}(h:w.ownsRow base e k v n xs) (K:Keep D w w') (hn:∀ g,base<=g->¬ D g):w'.ownsRow base e k v n xs:=by
 refine ⟨h.1,?_⟩
 rcases h.2 with h2 | ⟨g,cap,cur,hv,hbase,hg,h3⟩
 ·exact Or.inl h2
 ·exact Or.inr ⟨g,cap,cur,hv,hbase,(K.block g (Array.getElem?_eq_some_iff.1 hg).1 (hn g hbase)).trans hg,h3⟩
theorem FSt.big {w wr:World}{tv:Value}{td:List Nat}{W H:Int}{F:Int->Option (Int × Int)}(h:FSt w wr tv td W H F):w.heap.size+4<=wr.heap.size:=by have:=h.lab.lt.2;omega
theorem FSt.below {w wr w':World}{tv:Value}{td:List Nat}{W H:Int}{F:Int->Option (Int × Int)}(h:FSt w wr tv td W H F) (hb:Below wr.heap.size wr w'):FSt w w' tv td W H F:=by
 have hs:=h.big
 have K:Keep (fun _=>False) wr w':=Keep.of_below hb
 exact ⟨own_below h.own hb,h.lab.below hb,there_keep h.r0 (by omega) K id,there_keep h.r1 (by omega) K id,h.bel.trans (hb.mono h.bel.size),h.mem,h.len⟩
theorem FSt.put {w wr:World}{tv:Value}{td:List Nat}{W H:Int}{F:Int->Option (Int × Int)}(h:FSt w wr tv td W H F) (a:Nat) (ha:a < 256) (s d:Int) (hp:pot (putH F a s d) (W*H).toNat+1<=pot F (W*H).toNat) :
  FSt w (((wr.setCell ⟨w.heap.size+2,a*2,none⟩ (.int .i64 s)).setCell ⟨w.heap.size+2,a*2+1,none⟩ (.int .i64 d)).setCell ⟨w.heap.size+3,a,none⟩ (.bool true)) tv td W H (putH F a s d):=by
 have hs:=h.big
 have K:=put_keep wr (w.heap.size+2) (w.heap.size+3) a s d
 refine ⟨own_keepA h.own K (fun g hg=>by omega),h.lab.put a ha s d,there_keep h.r0 (by omega) K (by omega),there_keep h.r1 (by omega) K (by omega),h.bel.trans (K.to_below h.bel.size (fun k hk=>by omega)),fun j hj=>?_,by have:=h.len;omega⟩
 obtain ⟨m1,m2⟩:=h.mem j hj
 refine ⟨m1,?_⟩
 by_cases q:((td.getD j 0:Nat):Int)=a
 ·rw [q,putH_same];rfl
 ·rw [putH_other F s d q];exact m2
theorem FSt.app {w wr w':World}{tv tv':Value}{td:List Nat}{W H:Int}{F:Int->Option (Int × Int)}{a:Nat}(h:FSt w wr tv td W H F) (ho:w'.ownsRow (w.heap.size+4) 3 1 tv' (td++[a]).length (vals (td++[a]))) (hg:wr.grownBy w' tv.ownBlock) (ha:inB W H a=true) (hF:(F a).isSome=true) (hl:(td.length:Int)+1+pot F (W*H).toNat<=3578815643905) :
  FSt w w' tv' (td++[a]) W H F:=by
 have hs:=h.big
 have K:Keep (fun k=>w.heap.size+4<=k) wr w':=(Keep.refl _ wr).grown hg (fun k hk _=>(h.own.lt k hk).1)
 refine ⟨ho,h.lab.keep K (by omega) (by omega),there_keep h.r0 (by omega) K (by omega),there_keep h.r1 (by omega) K (by omega),h.bel.trans (K.to_below h.bel.size (fun k hk=>by omega)),fun j hj=>?_,by simp;omega⟩
 rw [getD_app]
 by_cases q:j < td.length
 ·rw [if_pos q];exact h.mem j q
 ·rw [if_neg q,if_pos (by simp at hj;omega)];exact ⟨ha,hF⟩
theorem pend_app {td:List Nat}{i a:Nat}{x:Int}(hi:i<=td.length):pend (td++[a]) i x↔(pend td i x\/x=a):=by
 constructor
 ·rintro ⟨j,h1,h2,h3⟩
  rw [getD_app] at h3
  by_cases q:j < td.length
  ·rw [if_pos q] at h3;exact Or.inl ⟨j,h1,q,h3⟩
  ·rw [if_neg q,if_pos (by simp at h2;omega)] at h3;exact Or.inr h3.symm
 ·rintro (⟨j,h1,h2,h3⟩ | rfl)
  ·exact ⟨j,h1,by simp;omega,by rw [getD_app,if_pos h2];exact h3⟩
  ·exact ⟨td.length,hi,by simp,by rw [getD_app,if_neg (Nat.lt_irrefl _),if_pos rfl]⟩
def RFlooded (w w':World) (e:Ending) (W H:Int) (bl:Nat->Bool) (o:Int):Prop :=
 ∃ F,e=.returned (.tuple #[.agg (costL F).toArray,.agg (isL F).toArray])/\Best (Edge W H bl) o F/\Below w.heap.size w w'
theorem new_there (w:World) (l:List Value) (t:TypeId) (n:Nat) (hl:l.length=n):(w.alloc (.cells l.toArray t)).there w.heap.size 0 n:=by
 intro j hj
 rw [Nat.zero_add,World.cell?_alloc_new,List.getElem?_toArray,List.getElem?_eq_getElem (by omega)]
 exact ⟨rfl,free_alloc w _ _ _ (Nat.le_refl _) j⟩
theorem fst_start {W H:Int}(w:World) (c:Nat) (hr:inB W H c=true) (h256:W*H<=256) :
  FSt w ((((((w.alloc (.cells zC 88)).alloc (.cells zB 63)).alloc (.cells zC 88)).alloc (.cells zB 63)).setCell ⟨w.heap.size+1+1+1,c,none⟩ (.bool true)).alloc (.cells #[.int .i64 (c:Int)] 3)) (.slice (some ⟨w.heap.size+1+1+1+1,0,none⟩) 1 1) [c] W H (putH (fun _=>none) c 0 0):=by
 have hc:0<=(c:Int)/\(c:Int) < W*H:=of_decide_eq_true hr
 have t0:(w.alloc (.cells zC 88)).there w.heap.size 0 512:=new_there w (List.replicate 512 (Value.int .i64 0)) 88 512 List.length_replicate
 have t1:((w.alloc (.cells zC 88)).alloc (.cells zB 63)).there (w.heap.size+1) 0 256:=by
  have:=new_there (w.alloc (.cells zC 88)) (List.replicate 256 (Value.bool false)) 63 256 List.length_replicate
  rw [show (w.alloc (.cells zC 88)).heap.size=w.heap.size+1 by simp] at this
  exact this
 have s1:(w.alloc (.cells zC 88)).heap.size=w.heap.size+1:=by simp
 have s2:((w.alloc (.cells zC 88)).alloc (.cells zB 63)).heap.size=w.heap.size+2:=by simp
 have B1:Below w.heap.size w (w.alloc (.cells zC 88)):=(Below.refl _ _).alloc (Nat.le_refl _) _
 have B2:Below (w.alloc (.cells zC 88)).heap.size (w.alloc (.cells zC 88)) ((w.alloc (.cells zC 88)).alloc (.cells zB 63)):=(Below.refl _ _).alloc (Nat.le_refl _) _
 have B12:=B1.trans (B2.mono (by rw [s1];omega))
 have t0':=there_keep t0 (by rw [s1];omega) (Keep.of_below (F:=fun _=>False) B2) id
 generalize (w.alloc (.cells zC 88)).alloc (.cells zB 63)=w2 at *
 have L0:=LabAt.new w2
 rw [s2] at L0
 have s4:((w2.alloc (.cells zC 88)).alloc (.cells zB 63)).heap.size=w.heap.size+4:=by simp [s2]
 have B3:Below w2.heap.size w2 ((w2.alloc (.cells zC 88)).alloc (.cells zB 63)):=((Below.refl _ _).alloc (Nat.le_refl _) _).alloc (by simp) _
 have B13:=B12.trans (B3.mono (by rw [s2];omega))
 have t0'':=there_keep t0' (by rw [s2];omega) (Keep.of_below (F:=fun _=>False) B3) id
 have t1'':=there_keep t1 (by rw [s2];omega) (Keep.of_below (F:=fun _=>False) B3) id
 generalize (w2.alloc (.cells zC 88)).alloc (.cells zB 63)=w4 at *
 have L1:=L0.first c (by omega)
 have K:Keep (fun k=>k=w.heap.size+2+1) w4 (w4.setCell ⟨w.heap.size+2+1,c,none⟩ (.bool true)):=(Keep.refl (fun k=>k=w.heap.size+2+1) w4).setCell (p:=⟨w.heap.size+2+1,c,none⟩) (fun _=>rfl) _
 have s5:(w4.setCell ⟨w.heap.size+2+1,c,none⟩ (.bool true)).heap.size=w.heap.size+4:=by rw [<- s4];simp
 have B14:=B13.trans (K.to_below (by rw [s4];omega) (fun k hk=>by omega))
 have u0:=there_keep t0'' (by rw [s4];omega) K (by omega)
 have u1:=there_keep t1'' (by rw [s4];omega) K (by omega)
 show FSt w ((w4.setCell ⟨w.heap.size+2+1,c,none⟩ (.bool true)).alloc (.cells #[.int .i64 (c:Int)] 3)) (.slice (some ⟨w.heap.size+4,0,none⟩) 1 1) [c] W H (putH (fun _=>none) c 0 0)
 generalize w4.setCell ⟨w.heap.size+2+1,c,none⟩ (.bool true)=w5 at *
 have own:=World.ownsRow_lit (base:=w.heap.size+4) (e:=3) (size:=1) w5 #[.int .i64 (c:Int)] 1 (by rw [s5];omega) (by unfold maxLen;omega) rfl
 rw [s5] at own
 have B5:Below w5.heap.size w5 (w5.alloc (.cells #[.int .i64 (c:Int)] 3)):=(Below.refl _ _).alloc (Nat.le_refl _) _
 refine ⟨own,L1.below B5,there_keep u0 (by rw [s5];omega) (Keep.of_below (F:=fun _=>False) B5) id,there_keep u1 (by rw [s5];omega) (Keep.of_below (F:=fun _=>False) B5) id,B14.trans (B5.mono (by rw [s5];omega)),fun j hj=>?_,?_⟩
 ·have:j=0:=by simp at hj;omega
  subst this
  exact ⟨hr,by show (putH _ (c:Int) 0 0 (c:Int)).isSome=true;rw [putH_same];rfl⟩
 ·have:=pot_start (c:Int) (W*H).toNat (by omega) (by omega) (by omega)
  show ((1:Nat):Int)+_<=_
  omega
end
end Go.Proofs.YtipbhlofbpnpjaaGreatDoor
