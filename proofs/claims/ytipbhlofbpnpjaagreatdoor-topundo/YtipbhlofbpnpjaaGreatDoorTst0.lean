/- -/
import Derived.Test.YtipbhlofbpnpjaaGreatDoorNba
namespace Go.Proofs.YtipbhlofbpnpjaaGreatDoor
open Go.RowKit Go.Lib
def OldAns (w:World) (A:Option Addr) (l:List AnsE):Prop:=∀ i x,l[i]? = some x->∃ b o,A=some ⟨b,o,none⟩/\b<w.heap.size/\w.cell? ⟨b,o+i*4,none⟩=some (.slice x.A x.way.length x.cap)/\w.cell? ⟨b,o+i*4+1,none⟩=some (.int .i64 x.s)/\w.cell? ⟨b,o+i*4+2,none⟩=some (.int .i64 x.d)/\w.cell? ⟨b,o+i*4+3,none⟩=some (.int .i64 x.err)
theorem OldAns.keep {F:Nat->Prop}{w w':World}{A:Option Addr}{l:List AnsE}(h:OldAns w A l)(K:Keep F w w')(hF:∀ b o,A=some ⟨b,o,none⟩->¬ F b):OldAns w' A l:=fun i x hx=>by
 obtain ⟨b,o,e,hb,k0,k1,k2,k3⟩:=h i x hx
 have n:=hF b o e
 exact ⟨b,o,e,Nat.lt_of_lt_of_le hb K.size,K.cellOf k0 n,K.cellOf k1 n,K.cellOf k2 n,K.cellOf k3 n⟩
theorem OldAns.below {w w':World}{A:Option Addr}{l:List AnsE}(h:OldAns w A l)(hb:Below w.heap.size w w'):OldAns w' A l:=h.keep (F:=fun _=>False) (Keep.of_below hb) (fun _ _ _=>id)
theorem ansV_at:∀ (l:List AnsE) (i:Nat) (x:AnsE),l[i]? = some x->(ansV l)[i*4]? = some (.slice x.A x.way.length x.cap)/\(ansV l)[i*4+1]? = some (.int .i64 x.s)/\(ansV l)[i*4+2]? = some (.int .i64 x.d)/\(ansV l)[i*4+3]? = some (.int .i64 x.err)
 |[],i,x,h=>by simp at h
 |y::l,0,x,h=>by
  simp at h
  subst h
  exact ⟨rfl,rfl,rfl,rfl⟩
 |y::l,i+1,x,h=>by
  have h':l[i]? = some x:=by simpa using h
  obtain ⟨a,b,c,d⟩:=ansV_at l i x h'
  have e:∀ j,(ansV (y::l))[j+4]? = (ansV l)[j]? := fun j=>by
   have:ansV (y::l)=ansE y++ansV l:=by unfold ansV;rw [List.flatMap_cons]
   rw [this,List.getElem?_append_right (by show 4<=_;omega)]
   show (ansV l)[j+4 - 4]? = _
   rw [Nat.add_sub_cancel]
  rw [show (i+1)*4=i*4+4 by omega]
  refine ⟨?_,?_,?_,?_⟩
  ·rw [e];exact a
  ·rw [show i*4+4+1=i*4+1+4 by omega,e];exact b
  ·rw [show i*4+4+2=i*4+2+4 by omega,e];exact c
  ·rw [show i*4+4+3=i*4+3+4 by omega,e];exact d
theorem oldAns_of {w:World}{base n:Nat}{v:Value}{l:List AnsE}(h:w.ownsRow base 41 4 v n (ansV l))(hl:l.length=n):∃ A cap,v=.slice A n cap/\OldAns w A l/\∀ b o,A=some ⟨b,o,none⟩->v.ownBlock=some b:=by
 rcases h.2 with ⟨rfl,rfl⟩|⟨g,cap,cur,rfl,h1,h2,h3,h4,h5,h6⟩
 ·refine ⟨none,0,rfl,fun i x hx=>?_,fun b o e=>by cases e⟩
  have:=(List.getElem?_eq_some_iff.1 hx).1
  omega
 ·refine ⟨some ⟨g,0,none⟩,cap,rfl,fun i x hx=>⟨g,0,rfl,?_,?_⟩,fun b o e=>by cases e;rfl⟩
  ·exact (Array.getElem?_eq_some_iff.1 h2).1
  ·obtain ⟨a,b,c,d⟩:=ansV_at l i x hx
   have k:∀ j u,(ansV l)[j]? = some u->w.cell? ⟨g,0+j,none⟩=some u:=fun j u hj=>by
    rw [Nat.zero_add]
    rw [<- h6] at hj
    rw [List.getElem?_take] at hj
    split at hj
    ·simp only [World.cell?,h2]
     simpa using hj
    ·cases hj
   exact ⟨k _ _ a,k _ _ b,k _ _ c,k _ _ d⟩
def WaysAt (w:World) (base:Nat) (A:Option Addr) (l:List AnsE):Prop:=∀ (i:Nat) (x:AnsE),l[i]? = some x->∀ k,k<x.way.length->∃ q,x.A=some ⟨q,0,none⟩/\base<=q/\(∀ b o,A=some ⟨b,o,none⟩->b≠q)/\(∃ u,w.cell? ⟨q,k,none⟩=some u)/\w.frozen? ⟨q,k,none⟩=false
theorem waysAt_of {w:World}{base n most cap:Nat}{W H:Int}{bl:Nat->Bool}{fs ts:Nat->Int}{A:Option Addr}{l:List AnsE}(h:AnsAt w base W H bl most fs ts l)(ho:w.ownsRow base 41 4 (.slice A n cap) n (ansV l))(hb:∀ b o,A=some ⟨b,o,none⟩->(Value.slice A n cap).ownBlock=some b):WaysAt w base A l:=fun i x hx k hk=>by
 have h2:=(h i x hx).2
 rcases h2.2 with ⟨e,e0⟩|⟨g,c,cur,e,q1,q2,q3,q4,q5,q6⟩
 ·omega
 ·simp only [Value.slice.injEq] at e
  obtain ⟨e1,_,_⟩:=e
  refine ⟨g,e1,q1,fun b o e2 eb=>?_,?_,?_⟩
  ·subst eb
   exact own_apart h2 ho (by decide) b (by rw [e1];rfl) (hb _ o e2).symm
  ·have hk2:k<cur.size:=by rw [q5];omega
   exact ⟨cur[k],by simp only [World.cell?,q2];simp [hk2]⟩
  ·simp only [World.frozen?,q2]
   simp
theorem WaysAt.below {w w':World}{base:Nat}{A:Option Addr}{l:List AnsE}(h:WaysAt w base A l)(hb:Below w.heap.size w w'):WaysAt w' base A l:=fun i x hx k hk=>by
 obtain ⟨q,e,h1,h2,⟨u,h3⟩,h4⟩:=h i x hx k hk
 have hlt:=World.block_lt_of_cell? _ _ h3
 exact ⟨q,e,h1,h2,⟨u,(hb.cell hlt).trans h3⟩,(hb.frozen (p:=⟨q,k,none⟩) hlt).trans h4⟩
theorem WaysAt.set {w:World}{base:Nat}{A:Option Addr}{l:List AnsE}(h:WaysAt w base A l)(p:Addr)(v:Value):WaysAt (w.setCell p v) base A l:=fun i x hx k hk=>by
 obtain ⟨q,e,h1,h2,⟨u,h3⟩,h4⟩:=h i x hx k hk
 refine ⟨q,e,h1,h2,?_,by simpa using h4⟩
 by_cases he:p=⟨q,k,none⟩
 ·subst he
  exact ⟨v,World.cell?_setCell_same _ _ _ h3⟩
 ·exact ⟨u,by rw [World.cell?_setCell_other _ _ _ _ he];exact h3⟩
end Go.Proofs.YtipbhlofbpnpjaaGreatDoor
