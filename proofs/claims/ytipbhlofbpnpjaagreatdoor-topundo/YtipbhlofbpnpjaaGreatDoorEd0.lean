/- -/
import Derived.Test.YtipbhlofbpnpjaaGreatDoorNe3
import Derived.Test.YtipbhlofbpnpjaaGreatDoorP27
namespace Go.Proofs.YtipbhlofbpnpjaaGreatDoor
open Go.RowKit Go.Lib
def edsE (x:Int × Bool):List Value:=[.int .i64 x.1,.bool x.2]
def edsV (l:List (Int × Bool)):List Value:=l.flatMap edsE
theorem edsV_app (l:List (Int × Bool))(x:Int × Bool):edsV (l++[x])=edsV l++edsE x:=by
 unfold edsV
 rw [List.flatMap_append,List.flatMap_cons,List.flatMap_nil,List.append_nil]
theorem edsV_at:∀ (l:List (Int × Bool)) (i:Nat),i<l.length->(edsV l)[i*2]? = some (.int .i64 (l.getD i (0,false)).1)/\(edsV l)[i*2+1]? = some (.bool (l.getD i (0,false)).2)
 |[],i,h=>absurd h (Nat.not_lt_zero i)
 |y::l,0,_=>⟨rfl,rfl⟩
 |y::l,i+1,h=>by
  obtain ⟨a,b⟩:=edsV_at l i (Nat.lt_of_succ_lt_succ h)
  have e:∀ j,(edsV (y::l))[j+2]? = (edsV l)[j]? := fun j=>by
   have:edsV (y::l)=edsE y++edsV l:=by unfold edsV;rw [List.flatMap_cons]
   rw [this,List.getElem?_append_right (by show 2<=_;omega)]
   show (edsV l)[j+2 - 2]? = _
   rw [Nat.add_sub_cancel]
  rw [show (i+1)*2=i*2+2 by omega]
  refine ⟨?_,?_⟩
  ·rw [e];exact a
  ·rw [show i*2+2+1=i*2+1+2 by omega,e];exact b
theorem Tryz.infoD:(Tryz.prog.info? 62).map (fun i=>(i.zero,i.size,i.bytes))=some (some (.agg #[.int .i64 0,.bool false]),2,16):=by kernel_rfl
theorem Tryz.underD:Tryz.prog.underlying 44=some (.slice 62):=by kernel_rfl
theorem cell_two_new (w:World)(x y:Value)(t:TypeId):∀ j q,[x,y][j]? = some q->(w.alloc (.cells #[x,y] t)).cell? ((⟨w.heap.size,0,none⟩:Addr).add j)=some q:=by
 intro j q hj
 match j,hj with
 |0,hj=>simp at hj;subst hj;simp [Addr.add]
 |1,hj=>simp at hj;subst hj;simp [Addr.add]
def csL (l:List (Int × Bool)) (i:Nat):Int:=(l.getD i (0,false)).1
def bsL (l:List (Int × Bool)) (i:Nat):Bool:=(l.getD i (0,false)).2
theorem oldEd_of {w:World}{base:Nat}{v:Value}{l:List (Int × Bool)}(h:w.ownsRow base 62 2 v l.length (edsV l)):∃ A cap,v=.slice A l.length cap/\OldEd w A l.length (csL l) (bsL l)/\∀ b o,A=some ⟨b,o,none⟩->base<=b:=by
 rcases h.2 with ⟨rfl,e⟩|⟨g,cap,cur,rfl,h1,h2,h3,h4,h5,h6⟩
 ·rw [e]
  exact ⟨none,0,rfl,fun i hi=>absurd hi (Nat.not_lt_zero i),fun b o e=>by cases e⟩
 ·refine ⟨some ⟨g,0,none⟩,cap,rfl,fun i hi=>⟨g,0,rfl,(Array.getElem?_eq_some_iff.1 h2).1,?_⟩,fun b o e=>by cases e;exact h1⟩
  obtain ⟨a,b⟩:=edsV_at l i hi
  have k:∀ j u,(edsV l)[j]? = some u->w.cell? ⟨g,0+j,none⟩=some u:=fun j u hj=>by
   rw [Nat.zero_add]
   rw [<- h6] at hj
   rw [List.getElem?_take] at hj
   split at hj
   ·simp only [World.cell?,h2]
    simpa using hj
   ·cases hj
  exact ⟨k _ _ a,k _ _ b⟩
theorem edF_other {bl:Nat->Bool}{cs:Nat->Int}{bs:Nat->Bool}{n:Nat}:∀ {k},(∀ i,i<k->(cs i).toNat≠n)->edF bl cs bs k n=bl n
 |0,_=>rfl
 |k+1,h=>by
  show upd (edF bl cs bs k) (cs k).toNat (bs k) n=bl n
  unfold upd
  rw [if_neg (fun e=>h k (Nat.lt_succ_self k) e.symm)]
  exact edF_other (fun i hi=>h i (by omega))
theorem edF_all {bl:Nat->Bool}{cs:Nat->Int}{bs:Nat->Bool}{n:Nat}{v:Bool}:∀ {k},(∀ i,i<k->(cs i).toNat=n->bs i=v)->(∃ i,i<k/\(cs i).toNat=n)->edF bl cs bs k n=v
 |0,_,⟨i,h,_⟩=>absurd h (Nat.not_lt_zero i)
 |k+1,h,⟨i,hi,he⟩=>by
  show upd (edF bl cs bs k) (cs k).toNat (bs k) n=v
  unfold upd
  by_cases e:n=(cs k).toNat
  ·rw [if_pos e];exact h k (Nat.lt_succ_self k) e.symm
  ·rw [if_neg e]
   refine edF_all (fun j hj=>h j (by omega)) ⟨i,?_,he⟩
   by_cases ei:i=k
   ·subst ei;exact absurd he.symm e
   ·omega
theorem edE_ok {W H:Int}{cs:Nat->Int}{n:Nat}(h:n<=60)(ha:∀ i,i<n->inB W H (cs i)=true):edE W H cs n=0:=by
 rcases edE_cases W H cs n with ⟨h1,_⟩|⟨_,h2,_⟩|⟨_,_,i,h3,h4,_⟩
 ·omega
 ·exact h2
 ·rw [ha i h3] at h4;cases h4
theorem nedit_ok {lo hi sb most n cap:Nat}{W H V:Int}{bl:Nat->Bool}{A:Option Addr}{cs:Nat->Int}{bs:Nat->Bool}(w:World)(S:Sv w lo hi sb W H V bl most)(hq:OldEd w A n cs bs)(hA:0<n->∀ b o,A=some ⟨b,o,none⟩->¬ (lo<=b/\b<hi))(hlo:2<=lo)(v1:0<=V)(v2:V<=900000)(hn:n<=60)(hall:∀ i,i<n->inB W H (cs i)=true) :
  Calls Tryz.prog 19 #[.pointer (some ⟨sb,0,none⟩),.slice A n cap] w fun e w'=>∃ k:Nat,k<=60/\e=.returned (.tuple #[.int .i64 (k:Int),.nilIface])/\Sv w' lo hi sb W H (V+(k:Int)) (edF bl cs bs n) most/\Keep (fun k=>lo<=k/\k<hi) w w' :=
 (nedit_any w S hq hA hlo v1 v2).mono fun e w' h=>by
  rcases h with ⟨h1,_⟩|⟨_,_,_,h2,h3,h4⟩
  ·exact absurd (edE_ok hn hall) h1
  ·exact ⟨_,by have:=edC_le bl cs bs n;omega,h2,h3,h4⟩
theorem Rt.walls {W H:Int}{bl bl':Nat->Bool}{a t s d err s' d' err':Int}{way way':List Nat}(h:Rt W H bl a t way s d err)(h':Rt W H bl' a t way' s' d' err')(hb:∀ n,bl n=true->bl' n=true)(hf:ff2 W H bl a t=ff2 W H bl' a t):(err'=0->err=0/\val s d<=val s' d')/\(err≠0->err'=err):=by
 constructor
 ·intro h0
  obtain ⟨k1,k2⟩:=h'.ok h0
  exact h.yes (by rw [hf];exact k1) (wk_more hb k2)
 ·intro h0
  by_cases hff:ff2 W H bl a t=0
  ·have hnw:∀ p q,¬ Wk (Edge W H bl) a t p q:=fun p q hx=>h0 (h.reach.2 ⟨hff,p,q,hx⟩)
   have hnw':∀ p q,¬ Wk (Edge W H bl') a t p q:=fun p q hx=>hnw p q (wk_more hb hx)
   rw [(h.no hff hnw).1,(h'.no (by rw [<- hf];exact hff) hnw').1]
  ·rw [(h.bad hff).1,(h'.bad (by rw [<- hf];exact hff)).1,hf]
theorem ff2_same {W H:Int}{bl bl':Nat->Bool}{a t:Int}(ha:inB W H a=true->bl a.toNat=bl' a.toNat)(ht:inB W H t=true->bl t.toNat=bl' t.toNat):ff2 W H bl a t=ff2 W H bl' a t:=by
 have k:∀ {c:Int},(inB W H c=true->bl c.toNat=bl' c.toNat)->ffv W H bl c=ffv W H bl' c:=fun {c} h=>by
  unfold ffv
  cases hi:inB W H c with
  |false=>rfl
  |true=>rw [h hi]
 unfold ff2
 rw [k ha,k ht]
end Go.Proofs.YtipbhlofbpnpjaaGreatDoor
