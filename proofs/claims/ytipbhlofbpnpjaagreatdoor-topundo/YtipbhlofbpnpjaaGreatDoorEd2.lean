/- -/
import Derived.Test.YtipbhlofbpnpjaaGreatDoorEd1
namespace Go.Proofs.YtipbhlofbpnpjaaGreatDoor
open Go.RowKit Go.Lib
def didL (l:List Nat):List (Int × Bool):=l.map fun c:Nat=>((c:Int),true)
def backL (bl:Nat->Bool) (l:List Nat):List (Int × Bool):=l.map fun c:Nat=>((c:Int),bl c)
theorem didL_app (l:List Nat)(c:Nat):didL (l++[c])=didL l++[((c:Int),true)]:=by unfold didL;rw [List.map_append];rfl
theorem backL_app (bl:Nat->Bool)(l:List Nat)(c:Nat):backL bl (l++[c])=backL bl l++[((c:Int),bl c)]:=by unfold backL;rw [List.map_append];rfl
theorem didL_len (l:List Nat):(didL l).length=l.length:=List.length_map _
theorem backL_len (bl:Nat->Bool)(l:List Nat):(backL bl l).length=l.length:=List.length_map _
theorem map_at {f:Nat->Int × Bool}{l:List Nat}{i:Nat}(h:i<l.length):csL (l.map f) i=(f (l.getD i 0)).1/\bsL (l.map f) i=(f (l.getD i 0)).2:=by
 unfold csL bsL
 rw [List.getD_eq_getElem?_getD,List.getElem?_map,List.getElem?_eq_getElem h,List.getD_eq_getElem?_getD,List.getElem?_eq_getElem h]
 exact ⟨rfl,rfl⟩
theorem edF_undo {nb bl:Nat->Bool}{l:List Nat}(h:∀ c ∈ l,bl c=nb c):edF (edF nb (csL (didL l)) (bsL (didL l)) l.length) (csL (backL bl l)) (bsL (backL bl l)) l.length=nb:=by
 have hg:∀ {i},i<l.length->l.getD i 0 ∈ l:=fun {i} hi=>by
  rw [List.getD_eq_getElem?_getD,List.getElem?_eq_getElem hi]
  exact List.getElem_mem hi
 funext n
 by_cases hn:n ∈ l
 ·refine edF_all (fun i hi e=>?_) ?_
  ·obtain ⟨e1,e2⟩:=map_at (f:=fun c:Nat=>((c:Int),bl c)) hi
   have e1:csL (backL bl l) i=((l.getD i 0:Nat):Int):=e1
   have e2:bsL (backL bl l) i=bl (l.getD i 0):=e2
   rw [e1,Int.toNat_natCast] at e
   rw [e2,e,h n hn]
  ·obtain ⟨i,hi,e⟩:=List.getElem_of_mem hn
   refine ⟨i,hi,?_⟩
   have e1:csL (backL bl l) i=((l.getD i 0:Nat):Int):=(map_at (f:=fun c:Nat=>((c:Int),bl c)) hi).1
   rw [e1,Int.toNat_natCast,List.getD_eq_getElem?_getD,List.getElem?_eq_getElem hi]
   exact e
 ·have q1:∀ i,i<l.length->(csL (backL bl l) i).toNat≠n:=fun i hi e=>by
   have e1:csL (backL bl l) i=((l.getD i 0:Nat):Int):=(map_at (f:=fun c:Nat=>((c:Int),bl c)) hi).1
   rw [e1,Int.toNat_natCast] at e
   exact hn (e ▸ hg hi)
  have q2:∀ i,i<l.length->(csL (didL l) i).toNat≠n:=fun i hi e=>by
   have e1:csL (didL l) i=((l.getD i 0:Nat):Int):=(map_at (f:=fun c:Nat=>((c:Int),true)) hi).1
   rw [e1,Int.toNat_natCast] at e
   exact hn (e ▸ hg hi)
  rw [edF_other q1,edF_other q2]
theorem did_in {W H:Int}{l:List Nat}(h:∀ c ∈ l,inB W H (c:Int)=true){f:Nat->Int × Bool}(hf:∀ c,(f c).1=(c:Int)):∀ i,i<l.length->inB W H (csL (l.map f) i)=true:=fun i hi=>by
 rw [(map_at (f:=f) hi).1,hf]
 refine h _ ?_
 rw [List.getD_eq_getElem?_getD,List.getElem?_eq_getElem hi]
 exact List.getElem_mem hi
theorem OldEd.keep {F:Nat->Prop}{w w':World}{A:Option Addr}{n:Nat}{cs:Nat->Int}{bs:Nat->Bool}(h:OldEd w A n cs bs)(K:Keep F w w')(hF:∀ b o,A=some ⟨b,o,none⟩->¬ F b):OldEd w' A n cs bs:=fun i hi=>by
 obtain ⟨b,o,e,h1,h2,h3⟩:=h i hi
 exact ⟨b,o,e,Nat.lt_of_lt_of_le h1 K.size,K.cellOf h2 (hF b o e),K.cellOf h3 (hF b o e)⟩
end Go.Proofs.YtipbhlofbpnpjaaGreatDoor
