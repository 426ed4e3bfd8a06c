/- -/
import Derived.Test.YtipbhlofbpnpjaaGreatDoorTouch
namespace Go.Proofs.YtipbhlofbpnpjaaGreatDoor
section
variable {W H c0 : Int} {bl bl' : Nat → Bool}
theorem loc_corn (hbl:∀ n:Nat,(n:Int)≠c0->bl n=bl' n)(w1:1<=W){c:Int}(h:¬ Tch W H bl (c0 % W) (c0 / W) (c0 / W+1+1) (c0 % W - 1) c)(hc:cornB W H bl c=true) :
  (∀ p,inB W H p=true->bl p.toNat=false->Blk W c0 p->¬ Dir W H bl p c)/\¬ Blk W c0 c/\cornB W H bl' c=true:=by
 rw [Tch.all] at h
 have hno:∀ p,inB W H p=true->bl p.toNat=false->Blk W c0 p->¬ Dir W H bl p c:=fun p hp hf hB hd=>h ⟨hc,p,⟨hp,hf,hd⟩,by unfold Blk at hB;omega⟩
 have hin:=cornC_in w1 (cornB_iff.1 hc)
 have hnb:¬ Blk W c0 c:=fun hB=>hno c hin (corn_free hc) hB (Dir.self w1)
 exact ⟨hno,hnb,cornB_iff.2 (far_corn hbl hnb (cornB_iff.1 hc))⟩
theorem loc_edge (hbl:∀ n:Nat,(n:Int)≠c0->bl n=bl' n)(w1:1<=W)(w2:W<=16)(h1:1<=H)(h2:H<=16){c:Int}(h:¬ Tch W H bl (c0 % W) (c0 / W) (c0 / W+1+1) (c0 % W - 1) c)(hc:cornB W H bl c=true)(d:Int)(hd:Dir W H bl c d/\(decide (d≠c)&&cornB W H bl d)=true) :
  Dir W H bl' c d/\(decide (d≠c)&&cornB W H bl' d)=true:=by
 obtain ⟨hno,_,_⟩:=loc_corn hbl w1 h hc
 rw [Bool.and_eq_true] at hd
 have hin:=cornC_in w1 (cornB_iff.1 hc)
 have hdin:=cornC_in w1 (cornB_iff.1 hd.2.2)
 have:=oct_small w1 w2 h1 h2 hin hdin
 obtain ⟨k1,k2⟩:=edge_kept hbl w1 (by omega) (by omega) hin (corn_free hc) (cornB_iff.1 hd.2.2) hd.1 hno
 rw [Bool.and_eq_true]
 exact ⟨k2,hd.2.1,cornB_iff.2 k1⟩
theorem EOk.loc {w:World}{pb:Nat}{f:Int->Option Value}(hbl:∀ n:Nat,(n:Int)≠c0->bl n=bl' n)(w1:1<=W)(w2:W<=16)(h1:1<=H)(h2:H<=16){c:Int}
  (hn:¬ Tch W H bl (c0 % W) (c0 / W) (c0 / W+1+1) (c0 % W - 1) c) (hn':¬ Tch W H bl' (c0 % W) (c0 / W) (c0 / W+1+1) (c0 % W - 1) c) (E:EOk w pb W H bl f c):EOk w pb W H bl' f c:=by
 have hbl':∀ n:Nat,(n:Int)≠c0->bl' n=bl n:=fun n h=>(hbl n h).symm
 refine ⟨fun hc=>?_,fun hc=>?_⟩
 ·have hc0:=(loc_corn hbl' w1 hn' hc).2.2
  obtain ⟨v,l,e1,e2,e3,e4⟩:=E.yes hc0
  refine ⟨v,l,e1,e2,⟨e3.1,fun n=>?_⟩,e4⟩
  rw [e3.2 n]
  exact ⟨loc_edge hbl w1 w2 h1 h2 hn hc0 n,loc_edge hbl' w1 w2 h1 h2 hn' hc n⟩
 ·refine E.no ?_
  cases hb:cornB W H bl c with
  |false=>rfl
  |true =>
   have:=(loc_corn hbl w1 hn hb).2.2
   rw [hc] at this;cases this
end
end Go.Proofs.YtipbhlofbpnpjaaGreatDoor
