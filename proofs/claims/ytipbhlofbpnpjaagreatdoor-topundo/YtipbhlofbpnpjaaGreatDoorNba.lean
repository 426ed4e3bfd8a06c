/- -/
import Derived.Test.YtipbhlofbpnpjaaGreatDoorP29
import Derived.Test.YtipbhlofbpnpjaaGreatDoorP7
namespace Go.Proofs.YtipbhlofbpnpjaaGreatDoor
open Go.RowKit Go.Lib
structure AnsE where
 A:Option Addr
 cap:Nat
 way:List Nat
 s:Int
 d:Int
 err:Int
def ansE (x:AnsE):List Value:=[.slice x.A x.way.length x.cap,.int .i64 x.s,.int .i64 x.d,.int .i64 x.err]
def ansV (l:List AnsE):List Value:=l.flatMap ansE
theorem ansV_app (l:List AnsE)(x:AnsE):ansV (l++[x])=ansV l++ansE x:=by
 unfold ansV
 rw [List.flatMap_append,List.flatMap_cons,List.flatMap_nil,List.append_nil]
theorem Tryz.infoA:(Tryz.prog.info? 41).map (fun i=>(i.zero,i.size,i.bytes))=some (some (.agg #[.slice none 0 0,.int .i64 0,.int .i64 0,.int .i64 0]),4,48):=by kernel_rfl
theorem Tryz.underA:Tryz.prog.underlying 59=some (.slice 41):=by kernel_rfl
def AnsAt (w:World) (base:Nat) (W H:Int) (bl:Nat->Bool) (most:Nat) (fs ts:Nat->Int) (l:List AnsE):Prop:=∀ i x,l[i]? = some x->AskP W H bl most (fs i) (ts i) x.way x.s x.d x.err/\w.ownsRow base 3 1 (.slice x.A x.way.length x.cap) x.way.length (vals x.way)
set_option maxHeartbeats 2000000 in
theorem nbatch_any {lo hi sb most n cap:Nat}{W H V:Int}{bl:Nat->Bool}{A:Option Addr}{fs ts:Nat->Int}(w:World)(S:Sv w lo hi sb W H V bl most)(dg:DiagAt w)(hq:OldAsk w A n fs ts)(hn:n<=40) :
  Calls Tryz.prog 28 #[.pointer (some ⟨sb,0,none⟩),.slice A n cap] w fun e w'=>∃ v l,e=.returned (.tuple #[v,.nilIface])/\l.length=n/\w'.ownsRow w.heap.size 41 4 v n (ansV l)/\AnsAt w' w.heap.size W H bl most fs ts l/\Below w.heap.size w w':=by
 obtain ⟨i0,hi',hz0,hz1,hz2⟩:=info_parts Tryz.infoA
 have HQ:Hid (OldAsk w A n fs ts):=hq
 have HA:Hid (∀ w',Below w.heap.size w w'->∀ a t,_):=fun w' hb a t=>ask_rt a t w' (S.below hb) (dg.below hb)
 have n40:¬ (40:Int)<(n:Int):=by omega
 clear S dg hq
 go_enter Tryz.func28,Tryz.ntmps28
 go_wp2
 go_loopw [6,15] (fun v iv wr=>∃ (k:Nat) (l:List AnsE),k<=n/\l.length=k/\iv=.int .i64 k/\wr.ownsRow w.heap.size 41 4 v k (ansV l)/\Hid (AnsAt wr w.heap.size W H bl most fs ts l)/\Below w.heap.size w wr)
  (fun _ i _=>n - (intOf i).toNat)
 case atStart=>exact ⟨0,[],Nat.zero_le _,rfl,rfl,World.ownsRow_nil _ _ _ _,fun i x h=>by simp at h,Below.refl _ _⟩
 case round =>
  obtain ⟨k,l,hk,hl,rfl,hown,hAn,hB⟩:=hrel
  have HL:Hid (l.length=k):=hl
  clear hl
  by_cases hlt:k<n
  ·obtain ⟨bA,oA,rfl,hbA,f0,t0⟩:=(HQ.out.below hB) k hlt
   have i1:(k:Int)<(n:Int):=by omega
   obtain ⟨fa,hfa⟩:∃ fa,fs k=fa:=⟨_,rfl⟩
   obtain ⟨tt,htt⟩:∃ tt,ts k=tt:=⟨_,rfl⟩
   rw [hfa] at f0
   rw [htt] at t0
   have HFT:Hid (fs k=fa/\ts k=tt):=⟨hfa,htt⟩
   clear hfa htt
   have b3:Below wr.heap.size wr (wr.alloc (.cells #[.int .i64 fa,.int .i64 tt] 36)):=(Below.refl _ _).alloc (Nat.le_refl _) _
   have q0:(wr.alloc (.cells #[.int .i64 fa,.int .i64 tt] 36)).cell? ⟨wr.heap.size,0,none⟩=some (.int .i64 fa):=World.cell?_alloc_at #[.int .i64 fa,.int .i64 tt] 36 wr.heap.size 0 rfl
   have q1:(wr.alloc (.cells #[.int .i64 fa,.int .i64 tt] 36)).cell? ⟨wr.heap.size,1,none⟩=some (.int .i64 tt):=World.cell?_alloc_at #[.int .i64 fa,.int .i64 tt] 36 wr.heap.size 1 rfl
   have B3:=hB.trans (b3.mono hB.size)
   have own3:=own_below hown b3
   have hz3:=B3.size
   have HAn3:Hid (AnsAt (wr.alloc (.cells #[.int .i64 fa,.int .i64 tt] 36)) w.heap.size W H bl most fs ts l):=fun i x h=>⟨(hAn.out i x h).1,own_below (hAn.out i x h).2 b3⟩
   have hask:=HA.out _ B3 fa tt
   clear hAn hown hB b3
   go_wp2_with fail
   refine hask.mono ?_
   rintro e w5 ⟨A5,cap5,way,s5,d5,r5,rfl,ow5,_,hA5,hR5,hb5⟩
   generalize wr.alloc (.cells #[.int .i64 fa,.int .i64 tt] 36)=wa at *
   have B5:=B3.trans (hb5.mono B3.size)
   have own5:=own_below own3 hb5
   have ow5':=own_base ow5 B3.size
   have HAn5:Hid (AnsAt w5 w.heap.size W H bl most fs ts l):=fun i x h=>⟨(HAn3.out i x h).1,own_below (HAn3.out i x h).2 hb5⟩
   have HP:Hid (AskP W H bl most fa tt way s5 d5 r5):=⟨hA5,hR5⟩
   have hz5:=B5.size
   clear hask own3 ow5 HAn3 hb5 B3 hA5 hR5 q0 q1
   go_wp2_with (at_builtin;refine wpList_append_own _ rfl _ _ 59 rfl w.heap.size 41 i0 (.agg #[.slice none 0 0,.int .i64 0,.int .i64 0,.int .i64 0]) 4 48 Tryz.underA hi' hz0 hz1 hz2 rfl (by decide) _ _ _ rfl (own5.alloc _) ⟨w5.heap.size,0,none⟩ 1 1 [.slice A5 way.length cap5,.int .i64 s5,.int .i64 d5,.int .i64 r5] rfl rfl (cell_four_new _ _ _ _ _ _) (by intro u hu;simp at hu;rcases hu with rfl|rfl|rfl|rfl <;> rfl) ?c3 ?c4 ?c5 ?_)
   case c3=>unfold maxLen;omega
   case c4=>omega
   case c5=>simp;omega
   intro v' w6 hown' hgrow _
   have hbase:=fun q hq=>(own5.lt q hq).1
   have B6:Below w.heap.size w w6:=(B5.alloc hz5 _).grown hgrow (by simp;omega) hbase
   have O6:w6.ownsRow w.heap.size 41 4 v' (k+1) (ansV (l++[⟨A5,cap5,way,s5,d5,r5⟩])):=by
    rw [ansV_app]
    simpa [ansE] using hown'
   have gr:∀ {v2:Value}{m:Nat}{xs:List Value},w5.ownsRow w.heap.size 3 1 v2 m xs->w6.ownsRow w.heap.size 3 1 v2 m xs:=fun {v2 m xs} h=>own_grown (h.alloc (.cells #[.slice A5 way.length cap5,.int .i64 s5,.int .i64 d5,.int .i64 r5] 41)) hgrow (own_apart h own5 (by decide))
   have HAn6:Hid (AnsAt w6 w.heap.size W H bl most fs ts (l++[⟨A5,cap5,way,s5,d5,r5⟩])):=fun i x h=>by
    by_cases hil:i<l.length
    ·rw [List.getElem?_append_left hil] at h
     exact ⟨(HAn5.out i x h).1,gr (HAn5.out i x h).2⟩
    ·have e:i=k:=by
      have h2:=(List.getElem?_eq_some_iff.1 h).1
      rw [List.length_append,List.length_singleton,HL.out] at h2
      rw [HL.out] at hil
      omega
     subst e
     rw [List.getElem?_append_right (by rw [HL.out];exact Nat.le_refl _),HL.out,Nat.sub_self] at h
     cases h
     exact ⟨by rw [HFT.out.1,HFT.out.2];exact HP.out,gr ow5'⟩
   have HL6:Hid ((l++[(⟨A5,cap5,way,s5,d5,r5⟩:AnsE)]).length=k+1):=by
    show (l++[(⟨A5,cap5,way,s5,d5,r5⟩:AnsE)]).length=k+1
    rw [List.length_append,List.length_singleton,HL.out]
   clear hown' hgrow gr own5 ow5' B5 HAn5
   go_wp2
   go_roundw
   case rel=>exact ⟨k+1,_,by omega,HL6.out,by go_num,O6,HAn6.out,B6⟩
   case measure=>simp [intOf];omega
  ·have e:k=n:=by omega
   subst e
   go_wp2
   go_ret2
   exact ⟨_,l,rfl,HL.out,hown,hAn.out,hB⟩
end Go.Proofs.YtipbhlofbpnpjaaGreatDoor
