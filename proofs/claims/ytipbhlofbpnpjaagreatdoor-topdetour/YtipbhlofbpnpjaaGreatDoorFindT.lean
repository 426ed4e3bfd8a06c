/- -/
import Derived.Test.YtipbhlofbpnpjaaGreatDoorP7
namespace Go.Proofs.YtipbhlofbpnpjaaGreatDoor
open Go.RowKit
set_option maxHeartbeats 2000000 in
set_option maxRecDepth 1000000 in
theorem find_touch {b rb:Nat}{W H V a:Int}{bl:Nat->Bool}{p:Int->Bool}(w:World)(g:GridAt w b W H V bl)(s:StepsAt w)(hb:b<w.heap.size)(ha:inB W H a=true)(hfree:bl a.toNat=false)
  (hC:∀ (w':World) (n:Int),Below w.heap.size w w'->inB W H n=true->Calls Tryz.prog 160 #[.int .i64 n,.pointer (some ⟨rb,0,none⟩)] w' fun e w''=>e=.returned (.bool (p n))/\Below w'.heap.size w' w'') :
  Calls Tryz.prog 110 #[.pointer (some ⟨b,0,none⟩),.int .i64 a,.func (.func 160) #[] #[.pointer (some ⟨rb,0,none⟩)]] w fun e w'=>∃ v l,e=.returned v/\w'.ownsRow w.heap.size 207 4 v l.length (edgesV W a l)/\(l.Pairwise (·<·)/\∀ n:Nat,n ∈ l↔Dir W H bl a n/\p n=true)/\Below w.heap.size w w':=by
 obtain ⟨i0,hi,hz0,hz1,hz2⟩:=info_parts Tryz.infoE
 have gw1:=g.w1
 have hwh:=wh_bd g.w1 g.w2 g.h1 g.h2
 have h1:=alldir_ok w g s hb ha hfree
 go_enter Tryz.func110,Tryz.ntmps110
 go_wp2_with fail
 refine h1.mono ?_
 rintro e w1 ⟨v1,L,rfl,hown1,⟨hrise,hmem⟩,hb1⟩
 obtain ⟨A,cap,rfl,_⟩:=row_of hown1
 have HM:Hid (∀ n:Nat,n ∈ L↔Dir W H bl a n):=hmem
 have HR:Hid (L.Pairwise (·<·)):=hrise
 have hin:∀ n ∈ L,inB W H (n:Int)=true/\n<256:=fun n hn=>by
  have h:=((HM.out n).1 hn).in gw1 ha
  have:0<=(n:Int)/\(n:Int)<W*H:=of_decide_eq_true h
  exact ⟨h,by omega⟩
 have hLL:L.length<=256:=nodup_len 256 (hrise.imp (fun h e=>by omega)) (fun n hn=>(hin n hn).2)
 have HIN:Hid (∀ n ∈ L,inB W H (n:Int)=true/\n<256):=hin
 have hz1':=hb1.size
 clear h1 hmem hrise hin
 go_wp2
 go_loopw [7,20] (fun fv iv wr=>∃ k:Nat,k<=L.length/\iv=.int .i64 k/\wr.ownsRow w.heap.size 207 4 fv (pick p L k).length (edgesV W a (pick p L k))/\wr.ownsRow w.heap.size 3 1 (.slice A L.length cap) L.length (vals L)/\Below w.heap.size w wr)
  (fun _ i _=>L.length - (intOf i).toNat)
 case atStart=>exact ⟨0,Nat.zero_le _,rfl,World.ownsRow_nil _ _ _ _,hown1,hb1⟩
 case round =>
  obtain ⟨k,hk,rfl,hown,hrow',hB⟩:=hrel
  by_cases hlt:k<L.length
  ·obtain ⟨ba,hA⟩:∃ ba,A=some ⟨ba,0,none⟩:=by
    rcases hrow'.2 with ⟨_,h0⟩|⟨ba,_,_,hv,_⟩
    ·omega
    ·exact ⟨ba,by cases hv;rfl⟩
   subst hA
   have hcell':wr.cell? ⟨ba,k,none⟩=some (.int .i64 ((L.getD k 0:Nat):Int)):=own_int hrow' k hlt
   have hnm:L.getD k 0 ∈ L:=by rw [getD_at _ _ hlt];exact List.getElem_mem hlt
   obtain ⟨hni,hn2⟩:=HIN.out _ hnm
   have hno:=fun h=>pick_no (p:=p) hlt h
   have hys:=fun h=>pick_yes (p:=p) hlt h
   generalize hnn:L.getD k 0=n at *
   clear hnn hnm
   have i1:(0:Int)<=(k:Int):=by omega
   have i2:(k:Int)<(L.length:Int):=by omega
   have hbz:=hB.size
   have hcl:=hC wr n hB hni
   have hfl:(pick p L k).length<=256:=Nat.le_trans pick_len hLL
   cases hp:p n with
   |false =>
    have HS:Hid (pick p L (k+1)=pick p L k):=hno hp
    rw [hp] at hcl
    clear hno hys hp
    go_wp2_with fail
    refine hcl.mono ?_
    rintro e w2 ⟨rfl,hb2⟩
    have hrow2:=own_below hrow' hb2
    have hown2:=own_below hown hb2
    have B2:=hB.trans (hb2.mono hB.size)
    clear hcl hown hrow' hb2
    go_wp2
    go_roundw
    case rel=>exact ⟨k+1,by omega,by go_num,by rw [HS.out];exact hown2,hrow2,B2⟩
    case measure=>simp [intOf];omega
   |true =>
    have HS:Hid (pick p L (k+1)=pick p L k++[n]):=hys hp
    rw [hp] at hcl
    clear hno hys hp
    generalize pick p L k=F at *
    go_wp2_with fail
    refine hcl.mono ?_
    rintro e w2 ⟨rfl,hb2⟩
    have hown2:=own_below hown hb2
    have B2:=hB.trans (hb2.mono hB.size)
    have hds:=dist_any w2 (g.below B2 hb) (Nat.lt_of_lt_of_le hb B2.size) ha hni
    clear hcl
    go_wp2_with fail
    refine hds.mono ?_
    rintro e w3 ⟨rfl,hb3⟩
    have b3:=hb2.trans (hb3.mono hb2.size)
    have hrow3:=own_below hrow' b3
    have hown3:=own_below hown2 hb3
    have B3:=B2.trans (hb3.mono B2.size)
    have hz3:=B3.size
    have HEV:Hid (edgeV W a n=[.int .i64 n,.int .i64 (octS W a n),.int .i64 (octD W a n),.int .i64 (-1)]):=rfl
    clear hown hrow' hb2 hb3 b3 hds hown2 B2
    generalize octS W a n=es at *
    generalize octD W a n=ed at *
    go_wp2_with (at_builtin;refine wpList_append_own _ rfl _ _ 141 rfl w.heap.size 207 i0 (.agg #[.int .i64 0,.int .i64 0,.int .i64 0,.int .i64 0]) 4 32 Tryz.underE hi hz0 hz1 hz2 rfl (by decide) _ _ _ rfl (hown3.alloc _) ⟨w3.heap.size,0,none⟩ 1 1 [.int .i64 n,.int .i64 es,.int .i64 ed,.int .i64 (-1)] rfl rfl (cell_four_new _ _ _ _ _ _) (by intro u hu;simp at hu;rcases hu with rfl|rfl|rfl|rfl <;> rfl) ?c3 ?c4 ?c5 ?_)
    case c3=>unfold maxLen;omega
    case c4=>omega
    case c5=>simp;omega
    intro v' w4 hown' hgrow _
    have hbase:=fun q hq=>(hown3.lt q hq).1
    have B4:Below w.heap.size w w4:=(B3.alloc hz3 _).grown hgrow (by simp;omega) hbase
    have O4:w4.ownsRow w.heap.size 207 4 v' (F++[n]).length (edgesV W a (F++[n])):=by
     rw [edgesV_app,HEV.out]
     simpa using hown'
    have hrow4:=own_grown (hrow3.alloc (.cells #[.int .i64 n,.int .i64 es,.int .i64 ed,.int .i64 (-1)] 207)) hgrow (own_apart hrow3 hown3 (by decide))
    clear hown' hgrow hown3 B3
    go_wp2
    go_roundw
    case rel=>exact ⟨k+1,by omega,by go_num,by rw [HS.out];exact O4,hrow4,B4⟩
    case measure=>simp [intOf];omega
  ·have e:k=L.length:=by omega
   subst e
   have HMM:Hid (∀ n:Nat,n ∈ pick p L L.length↔Dir W H bl a n/\p n=true):=fun n=>by rw [pick_mem,HM.out n]
   have HRR:Hid ((pick p L L.length).Pairwise (·<·)):=pick_rise HR.out
   generalize pick p L L.length=F at *
   go_wp2
   go_ret
   exact ⟨_,F,rfl,hown,⟨HRR.out,HMM.out⟩,hB⟩
set_option maxHeartbeats 1000000 in
theorem find_touch_err {b rb:Nat}{W H V a:Int}{bl:Nat->Bool}(w:World)(g:GridAt w b W H V bl)(hf:ffv W H bl a≠0) :
  Calls Tryz.prog 110 #[.pointer (some ⟨b,0,none⟩),.int .i64 a,.func (.func 160) #[] #[.pointer (some ⟨rb,0,none⟩)]] w fun e w'=>e=.returned (.slice none 0 0)/\Below w.heap.size w w':=by
 have h1:=alldir_err a w g hf
 rw [errV_some hf] at h1
 go_enter Tryz.func110,Tryz.ntmps110
 go_wp2_with fail
 refine h1.mono ?_
 rintro e w1 ⟨rfl,hb1⟩
 clear h1
 go_wp2
 go_loopw [7,20] (fun fv iv wr=>fv=.slice none 0 0/\iv=.int .i64 0/\Below w.heap.size w wr) (fun _ _ _=>0)
 case atStart=>exact ⟨rfl,rfl,hb1⟩
 case round =>
  obtain ⟨rfl,rfl,hB⟩:=hrel
  go_wp2
  go_ret
  exact ⟨rfl,hB⟩
end Go.Proofs.YtipbhlofbpnpjaaGreatDoor
