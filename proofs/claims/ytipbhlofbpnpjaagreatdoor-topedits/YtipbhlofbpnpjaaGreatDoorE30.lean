/-
  Texts laid together: FindT, Touch, LocT, GSet, TSet, Ne1.
-/
import Derived.Test.YtipbhlofbpnpjaaGreatDoorE8
import Derived.Test.YtipbhlofbpnpjaaGreatDoorE15
import Derived.Test.YtipbhlofbpnpjaaGreatDoorE22
import Derived.Test.YtipbhlofbpnpjaaGreatDoorE23
namespace Go.Proofs.YtipbhlofbpnpjaaGreatDoor
section
open Go.RowKit
set_option maxHeartbeats 2000000 in
set_option maxRecDepth 1000000 in
theorem find_touch {b rb:Nat}{W H V a:Int}{bl:Nat->Bool}{p:Int->Bool}(w:World)(g:GridAt w b W H V bl)(s:StepsAt w)(hb:b<w.heap.size)(ha:inB W H a=true)(hfree:bl a.toNat=false)
  (hC:∀ (w':World) (n:Int),Below w.heap.size w w'->inB W H n=true->Calls Tryz.prog 160 #[.int .i64 n,.pointer (some ⟨rb,0,none⟩)] w' fun e w''=>e=.returned (.bool (p n))/\Below w'.heap.size w' w'') :
  Calls Tryz.prog 110 #[.pointer (some ⟨b,0,none⟩),.int .i64 a,.func (.func 160) #[] #[.pointer (some ⟨rb,0,none⟩)]] w fun e w'=>∃ v l,e=.returned v/\w'.ownsRow w.heap.size 207 4 v l.length (edgesV W a l)/\(l.Pairwise (·<·)/\∀ n:Nat,n ∈ l↔Dir W H bl a n/\p n=true)/\Below w.heap.size w w':=by
 obtain ⟨i0,hi,hz0,hz1,hz2⟩:=info_parts Tryz.infoE
 have gw1:=g.w1
 have hwh:=wh_bd g.w1 g.w2 g.h1 g.h2
 have h1:=alldir_ok w g s hb ha hfree
 go_enter Tryz.func110,Tryz.ntmps110
 go_wp2_with fail
 refine h1.mono ?_
 rintro e w1 ⟨v1,L,rfl,hown1,⟨hrise,hmem⟩,hb1⟩
 obtain ⟨A,cap,rfl,_⟩:=row_of hown1
 have HM:Hid (∀ n:Nat,n ∈ L↔Dir W H bl a n):=hmem
 have HR:Hid (L.Pairwise (·<·)):=hrise
 have hin:∀ n ∈ L,inB W H (n:Int)=true/\n<256:=fun n hn=>by
  have h:=((HM.out n).1 hn).in gw1 ha
  have:0<=(n:Int)/\(n:Int)<W*H:=of_decide_eq_true h
  exact ⟨h,by omega⟩
 have hLL:L.length<=256:=nodup_len 256 (hrise.imp (fun h e=>by omega)) (fun n hn=>(hin n hn).2)
 have HIN:Hid (∀ n ∈ L,inB W H (n:Int)=true/\n<256):=hin
 have hz1':=hb1.size
 clear h1 hmem hrise hin
 go_wp2
 go_loopw [7,20] (fun fv iv wr=>∃ k:Nat,k<=L.length/\iv=.int .i64 k/\wr.ownsRow w.heap.size 207 4 fv (pick p L k).length (edgesV W a (pick p L k))/\wr.ownsRow w.heap.size 3 1 (.slice A L.length cap) L.length (vals L)/\Below w.heap.size w wr)
  (fun _ i _=>L.length - (intOf i).toNat)
 case atStart=>exact ⟨0,Nat.zero_le _,rfl,World.ownsRow_nil _ _ _ _,hown1,hb1⟩
 case round =>
  obtain ⟨k,hk,rfl,hown,hrow',hB⟩:=hrel
  by_cases hlt:k<L.length
  ·obtain ⟨ba,hA⟩:∃ ba,A=some ⟨ba,0,none⟩:=by
    rcases hrow'.2 with ⟨_,h0⟩|⟨ba,_,_,hv,_⟩
    ·omega
    ·exact ⟨ba,by cases hv;rfl⟩
   subst hA
   have hcell':wr.cell? ⟨ba,k,none⟩=some (.int .i64 ((L.getD k 0:Nat):Int)):=own_int hrow' k hlt
   have hnm:L.getD k 0 ∈ L:=by rw [getD_at _ _ hlt];exact List.getElem_mem hlt
   obtain ⟨hni,hn2⟩:=HIN.out _ hnm
   have hno:=fun h=>pick_no (p:=p) hlt h
   have hys:=fun h=>pick_yes (p:=p) hlt h
   generalize hnn:L.getD k 0=n at *
   clear hnn hnm
   have i1:(0:Int)<=(k:Int):=by omega
   have i2:(k:Int)<(L.length:Int):=by omega
   have hbz:=hB.size
   have hcl:=hC wr n hB hni
   have hfl:(pick p L k).length<=256:=Nat.le_trans pick_len hLL
   cases hp:p n with
   |false =>
    have HS:Hid (pick p L (k+1)=pick p L k):=hno hp
    rw [hp] at hcl
    clear hno hys hp
    go_wp2_with fail
    refine hcl.mono ?_
    rintro e w2 ⟨rfl,hb2⟩
    have hrow2:=own_below hrow' hb2
    have hown2:=own_below hown hb2
    have B2:=hB.trans (hb2.mono hB.size)
    clear hcl hown hrow' hb2
    go_wp2
    go_roundw
    case rel=>exact ⟨k+1,by omega,by go_num,by rw [HS.out];exact hown2,hrow2,B2⟩
    case measure=>simp [intOf];omega
   |true =>
    have HS:Hid (pick p L (k+1)=pick p L k++[n]):=hys hp
    rw [hp] at hcl
    clear hno hys hp
    generalize pick p L k=F at *
    go_wp2_with fail
    refine hcl.mono ?_
    rintro e w2 ⟨rfl,hb2⟩
    have hown2:=own_below hown hb2
    have B2:=hB.trans (hb2.mono hB.size)
    have hds:=dist_any w2 (g.below B2 hb) (Nat.lt_of_lt_of_le hb B2.size) ha hni
    clear hcl
    go_wp2_with fail
    refine hds.mono ?_
    rintro e w3 ⟨rfl,hb3⟩
    have b3:=hb2.trans (hb3.mono hb2.size)
    have hrow3:=own_below hrow' b3
    have hown3:=own_below hown2 hb3
    have B3:=B2.trans (hb3.mono B2.size)
    have hz3:=B3.size
    have HEV:Hid (edgeV W a n=[.int .i64 n,.int .i64 (octS W a n),.int .i64 (octD W a n),.int .i64 (-1)]):=rfl
    clear hown hrow' hb2 hb3 b3 hds hown2 B2
    generalize octS W a n=es at *
    generalize octD W a n=ed at *
    go_wp2_with (at_builtin;refine wpList_append_own _ rfl _ _ 141 rfl w.heap.size 207 i0 (.agg #[.int .i64 0,.int .i64 0,.int .i64 0,.int .i64 0]) 4 32 Tryz.underE hi hz0 hz1 hz2 rfl (by decide) _ _ _ rfl (hown3.alloc _) ⟨w3.heap.size,0,none⟩ 1 1 [.int .i64 n,.int .i64 es,.int .i64 ed,.int .i64 (-1)] rfl rfl (cell_four_new _ _ _ _ _ _) (by intro u hu;simp at hu;rcases hu with rfl|rfl|rfl|rfl <;> rfl) ?c3 ?c4 ?c5 ?_)
    case c3=>unfold maxLen;omega
    case c4=>omega
    case c5=>simp;omega
    intro v' w4 hown' hgrow _
    have hbase:=fun q hq=>(hown3.lt q hq).1
    have B4:Below w.heap.size w w4:=(B3.alloc hz3 _).grown hgrow (by simp;omega) hbase
    have O4:w4.ownsRow w.heap.size 207 4 v' (F++[n]).length (edgesV W a (F++[n])):=by
     rw [edgesV_app,HEV.out]
     simpa using hown'
    have hrow4:=own_grown (hrow3.alloc (.cells #[.int .i64 n,.int .i64 es,.int .i64 ed,.int .i64 (-1)] 207)) hgrow (own_apart hrow3 hown3 (by decide))
    clear hown' hgrow hown3 B3
    go_wp2
    go_roundw
    case rel=>exact ⟨k+1,by omega,by go_num,by rw [HS.out];exact O4,hrow4,B4⟩
    case measure=>simp [intOf];omega
  ·have e:k=L.length:=by omega
   subst e
   have HMM:Hid (∀ n:Nat,n ∈ pick p L L.length↔Dir W H bl a n/\p n=true):=fun n=>by rw [pick_mem,HM.out n]
   have HRR:Hid ((pick p L L.length).Pairwise (·<·)):=pick_rise HR.out
   generalize pick p L L.length=F at *
   go_wp2
   go_ret
   exact ⟨_,F,rfl,hown,⟨HRR.out,HMM.out⟩,hB⟩
set_option maxHeartbeats 1000000 in
theorem find_touch_err {b rb:Nat}{W H V a:Int}{bl:Nat->Bool}(w:World)(g:GridAt w b W H V bl)(hf:ffv W H bl a≠0) :
  Calls Tryz.prog 110 #[.pointer (some ⟨b,0,none⟩),.int .i64 a,.func (.func 160) #[] #[.pointer (some ⟨rb,0,none⟩)]] w fun e w'=>e=.returned (.slice none 0 0)/\Below w.heap.size w w':=by
 have h1:=alldir_err a w g hf
 rw [errV_some hf] at h1
 go_enter Tryz.func110,Tryz.ntmps110
 go_wp2_with fail
 refine h1.mono ?_
 rintro e w1 ⟨rfl,hb1⟩
 clear h1
 go_wp2
 go_loopw [7,20] (fun fv iv wr=>fv=.slice none 0 0/\iv=.int .i64 0/\Below w.heap.size w wr) (fun _ _ _=>0)
 case atStart=>exact ⟨rfl,rfl,hb1⟩
 case round =>
  obtain ⟨rfl,rfl,hB⟩:=hrel
  go_wp2
  go_ret
  exact ⟨rfl,hB⟩
end
section
open Go.RowKit
theorem Tryz.underT:Tryz.prog.underlying 133=some (.map 3 185):=by kernel_rfl
set_option maxHeartbeats 400000 in
theorem clo_touch {xb pb:Nat}{W H V:Int}{bl:Nat->Bool}(w:World)(n:Int)(q2:w.cell? ⟨xb,0,none⟩=some (.pointer (some ⟨pb,0,none⟩)))(g:GridAt w pb W H V bl)(s:StepsAt w)(hn:inB W H n=true) :
  Calls Tryz.prog 160 #[.int .i64 n,.pointer (some ⟨xb,0,none⟩)] w fun e w'=>e=.returned (.bool (cornB W H bl n))/\Below w.heap.size w w':=by
 have h1:=isc_any n w g s hn
 generalize cornB W H bl n=r at *
 go_enter Tryz.func160,Tryz.ntmps160
 go_wp2_with fail
 refine h1.mono ?_
 rintro e1 w1 ⟨rfl,m,rfl⟩
 clear h1
 go_wp2
 go_ret
 exact ⟨rfl,below_drewN (Below.refl _ _) _⟩
theorem edgesV_at (W a:Int):∀ (l:List Nat) (i:Nat),i<l.length->(edgesV W a l)[i*4]? = some (.int .i64 ((l.getD i 0:Nat):Int))/\(edgesV W a l)[i*4+1]? = some (.int .i64 (octS W a ((l.getD i 0:Nat):Int)))/\(edgesV W a l)[i*4+2]? = some (.int .i64 (octD W a ((l.getD i 0:Nat):Int)))/\(edgesV W a l)[i*4+3]? = some (.int .i64 (-1))
 |[],i,h=>absurd h (Nat.not_lt_zero i)
 |n::l,0,_=>⟨rfl,rfl,rfl,rfl⟩
 |n::l,i+1,h=>by
  have ih:=edgesV_at W a l i (by simpa using h)
  have e:edgesV W a (n::l)=edgeV W a n++edgesV W a l:=by unfold edgesV;rw [List.flatMap_cons]
  have hl:(edgeV W a n).length=4:=rfl
  have e2:(n::l).getD (i+1) 0=l.getD i 0:=rfl
  rw [e,e2]
  refine ⟨?_,?_,?_,?_⟩
  ·rw [List.getElem?_append_right (by omega),hl,show (i+1)*4 - 4=i*4 by omega];exact ih.1
  ·rw [List.getElem?_append_right (by omega),hl,show (i+1)*4+1 - 4=i*4+1 by omega];exact ih.2.1
  ·rw [List.getElem?_append_right (by omega),hl,show (i+1)*4+2 - 4=i*4+2 by omega];exact ih.2.2.1
  ·rw [List.getElem?_append_right (by omega),hl,show (i+1)*4+3 - 4=i*4+3 by omega];exact ih.2.2.2
def Tch (W H:Int) (bl:Nat->Bool) (x y ny nx z:Int):Prop:=cornB W H bl z=true/\∃ p,(inB W H p=true/\bl p.toNat=false/\Dir W H bl p z)/\(x - 1<=p % W/\p % W<=x+1/\y - 1<=p / W/\p / W<=y+1)/\(p / W<ny\/(p / W=ny/\p % W<nx))
section
variable {W H x y ny nx z : Int} {bl : Nat → Bool}
theorem Tch.none:¬ Tch W H bl x y (y - 1) (x - 1) z:=by
 rintro ⟨_,p,_,h1,h2⟩
 omega
theorem Tch.row:Tch W H bl x y ny (x+1+1) z↔Tch W H bl x y (ny+1) (x - 1) z:=by
 unfold Tch
 refine and_congr Iff.rfl (exists_congr fun p=>and_congr Iff.rfl ?_)
 constructor
 ·rintro ⟨h1,h2⟩;exact ⟨h1,by omega⟩
 ·rintro ⟨h1,h2⟩;exact ⟨h1,by omega⟩
theorem Tch.all:Tch W H bl x y (y+1+1) (x - 1) z↔cornB W H bl z=true/\∃ p,(inB W H p=true/\bl p.toNat=false/\Dir W H bl p z)/\(x - 1<=p % W/\p % W<=x+1/\y - 1<=p / W/\p / W<=y+1):=by
 unfold Tch
 refine and_congr Iff.rfl (exists_congr fun p=>?_)
 constructor
 ·rintro ⟨h0,h1,h2⟩;exact ⟨h0,h1⟩
 ·rintro ⟨h0,h1⟩;exact ⟨h0,h1,by omega⟩
theorem Tch.skip (h:∀ p,inB W H p=true->bl p.toNat=false->¬ (p / W=ny/\p % W=nx)):Tch W H bl x y ny (nx+1) z↔Tch W H bl x y ny nx z:=by
 unfold Tch
 refine and_congr Iff.rfl (exists_congr fun p=>and_congr_right fun h0=>and_congr_right fun h1=>?_)
 have:=h p h0.1 h0.2.1
 omega
theorem Tch.cell {c:Int}(hx:nx=c % W)(hy:ny=c / W)(hc:inB W H c=true)(hf:bl c.toNat=false)(h1:x - 1<=nx)(h2:nx<=x+1)(h3:y - 1<=ny)(h4:ny<=y+1) :
  Tch W H bl x y ny (nx+1) z↔Tch W H bl x y ny nx z\/(Dir W H bl c z/\cornB W H bl z=true):=by
 unfold Tch
 constructor
 ·rintro ⟨hz,p,h5,h6,h7⟩
  by_cases e:p / W=ny/\p % W=nx
  ·right
   have:p=c:=by
    have e1:=cell_eq W p
    have e2:=cell_eq W c
    rw [<- e1,<- e2,e.1,e.2,hx,hy]
   rw [this] at h5
   exact ⟨h5.2.2,hz⟩
  ·exact Or.inl ⟨hz,p,h5,h6,by omega⟩
 ·rintro (⟨hz,p,h5,h6,h7⟩|⟨hd,hz⟩)
  ·exact ⟨hz,p,h5,h6,by omega⟩
  ·exact ⟨hz,c,⟨hc,hf,hd⟩,by omega,by omega⟩
end
set_option maxHeartbeats 4000000 in
set_option maxRecDepth 1000000 in
theorem touched_any {b tb:Nat}{W H V c x y:Int}{bl:Nat->Bool}{T:Int->Bool}(w:World)(g:GridAt w b W H V bl)(s:StepsAt w)(hb:b<w.heap.size)(hT:SetAt w tb T)(hbt:b≠tb)(h0:1≠tb)(hc:inB W H c=true)(hx:c % W=x)(hy:c / W=y) :
  Calls Tryz.prog 121 #[.map (some tb),.pointer (some ⟨b,0,none⟩),.int .i64 c] w fun e w'=>e=.returned (.tuple #[])/\(∃ T',SetAt w' tb T'/\∀ z,T' z=true↔T z=true\/Tch W H bl x y (y+1+1) (x - 1) z)/\Keep (fun k=>k=tb) w w':=by
 have gw1:=g.w1
 have gw2:=g.w2
 have gh2:=g.h2
 have hwh:=wh_bd g.w1 g.w2 g.h1 g.h2
 obtain ⟨x1,x2,y1,y2⟩:=place_bd g.w1 hc
 rw [hx] at x1 x2
 rw [hy] at y1 y2
 have hpl:=fun w g=>place_in (b:=b) (V:=V) (bl:=bl) c w g hc
 rw [hx,hy] at hpl
 have B0:Below w.heap.size w (w.alloc (.cells #[.pointer (some ⟨b,0,none⟩)] 85)):=(Below.refl _ _).alloc (Nat.le_refl _) _
 have q0:(w.alloc (.cells #[.pointer (some ⟨b,0,none⟩)] 85)).cell? ⟨w.heap.size,0,none⟩=some (.pointer (some ⟨b,0,none⟩)):=World.cell?_alloc_at #[.pointer (some ⟨b,0,none⟩)] 85 w.heap.size 0 rfl
 have htl:=hT.lt
 clear hx hy
 go_enter Tryz.func121,Tryz.ntmps121
 go_wp2_with fail
 refine (hpl _ (g.below B0 hb)).mono ?_
 rintro e w1 ⟨rfl,m1,hw1⟩
 have B1:Below w.heap.size w w1:=by rw [hw1];exact below_drewN B0 _
 have q1:w1.cell? ⟨w.heap.size,0,none⟩=some (.pointer (some ⟨b,0,none⟩)):=by rw [hw1];exact q0
 clear hw1 hpl B0 q0
 have hT1:=hT.below B1
 have K1:Keep (fun k=>k=tb) w w1:=Keep.of_below B1
 clear B1 hT
 go_wp2
 go_loopw [9] (fun iv wr=>∃ (ny:Int) (T':Int->Bool),iv=.int .i64 ny/\y - 1<=ny/\ny<=y+1+1/\SetAt wr tb T'/\Hid (∀ z,T' z=true↔T z=true\/Tch W H bl x y ny (x - 1) z)/\wr.cell? ⟨w.heap.size,0,none⟩=some (.pointer (some ⟨b,0,none⟩))/\Keep (fun k=>k=tb) w wr)
  (fun i _=>(y+1+1 - intOf i).toNat)
 case atStart=>exact ⟨y - 1,T,rfl,by omega,by omega,hT1,fun z=>⟨Or.inl,fun h=>h.resolve_right Tch.none⟩,q1,K1⟩
 case round =>
  obtain ⟨ny,T1,rfl,n1,n2,hT1,hTi,q1,K1⟩:=hrel
  by_cases hlt:ny<=y+1
  ·go_wp2
   go_loopw [10] (fun iv wr=>∃ (nx:Int) (T':Int->Bool),iv=.int .i64 nx/\x - 1<=nx/\nx<=x+1+1/\SetAt wr tb T'/\Hid (∀ z,T' z=true↔T z=true\/Tch W H bl x y ny nx z)/\wr.cell? ⟨w.heap.size,0,none⟩=some (.pointer (some ⟨b,0,none⟩))/\Keep (fun k=>k=tb) w wr)
    (fun i _=>(x+1+1 - intOf i).toNat)
   case atStart=>exact ⟨x - 1,T1,rfl,by omega,by omega,hT1,hTi,q1,K1⟩
   case round =>
    obtain ⟨nx,T2,rfl,m1,m2,hT2,hT2i,q2,K2⟩:=hrel
    by_cases hlx:nx<=x+1
    ·have g2:=g.keep K2 hbt
     have s2:=s.keep K2 h0
     have hz2:=K2.size
     cases hat:atB W H nx ny with
     |false =>
      have hce:=cell_out nx ny wr g2 hat
      have HS:Hid (∀ z,T2 z=true↔T z=true\/Tch W H bl x y ny (nx+1) z):=fun z=>(hT2i.out z).trans (or_congr Iff.rfl (Tch.skip (fun p hp _ he=>by
       obtain ⟨a1,a2,a3,a4⟩:=place_bd gw1 hp
       have:atB W H nx ny=true:=decide_eq_true (by omega)
       rw [hat] at this;cases this)).symm)
      clear hat
      go_wp2_with fail
      refine hce.mono ?_
      rintro e w3 ⟨rfl,rfl⟩
      clear hce
      go_wp2
      go_roundw
      case rel=>exact ⟨nx+1,T2,by go_num,by omega,by omega,hT2,HS,q2,K2⟩
      case measure=>simp [intOf];omega
     |true =>
      have hce:=cell_in nx ny wr g2 hat
      obtain ⟨a1,a2,a3,a4⟩:0<=nx/\nx<W/\0<=ny/\ny<H:=of_decide_eq_true hat
      have hm0:0<=ny*W:=Int.mul_nonneg a3 (by omega)
      have hpx:nx=(ny*W+nx) % W:=by rw [Int.add_comm,Int.add_mul_emod_self_right];exact (Int.emod_eq_of_lt a1 a2).symm
      have hpy:ny=(ny*W+nx) / W:=by rw [Int.add_comm,Int.add_mul_ediv_right _ _ (by omega),Int.ediv_eq_zero_of_lt a1 a2];omega
      have hpin:inB W H (ny*W+nx)=true:=by
       have h2:ny*W+W<=H*W:=by
        have:=Int.mul_le_mul_of_nonneg_right (show ny+1<=H by omega) (show 0<=W by omega)
        rw [Int.add_mul] at this
        omega
       have h3:H*W=W*H:=Int.mul_comm H W
       exact decide_eq_true ⟨by omega,by omega⟩
      have hfree:bl (ny*W+nx).toNat=false\/bl (ny*W+nx).toNat=true:=by cases bl (ny*W+nx).toNat <;> simp
      have HPX:Hid (nx=(ny*W+nx) % W):=hpx
      have HPY:Hid (ny=(ny*W+nx) / W):=hpy
      have hpb:0<=ny*W+nx/\ny*W+nx<W*H:=of_decide_eq_true hpin
      clear hat hpx hpy hm0
      generalize ny*W+nx=p at *
      have hw2:b<wr.heap.size:=Nat.lt_of_lt_of_le hb hz2
      go_wp2_with fail
      refine hce.mono ?_
      rintro e w3 ⟨rfl,rfl⟩
      clear hce
      rcases hfree with hfree|hfree
      ·have hfind:=find_touch (rb:=w.heap.size) (p:=fun n=>cornB W H bl n) w3 g2 s2 hw2 hpin hfree (fun w' n hB' hn=>by
        have kk:∀ {a:Addr}{v:Value},w3.cell? a=some v->w'.cell? a=some v:=fun {a v} h=>(hB'.cell (World.block_lt_of_cell? w3 a h)).trans h
        exact clo_touch w' n (kk q2) (g2.below hB' hw2) (s2.below hB' (by omega)) hn)
       go_wp2_with fail
       refine hfind.mono ?_
       rintro e w4 ⟨v,l,rfl,hown,⟨hrise,hmem⟩,hb4⟩
       have HM:Hid (∀ n:Nat,n ∈ l↔Dir W H bl p n/\cornB W H bl n=true):=hmem
       have hin:∀ n ∈ l,n<256:=fun n hn=>by
        have h2:0<=(n:Int)/\(n:Int)<W*H:=of_decide_eq_true (cornC_in gw1 (cornB_iff.1 ((hmem n).1 hn).2))
        omega
       have hLL:l.length<=256:=nodup_len 256 (hrise.imp (fun h e=>by omega)) hin
       have HIN:Hid (∀ n ∈ l,n<256):=hin
       have HS:Hid (∀ T4:Int->Bool,(∀ z,T4 z=true↔T2 z=true\/∃ i,i<l.length/\z=((l.getD i 0:Nat):Int))->∀ z,T4 z=true↔T z=true\/Tch W H bl x y ny (nx+1) z):=fun T4 h4 z=>by
        rw [h4 z,hT2i.out z,Tch.cell HPX.out HPY.out hpin hfree m1 hlx n1 hlt,or_assoc]
        refine or_congr Iff.rfl (or_congr Iff.rfl ?_)
        constructor
        ·rintro ⟨i,hi,rfl⟩
         exact (HM.out _).1 (by rw [getD_at _ _ hi];exact List.getElem_mem hi)
        ·rintro ⟨hd,hz⟩
         have hzi:0<=z/\z<W*H:=of_decide_eq_true (cornC_in gw1 (cornB_iff.1 hz))
         have hm:z.toNat ∈ l:=(HM.out z.toNat).2 (by rw [Int.toNat_of_nonneg hzi.1];exact ⟨hd,hz⟩)
         obtain ⟨i,hi,h⟩:=List.getElem_of_mem hm
         exact ⟨i,hi,by rw [getD_at _ _ hi,h];omega⟩
       obtain ⟨A,cap,rfl⟩:∃ A cap,v=.slice A l.length cap:=by
        rcases hown.2 with ⟨rfl,h0⟩|⟨g',cap,cur,rfl,_⟩
        ·exact ⟨none,0,by rw [h0]⟩
        ·exact ⟨_,_,rfl⟩
       have hT4:=hT2.below hb4
       have q4:=(hb4.cell (World.block_lt_of_cell? _ _ q2)).trans q2
       have K4:=K2.below hb4
       clear hfind hmem hrise hin hb4 g2 s2
       go_wp2
       go_loopw [52] (fun iv wr=>∃ (j:Nat) (T4:Int->Bool),j<=l.length/\iv=.int .i64 j/\SetAt wr tb T4/\Hid (∀ z,T4 z=true↔T2 z=true\/∃ i,i<j/\z=((l.getD i 0:Nat):Int))/\wr.ownsRow w3.heap.size 207 4 (.slice A l.length cap) l.length (edgesV W p l)/\wr.cell? ⟨w.heap.size,0,none⟩=some (.pointer (some ⟨b,0,none⟩))/\Keep (fun k=>k=tb) w wr)
        (fun i _=>l.length - (intOf i).toNat)
       case atStart=>exact ⟨0,T2,Nat.zero_le _,rfl,hT4,fun z=>⟨Or.inl,fun h=>h.resolve_right (fun ⟨i,hi,_⟩=>by omega)⟩,hown,q4,K4⟩
       case round =>
        obtain ⟨j,T4,hj,rfl,hT4,hT4i,hrow,q4,K4⟩:=hrel
        by_cases hlj:j<l.length
        ·obtain ⟨ba,hA⟩:∃ ba,A=some ⟨ba,0,none⟩:=by
          rcases hrow.2 with ⟨_,h0⟩|⟨ba,_,_,hv,_⟩
          ·omega
          ·exact ⟨ba,by cases hv;rfl⟩
         subst hA
         obtain ⟨e0,e1,e2,e3⟩:=edgesV_at W p l j hlj
         have hnm:l.getD j 0 ∈ l:=by rw [getD_at _ _ hlj];exact List.getElem_mem hlj
         have hn2:=HIN.out _ hnm
         have c0:wr.cell? ⟨ba,j*4,none⟩=some (.int .i64 ((l.getD j 0:Nat):Int)):=(hrow.cellAt (j*4) (by omega)).trans e0
         have c1:wr.cell? ⟨ba,j*4+1,none⟩=_:=(hrow.cellAt (j*4+1) (by omega)).trans e1
         have c2:wr.cell? ⟨ba,j*4+2,none⟩=_:=(hrow.cellAt (j*4+2) (by omega)).trans e2
         have c3:wr.cell? ⟨ba,j*4+3,none⟩=_:=(hrow.cellAt (j*4+3) (by omega)).trans e3
         have HJ:Hid (∀ z:Int,(∃ i,i<j+1/\z=((l.getD i 0:Nat):Int))↔(∃ i,i<j/\z=((l.getD i 0:Nat):Int))\/z=((l.getD j 0:Nat):Int)):=fun z=>by
          constructor
          ·rintro ⟨i,hi,h⟩
           by_cases e:i=j
           ·subst e;exact Or.inr h
           ·exact Or.inl ⟨i,by omega,h⟩
          ·rintro (⟨i,hi,h⟩|h)
           ·exact ⟨i,by omega,h⟩
           ·exact ⟨j,by omega,h⟩
         clear e0 e1 e2 e3 hnm
         generalize octS W p ((l.getD j 0:Nat):Int)=es at *
         generalize octD W p ((l.getD j 0:Nat):Int)=ed at *
         have z0:(0:Int)<=((l.getD j 0:Nat):Int):=by omega
         have z1:((l.getD j 0:Nat):Int)<256:=by omega
         generalize ((l.getD j 0:Nat):Int)=zz at *
         have i1:(0:Int)<=(j:Int):=by omega
         have i2:(j:Int)<(l.length:Int):=by omega
         have hT5:=hT4.grown (World.grownBy_alloc wr (.cells #[.int .i64 zz,.int .i64 es,.int .i64 ed,.int .i64 (-1)] 207) none) (by simp)
         go_wp2_with (first|(at_mapUpdate;refine wpList_put rfl _ _ _ 133 rfl 3 185 law3 Tryz.underT tb _ _ rfl hT5.mp hT5.room zz (.agg #[]) rfl rfl (wf_small z0 z1) ?_;intro w5 hm5 ht5;go_frame)|go_in)
         have hT6:=hT5.put z0 z1 hm5
         have hg5:=ht5.grown
         have K6:Keep (fun k=>k=tb) w w5:=(K4.alloc _).grown hg5 (fun k e h=>by cases e;rfl)
         have R6:=own_grown (hrow.alloc _) hg5 (fun g' hg' e=>own_map hrow hT4.mp g' hg' (Option.some.inj e))
         have q6:w5.cell? ⟨w.heap.size,0,none⟩=some (.pointer (some ⟨b,0,none⟩)):=(turned_keep ht5).cellOf ((World.cell?_alloc_old _ _ _ (Nat.ne_of_lt (World.block_lt_of_cell? _ _ q4))).trans q4) (show w.heap.size≠tb by omega)
         clear hm5 ht5 hg5 hT5 hT4 hrow K4 c0 c1 c2 c3
         go_roundw
         case rel =>
          refine ⟨j+1,_,by omega,by go_num,hT6,fun z=>?_,R6,q6,K6⟩
          rw [insS_iff,hT4i.out z,HJ.out z]
          exact ⟨fun h=>h.elim (fun e=>Or.inr (Or.inr e)) (fun h=>h.imp id Or.inl),fun h=>h.elim (fun e=>Or.inr (Or.inl e)) (fun h=>h.elim (fun e=>Or.inr (Or.inr e)) Or.inl)⟩
         case measure=>simp [intOf];omega
        ·have e:j=l.length:=by omega
         subst e
         have HS2:=HS.out T4 hT4i.out
         go_wp2
         go_roundw
         case rel=>exact ⟨nx+1,T4,by go_num,by omega,by omega,hT4,HS2,q4,K4⟩
         case measure=>simp [intOf];omega
      ·have hff:ffv W H bl p≠0:=by unfold ffv;rw [hpin,hfree];decide
       have hfind:=find_touch_err (rb:=w.heap.size) w3 g2 hff
       have HS:Hid (∀ z,T2 z=true↔T z=true\/Tch W H bl x y ny (nx+1) z):=fun z=>(hT2i.out z).trans (or_congr Iff.rfl (Tch.skip (fun q hq hqf he=>by
        have e1:=cell_eq W q
        have e2:=cell_eq W p
        have:q=p:=by rw [<- e1,<- e2,he.1,he.2,<- HPX.out,<- HPY.out]
        rw [this,hfree] at hqf;cases hqf)).symm)
       go_wp2_with fail
       refine hfind.mono ?_
       rintro e w4 ⟨rfl,hb4⟩
       have hT4:=hT2.below hb4
       have q4:=(hb4.cell (World.block_lt_of_cell? _ _ q2)).trans q2
       have K4:=K2.below hb4
       clear hfind g2 s2 hb4
       go_wp2
       go_loopw [52] (fun iv wr=>iv=.int .i64 0/\SetAt wr tb T2/\wr.cell? ⟨w.heap.size,0,none⟩=some (.pointer (some ⟨b,0,none⟩))/\Keep (fun k=>k=tb) w wr) (fun _ _=>0)
       case atStart=>exact ⟨rfl,hT4,q4,K4⟩
       case round =>
        obtain ⟨rfl,hT4,q4,K4⟩:=hrel
        go_wp2
        go_roundw
        case rel=>exact ⟨nx+1,T2,by go_num,by omega,by omega,hT4,HS,q4,K4⟩
        case measure=>simp [intOf];omega
    ·have e:nx=x+1+1:=by omega
     subst e
     go_wp2
     go_roundw
     case rel=>exact ⟨ny+1,T2,by go_num,by omega,by omega,hT2,fun z=>(hT2i.out z).trans (or_congr Iff.rfl Tch.row),q2,K2⟩
     case measure=>simp [intOf];omega
  ·have e:ny=y+1+1:=by omega
   subst e
   go_wp2
   go_end0
   exact ⟨rfl,⟨T1,hT1,hTi.out⟩,K1⟩
end
section
section
variable {W H c0 : Int} {bl bl' : Nat → Bool}
theorem loc_corn (hbl:∀ n:Nat,(n:Int)≠c0->bl n=bl' n)(w1:1<=W){c:Int}(h:¬ Tch W H bl (c0 % W) (c0 / W) (c0 / W+1+1) (c0 % W - 1) c)(hc:cornB W H bl c=true) :
  (∀ p,inB W H p=true->bl p.toNat=false->Blk W c0 p->¬ Dir W H bl p c)/\¬ Blk W c0 c/\cornB W H bl' c=true:=by
 rw [Tch.all] at h
 have hno:∀ p,inB W H p=true->bl p.toNat=false->Blk W c0 p->¬ Dir W H bl p c:=fun p hp hf hB hd=>h ⟨hc,p,⟨hp,hf,hd⟩,by unfold Blk at hB;omega⟩
 have hin:=cornC_in w1 (cornB_iff.1 hc)
 have hnb:¬ Blk W c0 c:=fun hB=>hno c hin (corn_free hc) hB (Dir.self w1)
 exact ⟨hno,hnb,cornB_iff.2 (far_corn hbl hnb (cornB_iff.1 hc))⟩
theorem loc_edge (hbl:∀ n:Nat,(n:Int)≠c0->bl n=bl' n)(w1:1<=W)(w2:W<=16)(h1:1<=H)(h2:H<=16){c:Int}(h:¬ Tch W H bl (c0 % W) (c0 / W) (c0 / W+1+1) (c0 % W - 1) c)(hc:cornB W H bl c=true)(d:Int)(hd:Dir W H bl c d/\(decide (d≠c)&&cornB W H bl d)=true) :
  Dir W H bl' c d/\(decide (d≠c)&&cornB W H bl' d)=true:=by
 obtain ⟨hno,_,_⟩:=loc_corn hbl w1 h hc
 rw [Bool.and_eq_true] at hd
 have hin:=cornC_in w1 (cornB_iff.1 hc)
 have hdin:=cornC_in w1 (cornB_iff.1 hd.2.2)
 have:=oct_small w1 w2 h1 h2 hin hdin
 obtain ⟨k1,k2⟩:=edge_kept hbl w1 (by omega) (by omega) hin (corn_free hc) (cornB_iff.1 hd.2.2) hd.1 hno
 rw [Bool.and_eq_true]
 exact ⟨k2,hd.2.1,cornB_iff.2 k1⟩
theorem EOk.loc {w:World}{pb:Nat}{f:Int->Option Value}(hbl:∀ n:Nat,(n:Int)≠c0->bl n=bl' n)(w1:1<=W)(w2:W<=16)(h1:1<=H)(h2:H<=16){c:Int}
  (hn:¬ Tch W H bl (c0 % W) (c0 / W) (c0 / W+1+1) (c0 % W - 1) c) (hn':¬ Tch W H bl' (c0 % W) (c0 / W) (c0 / W+1+1) (c0 % W - 1) c) (E:EOk w pb W H bl f c):EOk w pb W H bl' f c:=by
 have hbl':∀ n:Nat,(n:Int)≠c0->bl' n=bl n:=fun n h=>(hbl n h).symm
 refine ⟨fun hc=>?_,fun hc=>?_⟩
 ·have hc0:=(loc_corn hbl' w1 hn' hc).2.2
  obtain ⟨v,l,e1,e2,e3,e4⟩:=E.yes hc0
  refine ⟨v,l,e1,e2,⟨e3.1,fun n=>?_⟩,e4⟩
  rw [e3.2 n]
  exact ⟨loc_edge hbl w1 w2 h1 h2 hn hc0 n,loc_edge hbl' w1 w2 h1 h2 hn' hc n⟩
 ·refine E.no ?_
  cases hb:cornB W H bl c with
  |false=>rfl
  |true =>
   have:=(loc_corn hbl w1 hn hb).2.2
   rw [hc] at this;cases this
end
end
section
open Go.RowKit
theorem Touch.keep {b:Nat}{w w':World}(h:Touch b w w'):Keep (fun k=>k=b) w w':=⟨h.os,h.tape,h.output,by rw [h.size];exact Nat.le_refl _,fun i _ hn=>h.other i hn⟩
theorem EOk.kept {F:Nat->Prop}{w w':World}{pb:Nat}{W H c:Int}{bl:Nat->Bool}{f f':Int->Option Value}(E:EOk w pb W H bl f c)(K:Keep F w w')(hF:∀ v l g,f c=some v->w.ownsRow 0 207 4 v (List.length l) (edgesV W c l)->v.ownBlock=some g->pb<g->¬ F g)(hf:f' c=f c):EOk w' pb W H bl f' c:=by
 refine ⟨fun h=>?_,fun h=>hf.trans (E.no h)⟩
 obtain ⟨v,l,h1,h2,h3,h4⟩:=E.yes h
 exact ⟨v,l,hf.trans h1,own_keep h2 K (fun g hg=>hF v l g h1 h2 hg (h4 g hg)),h3,h4⟩
theorem mkmapT (w:World):(Instr.makeMap 133 none).run Tryz.prog w=.ok (.map (some w.heap.size)) (w.alloc (.map #[] 0)):=by kernel_rfl
set_option maxHeartbeats 1000000 in
theorem gset_same {rb pb mb c:Nat}{W H V:Int}{bl:Nat->Bool}(v:Bool)(w:World)(G:GraphAt w rb pb mb W H V bl)(hc:inB W H c=true)(hv:bl c=v) :
  Calls Tryz.prog 84 #[.pointer (some ⟨rb,0,none⟩),.int .i64 c,.bool v] w fun e w'=>e=.returned (.tuple #[.bool false,.nilIface])/\Below w.heap.size w w':=by
 obtain ⟨f,G,E⟩:=G
 have p0:=G.p0
 obtain ⟨l1,l2,l3⟩:=G.lts
 have hcp:=copy_any w G.ga
 go_enter Tryz.func84,Tryz.ntmps84
 go_wp2_with fail
 refine hcp.mono ?_
 rintro e w1 ⟨rfl,hb1,hs1,g1,fr1⟩
 have hse:=set_same c v w1 (G.ga.below hb1 l2) hc hv
 have p0:=(hb1.cell (p:=⟨rb,0,none⟩) l1).trans p0
 clear hcp G E g1 fr1
 go_wp2_with fail
 refine hse.mono ?_
 rintro e w2 ⟨rfl,m2,rfl⟩
 clear hse
 go_wp2
 go_ret2
 exact ⟨rfl,below_drewN hb1 _⟩
set_option maxHeartbeats 4000000 in
set_option maxRecDepth 1000000 in
theorem gset_new {rb pb mb c:Nat}{W H V:Int}{bl:Nat->Bool}{Q:Nat->Prop}(v:Bool)(w:World)(G:GraphIn w rb pb mb W H V bl Q)(hQ:Hid (∀ g,w.heap.size<=g->Q g))(s:StepsAt w)(hc:inB W H c=true)(hv:bl c=!v)(v1:0<=V)(v2:V<=1000000)(h0:1≠pb)(h0m:1≠mb) :
  Calls Tryz.prog 84 #[.pointer (some ⟨rb,0,none⟩),.int .i64 c,.bool v] w fun e w'=>e=.returned (.tuple #[.bool true,.nilIface])/\GraphIn w' rb pb mb W H (V+1) (upd bl c v) Q/\Keep (fun k=>k=pb\/k=mb) w w':=by
 obtain ⟨f,G,E⟩:=G
 have p0:=G.p0
 obtain ⟨l1,l2,l3⟩:=G.lts
 obtain ⟨n1,n2⟩:=G.ne
 have hrp:=G.rp
 have gw1:=G.ga.w1
 have gw2:=G.ga.w2
 have gh1:=G.ga.h1
 have gh2:=G.ga.h2
 have hspos:=s.pos
 have hwh:=wh_bd G.ga.w1 G.ga.w2 G.ga.h1 G.ga.h2
 have hbl:Hid (∀ n:Nat,(n:Int)≠(c:Int)->bl n=upd bl c v n):=fun n hn=>by unfold upd;rw [if_neg (by omega)]
 have hcp:=copy_any w G.ga
 have HE:Hid (∀ c:Int,EOk w pb W H bl f c):=E.1
 have HQ0:Hid (∀ (c:Int) v g,f c=some v->v.ownBlock=some g->Q g):=E.2
 clear E
 go_enter Tryz.func84,Tryz.ntmps84
 go_wp2_with fail
 refine hcp.mono ?_
 rintro e w1 ⟨rfl,hb1,hs1,g1,fr1⟩
 have G1:=G.below hb1
 have hse:=set_new c v w1 G1.ga G1.fr hc hv v1 v2
 have p01:=G1.p0
 clear hcp fr1 p0 hv
 go_wp2_with fail
 refine hse.mono ?_
 rintro e w2 ⟨rfl,ht2,g2,fr2⟩
 clear hse
 generalize hblv:upd bl c v=bl' at *
 have HBV:Hid (upd bl c v=bl'):=hblv
 clear hblv
 have K2:=ht2.keep
 have gb2:=g1.keep K2 (show w.heap.size≠pb by omega)
 have p02:=K2.cellOf p01 hrp
 have p12:=K2.cellOf G1.p1 hrp
 have m2:MapF Tryz.prog 3 w2 mb f (cntS (keyB f) 256):=G1.mp.keep K2 (fun e=>n2 e.symm)
 have s2:=(s.below hb1 (by omega)).keep K2 h0
 have hz2:w1.heap.size=w2.heap.size:=ht2.size.symm
 have G2:GSt w2 rb pb mb W H (V+1) bl' f:=⟨p02,p12,g2,m2,G.bd,fr2,hrp⟩
 have KK2:Keep (fun k=>k=pb\/k=mb) w w2:=(Keep.of_below hb1).trans K2 (fun _ _ h=>Or.inl h)
 have HE2:Hid (∀ c:Int,EOk w2 pb W H bl f c):=fun c=>((HE.out c).below hb1).kept K2 (fun v l g _ _ _ hg e=>by omega) rfl
 clear G1 G g1 g2 fr2 m2 p12 p01 HE K2 ht2
 have hmk:=mkmapT w2
 have hT0:=SetAt.made w2
 have B3:Below w2.heap.size w2 (w2.alloc (.map #[] 0)):=(Below.refl _ _).alloc (Nat.le_refl _) _
 have hz1:=hb1.size
 have hta:=touched_any (c:=(c:Int)) (w2.alloc (.map #[] 0)) (gb2.below B3 (by omega)) (s2.below B3 (by omega)) (by simp;omega) hT0 (by omega) (by omega) hc rfl rfl
 go_wp2_with fail
 refine hta.mono ?_
 rintro e w3 ⟨rfl,⟨T1,hT1,hT1i⟩,K3⟩
 have p03:=K3.cellOf ((B3.cell (p:=⟨rb,0,none⟩) (show rb<w2.heap.size by omega)).trans p02) (show rb≠w2.heap.size by omega)
 have G3:=(G2.below B3).keep K3 (show rb≠w2.heap.size by omega) (show pb≠w2.heap.size by omega) (show mb≠w2.heap.size by omega)
 have s3:=(s2.below B3 (by omega)).keep K3 (show 1≠w2.heap.size by omega)
 have KK3:Keep (fun k=>k=pb\/k=mb) w w3:=(KK2.below B3).trans K3 (fun i hi h=>by omega)
 have HE3:Hid (∀ c:Int,EOk w3 pb W H bl f c):=fun c=>((HE2.out c).below B3).kept K3 (fun v l g hfc ho hg _ e=>own_map (own_below ho (Below.refl _ _)) hT0.mp g hg e) rfl
 have HT1:Hid (∀ z,T1 z=true↔Tch W H bl ((c:Int) % W) ((c:Int) / W) ((c:Int) / W+1+1) ((c:Int) % W - 1) z):=fun z=>(hT1i z).trans ⟨fun h=>h.resolve_left (by decide),Or.inr⟩
 have hz3':w2.heap.size+1<=w3.heap.size:=by have:=K3.size;rw [show (w2.alloc (.map #[] 0)).heap.size=w2.heap.size+1 by simp] at this;exact this
 have htb:=touched_any (c:=(c:Int)) w3 G3.ga s3 G3.lts.2.1 hT1 (show pb≠w2.heap.size by omega) (by omega) hc rfl rfl
 clear hta hmk hT0 B3 G2 gb2 s2 HE2 KK2 K3 hT1i p02
 go_wp2_with fail
 refine htb.mono ?_
 rintro e w4 ⟨rfl,⟨T,hT,hTi⟩,K4⟩
 have G4:=G3.keep K4 (show rb≠w2.heap.size by omega) (show pb≠w2.heap.size by omega) (show mb≠w2.heap.size by omega)
 have s4:=s3.keep K4 (show 1≠w2.heap.size by omega)
 have KK4:Keep (fun k=>k=pb\/k=mb) w w4:=KK3.trans K4 (fun i hi h=>by omega)
 have HE4:Hid (∀ c:Int,EOk w4 pb W H bl f c):=fun c=>(HE3.out c).kept K4 (fun v l g hfc ho hg _ e=>own_map ho hT1.mp g hg e) rfl
 have HT:Hid (∀ z,T z=true↔Tch W H bl ((c:Int) % W) ((c:Int) / W) ((c:Int) / W+1+1) ((c:Int) % W - 1) z\/Tch W H bl' ((c:Int) % W) ((c:Int) / W) ((c:Int) / W+1+1) ((c:Int) % W - 1) z):=fun z=>(hTi z).trans (or_congr (HT1.out z) Iff.rfl)
 have hz4:=K4.size
 have htl:=hT.lt
 generalize htbn:w2.heap.size=tb at *
 clear htb G3 s3 HE3 KK3 K4 hTi hT1 HT1 p03 htbn
 go_wp2_with (first|(at_range;refine wpList_rangeF rfl _ 133 rfl 3 185 law3 Tryz.underT tb _ _ rfl hT.mp ?_;intro w5 hrg5 hg5 hs5)|go_in)
 have b5:Below w4.heap.size w4 w5:=(Below.refl _ _).grown hg5 (Nat.le_refl _) (by simp)
 have G5:=G4.below b5
 have s5:=s4.below b5 (by omega)
 have KK5:=KK4.below b5
 have HE5:Hid (∀ c:Int,EOk w5 pb W H bl f c):=fun c=>(HE4.out c).below b5
 generalize hrn:w4.heap.size=r at *
 clear G4 s4 KK4 HE4 b5 hg5
 go_frame
 go_loopg [] (cntS T 256) (fun gk wr=>∃ left cnt f',gk=cnt/\RngS wr tb r T left cnt/\GSt wr rb pb mb W H (V+1) bl' f'/\StepsAt wr/\Hid (∀ i:Int,T i=true->left i=false->EOk wr pb W H bl' f' i)/\Hid (∀ i:Int,¬ (T i=true/\left i=false)->EOk wr pb W H bl f' i)/\Hid (∀ (c:Int) v g,f' c=some v->v.ownBlock=some g->Q g)/\Keep (fun k=>k=pb\/k=mb) w wr)
 case atStart =>
  refine ⟨_,_,f,rfl,hrg5,G5,s5,fun i h1 h2=>?_,fun i _=>HE5.out i,HQ0,KK5⟩
  rw [setF_isSome,h1] at h2
  cases h2
 case round =>
  obtain ⟨left,cnt,f',hgk,hrg,Gr,sr,hyes,hno,hin,hK⟩:=hrel
  go_wp2_with (first|(at_next;refine wpList_nextF rfl _ rfl 3 law3 tb r _ _ _ _ rfl hrg ?_ ?_)|go_in)
  ·intro hc0 hl0
   have HF:Hid (∀ i:Int,EOk wr pb W H bl' f' i):=fun i=>by
    by_cases hti:T i=true
    ·exact hyes.out i hti (hl0 i)
    ·have hnt:=fun h=>hti ((HT.out i).2 h)
     exact (hno.out i (fun h=>hti h.1)).loc hbl.out gw1 gw2 gh1 gh2 (fun h=>hnt (Or.inl h)) (fun h=>hnt (Or.inr h))
   clear hyes hno
   go_wp2
   go_ret2
   rw [HBV.out]
   exact ⟨rfl,⟨f',Gr,HF.out,hin.out⟩,hK⟩
  ·intro x v' w6 cnt1 hwx hlx hfx hrg1 hlt hg1 hs1 hen
   obtain ⟨hTx,rfl⟩:=setF_val hfx
   have hxin:inB W H x=true:=by
    rcases (HT.out x).1 hTx with h|h
    ·exact cornC_in gw1 (cornB_iff.1 h.1)
    ·exact cornC_in gw1 (cornB_iff.1 h.1)
   have kr:Keep (fun k=>k=r) wr w6:=(Keep.refl _ _).grown hg1 (fun k e _=>by cases e;rfl)
   have hzr:=hK.size
   have G6:=Gr.keep kr (show rb≠r by omega) (show pb≠r by omega) (show mb≠r by omega)
   have s6:=sr.keep kr (show 1≠r by omega)
   have K6:Keep (fun k=>k=pb\/k=mb) w w6:=hK.trans kr (fun i hi h=>by omega)
   have hlk:=look_any w6 G6 s6 hxin
   go_wp2_with fail
   refine hlk.mono ?_
   rintro e w7 ⟨rfl,⟨f2,G7,hf2,E7,I7⟩,K7⟩
   have hrg2:=hrg1.keep K7 (show tb≠mb by omega) (show r≠mb by omega)
   have s7:=s6.keep K7 h0m
   have K7':Keep (fun k=>k=pb\/k=mb) w w7:=K6.trans K7 (fun i hi h=>Or.inr h)
   have HY:Hid (∀ i:Int,T i=true->(left i&&!decide (i=x))=false->EOk w7 pb W H bl' f2 i):=fun i h1 h2=>by
    by_cases e:i=x
    ·rw [e];exact E7
    ·refine ((hyes.out i h1 (by rw [decide_eq_false e] at h2;simpa using h2)).kept kr (fun v l g hfc ho hg _ e=>own_rng ho hrg g hg (by rw [e])) rfl).kept K7 (fun v l g hfc ho hg _ e=>own_map ho G6.mp g hg e) (hf2 i e)
   have HN:Hid (∀ i:Int,¬ (T i=true/\(left i&&!decide (i=x))=false)->EOk w7 pb W H bl f2 i):=fun i h=>by
    have e:i≠x:=fun e=>h ⟨by rw [e];exact hTx,by rw [decide_eq_true e];simp⟩
    refine ((hno.out i (fun h2=>h ⟨h2.1,by rw [h2.2];rfl⟩)).kept kr (fun v l g hfc ho hg _ e=>own_rng ho hrg g hg (by rw [e])) rfl).kept K7 (fun v l g hfc ho hg _ e=>own_map ho G6.mp g hg e) (hf2 i e)
   have HI:Hid (∀ (c:Int) v g,f2 c=some v->v.ownBlock=some g->Q g):=fun c v g h hg=>by
    by_cases e:c=x
    ·rw [e] at h;exact hQ.out g (Nat.le_trans K6.size (I7 v g h hg))
    ·rw [hf2 c e] at h;exact hin.out c v g h hg
   clear hlk hyes hno hin Gr sr hrg hrg1 kr G6 s6 K6 K7 E7 I7 hf2
   go_wp2
   go_roundg cnt1
   case measure=>omega
   case rel=>exact ⟨_,cnt1,f2,rfl,hrg2,G7,s7,HY,HN,HI,K7'⟩
end
section
open Go.RowKit
set_option maxHeartbeats 400000 in
theorem tset_same {tb pb:Nat}{W H V:Int}{bl:Nat->Bool}(c:Nat)(v:Bool)(w:World)(t:TabOk w tb pb W H V bl)(hr:inB W H c=true)(hv:bl c=v) :
  Calls Tryz.prog 83 #[.pointer (some ⟨tb,0,none⟩),.int .i64 c,.bool v] w fun e w'=>e=.returned (.tuple #[.bool false,.nilIface])/\∃ m,w'=w.drewN m:=by
 obtain ⟨T,t,_⟩:=t.ok
 have p0:=t.p0
 go_enter Tryz.func83,Tryz.ntmps83
 go_wp2_with (go_at_call 70;refine (set_same c v _ t.ga hr hv).mono ?_;rintro e w' ⟨rfl,m,rfl⟩)
 go_ret2
 exact ⟨rfl,_,rfl⟩
theorem through_v {tb pb c:Nat}{W H V:Int}{bl:Nat->Bool}{v:Bool}{T:Nat->Nat->Nat}{x y:Int}(hc:idx W x y=c)(d:Nat)(w:World)(t:TabAt w tb pb W H V (upd bl c v) T)(hp:atB W H x y=true)(hR:Right W H bl T d)(hd:d<8) :
  Calls Tryz.prog 120 #[.pointer (some ⟨tb,0,none⟩),.int .i64 x,.int .i64 y,.int .i64 d] w fun e w'=>ThrPost w w' e tb pb W H V (upd bl c v) d T:=by
 subst hc
 exact through_any x y d w t hp hR hd
set_option maxHeartbeats 1000000 in
theorem tset_new {tb pb:Nat}{W H V:Int}{bl:Nat->Bool}(c:Nat)(v:Bool)(w:World)(t:TabOk w tb pb W H V bl)(hr:inB W H c=true)(hv:bl c=!v)(v1:0<=V)(v2:V<=1000000) :
  Calls Tryz.prog 83 #[.pointer (some ⟨tb,0,none⟩),.int .i64 c,.bool v] w fun e w'=>e=.returned (.tuple #[.bool true,.nilIface])/\TabOk w' tb pb W H (V+1) (upd bl c v)/\Keep (fun k=>k=tb\/k=pb) w w':=by
 obtain ⟨T,t,hR⟩:=t.ok
 have p0:=t.p0
 obtain ⟨x,y,ha,hi,hpl⟩:∃ x y,atB W H x y=true/\idx W x y=c/\∀ w (V:Int) (bl:Nat->Bool),GridAt w pb W H V bl->Calls Tryz.prog 76 #[.pointer (some ⟨pb,0,none⟩),.int .i64 (c:Int)] w fun e w'=>e=.returned (.tuple #[.int .i64 x,.int .i64 y,.nilIface])/\∃ m,w'=w.drewN m:=by
  obtain ⟨ha,hi⟩:=at_place t.ga.w1 hr
  exact ⟨_,_,ha,by omega,fun w V bl g=>place_in (c:Int) w g hr⟩
 have HI:Hid (idx W x y=c):=hi
 clear hi
 have hset:=set_new c v w t.ga t.gf hr hv v1 v2
 go_enter Tryz.func83,Tryz.ntmps83
 go_wp2_with (go_at_call 70;refine hset.mono ?_;rintro e w1 ⟨rfl,T1,G1,F1⟩;have q0:=T1.keep.cellOf p0 t.ne)
 have K1:=T1.keep
 have t1:TabAt w1 tb pb W H (V+1) (upd bl c v) T :=
  ⟨K1.cellOf t.p0 t.ne,fun a d ha hd=>K1.cellOf (t.ts a d ha hd) t.ne,t.fr.keep t.blocks.1 K1 t.ne,G1,F1,t.st.keep K1 t.n1,t.ne,t.n0,t.n1⟩
 have K1':Keep (fun k=>k=tb\/k=pb) w w1:=K1.mono (fun _ _ h=>Or.inr h)
 clear T1 G1 F1 K1 hset t p0 q0
 refine (hpl _ _ _ t1.ga).mono ?_
 rintro e w2 ⟨rfl,m,rfl⟩
 have t2:=t1.drewN m
 have K2:=K1'.drewN m
 clear t1 K1' hpl
 generalize w1.drewN m=w2 at *
 go_wp2
 go_loopg [41] 8 (fun gk iv wr=>∃ (k:Nat) (T':Nat->Nat->Nat),k<=8/\gk=8 - k/\iv=.int .i64 k/\TabAt wr tb pb W H (V+1) (upd bl c v) T'/\(∀ d,d<k->Right W H (upd bl c v) T' d)/\(∀ d,k<=d->d<8->Right W H bl T' d)/\Keep (fun k=>k=tb\/k=pb) w wr)
 case atStart=>exact ⟨0,T,by omega,rfl,rfl,t2,fun d hd=>absurd hd (Nat.not_lt_zero d),fun d _ hd=>hR d hd,K2⟩
 case round =>
  clear t2 K2 hR
  obtain ⟨k,T',hk,hgk,rfl,tr,R1,R2,Kr⟩:=hrel
  have HG:Hid (gk=8 - k):=hgk
  clear hgk
  by_cases hlt:k<8
  ·have hlt':(k:Int)<8:=by omega
   have hth:=through_v HI.out k wr tr ha (R2 k (Nat.le_refl k) hlt) hlt
   go_wp2_with (go_at_call 120;refine hth.mono ?_;rintro e w3 ⟨rfl,T3,t3,Rk,Tu,K3⟩)
   go_roundg (8 - (k+1))
   case measure=>have:=HG.out;omega
   case rel =>
    refine ⟨k+1,T3,by omega,rfl,by go_num,t3,fun d hd=>?_,fun d hd hd8=>?_,Kr.trans K3 (fun _ _ h=>Or.inl h)⟩
    ·by_cases q:d=k
     ·rw [q];exact Rk
     ·exact fun a b hab=>Tu.keep hab (R1 d (by omega) a b hab)
    ·exact fun a b hab=>(Tu.other hab (by omega)).trans (R2 d (by omega) hd8 a b hab)
  ·have:k=8:=by omega
   subst this
   go_wp2
   go_ret2
   exact ⟨rfl,⟨T',tr,R1⟩,Kr⟩
end
section
open Go.RowKit Go.Lib
structure Hf (w:World) (lo hi sb rb pb mb tb gb x:Nat) (W H V:Int) (bl:Nat->Bool) (most:Nat):Prop where
 c0:w.cell? ⟨sb,0,none⟩=some (.int .i64 (most:Int))
 c1:w.cell? ⟨sb,1,none⟩=some (.pointer (some ⟨rb,0,none⟩))
 c2:∃ u,w.cell? ⟨sb,2,none⟩=some u
 c3:w.cell? ⟨sb,3,none⟩=some (.pointer (some ⟨tb,0,none⟩))
 fz:w.frozen? ⟨sb,2,none⟩=false
 gi:GraphIn w rb pb mb W H V bl (fun g=>g≠tb/\g≠gb/\g≠sb)
 ta:TabOk w tb gb W H V bl
 l1:lo<=rb/\lo<=pb/\lo<=mb
 l2:rb<x/\pb<x/\mb<x
 l3:x<=tb/\x<=gb/\tb<sb/\gb<sb
 l4:sb<hi
def Wr (pb mb tb gb:Nat) (k:Nat):Prop:=k=pb\/k=mb\/k=tb\/k=gb
section
variable {w w' : World} {lo hi sb rb pb mb lb tb gb N x most : Nat} {W H V V2 : Int} {bl : Nat → Bool}
theorem SvAt.hf (S:SvAt w lo hi sb rb pb mb lb tb gb N x W H V V2 bl most):Hf w lo hi sb rb pb mb tb gb x W H V bl most:=by
 have ta:=S.ta
 rw [S.vv] at ta
 exact ⟨S.c0,S.c1,⟨_,S.c2⟩,S.c3,S.fz,S.gi,ta,⟨S.l1.1,S.l1.2.1,S.l1.2.2.1⟩,S.l2,S.l3,S.l4⟩
theorem Hf.lt (S:Hf w lo hi sb rb pb mb tb gb x W H V bl most):sb<w.heap.size:=World.block_lt_of_cell? _ _ S.c0
theorem Hf.below (S:Hf w lo hi sb rb pb mb tb gb x W H V bl most)(hb:Below w.heap.size w w'):Hf w' lo hi sb rb pb mb tb gb x W H V bl most:=by
 have k:∀ {a:Addr}{v:Value},w.cell? a=some v->w'.cell? a=some v:=fun {a v} h=>(hb.cell (World.block_lt_of_cell? w a h)).trans h
 obtain ⟨u,c2⟩:=S.c2
 exact ⟨k S.c0,k S.c1,⟨u,k c2⟩,k S.c3,(hb.frozen (p:=⟨sb,2,none⟩) S.lt).trans S.fz,S.gi.below hb,S.ta.below hb,S.l1,S.l2,S.l3,S.l4⟩
theorem Hf.side (S:Hf w lo hi sb rb pb mb tb gb x W H V bl most):1<=W/\W<=16/\1<=H/\H<=16:=by
 obtain ⟨f,G,_⟩:=S.gi
 exact ⟨G.ga.w1,G.ga.w2,G.ga.h1,G.ga.h2⟩
theorem GraphIn.keep {F Q:Nat->Prop}(G:GraphIn w rb pb mb W H V bl Q)(K:Keep F w w')(h1:¬ F rb)(h2:¬ F pb)(h3:¬ F mb)(h4:∀ g,Q g->¬ F g):GraphIn w' rb pb mb W H V bl Q:=by
 obtain ⟨f,S,E,I⟩:=G
 exact ⟨f,S.keep K h1 h2 h3,fun c=>(E c).kept K (fun v l g hfc ho hg _=>h4 g (I c v g hfc hg)) rfl,I⟩
end
theorem upd_same {bl:Nat->Bool}{c:Nat}{v:Bool}(h:bl c=v):upd bl c v=bl:=by
 funext n
 unfold upd
 split
 ·next e=>rw [e,h]
 ·rfl
def SetP (w w':World) (e:Ending) (lo hi sb rb pb mb tb gb x:Nat) (W H V:Int) (bl:Nat->Bool) (most c:Nat) (v:Bool):Prop :=
 (bl c=v/\e=.returned (.bool false)/\Below w.heap.size w w')\/(bl c=!v/\e=.returned (.bool true)/\Hf w' lo hi sb rb pb mb tb gb x W H (V+1) (upd bl c v) most/\Keep (Wr pb mb tb gb) w w')
set_option maxHeartbeats 2000000 in
theorem nset_any {lo hi sb rb pb mb tb gb x most c:Nat}{W H V:Int}{bl:Nat->Bool}(v:Bool)(w:World)(S:Hf w lo hi sb rb pb mb tb gb x W H V bl most)(hc:inB W H c=true)(v1:0<=V)(v2:V<=1000000)(hlo:2<=lo) :
  Calls Tryz.prog 47 #[.pointer (some ⟨sb,0,none⟩),.agg #[.int .i64 c,.bool v]] w fun e w'=>SetP w w' e lo hi sb rb pb mb tb gb x W H V bl most c v:=by
 obtain ⟨a1,a2,a3⟩:=S.l1
 obtain ⟨a4,a5,a6⟩:=S.l2
 obtain ⟨a7,a8,a9,a10⟩:=S.l3
 have hsl:=S.lt
 have b0:Below w.heap.size w (w.alloc (.cells #[.int .i64 c,.bool v] 62)):=(Below.refl _ _).alloc (Nat.le_refl _) _
 have q0:(w.alloc (.cells #[.int .i64 c,.bool v] 62)).cell? ⟨w.heap.size,0,none⟩=some (.int .i64 c):=World.cell?_alloc_at #[.int .i64 c,.bool v] 62 w.heap.size 0 rfl
 have q1:(w.alloc (.cells #[.int .i64 c,.bool v] 62)).cell? ⟨w.heap.size,1,none⟩=some (.bool v):=World.cell?_alloc_at #[.int .i64 c,.bool v] 62 w.heap.size 1 rfl
 have S0:=S.below b0
 go_enter Tryz.func47,Tryz.ntmps47
 go_wp2_with fail
 have hz0:w.heap.size<(w.alloc (.cells #[.int .i64 c,.bool v] 62)).heap.size:=by simp
 generalize w.alloc (.cells #[.int .i64 c,.bool v] 62)=wa at *
 have e0:Below wa.heap.size wa wa.drew:=(Below.refl _ _).drew
 have S1:=S0.below e0
 have hzd:w.heap.size<wa.drew.heap.size:=hz0
 have ta:TabOk wa.drew tb gb W H V bl:=S1.ta
 have c3:=S1.c3
 have q0:wa.drew.cell? ⟨w.heap.size,0,none⟩=some (.int .i64 c):=q0
 have q1:wa.drew.cell? ⟨w.heap.size,1,none⟩=some (.bool v):=q1
 have B1:Below w.heap.size w wa.drew:=b0.trans (e0.mono b0.size)
 by_cases hv:bl c=v
 ·have ht:=tset_same c v wa.drew ta hc hv
  have HV:Hid (bl c=v):=hv
  clear hv ta
  go_region_held3 (fun w'=>w'.cell? ⟨sb,3,none⟩=some (.pointer (some ⟨tb,0,none⟩))/\w'.cell? ⟨w.heap.size,0,none⟩=some (.int .i64 c)/\w'.cell? ⟨w.heap.size,1,none⟩=some (.bool v)) (first|with_reducible exact ⟨c3,q0,q1⟩)
   (first|(go_at_call 83;refine ht.mono ?_;rintro r w5 ⟨rfl,m5,hw5⟩;have h5:Below wa.drew.heap.size wa.drew w5:=(by rw [hw5];exact below_drewN (Below.refl _ _) _);clear hw5;have c3:=(h5.cell (World.block_lt_of_cell? _ _ c3)).trans c3;have q0:=(h5.cell (World.block_lt_of_cell? _ _ q0)).trans q0;have q1:=(h5.cell (World.block_lt_of_cell? _ _ q1)).trans q1))
  go_wp2_with fail
  have e5:Below w5.heap.size w5 w5.drew:=(Below.refl _ _).drew
  have S5:=(S1.below h5).below e5
  have c1:=S5.c1
  have q0:w5.drew.cell? ⟨w.heap.size,0,none⟩=some (.int .i64 c):=q0
  have q1:w5.drew.cell? ⟨w.heap.size,1,none⟩=some (.bool v):=q1
  have B5:=(B1.trans (h5.mono B1.size)).trans (e5.mono (B1.trans (h5.mono B1.size)).size)
  have hg:=gset_same v w5.drew S5.gi.graph hc HV.out
  clear ht c3 S0 S1 S
  go_region_held3 (fun w'=>w'.cell? ⟨sb,1,none⟩=some (.pointer (some ⟨rb,0,none⟩))/\w'.cell? ⟨w.heap.size,0,none⟩=some (.int .i64 c)/\w'.cell? ⟨w.heap.size,1,none⟩=some (.bool v)) (first|with_reducible exact ⟨c1,q0,q1⟩)
   (first|(go_at_call 84;refine hg.mono ?_;rintro r w6 ⟨rfl,h6⟩;have c1:=(h6.cell (World.block_lt_of_cell? _ _ c1)).trans c1;have q0:=(h6.cell (World.block_lt_of_cell? _ _ q0)).trans q0;have q1:=(h6.cell (World.block_lt_of_cell? _ _ q1)).trans q1))
  go_wp2
  go_ret
  exact Or.inl ⟨HV.out,rfl,B5.trans (h6.mono B5.size)⟩
 ·have hv':bl c=!v:=by cases hb:bl c <;> cases v <;> simp_all
  have ht:=tset_new c v wa.drew ta hc hv' v1 v2
  have HV:Hid (bl c=!v):=hv'
  have n1:sb≠tb/\sb≠gb:=⟨by omega,by omega⟩
  have n2:w.heap.size≠tb/\w.heap.size≠gb:=⟨by omega,by omega⟩
  have n3:w.heap.size≠pb/\w.heap.size≠mb:=⟨by omega,by omega⟩
  clear hv hv' ta
  go_region_held3 (fun w'=>w'.cell? ⟨sb,3,none⟩=some (.pointer (some ⟨tb,0,none⟩))/\w'.cell? ⟨w.heap.size,0,none⟩=some (.int .i64 c)/\w'.cell? ⟨w.heap.size,1,none⟩=some (.bool v)) (first|with_reducible exact ⟨c3,q0,q1⟩)
   (first|(go_at_call 83;refine ht.mono ?_;rintro r w5 ⟨rfl,T5,K5⟩;have c3:=K5.cellOf c3 (fun h=>h.elim n1.1 n1.2);have q0:=K5.cellOf q0 (fun h=>h.elim n2.1 n2.2);have q1:=K5.cellOf q1 (fun h=>h.elim n2.1 n2.2)))
  go_wp2_with fail
  have e5:Below w5.heap.size w5 w5.drew:=(Below.refl _ _).drew
  have K5':Keep (fun k=>k=tb\/k=gb) wa.drew w5.drew:=K5.drew
  have hsz:=K5'.size
  have st5:StepsAt w5.drew:=by
   obtain ⟨T,t,_⟩:=(T5.below e5).ok
   exact t.st
  have c1:=K5'.cellOf S1.c1 (fun h=>h.elim n1.1 n1.2)
  have q0:w5.drew.cell? ⟨w.heap.size,0,none⟩=some (.int .i64 c):=q0
  have q1:w5.drew.cell? ⟨w.heap.size,1,none⟩=some (.bool v):=q1
  have G5:=S1.gi.keep K5' (fun h=>h.elim (by omega) (by omega)) (fun h=>h.elim (by omega) (by omega)) (fun h=>h.elim (by omega) (by omega)) (fun g hg h=>h.elim hg.1 hg.2.1)
  have hg:=gset_new v w5.drew G5 (fun g hg=>⟨by omega,by omega,by omega⟩) st5 hc HV.out v1 v2 (by omega) (by omega)
  have T5':=T5.below e5
  have d0:=K5'.cellOf S1.c0 (fun h=>h.elim n1.1 n1.2)
  have d2:∃ u,w5.drew.cell? ⟨sb,2,none⟩=some u:=by
   obtain ⟨u,hu⟩:=S1.c2
   exact ⟨u,K5'.cellOf hu (fun h=>h.elim n1.1 n1.2)⟩
  have d3:=K5'.cellOf S1.c3 (fun h=>h.elim n1.1 n1.2)
  have d4:=(K5'.frozen (p:=⟨sb,2,none⟩) S1.lt (fun h=>h.elim n1.1 n1.2)).trans S1.fz
  have HK5:Hid (Keep (Wr pb mb tb gb) w w5.drew):=(Keep.of_below B1).trans K5' (fun k _ h=>h.elim (fun h=>Or.inr (Or.inr (Or.inl h))) (fun h=>Or.inr (Or.inr (Or.inr h))))
  have HD:Hid (w5.drew.cell? ⟨sb,0,none⟩=some (.int .i64 (most:Int))/\(∃ u,w5.drew.cell? ⟨sb,2,none⟩=some u)/\w5.drew.cell? ⟨sb,3,none⟩=some (.pointer (some ⟨tb,0,none⟩))/\w5.drew.frozen? ⟨sb,2,none⟩=false):=⟨d0,d2,d3,d4⟩
  have HL:Hid ((lo<=rb/\lo<=pb/\lo<=mb)/\(rb<x/\pb<x/\mb<x)/\(x<=tb/\x<=gb/\tb<sb/\gb<sb)/\sb<hi):=⟨S.l1,S.l2,S.l3,S.l4⟩
  have hsp:sb≠pb/\sb≠mb:=⟨by omega,by omega⟩
  have hrow:tb≠pb/\tb≠mb/\gb≠pb/\gb≠mb/\1≠pb/\1≠mb:=⟨by omega,by omega,by omega,by omega,by omega,by omega⟩
  have hsd:sb<w5.drew.heap.size:=Nat.lt_of_lt_of_le S1.lt hsz
  clear ht c3 S0 S1 S K5 K5' G5 st5 T5 d0 d2 d3 d4
  go_region_held3 (fun w'=>w'.cell? ⟨sb,1,none⟩=some (.pointer (some ⟨rb,0,none⟩))/\w'.cell? ⟨w.heap.size,0,none⟩=some (.int .i64 c)/\w'.cell? ⟨w.heap.size,1,none⟩=some (.bool v)) (first|with_reducible exact ⟨c1,q0,q1⟩)
   (first|(go_at_call 84;refine hg.mono ?_;rintro r w6 ⟨rfl,G6,K6⟩;have c1:=K6.cellOf c1 (fun h=>h.elim hsp.1 hsp.2);have q0:=K6.cellOf q0 (fun h=>h.elim n3.1 n3.2);have q1:=K6.cellOf q1 (fun h=>h.elim n3.1 n3.2)))
  obtain ⟨d0,⟨u,d2⟩,d3,d4⟩:=HD.out
  obtain ⟨k1,k2,k3,k4⟩:=HL.out
  have HF:Hid (Hf w6 lo hi sb rb pb mb tb gb x W H (V+1) (upd bl c v) most):=⟨K6.cellOf d0 (fun h=>h.elim hsp.1 hsp.2),c1,⟨u,K6.cellOf d2 (fun h=>h.elim hsp.1 hsp.2)⟩,K6.cellOf d3 (fun h=>h.elim hsp.1 hsp.2),(K6.frozen (p:=⟨sb,2,none⟩) hsd (fun h=>h.elim hsp.1 hsp.2)).trans d4,G6,T5'.keep K6 (fun h=>h.elim hrow.1 hrow.2.1) (fun h=>h.elim hrow.2.2.1 hrow.2.2.2.1) (fun h=>h.elim hrow.2.2.2.2.1 hrow.2.2.2.2.2),k1,k2,k3,k4⟩
  have HK6:Hid (Keep (Wr pb mb tb gb) w w6):=HK5.out.trans K6 (fun k _ h=>h.elim Or.inl (fun h=>Or.inr (Or.inl h)))
  clear d0 d2 d3 d4 T5' G6 K6
  go_wp2
  go_ret
  exact Or.inr ⟨HV.out,rfl,HF.out,HK6.out⟩
end
end Go.Proofs.YtipbhlofbpnpjaaGreatDoor
