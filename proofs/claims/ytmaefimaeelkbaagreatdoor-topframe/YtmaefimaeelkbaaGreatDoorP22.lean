/-
  Texts laid together: Conn, Sr9, ClearM, CellA, Tab, Count.
-/
import Derived.Test.YtmaefimaeelkbaaGreatDoorP15
import Derived.Test.YtmaefimaeelkbaaGreatDoorP8
import Derived.Test.YtmaefimaeelkbaaGreatDoorP21
import Derived.Test.YtmaefimaeelkbaaGreatDoorP1
import Derived.Test.YtmaefimaeelkbaaGreatDoorP3
import Derived.Test.YtmaefimaeelkbaaGreatDoorP10
import Derived.Test.YtmaefimaeelkbaaGreatDoorP5
import Derived.Test.YtmaefimaeelkbaaGreatDoorP6
import Derived.Deep.RegionHeld3
import Derived.Deep.LoopGhost
import Derived.Deep.RegionWith
namespace Go.Proofs.YtmaefimaeelkbaaGreatDoor
section
open Go.RowKit Go.Maps
set_option maxHeartbeats 2000000 in
set_option maxRecDepth 1000000 in
theorem find_conn {b rb:Nat}{W H V a:Int}{bl:Nat->Bool}{p:Int->Bool}(w:World)(g:GridAt w b W H V bl)(s:StepsAt w)(hb:b<w.heap.size)(ha:inB W H a=true)(hfree:bl a.toNat=false)
  (hC:∀ (w':World) (n:Int),Below w.heap.size w w'->inB W H n=true->Calls Tryz.prog 128 #[.int .i64 n,.pointer (some ⟨rb,0,none⟩)] w' fun e w''=>e=.returned (.bool (p n))/\Below w'.heap.size w' w'') :
  Calls Tryz.prog 127 #[.pointer (some ⟨b,0,none⟩),.int .i64 a,.func (.func 128) #[] #[.pointer (some ⟨rb,0,none⟩)]] w fun e w'=>∃ v l,e=.returned v/\w'.ownsRow w.heap.size 204 4 v l.length (edgesV W a l)/\(l.Pairwise (·<·)/\∀ n:Nat,n ∈ l↔Dir W H bl a n/\p n=true)/\Below w.heap.size w w':=by
 obtain ⟨i0,hi,hz0,hz1,hz2⟩:=info_parts Tryz.infoE
 have gw1:=g.w1
 have hwh:=wh_bd g.w1 g.w2 g.h1 g.h2
 have h1:=alldir_ok w g s hb ha hfree
 go_enter Tryz.func127,Tryz.ntmps127
 go_wp2_with fail
 refine h1.mono ?_
 rintro e w1 ⟨v1,L,rfl,hown1,⟨hrise,hmem⟩,hb1⟩
 obtain ⟨A,cap,rfl,_⟩:=row_of hown1
 have HM:Hid (∀ n:Nat,n ∈ L↔Dir W H bl a n):=hmem
 have HR:Hid (L.Pairwise (·<·)):=hrise
 have hin:∀ n ∈ L,inB W H (n:Int)=true/\n<256:=fun n hn=>by
  have h:=((HM.out n).1 hn).in gw1 ha
  have:0<=(n:Int)/\(n:Int)<W*H:=of_decide_eq_true h
  exact ⟨h,by omega⟩
 have hLL:L.length<=256:=nodup_len 256 (hrise.imp (fun h e=>by omega)) (fun n hn=>(hin n hn).2)
 have HIN:Hid (∀ n ∈ L,inB W H (n:Int)=true/\n<256):=hin
 have hz1':=hb1.size
 clear h1 hmem hrise hin
 go_wp2
 go_loopw [7,20] (fun fv iv wr=>∃ k:Nat,k<=L.length/\iv=.int .i64 k/\wr.ownsRow w.heap.size 204 4 fv (pick p L k).length (edgesV W a (pick p L k))/\wr.ownsRow w.heap.size 3 1 (.slice A L.length cap) L.length (vals L)/\Below w.heap.size w wr)
  (fun _ i _=>L.length - (intOf i).toNat)
 case atStart=>exact ⟨0,Nat.zero_le _,rfl,World.ownsRow_nil _ _ _ _,hown1,hb1⟩
 case round =>
  obtain ⟨k,hk,rfl,hown,hrow',hB⟩:=hrel
  by_cases hlt:k<L.length
  ·obtain ⟨ba,hA⟩:∃ ba,A=some ⟨ba,0,none⟩:=by
    rcases hrow'.2 with ⟨_,h0⟩|⟨ba,_,_,hv,_⟩
    ·omega
    ·exact ⟨ba,by cases hv;rfl⟩
   subst hA
   have hcell':wr.cell? ⟨ba,k,none⟩=some (.int .i64 ((L.getD k 0:Nat):Int)):=own_int hrow' k hlt
   have hnm:L.getD k 0 ∈ L:=by rw [getD_at _ _ hlt];exact List.getElem_mem hlt
   obtain ⟨hni,hn2⟩:=HIN.out _ hnm
   have hno:=fun h=>pick_no (p:=p) hlt h
   have hys:=fun h=>pick_yes (p:=p) hlt h
   generalize hnn:L.getD k 0=n at *
   clear hnn hnm
   have i1:(0:Int)<=(k:Int):=by omega
   have i2:(k:Int)<(L.length:Int):=by omega
   have hbz:=hB.size
   have hcl:=hC wr n hB hni
   have hfl:(pick p L k).length<=256:=Nat.le_trans pick_len hLL
   cases hp:p n with
   |false =>
    have HS:Hid (pick p L (k+1)=pick p L k):=hno hp
    rw [hp] at hcl
    clear hno hys hp
    go_wp2_with fail
    refine hcl.mono ?_
    rintro e w2 ⟨rfl,hb2⟩
    have hrow2:=own_below hrow' hb2
    have hown2:=own_below hown hb2
    have B2:=hB.trans (hb2.mono hB.size)
    clear hcl hown hrow' hb2
    go_wp2
    go_roundw
    case rel=>exact ⟨k+1,by omega,by go_num,by rw [HS.out];exact hown2,hrow2,B2⟩
    case measure=>simp [intOf];omega
   |true =>
    have HS:Hid (pick p L (k+1)=pick p L k++[n]):=hys hp
    rw [hp] at hcl
    clear hno hys hp
    generalize pick p L k=F at *
    go_wp2_with fail
    refine hcl.mono ?_
    rintro e w2 ⟨rfl,hb2⟩
    have hown2:=own_below hown hb2
    have B2:=hB.trans (hb2.mono hB.size)
    have hds:=dist_any w2 (g.below B2 hb) (Nat.lt_of_lt_of_le hb B2.size) ha hni
    clear hcl
    go_wp2_with fail
    refine hds.mono ?_
    rintro e w3 ⟨rfl,hb3⟩
    have b3:=hb2.trans (hb3.mono hb2.size)
    have hrow3:=own_below hrow' b3
    have hown3:=own_below hown2 hb3
    have B3:=B2.trans (hb3.mono B2.size)
    have hz3:=B3.size
    have HEV:Hid (edgeV W a n=[.int .i64 n,.int .i64 (octS W a n),.int .i64 (octD W a n),.int .i64 (-1)]):=rfl
    clear hown hrow' hb2 hb3 b3 hds hown2 B2
    generalize octS W a n=es at *
    generalize octD W a n=ed at *
    go_wp2_with (at_builtin;refine wpList_append_own _ rfl _ _ 126 rfl w.heap.size 204 i0 (.agg #[.int .i64 0,.int .i64 0,.int .i64 0,.int .i64 0]) 4 32 Tryz.underE hi hz0 hz1 hz2 rfl (by decide) _ _ _ rfl (hown3.alloc _) ⟨w3.heap.size,0,none⟩ 1 1 [.int .i64 n,.int .i64 es,.int .i64 ed,.int .i64 (-1)] rfl rfl (cell_four_new _ _ _ _ _ _) (by intro u hu;simp at hu;rcases hu with rfl|rfl|rfl|rfl <;> rfl) ?c3 ?c4 ?c5 ?_)
    case c3=>unfold maxLen;omega
    case c4=>omega
    case c5=>simp;omega
    intro v' w4 hown' hgrow _
    have hbase:=fun q hq=>(hown3.lt q hq).1
    have B4:Below w.heap.size w w4:=(B3.alloc hz3 _).grown hgrow (by simp;omega) hbase
    have O4:w4.ownsRow w.heap.size 204 4 v' (F++[n]).length (edgesV W a (F++[n])):=by
     rw [edgesV_app,HEV.out]
     simpa using hown'
    have hrow4:=own_grown (hrow3.alloc (.cells #[.int .i64 n,.int .i64 es,.int .i64 ed,.int .i64 (-1)] 204)) hgrow (own_apart hrow3 hown3 (by decide))
    clear hown' hgrow hown3 B3
    go_wp2
    go_roundw
    case rel=>exact ⟨k+1,by omega,by go_num,by rw [HS.out];exact O4,hrow4,B4⟩
    case measure=>simp [intOf];omega
  ·have e:k=L.length:=by omega
   subst e
   have HMM:Hid (∀ n:Nat,n ∈ pick p L L.length↔Dir W H bl a n/\p n=true):=fun n=>by rw [pick_mem,HM.out n]
   have HRR:Hid ((pick p L L.length).Pairwise (·<·)):=pick_rise HR.out
   generalize pick p L L.length=F at *
   go_wp2
   go_ret
   exact ⟨_,F,rfl,hown,⟨HRR.out,HMM.out⟩,hB⟩
set_option maxHeartbeats 400000 in
theorem clo_conn {xb rb pb:Nat}{W H V:Int}{bl:Nat->Bool}(w:World)(n:Int)(q2:w.cell? ⟨xb,0,none⟩=some (.pointer (some ⟨rb,0,none⟩)))(p0:w.cell? ⟨rb,0,none⟩=some (.pointer (some ⟨pb,0,none⟩)))(g:GridAt w pb W H V bl)(s:StepsAt w)(hn:inB W H n=true) :
  Calls Tryz.prog 128 #[.int .i64 n,.pointer (some ⟨xb,0,none⟩)] w fun e w'=>e=.returned (.bool (cornB W H bl n))/\Below w.heap.size w w':=by
 have h1:=isc_any n w g s hn
 generalize cornB W H bl n=r at *
 go_enter Tryz.func128,Tryz.ntmps128
 go_wp2_with fail
 refine h1.mono ?_
 rintro e1 w1 ⟨rfl,m,rfl⟩
 clear h1
 go_wp2
 go_ret
 exact ⟨rfl,below_drewN (Below.refl _ _) _⟩
set_option maxHeartbeats 1000000 in
theorem conn_ok {rb pb mb:Nat}{W H V c:Int}{bl:Nat->Bool}(w:World)(G:GraphAt w rb pb mb W H V bl)(s:StepsAt w)(hc:inB W H c=true)(hfree:bl c.toNat=false) :
  Calls Tryz.prog 87 #[.pointer (some ⟨rb,0,none⟩),.int .i64 c] w fun e w'=>∃ v l,e=.returned (.tuple #[v,.nilIface])/\w'.ownsRow w.heap.size 204 4 v l.length (edgesV W c l)/\(l.Pairwise (·<·)/\∀ n:Nat,n ∈ l↔Dir W H bl c n/\cornB W H bl n=true)/\Below w.heap.size w w':=by
 obtain ⟨f,G,E⟩:=G
 obtain ⟨l1,l2,l3⟩:=G.lts
 have B0:Below w.heap.size w (w.alloc (.cells #[.pointer (some ⟨rb,0,none⟩)] 92)):=(Below.refl _ _).alloc (Nat.le_refl _) _
 have q0:(w.alloc (.cells #[.pointer (some ⟨rb,0,none⟩)] 92)).cell? ⟨w.heap.size,0,none⟩=some (.pointer (some ⟨rb,0,none⟩)):=World.cell?_alloc_at #[.pointer (some ⟨rb,0,none⟩)] 92 w.heap.size 0 rfl
 have G0:=G.below B0
 have h1:=check_any c (w.alloc (.cells #[.pointer (some ⟨rb,0,none⟩)] 92)) G0.ga
 have p0:=G0.p0
 rw [ffv_zero hc hfree,errV_nil] at h1
 clear G E
 go_enter Tryz.func87,Tryz.ntmps87
 go_wp2_with fail
 refine h1.mono ?_
 rintro e w1 ⟨rfl,hb1⟩
 have B1:=B0.trans (hb1.mono B0.size)
 have G1:=G0.below hb1
 have p1:=G1.p0
 have q1:=(hb1.cell (p:=⟨w.heap.size,0,none⟩) (by simp)).trans q0
 have s1:=s.below B1 (by omega)
 have hz1:=B1.size
 have hfind:=find_conn (rb:=w.heap.size) (p:=fun n=>cornB W H bl n) w1 G1.ga s1 (by omega) hc hfree (fun w' n hB' hn=>by
  have kk:∀ {a:Addr}{v:Value},w1.cell? a=some v->w'.cell? a=some v:=fun {a v} h=>(hB'.cell (World.block_lt_of_cell? w1 a h)).trans h
  exact clo_conn w' n (kk q1) (kk p1) (G1.ga.below hB' (by omega)) (s1.below hB' (by omega)) hn)
 clear h1 p0 q0 G0 B0 hb1
 go_wp2_with fail
 refine hfind.mono ?_
 rintro e w2 ⟨v,l,rfl,hown,hl,hb2⟩
 clear hfind
 have HL:Hid (l.Pairwise (·<·)/\∀ n:Nat,n ∈ l↔Dir W H bl c n/\cornB W H bl n=true):=hl
 clear hl
 go_wp2
 go_ret2
 exact ⟨v,l,rfl,own_base hown hz1,HL.out,B1.trans (hb2.mono hz1)⟩
end
section
open Go.RowKit
theorem Lvd.below {w w':World}{N lb most:Nat}{W H:Int}{bl:Nat->Bool}{es:Nat->List LE}(h:Lvd w N lb most W H bl es)(hb:Below w.heap.size w w'):Lvd w' N lb most W H bl es:=by
 obtain ⟨vb,eb,k,st,f,h1,h2,V⟩:=h
 exact ⟨vb,eb,k,st,f,h1,h2,V.below hb⟩
theorem cns_len {W H:Int}{bl:Nat->Bool}{c:Nat}{l:List Nat}(w1:1<=W)(w2:W<=16)(h1:1<=H)(h2:H<=16)(hr:l.Pairwise (·<·))(hl:Cns W H bl c l):l.length<=256/\∀ n ∈ l,n<256:=by
 have hwh:=wh_bd w1 w2 h1 h2
 have hm:∀ n ∈ l,n ∈ crs W H bl (W*H).toNat:=fun n hn=>by
  have h:=((hl n).1 hn).2
  have h4:0<=(n:Int)/\(n:Int)<W*H:=of_decide_eq_true (cornC_in w1 (cornB_iff.1 h))
  exact crs_mem.2 ⟨by omega,h⟩
 have he:l=(crs W H bl (W*H).toNat).filter (fun x=>decide (x ∈ l)) :=
  rise_eq hr (List.Pairwise.filter _ (crs_rise _ _ _ _)) (fun n=>by
   rw [List.mem_filter,decide_eq_true_iff]
   exact ⟨fun h=>⟨hm n h,h⟩,fun h=>h.2⟩)
 have a1:=congrArg List.length he
 have a2:=List.length_filter_le (fun x=>decide (x ∈ l)) (crs W H bl (W*H).toNat)
 have a3:=crs_len W H bl (W*H).toNat
 refine ⟨by omega,fun n hn=>?_⟩
 have:=(crs_mem.1 (hm n hn)).1
 omega
theorem rowI_of {w:World}{base c:Nat}{v:Value}{W:Int}{l:List Nat}(h:w.ownsRow base 204 4 v l.length (edgesV W (c:Int) l))(hl:∀ n ∈ l,n<256):∃ A cap,v=.slice A (frI W c l).length cap/\RowI w A (frI W c l):=by
 rw [<- lesV_edges W c l] at h
 have e:(frC W c l).length=l.length:=by unfold frC;rw [List.length_map]
 have h':w.ownsRow base 204 4 v (frC W c l).length (lesV (frC W c l)):=by rw [e];exact h
 obtain ⟨A,cap,rfl,hr,_⟩:=rowL_of h'
 refine ⟨A,cap,by rw [frI_len,e],fun i x hi=>?_⟩
 unfold frI at hi
 rw [List.getElem?_map] at hi
 cases hq:(frC W c l)[i]? with
 |none=>rw [hq] at hi;cases hi
 |some y =>
  rw [hq] at hi
  cases hi
  refine ⟨?_,hr i y hq⟩
  have hy:=List.mem_of_getElem? hq
  unfold frC at hy
  obtain ⟨m,hm,rfl⟩:=List.mem_map.1 hy
  have:=hl m hm
  exact wf_small (by show (0:Int)<=(m:Int);omega) (by show (m:Int)<256;omega)
end
section
open Go.RowKit
def clrF (W H:Int) (bl:Nat->Bool) (d:Nat):Nat->Int->Int->Nat
 |0,_,_=>0
 |n+1,x,y=>if mayB W H bl x y d then clrF W H bl d n (x+stepX d) (y+stepY d)+1 else 0
def clr (W H:Int) (bl:Nat->Bool) (x y:Int) (d:Nat):Nat:=clrF W H bl d 16 x y
theorem clrF_le (W H:Int)(bl:Nat->Bool)(d:Nat):∀ (n:Nat) (x y:Int),clrF W H bl d n x y<=n
 |0,_,_=>Nat.le_refl _
 |n+1,x,y=>by
  unfold clrF
  split
  ·have:=clrF_le W H bl d n (x+stepX d) (y+stepY d);omega
  ·omega
theorem clr_le (W H:Int)(bl:Nat->Bool)(x y:Int)(d:Nat):clr W H bl x y d<=16:=clrF_le W H bl d 16 x y
theorem at_iff {W H x y:Int}:atB W H x y=true↔(0<=x/\x<W/\0<=y/\y<H):=by unfold atB;exact decide_eq_true_iff
theorem open_at {W H x y:Int}{bl:Nat->Bool}(h:openB W H bl x y=true):atB W H x y=true:=by
 unfold openB at h
 rw [Bool.and_eq_true] at h
 exact h.1
theorem may_at {W H x y:Int}{bl:Nat->Bool}{d:Nat}(h:mayB W H bl x y d=true):atB W H x y=true/\atB W H (x+stepX d) (y+stepY d)=true:=by
 unfold mayB at h
 simp only [Bool.and_eq_true] at h
 exact ⟨open_at h.1.1.1,open_at h.1.1.2⟩
theorem step_cases {d:Nat}(hd:d<8):(stepX d=0/\stepY d=-1)\/(stepX d=1/\stepY d=-1)\/(stepX d=1/\stepY d=0)\/(stepX d=1/\stepY d=1)\/(stepX d=0/\stepY d=1)\/(stepX d=-1/\stepY d=1)\/(stepX d=-1/\stepY d=0)\/(stepX d=-1/\stepY d=-1):=by
 have hks:d=0\/d=1\/d=2\/d=3\/d=4\/d=5\/d=6\/d=7:=by omega
 rcases hks with rfl|rfl|rfl|rfl|rfl|rfl|rfl|rfl <;> decide
def room (dx dy x y:Int):Int:=if dx=1 then 15 - x else if dx=-1 then x else if dy=1 then 15 - y else y
theorem room_at {W H x y:Int}{d:Nat}(w2:W<=16)(h2:H<=16)(hd:d<8)(h:atB W H x y=true):0<=room (stepX d) (stepY d) x y/\room (stepX d) (stepY d) x y<=15/\room (stepX d) (stepY d) (x+stepX d) (y+stepY d)=room (stepX d) (stepY d) x y - 1:=by
 have h:=at_iff.1 h
 rcases step_cases hd with ⟨e1,e2⟩|⟨e1,e2⟩|⟨e1,e2⟩|⟨e1,e2⟩|⟨e1,e2⟩|⟨e1,e2⟩|⟨e1,e2⟩|⟨e1,e2⟩ <;> (rw [e1,e2];unfold room;simp;omega)
theorem clrF_more {W H:Int}{bl:Nat->Bool}{d:Nat}(w2:W<=16)(h2:H<=16)(hd:d<8):∀ (n:Nat) (x y:Int),room (stepX d) (stepY d) x y<=n->clrF W H bl d (n+1) x y=clrF W H bl d n x y
 |0,x,y,hr=>by
  show (if mayB W H bl x y d then _ else 0)=0
  cases hm:mayB W H bl x y d with
  |false=>rfl
  |true =>
   obtain ⟨a,b⟩:=may_at hm
   have r1:=room_at w2 h2 hd a
   have r2:=room_at w2 h2 hd b
   omega
 |n+1,x,y,hr=>by
  show (if mayB W H bl x y d then clrF W H bl d (n+1) (x+stepX d) (y+stepY d)+1 else 0)=(if mayB W H bl x y d then clrF W H bl d n (x+stepX d) (y+stepY d)+1 else 0)
  cases hm:mayB W H bl x y d with
  |false=>rfl
  |true =>
   obtain ⟨a,b⟩:=may_at hm
   have r1:=room_at w2 h2 hd a
   rw [clrF_more w2 h2 hd n _ _ (by omega)]
theorem clr_may {W H x y:Int}{bl:Nat->Bool}{d:Nat}(w2:W<=16)(h2:H<=16)(hd:d<8)(h:mayB W H bl x y d=true):clr W H bl x y d=clr W H bl (x+stepX d) (y+stepY d) d+1:=by
 obtain ⟨a,b⟩:=may_at h
 have r1:=room_at w2 h2 hd a
 have e:clrF W H bl d 16 (x+stepX d) (y+stepY d)=clrF W H bl d 15 (x+stepX d) (y+stepY d):=clrF_more w2 h2 hd 15 _ _ (by omega)
 unfold clr
 rw [e]
 show (if mayB W H bl x y d then _ else 0)=_
 rw [h];rfl
theorem clr_not {W H x y:Int}{bl:Nat->Bool}{d:Nat}(h:mayB W H bl x y d=false):clr W H bl x y d=0:=by
 unfold clr
 show (if mayB W H bl x y d then _ else 0)=_
 rw [h];rfl
def CBk (dx dy x y u v:Int):Prop:=∃ k:Nat,u=x - k*dx/\v=y - k*dy
theorem CBk.more {dx dy x y u v:Int}(h:CBk dx dy x y (u+dx) (v+dy)):CBk dx dy x y u v:=by
 obtain ⟨k,h1,h2⟩:=h
 refine ⟨k+1,?_,?_⟩
 ·rw [Int.natCast_add,Int.add_mul];omega
 ·rw [Int.natCast_add,Int.add_mul];omega
def idx (W x y:Int):Nat:=(y*W+x).toNat
theorem idx_parts {W H x y:Int}(h:atB W H x y=true):((idx W x y:Nat):Int)=y*W+x/\(idx W x y:Int) % W=x/\(idx W x y:Int) / W=y:=by
 obtain ⟨h1,h2,h3,h4⟩:=at_iff.1 h
 have hp:0<=y*W:=Int.mul_nonneg h3 (by omega)
 have e:((idx W x y:Nat):Int)=y*W+x:=by unfold idx;omega
 refine ⟨e,?_,?_⟩
 ·rw [e,Int.add_comm,Int.add_mul_emod_self_right];exact Int.emod_eq_of_lt h1 h2
 ·rw [e,Int.add_comm,Int.add_mul_ediv_right _ _ (by omega),Int.ediv_eq_zero_of_lt h1 h2];omega
theorem idx_lt {W H x y:Int}(w1:1<=W)(w2:W<=16)(h1:1<=H)(h2:H<=16)(h:atB W H x y=true):idx W x y<256/\(idx W x y:Int)<W*H:=by
 obtain ⟨e,_⟩:=idx_parts h
 obtain ⟨a1,a2,a3,a4⟩:=at_iff.1 h
 obtain ⟨b1,b2,b3⟩:=idx_bd w1 w2 h1 h2 a1 a2 a3 a4
 omega
theorem idx_inj {W H x y u v:Int}(h:atB W H x y=true)(k:atB W H u v=true)(e:idx W x y=idx W u v):x=u/\y=v:=by
 obtain ⟨_,a,b⟩:=idx_parts h
 obtain ⟨_,c,d⟩:=idx_parts k
 rw [e] at a b
 exact ⟨a.symm.trans c,b.symm.trans d⟩
theorem at_place {W H:Int}(w1:1<=W){c:Int}(h:inB W H c=true):atB W H (c % W) (c / W)=true/\(idx W (c % W) (c / W):Int)=c:=by
 have hc:0<=c/\c<W*H:=of_decide_eq_true h
 have x1:0<=c % W:=Int.emod_nonneg _ (by omega)
 have x2:c % W<W:=Int.emod_lt_of_pos _ (by omega)
 have y1:0<=c / W:=Int.ediv_nonneg hc.1 (by omega)
 have y3:c / W<H:=Int.ediv_lt_of_lt_mul (by omega) (by rw [Int.mul_comm];exact hc.2)
 have a:atB W H (c % W) (c / W)=true:=at_iff.2 ⟨x1,x2,y1,y3⟩
 refine ⟨a,?_⟩
 rw [(idx_parts a).1,Int.mul_comm]
 exact Int.mul_ediv_add_emod c W
def Right (W H:Int) (bl:Nat->Bool) (T:Nat->Nat->Nat) (d:Nat):Prop:=∀ u v,atB W H u v=true->T (idx W u v) d=clr W H bl u v d
def upd2 (T:Nat->Nat->Nat) (c d n:Nat):Nat->Nat->Nat:=fun i e=>if i=c/\e=d then n else T i e
def CTurn (W H:Int) (bl:Nat->Bool) (d:Nat) (T T':Nat->Nat->Nat):Prop:=∀ u v e,atB W H u v=true->T' (idx W u v) e=T (idx W u v) e\/(e=d/\T' (idx W u v) d=clr W H bl u v d)
theorem CTurn.refl (W H:Int)(bl:Nat->Bool)(d:Nat)(T:Nat->Nat->Nat):CTurn W H bl d T T:=fun _ _ _ _=>Or.inl rfl
theorem CTurn.trans {W H:Int}{bl:Nat->Bool}{d:Nat}{T T' T2:Nat->Nat->Nat}(h:CTurn W H bl d T T')(k:CTurn W H bl d T' T2):CTurn W H bl d T T2:=fun u v e ha=>by
 rcases k u v e ha with k|k
 ·rcases h u v e ha with h|⟨h0,h⟩
  ·exact Or.inl (k.trans h)
  ·exact Or.inr ⟨h0,by rw [h0] at k;exact k.trans h⟩
 ·exact Or.inr k
theorem CTurn.keep {W H:Int}{bl:Nat->Bool}{d:Nat}{T T':Nat->Nat->Nat}(h:CTurn W H bl d T T'){u v:Int}(ha:atB W H u v=true){e:Nat}(hr:T (idx W u v) e=clr W H bl u v e):T' (idx W u v) e=clr W H bl u v e:=by
 rcases h u v e ha with h|⟨rfl,h⟩
 ·exact h.trans hr
 ·exact h
theorem CTurn.set {W H:Int}{bl:Nat->Bool}{d:Nat}{T:Nat->Nat->Nat}{x y:Int}(ha:atB W H x y=true){n:Nat}(hn:n=clr W H bl x y d):CTurn W H bl d T (upd2 T (idx W x y) d n):=fun u v e hb=>by
 by_cases q:idx W u v=idx W x y/\e=d
 ·obtain ⟨rfl,rfl⟩:=idx_inj hb ha q.1
  obtain ⟨_,rfl⟩:=q
  exact Or.inr ⟨rfl,(if_pos ⟨rfl,rfl⟩).trans hn⟩
 ·exact Or.inl (if_neg q)
theorem upd2_upd2 (T:Nat->Nat->Nat)(c d n m:Nat):upd2 (upd2 T c d n) c d m=upd2 T c d m:=by
 funext i e
 unfold upd2
 split <;> rfl
theorem at_line {W H x y:Int}{d:Nat}(hd:d<8){j k:Nat}(hjk:k<=j)(h:atB W H x y=true)(hj:atB W H (x - j*stepX d) (y - j*stepY d)=true):atB W H (x - k*stepX d) (y - k*stepY d)=true:=by
 rw [at_iff] at *
 rcases step_cases hd with ⟨e1,e2⟩|⟨e1,e2⟩|⟨e1,e2⟩|⟨e1,e2⟩|⟨e1,e2⟩|⟨e1,e2⟩|⟨e1,e2⟩|⟨e1,e2⟩ <;> (rw [e1,e2] at hj ⊢;omega)
theorem line_short {W H x y:Int}{d:Nat}(w2:W<=16)(h2:H<=16)(hd:d<8){k:Nat}(h:atB W H x y=true)(hj:atB W H (x - k*stepX d) (y - k*stepY d)=true):k<=15:=by
 rw [at_iff] at *
 rcases step_cases hd with ⟨e1,e2⟩|⟨e1,e2⟩|⟨e1,e2⟩|⟨e1,e2⟩|⟨e1,e2⟩|⟨e1,e2⟩|⟨e1,e2⟩|⟨e1,e2⟩ <;> (rw [e1,e2] at hj;omega)
theorem end_ex {W H:Int}{d:Nat}(w2:W<=16)(h2:H<=16)(hd:d<8):∀ (n:Nat) (u v:Int),room (stepX d) (stepY d) u v<=n->atB W H u v=true->∃ x y,atB W H x y=true/\atB W H (x+stepX d) (y+stepY d)=false/\CBk (stepX d) (stepY d) x y u v
 |n,u,v,hr,ha=>by
  cases hb:atB W H (u+stepX d) (v+stepY d) with
  |false=>exact ⟨u,v,ha,hb,0,by simp,by simp⟩
  |true =>
   have r1:=room_at w2 h2 hd ha
   have r2:=room_at w2 h2 hd hb
   match n,hr with
   |0,hr=>omega
   |n+1,hr =>
    obtain ⟨x,y,h1,h3,h4⟩:=end_ex w2 h2 hd n (u+stepX d) (v+stepY d) (by omega) hb
    exact ⟨x,y,h1,h3,h4.more⟩
structure Cnt (W H:Int) (bl:Nat->Bool) (d:Nat) (x y:Int) (k:Nat) (T0 T:Nat->Nat->Nat):Prop where
 turn:CTurn W H bl d T0 T
 done:∀ j:Nat,j<k->atB W H (x - j*stepX d) (y - j*stepY d)=true/\T (idx W (x - j*stepX d) (y - j*stepY d)) d=clr W H bl (x - j*stepX d) (y - j*stepY d) d
theorem Cnt.start (W H:Int)(bl:Nat->Bool)(d:Nat)(x y:Int)(T:Nat->Nat->Nat):Cnt W H bl d x y 0 T T:=⟨CTurn.refl _ _ _ _ _,fun _ h=>absurd h (Nat.not_lt_zero _)⟩
theorem Cnt.ahead {W H:Int}{bl:Nat->Bool}{d:Nat}{x y:Int}{k:Nat}{T0 T:Nat->Nat->Nat}(h:Cnt W H bl d x y k T0 T)
  (h0:mayB W H bl x y d=true->T0 (idx W (x+stepX d) (y+stepY d)) d=clr W H bl (x+stepX d) (y+stepY d) d) {px py:Int}(ex:px=x - k*stepX d) (ey:py=y - k*stepY d) (hm:mayB W H bl px py d=true) :
  T (idx W (px+stepX d) (py+stepY d)) d=clr W H bl (px+stepX d) (py+stepY d) d:=by
 cases k with
 |zero =>
  have e1:px=x:=by simpa using ex
  have e2:py=y:=by simpa using ey
  subst e1 e2
  exact h.turn.keep (may_at hm).2 (h0 hm)
 |succ j =>
  have:=(h.done j (Nat.lt_succ_self j)).2
  rw [Int.natCast_add,Int.add_mul] at ex ey
  have e1:px+stepX d=x - j*stepX d:=by omega
  have e2:py+stepY d=y - j*stepY d:=by omega
  rw [e1,e2]
  exact this
theorem Cnt.next {W H:Int}{bl:Nat->Bool}{d:Nat}{x y:Int}{k n:Nat}{T0 T:Nat->Nat->Nat}(h:Cnt W H bl d x y k T0 T){px py:Int}(ex:px=x - k*stepX d)(ey:py=y - k*stepY d)(ha:atB W H px py=true)
  (hn:n=clr W H bl px py d):Cnt W H bl d x y (k+1) T0 (upd2 T (idx W px py) d n):=by
 have ht:CTurn W H bl d T (upd2 T (idx W px py) d n):=CTurn.set ha hn
 refine ⟨h.turn.trans ht,fun j hj=>?_⟩
 by_cases q:j<k
 ·obtain ⟨a,b⟩:=h.done j q
  exact ⟨a,ht.keep a b⟩
 ·have:j=k:=by omega
  subst this
  rw [<- ex,<- ey]
  exact ⟨ha,(if_pos ⟨rfl,rfl⟩).trans hn⟩
theorem Cnt.short {W H:Int}{bl:Nat->Bool}{d:Nat}{x y:Int}{k:Nat}{T0 T:Nat->Nat->Nat}(w2:W<=16)(h2:H<=16)(hd:d<8)(h:Cnt W H bl d x y k T0 T):k<=16:=by
 cases k with
 |zero=>omega
 |succ j =>
  have a:=(h.done 0 (by omega)).1
  have b:=(h.done j (by omega)).1
  simp only [Int.natCast_zero,Int.zero_mul,Int.sub_zero] at a
  have:=line_short w2 h2 hd a b
  omega
structure Counted (W H:Int) (bl:Nat->Bool) (d:Nat) (x y:Int) (T T':Nat->Nat->Nat):Prop where
 turn:CTurn W H bl d T T'
 right:∀ u v,atB W H x y=true->CBk (stepX d) (stepY d) x y u v->atB W H u v=true->T' (idx W u v) d=clr W H bl u v d
theorem Cnt.over {W H:Int}{bl:Nat->Bool}{d:Nat}{x y:Int}{k:Nat}{T0 T:Nat->Nat->Nat}(hd:d<8)(h:Cnt W H bl d x y k T0 T)(hk:atB W H (x - k*stepX d) (y - k*stepY d)=false):Counted W H bl d x y T0 T:=by
 refine ⟨h.turn,fun u v ha ⟨j,e1,e2⟩ hb=>?_⟩
 subst e1 e2
 by_cases q:j<k
 ·exact (h.done j q).2
 ·rw [at_line hd (Nat.le_of_not_lt q) ha hb] at hk
  cases hk
def left (x y px py:Int):Nat:=20 - max (x - px).natAbs (y - py).natAbs
def Ends (W H:Int) (bl:Nat->Bool) (T:Nat->Nat->Nat) (c e:Nat):Prop:=∀ x y d,atB W H x y=true->d<8->atB W H (x+stepX d) (y+stepY d)=false->(idx W x y<c\/(idx W x y=c/\d<e)) ->
 ∀ u v,CBk (stepX d) (stepY d) x y u v->atB W H u v=true->T (idx W u v) d=clr W H bl u v d
theorem Ends.start (W H:Int)(bl:Nat->Bool)(T:Nat->Nat->Nat):Ends W H bl T 0 0:=fun _ _ _ _ _ _ h=>absurd h (by omega)
theorem Ends.pass {W H:Int}{bl:Nat->Bool}{T:Nat->Nat->Nat}{c e:Nat}(h:Ends W H bl T c e){px py:Int}(hp:atB W H px py=true)(hc:idx W px py=c)(hn:atB W H (px+stepX e) (py+stepY e)=true):Ends W H bl T c (e+1):=fun x y d ha hd hb hi=>by
 by_cases q:idx W x y=c/\d=e
 ·obtain ⟨q1,rfl⟩:=q
  obtain ⟨rfl,rfl⟩:=idx_inj hp ha (hc.trans q1.symm)
  rw [hn] at hb;cases hb
 ·exact h x y d ha hd hb (by omega)
theorem Ends.count {W H:Int}{bl:Nat->Bool}{T T':Nat->Nat->Nat}{c e:Nat}(h:Ends W H bl T c e){px py:Int}(hp:atB W H px py=true)(hc:idx W px py=c)(hn:Counted W H bl e px py T T'):Ends W H bl T' c (e+1):=fun x y d ha hd hb hi u v hk hu=>by
 by_cases q:idx W x y=c/\d=e
 ·obtain ⟨q1,rfl⟩:=q
  obtain ⟨rfl,rfl⟩:=idx_inj hp ha (hc.trans q1.symm)
  exact hn.right u v ha hk hu
 ·exact hn.turn.keep hu (h x y d ha hd hb (by omega) u v hk hu)
theorem Ends.next {W H:Int}{bl:Nat->Bool}{T:Nat->Nat->Nat}{c:Nat}(h:Ends W H bl T c 8):Ends W H bl T (c+1) 0:=fun x y d ha hd hb hi=>h x y d ha hd hb (by omega)
theorem Ends.all {W H:Int}{bl:Nat->Bool}{T:Nat->Nat->Nat}{c:Nat}(w1:1<=W)(w2:W<=16)(h1:1<=H)(h2:H<=16)(hc:W*H<=c)(h:Ends W H bl T c 0){d:Nat}(hd:d<8):Right W H bl T d:=fun u v hu=>by
 have r:=room_at w2 h2 hd hu
 obtain ⟨x,y,ha,hb,hk⟩:=end_ex w2 h2 hd 15 u v r.2.1 hu
 have:=idx_lt w1 w2 h1 h2 ha
 exact h x y d ha hd hb (Or.inl (by omega)) u v hk hu
theorem end_not {W H x y:Int}{bl:Nat->Bool}{d:Nat}(h:atB W H (x+stepX d) (y+stepY d)=false):mayB W H bl x y d=false:=by
 cases hm:mayB W H bl x y d with
 |false=>rfl
 |true=>rw [(may_at hm).2] at h;cases h
end
section
open Go.RowKit
set_option maxHeartbeats 400000 in
theorem version_any {b:Nat}{W H V:Int}{bl:Nat->Bool}(w:World)(g:GridAt w b W H V bl) :
  Calls Tryz.prog 58 #[.pointer (some ⟨b,0,none⟩)] w fun e w'=>e=.returned (.int .i64 V)/\w'=w:=by
 have c2:=g.c2
 go_enter Tryz.func58,Tryz.ntmps58
 go_wp2
 go_ret
 exact ⟨rfl,rfl⟩
set_option maxHeartbeats 400000 in
theorem size_any {b:Nat}{W H V:Int}{bl:Nat->Bool}(w:World)(g:GridAt w b W H V bl) :
  Calls Tryz.prog 92 #[.pointer (some ⟨b,0,none⟩)] w fun e w'=>e=.returned (.tuple #[.int .i64 W,.int .i64 H])/\∃ m,w'=w.drewN m:=by
 have c0:=g.c0
 have c1:=g.c1
 go_enter Tryz.func92,Tryz.ntmps92
 go_wp2
 go_quiet (fail)
 go_wp2
 go_ret2
 exact ⟨rfl,_,rfl⟩
set_option maxHeartbeats 400000 in
theorem cell_in {b:Nat}{W H V:Int}{bl:Nat->Bool}(x y:Int)(w:World)(g:GridAt w b W H V bl)(hr:atB W H x y=true) :
  Calls Tryz.prog 152 #[.pointer (some ⟨b,0,none⟩),.int .i64 x,.int .i64 y] w fun e w'=>e=.returned (.tuple #[.int .i64 (y*W+x),.nilIface])/\w'=w:=by
 have h:0<=x/\x<W/\0<=y/\y<H:=of_decide_eq_true hr
 have hp:∀ w:World,GridAt w b W H V bl->Calls Tryz.prog 139 #[.pointer (some ⟨b,0,none⟩),.int .i64 x,.int .i64 y] w fun e w'=>e=.returned (.bool true)/\w'=w:=fun w g=>hr ▸ hasPlace_any x y w g
 have gw:=g.w2
 have gh:=g.h2
 have hn:=number_any x y w g (by omega) (by omega) (by omega) (by omega)
 go_enter Tryz.func152,Tryz.ntmps152
 go_wp2_with (first|(go_at_call 139;refine (hp _ g).mono ?_;rintro e w' ⟨rfl,rfl⟩)|(go_at_call 140;refine hn.mono ?_;rintro e w' ⟨rfl,rfl⟩))
 go_ret2
 exact ⟨rfl,rfl⟩
set_option maxHeartbeats 400000 in
theorem cell_out {b:Nat}{W H V:Int}{bl:Nat->Bool}(x y:Int)(w:World)(g:GridAt w b W H V bl)(hr:atB W H x y=false) :
  Calls Tryz.prog 152 #[.pointer (some ⟨b,0,none⟩),.int .i64 x,.int .i64 y] w fun e w'=>e=.returned (.tuple #[.int .i64 0,.iface 54 (.int .i64 1)])/\w'=w:=by
 have hp:∀ w:World,GridAt w b W H V bl->Calls Tryz.prog 139 #[.pointer (some ⟨b,0,none⟩),.int .i64 x,.int .i64 y] w fun e w'=>e=.returned (.bool false)/\w'=w:=fun w g=>hr ▸ hasPlace_any x y w g
 go_enter Tryz.func152,Tryz.ntmps152
 go_wp2_with (go_at_call 139;refine (hp _ g).mono ?_;rintro e w' ⟨rfl,rfl⟩)
 go_ret2
 exact ⟨rfl,rfl⟩
end
section
open Go.RowKit
theorem Free.keep {D:Nat->Prop}{w w':World}{b:Nat}(f:Free w b)(hb:b<w.heap.size)(K:Keep D w w')(h:¬ D b):Free w' b:=fun o=>(K.frozen (p:=⟨b,o,none⟩) hb h).trans (f o)
structure TabAt (w:World) (tb pb:Nat) (W H V:Int) (bl:Nat->Bool) (T:Nat->Nat->Nat):Prop where
 p0:w.cell? ⟨tb,0,none⟩=some (.pointer (some ⟨pb,0,none⟩))
 ts:∀ c d,c<256->d<8->w.cell? ⟨tb,1+c*8+d,none⟩=some (.int .i64 (T c d:Nat))
 fr:Free w tb
 ga:GridAt w pb W H V bl
 gf:Free w pb
 st:StepsAt w
 ne:tb≠pb
 n0:1≠tb
 n1:1≠pb
theorem TabAt.blocks {w:World}{tb pb:Nat}{W H V:Int}{bl:Nat->Bool}{T:Nat->Nat->Nat}(t:TabAt w tb pb W H V bl T):tb<w.heap.size/\pb<w.heap.size:=⟨World.block_lt_of_cell? w _ t.p0,World.block_lt_of_cell? w _ t.ga.c0⟩
theorem TabAt.keep {D:Nat->Prop}{w w':World}{tb pb:Nat}{W H V:Int}{bl:Nat->Bool}{T:Nat->Nat->Nat}(t:TabAt w tb pb W H V bl T)(K:Keep D w w')(h1:¬ D tb)(h2:¬ D pb)(h3:¬ D 1):TabAt w' tb pb W H V bl T :=
 ⟨K.cellOf t.p0 h1,fun c d hc hd=>K.cellOf (t.ts c d hc hd) h1,t.fr.keep t.blocks.1 K h1,t.ga.keep K h2,t.gf.keep t.blocks.2 K h2,t.st.keep K h3,t.ne,t.n0,t.n1⟩
theorem TabAt.drewN {w:World}{tb pb:Nat}{W H V:Int}{bl:Nat->Bool}{T:Nat->Nat->Nat}(t:TabAt w tb pb W H V bl T)(m:Nat):TabAt (w.drewN m) tb pb W H V bl T :=
 ⟨t.p0,t.ts,t.fr,t.ga.drewN m,t.gf,t.st.drewN m,t.ne,t.n0,t.n1⟩
theorem off_ne {c d c' d':Nat}(hd:d<8)(hd':d'<8)(h:¬ (c'=c/\d'=d)):1+c'*8+d'≠1+c*8+d:=by omega
theorem TabAt.set {w:World}{tb pb:Nat}{W H V:Int}{bl:Nat->Bool}{T:Nat->Nat->Nat}(t:TabAt w tb pb W H V bl T){c d:Nat}(hc:c<256)(hd:d<8)(n:Nat):TabAt (w.setCell ⟨tb,1+c*8+d,none⟩ (.int .i64 n)) tb pb W H V bl (upd2 T c d n):=by
 have K:Keep (fun k=>k=tb) w (w.setCell ⟨tb,1+c*8+d,none⟩ (.int .i64 n)):=(Keep.refl (fun k=>k=tb) w).setCell (p:=⟨tb,1+c*8+d,none⟩) (fun _=>rfl) _
 refine ⟨?_,fun c' d' hc' hd'=>?_,fun o=>by simpa using t.fr o,t.ga.keep K (fun q=>t.ne q.symm),t.gf.keep t.blocks.2 K (fun q=>t.ne q.symm),t.st.keep K t.n0,t.ne,t.n0,t.n1⟩
 ·rw [World.cell?_setCell_other _ _ _ _ (addr_ne (by omega))];exact t.p0
 ·unfold upd2
  by_cases q:c'=c/\d'=d
  ·rw [if_pos q,q.1,q.2]
   exact World.cell?_setCell_same _ _ _ (t.ts c d hc hd)
  ·rw [if_neg q,World.cell?_setCell_other _ _ _ _ (addr_ne (off_ne hd hd' q).symm)]
   exact t.ts c' d' hc' hd'
theorem cell_v {b:Nat}{W H V:Int}{bl:Nat->Bool}{x y:Int}{c:Nat}(hc:idx W x y=c)(w:World)(g:GridAt w b W H V bl)(hr:atB W H x y=true) :
  Calls Tryz.prog 152 #[.pointer (some ⟨b,0,none⟩),.int .i64 x,.int .i64 y] w fun e w'=>e=.returned (.tuple #[.int .i64 (c:Int),.nilIface])/\w'=w:=by
 have:=cell_in x y w g hr
 rw [<- (idx_parts hr).1,hc] at this
 exact this
set_option maxHeartbeats 400000 in
theorem isEnd_any {tb pb:Nat}{W H V:Int}{bl:Nat->Bool}{T:Nat->Nat->Nat}(x y:Int)(d:Nat)(w:World)(t:TabAt w tb pb W H V bl T)(hd:d<8)(x1:-50<=x)(x2:x<=50)(y1:-50<=y)(y2:y<=50) :
  Calls Tryz.prog 110 #[.pointer (some ⟨tb,0,none⟩),.int .i64 x,.int .i64 y,.int .i64 d] w fun e w'=>e=.returned (.bool (!atB W H (x+stepX d) (y+stepY d)))/\∃ m,w'=w.drewN m:=by
 obtain ⟨s1,s2,s3,s4⟩:=step_bd d
 have hs:=fun w h=>step_any d w h hd
 have hp:=t.p0
 generalize stepX d=dx at *
 generalize stepY d=dy at *
 cases ha:atB W H (x+dx) (y+dy) with
 |true =>
  have hc:=fun w g=>cell_in (b:=pb) (W:=W) (H:=H) (V:=V) (bl:=bl) (x+dx) (y+dy) w g ha
  go_enter Tryz.func110,Tryz.ntmps110
  go_wp2_with (first|(go_at_call 151;refine (hs _ t.st).mono ?_;rintro e w' ⟨rfl,m,rfl⟩)|(go_at_call 152;refine (hc _ (t.ga.drewN _)).mono ?_;rintro e w' ⟨rfl,rfl⟩))
  go_ret
  exact ⟨rfl,_,rfl⟩
 |false =>
  have hc:=fun w g=>cell_out (b:=pb) (W:=W) (H:=H) (V:=V) (bl:=bl) (x+dx) (y+dy) w g ha
  go_enter Tryz.func110,Tryz.ntmps110
  go_wp2_with (first|(go_at_call 151;refine (hs _ t.st).mono ?_;rintro e w' ⟨rfl,m,rfl⟩)|(go_at_call 152;refine (hc _ (t.ga.drewN _)).mono ?_;rintro e w' ⟨rfl,rfl⟩))
  go_ret
  exact ⟨rfl,_,rfl⟩
end
section
open Go.RowKit
theorem cwrap_small {n:Int}(h1:-1000000<=n)(h2:n<=1000000):IntKind.i64.wrap n=n:=by
 unfold IntKind.wrap
 simp [IntKind.bits,IntKind.signed]
 omega
def CountPost (w w':World) (e:Ending) (tb pb:Nat) (W H V:Int) (bl:Nat->Bool) (d:Nat) (x y:Int) (T:Nat->Nat->Nat):Prop :=
 e=.returned (.tuple #[])/\∃ T',TabAt w' tb pb W H V bl T'/\Counted W H bl d x y T T'/\Keep (fun k=>k=tb) w w'
theorem to_idx {W H px py:Int}{bl:Nat->Bool}{d:Nat}(hm:mayB W H bl px py d=true):((idx W px py:Nat):Int)+(stepY d*W+stepX d)=(idx W (px+stepX d) (py+stepY d):Nat):=by
 obtain ⟨a,b⟩:=may_at hm
 rw [(idx_parts a).1,(idx_parts b).1,Int.add_mul]
 omega
theorem cto_v {b:Nat}{W H V c r:Int}{bl:Nat->Bool}{d:Nat}(hr:c+(stepY d*W+stepX d)=r)(w:World)(g:GridAt w b W H V bl)(s:StepsAt w)(hd:d<8)(c1:-1000<=c)(c2:c<=1000) :
  Calls Tryz.prog 154 #[.pointer (some ⟨b,0,none⟩),.int .i64 c,.int .i64 d] w fun e w'=>e=.returned (.int .i64 r)/\∃ m,w'=w.drewN m:=hr ▸ to_any c d w g s hd c1 c2
set_option maxHeartbeats 4000000 in
set_option maxRecDepth 1000000 in
theorem count_any {tb pb:Nat}{W H V:Int}{bl:Nat->Bool}{T:Nat->Nat->Nat}(x y:Int)(d:Nat)(w:World)(t:TabAt w tb pb W H V bl T)(hd:d<8)(x1:-50<=x)(x2:x<=50)(y1:-50<=y)(y2:y<=50)
  (h0:mayB W H bl x y d=true->T (idx W (x+stepX d) (y+stepY d)) d=clr W H bl (x+stepX d) (y+stepY d) d) :
  Calls Tryz.prog 111 #[.pointer (some ⟨tb,0,none⟩),.int .i64 x,.int .i64 y,.int .i64 d] w fun e w'=>CountPost w w' e tb pb W H V bl d x y T:=by
 obtain ⟨s1,s2,s3,s4⟩:=step_bd d
 have hs:=fun w h=>step_any d w h hd
 have w1':=t.ga.w1
 have w2':=t.ga.w2
 have h1':=t.ga.h1
 have h2':=t.ga.h2
 have d0:(0:Int)<=(d:Int):=by omega
 have d8:(d:Int)<8:=by omega
 go_enter Tryz.func111,Tryz.ntmps111
 go_wp2_with (go_at_call 151;refine (hs _ t.st).mono ?_;rintro e w' ⟨rfl,m,rfl⟩)
 go_loopg [1,2] 17 (fun gk xv yv wr=>∃ (k:Nat) (px py:Int) (T':Nat->Nat->Nat),gk=17 - k/\xv=.int .i64 px/\yv=.int .i64 py/\px=x - k*stepX d/\py=y - k*stepY d/\-100<=px/\px<=100/\-100<=py/\py<=100/\TabAt wr tb pb W H V bl T'/\Cnt W H bl d x y k T T'/\Keep (fun k=>k=tb) w wr)
 case atStart=>exact ⟨0,x,y,T,rfl,rfl,rfl,by simp,by simp,by omega,by omega,by omega,by omega,t.drewN m,Cnt.start W H bl d x y T,(Keep.refl _ w).drewN m⟩
 case round =>
  obtain ⟨k,px,py,T',hgk,rfl,rfl,ex,ey,b1,b2,b3,b4,tr,C,K⟩:=hrel
  have HG:Hid (gk=17 - k):=hgk
  have HX:Hid (px=x - k*stepX d):=ex
  have HY:Hid (py=y - k*stepY d):=ey
  have hk:=C.short w2' h2' hd
  clear hgk ex ey hs
  have hp:=tr.p0
  cases ha:atB W H px py with
  |false =>
   have hc:=cell_out (b:=pb) (W:=W) (H:=H) (V:=V) (bl:=bl) px py wr tr.ga ha
   go_wp2_with (go_at_call 152;refine hc.mono ?_;rintro e w' ⟨rfl,rfl⟩)
   have CO:Counted W H bl d x y T T':=C.over hd (by rw [<- HX.out,<- HY.out];exact ha)
   exact bodyPost_ret (v:=.tuple #[]) (by simp [results,Tryz.results111,go_sem]) rfl ⟨rfl,T',tr,CO,K⟩
  |true =>
   obtain ⟨c,hci⟩:∃ c,idx W px py=c:=⟨_,rfl⟩
   have hc:=cell_v hci wr tr.ga ha
   have hcl:=(idx_lt w1' w2' h1' h2' ha).1
   rw [hci] at hcl
   have hcz:(c:Int)<256:=by omega
   have hcc:=tr.ts c d hcl hd
   have hfr:=tr.fr (1+c*8+d)
   have T1:TabAt (wr.setCell ⟨tb,1+c*8+d,none⟩ (.int .i64 0)) tb pb W H V bl (upd2 T' c d 0):=tr.set hcl hd 0
   have K1:Keep (fun k=>k=tb) w (wr.setCell ⟨tb,1+c*8+d,none⟩ (.int .i64 0)):=K.setCell (p:=⟨tb,1+c*8+d,none⟩) (fun _=>rfl) _
   have nx:px - stepX d=x - ((k+1:Nat):Int)*stepX d:=by rw [HX.out,Int.natCast_add,Int.add_mul];omega
   have ny:py - stepY d=y - ((k+1:Nat):Int)*stepY d:=by rw [HY.out,Int.natCast_add,Int.add_mul];omega
   have HNX:Hid (px - stepX d=x - ((k+1:Nat):Int)*stepX d):=nx
   have HNY:Hid (py - stepY d=y - ((k+1:Nat):Int)*stepY d):=ny
   clear nx ny
   obtain ⟨i1,i2,i3,i4⟩:=at_iff.1 ha
   cases hm:mayB W H bl px py d with
   |false =>
    have C1:Cnt W H bl d x y (k+1) T (upd2 T' (idx W px py) d 0):=C.next HX.out HY.out ha (clr_not hm).symm
    rw [hci] at C1
    go_wp2_with (first|(go_at_call 152;refine hc.mono ?_;rintro e w' ⟨rfl,rfl⟩))
    clear tr K hc hcc hfr hp
    generalize w'.setCell ⟨tb,1+c*8+d,none⟩ (.int .i64 0)=W1 at *
    refine (may_v hm W1 T1.ga T1.st hd b1 b2 b3 b4).mono ?_
    rintro e w2 ⟨rfl,m2,rfl⟩
    go_wp2
    go_roundg (17 - (k+1))
    case measure=>have:=HG.out;omega
    case rel=>exact ⟨k+1,px - stepX d,py - stepY d,_,rfl,rfl,rfl,HNX.out,HNY.out,by omega,by omega,by omega,by omega,T1.drewN m2,C1,K1.drewN m2⟩
   |true =>
    have hah:=C.ahead h0 HX.out HY.out hm
    have hto:=to_idx hm
    have hcm:=clr_may w2' h2' hd hm
    have hat2:=(may_at hm).2
    have htl:=(idx_lt w1' w2' h1' h2' hat2).1
    rw [hci] at hto
    have hne:idx W (px+stepX d) (py+stepY d)≠c:=by
     intro q
     obtain ⟨q1,q2⟩:=idx_inj hat2 ha (q.trans hci.symm)
     rcases step_cases hd with ⟨e1,e2⟩|⟨e1,e2⟩|⟨e1,e2⟩|⟨e1,e2⟩|⟨e1,e2⟩|⟨e1,e2⟩|⟨e1,e2⟩|⟨e1,e2⟩ <;> omega
    have C1:Cnt W H bl d x y (k+1) T (upd2 T' (idx W px py) d (clr W H bl (px+stepX d) (py+stepY d) d+1)):=C.next HX.out HY.out ha hcm.symm
    rw [hci] at C1
    have hT1:upd2 T' c d 0 (idx W (px+stepX d) (py+stepY d)) d=clr W H bl (px+stepX d) (py+stepY d) d:=by
     rw [<- hah];exact if_neg (fun q=>hne q.1)
    have hle:=clr_le W H bl (px+stepX d) (py+stepY d) d
    have T2:=fun m=>(T1.drewN m).set hcl hd (clr W H bl (px+stepX d) (py+stepY d) d+1)
    simp only [upd2_upd2] at T2
    generalize hr:idx W (px+stepX d) (py+stepY d)=r at *
    generalize clr W H bl (px+stepX d) (py+stepY d) d=n at *
    have hrz:(r:Int)<256:=by omega
    have hr0:(0:Int)<=(r:Int):=by omega
    clear hah hcm hat2
    go_wp2_with (first|(go_at_call 152;refine hc.mono ?_;rintro e w' ⟨rfl,rfl⟩))
    clear tr K hc hcc hfr hp
    generalize w'.setCell ⟨tb,1+c*8+d,none⟩ (.int .i64 0)=W1 at *
    refine (may_v hm W1 T1.ga T1.st hd b1 b2 b3 b4).mono ?_
    rintro e w2 ⟨rfl,m2,rfl⟩
    have T3:TabAt (W1.drewN m2).drew tb pb W H V bl (upd2 T' c d 0):=T1.drewN (m2+1)
    have K3:Keep (fun k=>k=tb) w (W1.drewN m2).drew:=(K1.drewN m2).drew
    have hto':=fun w g s=>cto_v (b:=pb) (H:=H) (V:=V) (bl:=bl) hto w g s hd (by omega) (by omega)
    clear T1 K1 T2
    generalize W1.drewN m2=W4 at *
    have p1:=T3.p0
    have l1:=T3.ts r d htl hd
    rw [hT1] at l1
    have l2:=T3.ts c d hcl hd
    have fr:=T3.fr (1+c*8+d)
    have hn0:(0:Int)<=(n:Int):=by omega
    have hn1:(n:Int)<=16:=by omega
    go_wp2
    go_region_with (go_at_call 154;refine (hto' _ T3.ga T3.st).mono ?_;rintro e w3 ⟨rfl,m3,hw3⟩;have T3:TabAt w3 tb pb W H V bl (upd2 T' c d 0):=(by rw [hw3];exact T3.drewN m3);have K3:Keep (fun k=>k=tb) w w3:=(by rw [hw3];exact K3.drewN m3);clear hw3;have p1:=T3.p0;have l1:=T3.ts r d htl hd;rw [hT1] at l1;have l2:=T3.ts c d hcl hd;have fr:=T3.fr (1+c*8+d))
    all_goals
     have hwr:IntKind.i64.wrap ((n:Int)+1)=((n+1:Nat):Int):=by rw [cwrap_small (by omega) (by omega)];rfl
     have T5:=T3.set hcl hd (n+1)
     have K5:Keep (fun k=>k=tb) w (w3.setCell ⟨tb,1+c*8+d,none⟩ (.int .i64 ((n+1:Nat):Int))):=K3.setCell (p:=⟨tb,1+c*8+d,none⟩) (fun _=>rfl) _
     rw [upd2_upd2] at T5
     rw [hwr]
     clear T3 K3 p1 l1 l2 fr
     go_wp2
     go_roundg (17 - (k+1))
     case measure=>have:=HG.out;omega
     case rel=>exact ⟨k+1,px - stepX d,py - stepY d,_,rfl,rfl,rfl,HNX.out,HNY.out,by omega,by omega,by omega,by omega,T5,C1,K5⟩
end
end Go.Proofs.YtmaefimaeelkbaaGreatDoor
