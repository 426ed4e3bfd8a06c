/-
  Texts laid together: Sr9, TNew, TNew2, GGrid, Sv, TShelf.
-/
import Derived.Test.YtipbhlofbpnpjaaGreatDoorP22
import Derived.Test.YtipbhlofbpnpjaaGreatDoorP10
import Derived.Test.YtipbhlofbpnpjaaGreatDoorP9
import Derived.Test.YtipbhlofbpnpjaaGreatDoorP8
import Derived.Shelf.Strings.Builder1
import Derived.Shelf.Strings.BuilderF
import Derived.Shelf.Strings.BuilderK
import Derived.Shelf.Strconv.Atoi
import Derived.Shelf.Strconv.Itoa0
import Derived.Shelf.Strconv.Itoa1
import Derived.Shelf.LaysM
import Derived.Shelf.Strconv.Itoa2
import Derived.Shelf.Strconv.Itoa3
import Derived.Shelf.Strconv.AtoiErrFast
import Derived.Shelf.Strconv.ParseIntEmpty
import Derived.Shelf.Strconv.AtoiFail
import Derived.Shelf.Strconv.Clone
import Derived.Shelf.Strconv.SyntaxError
import Derived.Shelf.LaysC
import Derived.Shelf.Strconv.ToError
import Derived.Shelf.Strconv.Lower
import Derived.Shelf.Strconv.ParseUint10
import Derived.Shelf.Strconv.ParseUint10Empty
import Derived.Shelf.Strconv.ParseUint10Any
import Derived.Shelf.Strconv.ParseInt10
import Derived.Shelf.Strconv.AtoiLong
import Derived.Shelf.Strconv.AtoiInnerAll
import Derived.Shelf.Strconv.RangeError
import Derived.Shelf.Strconv.ToErrorRange
import Derived.Shelf.Strconv.AtoiAll
import Derived.Shelf.Strconv.ErrVarAll
import Derived.Shelf.Strings.Search1
import Derived.Shelf.Strings.Search2
import Derived.Shelf.Strings.Cut
import Derived.Shelf.Strings.Shaped
import Derived.Shelf.Strings.Prefix
import Derived.Test.YtipbhlofbpnpjaaGreatDoorProg
namespace Go.Proofs.YtipbhlofbpnpjaaGreatDoor
section
open Go.RowKit
theorem Lvd.below {w w':World}{N lb most:Nat}{W H:Int}{bl:Nat->Bool}{es:Nat->List LE}(h:Lvd w N lb most W H bl es)(hb:Below w.heap.size w w'):Lvd w' N lb most W H bl es:=by
 obtain ⟨vb,eb,k,st,f,h1,h2,V⟩:=h
 exact ⟨vb,eb,k,st,f,h1,h2,V.below hb⟩
theorem cns_len {W H:Int}{bl:Nat->Bool}{c:Nat}{l:List Nat}(w1:1<=W)(w2:W<=16)(h1:1<=H)(h2:H<=16)(hr:l.Pairwise (·<·))(hl:Cns W H bl c l):l.length<=256/\∀ n ∈ l,n<256:=by
 have hwh:=wh_bd w1 w2 h1 h2
 have hm:∀ n ∈ l,n ∈ crs W H bl (W*H).toNat:=fun n hn=>by
  have h:=((hl n).1 hn).2
  have h4:0<=(n:Int)/\(n:Int)<W*H:=of_decide_eq_true (cornC_in w1 (cornB_iff.1 h))
  exact crs_mem.2 ⟨by omega,h⟩
 have he:l=(crs W H bl (W*H).toNat).filter (fun x=>decide (x ∈ l)) :=
  rise_eq hr (List.Pairwise.filter _ (crs_rise _ _ _ _)) (fun n=>by
   rw [List.mem_filter,decide_eq_true_iff]
   exact ⟨fun h=>⟨hm n h,h⟩,fun h=>h.2⟩)
 have a1:=congrArg List.length he
 have a2:=List.length_filter_le (fun x=>decide (x ∈ l)) (crs W H bl (W*H).toNat)
 have a3:=crs_len W H bl (W*H).toNat
 refine ⟨by omega,fun n hn=>?_⟩
 have:=(crs_mem.1 (hm n hn)).1
 omega
theorem rowI_of {w:World}{base c:Nat}{v:Value}{W:Int}{l:List Nat}(h:w.ownsRow base 207 4 v l.length (edgesV W (c:Int) l))(hl:∀ n ∈ l,n<256):∃ A cap,v=.slice A (frI W c l).length cap/\RowI w A (frI W c l):=by
 rw [<- lesV_edges W c l] at h
 have e:(frC W c l).length=l.length:=by unfold frC;rw [List.length_map]
 have h':w.ownsRow base 207 4 v (frC W c l).length (lesV (frC W c l)):=by rw [e];exact h
 obtain ⟨A,cap,rfl,hr,_⟩:=rowL_of h'
 refine ⟨A,cap,by rw [frI_len,e],fun i x hi=>?_⟩
 unfold frI at hi
 rw [List.getElem?_map] at hi
 cases hq:(frC W c l)[i]? with
 |none=>rw [hq] at hi;cases hi
 |some y =>
  rw [hq] at hi
  cases hi
  refine ⟨?_,hr i y hq⟩
  have hy:=List.mem_of_getElem? hq
  unfold frC at hy
  obtain ⟨m,hm,rfl⟩:=List.mem_map.1 hy
  have:=hl m hm
  exact wf_small (by show (0:Int)<=(m:Int);omega) (by show (m:Int)<256;omega)
end
section
open Go.RowKit
def tabC (p:Value):Array Value:=(p::List.replicate 2048 (.int .i64 0)).toArray
set_option maxRecDepth 1000000 in
theorem built58 (p:Option Addr):Tryz.prog.built 182 [(0,.pointer p)]=some (tabC (.pointer p)):=by kernel_rfl
theorem wpList_build58 {ops:Array Oper}{rest:List Oper}{o:Oper}{a:Act}{w:World}{Q:Exit->Act->World->Prop}(hgd:o.guard=none)(x:Operand)(ho:o.op=.build 182 #[(0,x)])(p:Option Addr)
  (hx:a.eval x=.pointer p) (h:wpList Tryz.prog ops Q rest (a.put o.dst (.agg (tabC (.pointer p)))) w):wpList Tryz.prog ops Q (o::rest) a w :=
 wpList_plain hgd fun _ hK=>wp_build 182 _ ho (by simp [hx,built58]) (by simp [hx,built58];exact hK _ _ h)
theorem tabC_at (p:Value)(i:Nat)(hi:i<2048):(tabC p)[1+i]? = some (.int .i64 0):=by
 unfold tabC
 rw [List.getElem?_toArray,Nat.add_comm,List.getElem?_cons_succ,List.getElem?_replicate,if_pos hi]
theorem tabAt_new {w:World}{pb:Nat}{W H V:Int}{bl:Nat->Bool}(g:GridAt w pb W H V bl)(f:Free w pb)(s:StepsAt w)(n1:1≠pb):TabAt (w.alloc (.cells (tabC (.pointer (some ⟨pb,0,none⟩))) 182)) w.heap.size pb W H V bl (fun _ _=>0):=by
 have hp:pb<w.heap.size:=World.block_lt_of_cell? w _ g.c0
 have hB:Below w.heap.size w (w.alloc (.cells (tabC (.pointer (some ⟨pb,0,none⟩))) 182)):=(Below.refl _ _).alloc (Nat.le_refl _) _
 refine ⟨?_,fun c d hc hd=>?_,free_alloc w _ _ _ (Nat.le_refl _),g.below hB hp,fun o=>(hB.frozen (p:=⟨pb,o,none⟩) hp).trans (f o),s.below hB (by have:=s.pos;omega),by omega,by have:=s.pos;omega,n1⟩
 ·rw [World.cell?_alloc_new];unfold tabC;rw [List.getElem?_toArray,List.getElem?_cons_zero]
 ·rw [World.cell?_alloc_new,Nat.add_assoc];exact tabC_at _ (c*8+d) (by omega)
def Tabled (w w':World) (e:Ending) (W H V:Int) (bl:Nat->Bool):Prop :=
 ∃ tb pb,e=.returned (.pointer (some ⟨tb,0,none⟩))/\TabOk w' tb pb W H V bl/\w.heap.size<=tb/\w.heap.size<=pb/\Below w.heap.size w w'
end
section
open Go.RowKit
set_option maxHeartbeats 2000000 in
set_option maxRecDepth 1000000 in
theorem tnew_any {b:Nat}{W H V:Int}{bl:Nat->Bool}(w:World)(g:GridAt w b W H V bl)(s:StepsAt w) :
  Calls Tryz.prog 91 #[.pointer (some ⟨b,0,none⟩)] w fun e w'=>Tabled w w' e W H V bl:=by
 have w1':=g.w1
 have w2':=g.w2
 have h1':=g.h1
 have h2':=g.h2
 obtain ⟨k1,k2⟩:=wh_bd g.w1 g.w2 g.h1 g.h2
 have s0:=s.pos
 have hcp:=copy_any w g
 go_enter Tryz.func91,Tryz.ntmps91
 go_wp2_with (first|(go_at_call 72;refine hcp.mono ?_;rintro e wa ⟨rfl,hba,hza,ga,gf⟩;have t0:=tabAt_new ga gf (s.below hba (by omega)) (by omega);have HB0:Below w.heap.size w (wa.alloc (.cells (tabC (.pointer (some ⟨w.heap.size,0,none⟩))) 182)):=hba.alloc hba.size _;have p0:=t0.p0)|refine wpList_build58 rfl _ rfl (some ⟨w.heap.size,0,none⟩) rfl ?_)
 have hz:w.heap.size<=wa.heap.size:=by omega
 clear hcp hba ga gf hza
 refine (cells_any _ t0.ga).mono ?_
 rintro e wb ⟨rfl,m,rfl⟩
 have t1:=t0.drewN m
 have HB1:=below_drewN HB0 m
 have hz1:((wa.alloc (.cells (tabC (.pointer (some ⟨w.heap.size,0,none⟩))) 182)).drewN m).heap.size=wa.heap.size+1:=by simp
 clear t0 HB0 p0
 generalize (wa.alloc (.cells (tabC (.pointer (some ⟨w.heap.size,0,none⟩))) 182)).drewN m=wb at *
 obtain ⟨N,hN⟩:∃ N:Nat,W*H=N:=⟨(W*H).toNat,by omega⟩
 have HN:Hid (W*H=N):=hN
 rw [hN] at k1 k2 ⊢
 clear hN
 go_wp2
 go_loopg [18] N (fun gk iv wr=>∃ (k:Nat) (T:Nat->Nat->Nat),k<=N/\gk=N - k/\iv=.int .i64 k/\TabAt wr wa.heap.size w.heap.size W H V bl T/\Ends W H bl T k 0/\Below w.heap.size w wr)
 case atStart=>exact ⟨0,_,by omega,rfl,rfl,t1,Ends.start W H bl _,HB1⟩
 case round =>
  clear t1 HB1
  obtain ⟨k,T,hk,hgk,rfl,tr,E,HB⟩:=hrel
  have HG:Hid (gk=N - k):=hgk
  clear hgk
  by_cases hlt:k<N
  ·have hlt':(k:Int)<(N:Int):=by omega
   have hin:inB W H k=true:=decide_eq_true ⟨by omega,by rw [HN.out];exact hlt'⟩
   obtain ⟨x,y,ha,hi,hpl⟩:∃ x y,atB W H x y=true/\idx W x y=k/\Calls Tryz.prog 76 #[.pointer (some ⟨w.heap.size,0,none⟩),.int .i64 (k:Int)] wr fun e w'=>e=.returned (.tuple #[.int .i64 x,.int .i64 y,.nilIface])/\∃ m,w'=wr.drewN m:=by
    obtain ⟨ha,hi⟩:=at_place w1' hin
    exact ⟨_,_,ha,by omega,place_in (k:Int) wr tr.ga hin⟩
   have HI:Hid (idx W x y=k):=hi
   clear hi
   obtain ⟨i1,i2,i3,i4⟩:=at_iff.1 ha
   have p0:=tr.p0
   go_wp2_with (go_at_call 76;refine hpl.mono ?_;rintro e w2 ⟨rfl,m2,rfl⟩)
   have t2:=tr.drewN m2
   have HB2:=below_drewN HB m2
   clear tr HB hpl p0
   generalize wr.drewN m2=w2 at *
   go_loopg [31] 8 (fun gk iv wr=>∃ (d:Nat) (T:Nat->Nat->Nat),d<=8/\gk=8 - d/\iv=.int .i64 d/\TabAt wr wa.heap.size w.heap.size W H V bl T/\Ends W H bl T k d/\Below w.heap.size w wr)
   case atStart=>exact ⟨0,T,by omega,rfl,rfl,t2,E,HB2⟩
   case round =>
    clear t2 HB2 E
    obtain ⟨d,T,hd,hgd,rfl,tr,E,HB⟩:=hrel
    have HD:Hid (gk=8 - d):=hgd
    clear hgd
    by_cases hd8:d<8
    ·have hd8':(d:Int)<8:=by omega
     have hie:=isEnd_any x y d wr tr hd8 (by omega) (by omega) (by omega) (by omega)
     cases hat:atB W H (x+stepX d) (y+stepY d) with
     |true =>
      rw [hat] at hie
      have E1:=E.pass ha HI.out hat
      go_wp2_with (go_at_call 131;refine hie.mono ?_;rintro e w3 ⟨rfl,m3,rfl⟩)
      go_roundg (8 - (d+1))
      case measure=>have:=HD.out;omega
      case rel=>exact ⟨d+1,T,by omega,rfl,by go_num,tr.drewN m3,E1,below_drewN HB m3⟩
     |false =>
      rw [hat] at hie
      have hct:=fun m=>count_any x y d (wr.drewN m) (tr.drewN m) hd8 (by omega) (by omega) (by omega) (by omega) (fun hm=>by rw [end_not hat] at hm;cases hm)
      go_wp2_with (first|(go_at_call 131;refine hie.mono ?_;rintro e w3 ⟨rfl,m3,rfl⟩)|(go_at_call 132;refine (hct _).mono ?_;rintro e w4 ⟨rfl,T4,t4,C4,K4⟩))
      go_roundg (8 - (d+1))
      case measure=>have:=HD.out;omega
      case rel=>exact ⟨d+1,T4,by omega,rfl,by go_num,t4,E.count ha HI.out C4,(below_drewN HB m3).trans (K4.to_below HB.size (fun q hq=>by rw [hq];exact hz))⟩
    ·have:d=8:=by omega
     subst this
     go_wp2
     go_roundg (N - (k+1))
     case measure=>have:=HG.out;omega
     case rel=>exact ⟨k+1,T,by omega,rfl,by go_num,tr,E.next,HB⟩
  ·have:k=N:=by omega
   subst this
   go_wp2
   go_ret
   exact ⟨_,_,rfl,⟨T,tr,fun d hd=>E.all w1' w2' h1' h2' (by rw [HN.out];exact Int.le_refl _) hd⟩,hz,Nat.le_refl _,HB⟩
end
section
open Go.RowKit Go.Maps Go.Sort Go.Shelf
set_option maxHeartbeats 400000 in
theorem ggrid_any {rb pb mb:Nat}{W H V:Int}{bl:Nat->Bool}(w:World)(G:GraphAt w rb pb mb W H V bl) :
  Calls Tryz.prog 41 #[.pointer (some ⟨rb,0,none⟩)] w fun e w'=>e=.returned (.pointer (some ⟨w.heap.size,0,none⟩))/\Below w.heap.size w w'/\w.heap.size<w'.heap.size/\GridAt w' w.heap.size W H V bl/\Free w' w.heap.size:=by
 obtain ⟨f,G,E⟩:=G
 have p0:=G.p0
 have hcp:=copy_any w G.ga
 clear G E
 go_enter Tryz.func41,Tryz.ntmps41
 go_wp2_with fail
 refine hcp.mono ?_
 rintro e w1 ⟨rfl,hb1,hs1,g1,fr1⟩
 clear hcp
 go_wp2
 go_ret
 exact ⟨rfl,hb1,hs1,g1,fr1⟩
end
section
open Go.RowKit Go.Lib
structure SvAt (w:World) (lo hi sb rb pb mb lb tb gb N x:Nat) (W H V V2:Int) (bl:Nat->Bool) (most:Nat):Prop where
 c0:w.cell? ⟨sb,0,none⟩=some (.int .i64 (most:Int))
 c1:w.cell? ⟨sb,1,none⟩=some (.pointer (some ⟨rb,0,none⟩))
 c2:w.cell? ⟨sb,2,none⟩=some (.pointer (some ⟨lb,0,none⟩))
 c3:w.cell? ⟨sb,3,none⟩=some (.pointer (some ⟨tb,0,none⟩))
 fz:w.frozen? ⟨sb,2,none⟩=false
 gi:GraphIn w rb pb mb W H V bl (fun g=>g≠tb/\g≠gb/\g≠sb)
 lv:Lvd w N lb most W H bl (esF W H bl)
 ta:TabOk w tb gb W H V2 bl
 l1:lo<=rb/\lo<=pb/\lo<=mb/\lo<=N
 l2:rb<x/\pb<x/\mb<x
 l3:x<=tb/\x<=gb/\tb<sb/\gb<sb
 l4:sb<hi
 m1:1<=most
 m6:most<=6
 vv:V2=V
def Sv (w:World) (lo hi sb:Nat) (W H V:Int) (bl:Nat->Bool) (most:Nat):Prop:=∃ rb pb mb lb tb gb N x V2,SvAt w lo hi sb rb pb mb lb tb gb N x W H V V2 bl most
section
variable {w w' : World} {lo hi sb rb pb mb lb tb gb N x most : Nat} {W H V V2 : Int} {bl : Nat → Bool}
theorem SvAt.gr (S:SvAt w lo hi sb rb pb mb lb tb gb N x W H V V2 bl most):GraphAt w rb pb mb W H V bl:=S.gi.graph
theorem SvAt.lt (S:SvAt w lo hi sb rb pb mb lb tb gb N x W H V V2 bl most):sb<w.heap.size:=World.block_lt_of_cell? _ _ S.c0
theorem SvAt.below (S:SvAt w lo hi sb rb pb mb lb tb gb N x W H V V2 bl most)(hb:Below w.heap.size w w'):SvAt w' lo hi sb rb pb mb lb tb gb N x W H V V2 bl most:=by
 have k:∀ {a:Addr}{v:Value},w.cell? a=some v->w'.cell? a=some v:=fun {a v} h=>(hb.cell (World.block_lt_of_cell? w a h)).trans h
 exact ⟨k S.c0,k S.c1,k S.c2,k S.c3,(hb.frozen (p:=⟨sb,2,none⟩) S.lt).trans S.fz,S.gi.below hb,S.lv.below hb,S.ta.below hb,S.l1,S.l2,S.l3,S.l4,S.m1,S.m6,S.vv⟩
theorem Sv.below (S:Sv w lo hi sb W H V bl most)(hb:Below w.heap.size w w'):Sv w' lo hi sb W H V bl most:=by
 obtain ⟨rb,pb,mb,lb,tb,gb,N,x,V2,S⟩:=S
 exact ⟨rb,pb,mb,lb,tb,gb,N,x,V2,S.below hb⟩
theorem SvAt.st (S:SvAt w lo hi sb rb pb mb lb tb gb N x W H V V2 bl most):StepsAt w:=by
 obtain ⟨T,t,_⟩:=S.ta.ok
 exact t.st
theorem SvAt.side (S:SvAt w lo hi sb rb pb mb lb tb gb N x W H V V2 bl most):1<=W/\W<=16/\1<=H/\H<=16:=by
 obtain ⟨f,G,_⟩:=S.gr
 exact ⟨G.ga.w1,G.ga.w2,G.ga.h1,G.ga.h2⟩
theorem Sv.side (S:Sv w lo hi sb W H V bl most):1<=W/\W<=16/\1<=H/\H<=16:=by
 obtain ⟨rb,pb,mb,lb,tb,gb,N,x,V2,S⟩:=S
 exact S.side
theorem Sv.mst (S:Sv w lo hi sb W H V bl most):1<=most/\most<=6:=by
 obtain ⟨rb,pb,mb,lb,tb,gb,N,x,V2,S⟩:=S
 exact ⟨S.m1,S.m6⟩
end
theorem conn_rows' {rb pb mb:Nat}{W H V:Int}{c:Nat}{bl:Nat->Bool}(w:World)(G:GraphAt w rb pb mb W H V bl)(s:StepsAt w)(w1:1<=W)(w2:W<=16)(h1:1<=H)(h2:H<=16)(hc:inB W H c=true)(hfree:bl c=false) :
  Calls Tryz.prog 79 #[.pointer (some ⟨rb,0,none⟩),.int .i64 (c:Int)] w fun e w'=>∃ A cap l,e=.returned (.tuple #[.slice A (frI W c l).length cap,.nilIface])/\RowI w' A (frI W c l)/\Cnp W H bl c l/\(frI W c l).length<=1000/\Below w.heap.size w w':=by
 refine (conn_ok w G s hc (by rw [Int.toNat_natCast];exact hfree)).mono ?_
 rintro e w' ⟨v,l,rfl,hown,⟨hr,hl⟩,hb⟩
 obtain ⟨a1,a2⟩:=cns_len w1 w2 h1 h2 hr hl
 obtain ⟨A,cap,rfl,hrow⟩:=rowI_of hown a2
 exact ⟨A,cap,l,rfl,hrow,⟨hr,hl⟩,by rw [frI_len];omega,hb⟩
theorem GsAt.below {w w':World}{gc xc yc M:Nat}{W tz:Int}(h:GsAt w gc xc yc M W tz)(hb:Below w.heap.size w w'):GsAt w' gc xc yc M W tz:=by
 have k:∀ {a:Addr}{v:Value},w.cell? a=some v->w'.cell? a=some v:=fun {a v} h=>(hb.cell (World.block_lt_of_cell? w a h)).trans h
 exact ⟨k h.1,k h.2.1,k h.2.2⟩
def Bst (W H:Int) (bl:Nat->Bool) (most:Nat) (a t:Nat) (la lb:List Nat) (stops:List Nat) (s d:Int) (f:Bool):Prop :=
 ∃ k st,Rds most (crs W H bl (W*H).toNat) ⟨fun _=>0,esF W H bl⟩ k st/\Over most (crs W H bl (W*H).toNat) k st/\BestR (crs W H bl (W*H).toNat) ⟨endL (k+1) st,st.es⟩ (gsN W H t) (frI W a la) (frI W t lb) stops s d f
theorem sbest_any {M gc xc yc lb N most cap cap2 a t:Nat}{W H V:Int}{bl:Nat->Bool}{A A2:Option Addr}{la lt:List Nat}(w:World)(hL:Lvd w N lb most W H bl (esF W H bl))(g:GridAt w M W H V bl)(G:GsAt w gc xc yc M W (t:Int))(ht:inB W H t=true)(m1:1<=most)(m6:most<=6)(ho:RowI w A (frI W a la))(hi:RowI w A2 (frI W t lt))(hol:(frI W a la).length<=1000)(hil:(frI W t lt).length<=1000) :
  Calls Tryz.prog 80 #[.pointer (some ⟨lb,0,none⟩),.slice A (frI W a la).length cap,.slice A2 (frI W t lt).length cap2,.func (.func 77) #[] #[.pointer (some ⟨gc,0,none⟩),.pointer (some ⟨xc,0,none⟩),.pointer (some ⟨yc,0,none⟩)]] w fun e w'=>∃ stops s d b v,e=.returned (.tuple #[v,.agg #[.int .i64 s,.int .i64 d],.bool b])/\Bst W H bl most a t la lt stops s d b/\w'.ownsRow w.heap.size 3 1 v stops.length (vals stops)/\stops.length<=40000/\Below w.heap.size w w':=by
 obtain ⟨vb,eb,k,st,f,hR,hO,V⟩:=hL
 obtain ⟨O,hlv,hU⟩:=lvOk (esF_ok g.w1) g.w1 g.w2 g.h1 g.h2 m6 m1 hR
 refine (best_any (cs:=[.pointer (some ⟨gc,0,none⟩),.pointer (some ⟨xc,0,none⟩),.pointer (some ⟨yc,0,none⟩)]) w V O hlv hU (gs_ok w G.1 G.2.1 G.2.2 g ht) (gsN_bd g.w1 g.w2 g.h1 g.h2 ht) ho hi hol hil).mono ?_
 rintro e w' ⟨way,s,d,b,v,rfl,hB,hown,hwl,hb⟩
 exact ⟨way,s,d,b,v,rfl,⟨k,st,hR,hO,hB⟩,hown,hwl,hb⟩
end
section
open Go.Shelf
def Tryz.lays169_ren:Go.Shelf.Ren:=⟨fun|169=>98|n=>n,fun|70=>160|9=>9|0=>0|72=>162|37=>158|127=>213|3=>3|5=>5|n=>n,fun|n=>n⟩
theorem Tryz.lays169:Go.Proofs.Lays.n169 Tryz.prog Tryz.lays169_ren:={
 mixed:=by kernel_rfl
 f169:=Tryz.func98.trans (congrArg some (by kernel_rfl))
 t0:=Tryz.underlying0
 a0:=Tryz.isAgg0
 z0:=Tryz.sizeOf0
 v0:=Tryz.zeroValue0
 t3:=Tryz.underlying3
 a3:=Tryz.isAgg3
 z3:=Tryz.sizeOf3
 v3:=Tryz.zeroValue3
 t9:=Tryz.underlying9
 a9:=Tryz.isAgg9
 z9:=Tryz.sizeOf9
 v9:=Tryz.zeroValue9
 t37:=Tryz.underlying158
 a37:=Tryz.isAgg158
 z37:=Tryz.sizeOf158
 v37:=Tryz.zeroValue158
 t70:=Tryz.underlying160
 a70:=Tryz.isAgg160
 z70:=Tryz.sizeOf160
 v70:=Tryz.zeroValue160
 t72:=Tryz.underlying162
 a72:=Tryz.isAgg162
 z72:=Tryz.sizeOf162
 v72:=Tryz.zeroValue162
 t127:=Tryz.underlying213
 a127:=Tryz.isAgg213
 z127:=Tryz.sizeOf213
 v127:=Tryz.zeroValue213 }
theorem Tryz.Builder_Extra_169:Builder.Extra Tryz.prog Tryz.lays169_ren:={
 sizeBuilder:=by kernel_rfl
 liesBuilder:=by kernel_rfl
 t5:=Tryz.underlying5
 a5:=Tryz.isAgg5
 z5:=Tryz.sizeOf5
 v5:=Tryz.zeroValue5
 infoByte:=by kernel_rfl
 cellsByte:=by kernel_rfl
 sizeByte:=by kernel_rfl
 neB5:=by decide }
open Go.RowKit in
theorem Tryz.Builder_String_any (B b:Nat)(l:List UInt8)(w:World)(h:Lib.IsBuilder 162 5 B b (Lib.byteCells l) w)(hBw:B<=w.heap.size) :
  Calls Tryz.prog 98 #[.pointer (some ⟨b,0,none⟩)] w fun e w'=>e=.returned (.string ⟨l.toArray⟩)/\Below B w w':=Any.Builder_String_any Tryz.lays169 Tryz.Builder_Extra_169 B b l w h hBw
def Tryz.laysM171_ren:Go.Shelf.Ren:=⟨fun|171=>133|243=>171|246=>194|283=>223|284=>224|285=>225|286=>226|129=>205|317=>240|318=>241|319=>242|320=>243|337=>246|338=>247|n=>n,fun|3=>3|9=>9|2=>2|4=>4|171=>290|0=>0|53=>276|37=>158|5=>5|173=>292|212=>308|51=>274|20=>20|213=>309|46=>246|232=>313|233=>314|n=>n,fun|17=>5|18=>6|19=>7|n=>n⟩
theorem Tryz.laysM171:Go.Proofs.LaysM.n171 Tryz.prog Tryz.laysM171_ren:={
 mixed:=by kernel_rfl
 f129:=Tryz.func205.trans (congrArg some (by kernel_rfl))
 f171:=Tryz.func133.trans (congrArg some (by kernel_rfl))
 f243:=Tryz.func171.trans (congrArg some (by kernel_rfl))
 f246:=Tryz.func194.trans (congrArg some (by kernel_rfl))
 f283:=Tryz.func223.trans (congrArg some (by kernel_rfl))
 f284:=Tryz.func224.trans (congrArg some (by kernel_rfl))
 f285:=Tryz.func225.trans (congrArg some (by kernel_rfl))
 f286:=Tryz.func226.trans (congrArg some (by kernel_rfl))
 f317:=Tryz.func240.trans (congrArg some (by kernel_rfl))
 f318:=Tryz.func241.trans (congrArg some (by kernel_rfl))
 f319:=Tryz.func242.trans (congrArg some (by kernel_rfl))
 f320:=Tryz.func243.trans (congrArg some (by kernel_rfl))
 f337:=Tryz.func246.trans (congrArg some (by kernel_rfl))
 f338:=Tryz.func247.trans (congrArg some (by kernel_rfl))
 t0:=Tryz.underlying0
 a0:=Tryz.isAgg0
 z0:=Tryz.sizeOf0
 v0:=Tryz.zeroValue0
 t2:=Tryz.underlying2
 a2:=Tryz.isAgg2
 z2:=Tryz.sizeOf2
 v2:=Tryz.zeroValue2
 t3:=Tryz.underlying3
 a3:=Tryz.isAgg3
 z3:=Tryz.sizeOf3
 v3:=Tryz.zeroValue3
 t4:=Tryz.underlying4
 a4:=Tryz.isAgg4
 z4:=Tryz.sizeOf4
 v4:=Tryz.zeroValue4
 t5:=Tryz.underlying5
 a5:=Tryz.isAgg5
 z5:=Tryz.sizeOf5
 v5:=Tryz.zeroValue5
 t9:=Tryz.underlying9
 a9:=Tryz.isAgg9
 z9:=Tryz.sizeOf9
 v9:=Tryz.zeroValue9
 t20:=Tryz.underlying20
 a20:=Tryz.isAgg20
 z20:=Tryz.sizeOf20
 v20:=Tryz.zeroValue20
 t37:=Tryz.underlying158
 a37:=Tryz.isAgg158
 z37:=Tryz.sizeOf158
 v37:=Tryz.zeroValue158
 t46:=Tryz.underlying246
 a46:=Tryz.isAgg246
 z46:=Tryz.sizeOf246
 v46:=Tryz.zeroValue246
 t51:=Tryz.underlying274
 a51:=Tryz.isAgg274
 z51:=Tryz.sizeOf274
 v51:=Tryz.zeroValue274
 t53:=Tryz.underlying276
 a53:=Tryz.isAgg276
 z53:=Tryz.sizeOf276
 v53:=Tryz.zeroValue276
 t171:=Tryz.underlying290
 a171:=Tryz.isAgg290
 z171:=Tryz.sizeOf290
 v171:=Tryz.zeroValue290
 t173:=Tryz.underlying292
 a173:=Tryz.isAgg292
 z173:=Tryz.sizeOf292
 v173:=Tryz.zeroValue292
 t212:=Tryz.underlying308
 a212:=Tryz.isAgg308
 z212:=Tryz.sizeOf308
 v212:=Tryz.zeroValue308
 t213:=Tryz.underlying309
 a213:=Tryz.isAgg309
 z213:=Tryz.sizeOf309
 t232:=Tryz.underlying313
 a232:=Tryz.isAgg313
 z232:=Tryz.sizeOf313
 v232:=Tryz.zeroValue313
 t233:=Tryz.underlying314
 a233:=Tryz.isAgg314
 z233:=Tryz.sizeOf314
 v233:=Tryz.zeroValue314
 g17:=by kernel_rfl
 g18:=by kernel_rfl
 g19:=by kernel_rfl
 i0:=by kernel_rfl
 i2:=by kernel_rfl
 i3:=by kernel_rfl
 i4:=by kernel_rfl
 i5:=by kernel_rfl
 i9:=by kernel_rfl
 i20:=by kernel_rfl
 i37:=by kernel_rfl
 i46:=by kernel_rfl
 i51:=by kernel_rfl
 i53:=by kernel_rfl
 i171:=by kernel_rfl
 i173:=by kernel_rfl
 i212:=by kernel_rfl
 i232:=by kernel_rfl
 i233:=by kernel_rfl
 m17:=by kernel_rfl
 m18:=by kernel_rfl
 m19:=by kernel_rfl }
open Go.RowKit Go.Sort Go.Lib in
theorem Tryz.strconv_Itoa (n : Int) (h0 : -9223372036854775808 ≤ n) (h1 : n ≤ 9223372036854775807) (w : World) (htab : Lib.TabIs Tryz.prog w "internal/strconv.uint64pow10" .u64 Lib.pow10Tab) :
  Calls Tryz.prog 133 #[.int .i64 n] w fun e w'=>e=.returned (.string ⟨(Lib.itoa n).toArray⟩)/\∃ k os,w'=grow (w.drewN k) os:=Any.strconv_Itoa Tryz.laysM171 n h0 h1 w htab
def Tryz.laysC172_ren:Go.Shelf.Ren:=⟨fun|172=>127|244=>167|245=>168|247=>188|279=>189|280=>190|281=>191|282=>192|287=>220|316=>221|171=>133|205=>222|321=>238|322=>239|243=>171|246=>194|283=>223|284=>224|285=>225|286=>226|129=>205|317=>240|318=>241|319=>242|320=>243|337=>246|338=>247|n=>n,fun|9=>9|3=>3|75=>46|76=>47|4=>4|5=>5|167=>258|37=>158|0=>0|85=>259|2=>2|168=>261|53=>276|175=>284|46=>246|210=>288|127=>213|145=>306|143=>304|21=>21|171=>290|173=>292|212=>308|51=>274|20=>20|213=>309|232=>313|233=>314|80=>54|n=>n,fun|15=>3|16=>4|17=>5|18=>6|19=>7|n=>n⟩
theorem Tryz.laysC172:Go.Proofs.LaysC.n172 Tryz.prog Tryz.laysC172_ren:={
 mixed:=by kernel_rfl
 f129:=Tryz.func205.trans (congrArg some (by kernel_rfl))
 f171:=Tryz.func133.trans (congrArg some (by kernel_rfl))
 f172:=Tryz.func127.trans (congrArg some (by kernel_rfl))
 f205:=Tryz.func222.trans (congrArg some (by kernel_rfl))
 f243:=Tryz.func171.trans (congrArg some (by kernel_rfl))
 f244:=Tryz.func167.trans (congrArg some (by kernel_rfl))
 f245:=Tryz.func168.trans (congrArg some (by kernel_rfl))
 f246:=Tryz.func194.trans (congrArg some (by kernel_rfl))
 f247:=Tryz.func188.trans (congrArg some (by kernel_rfl))
 f279:=Tryz.func189.trans (congrArg some (by kernel_rfl))
 f280:=Tryz.func190.trans (congrArg some (by kernel_rfl))
 f281:=Tryz.func191.trans (congrArg some (by kernel_rfl))
 f282:=Tryz.func192.trans (congrArg some (by kernel_rfl))
 f283:=Tryz.func223.trans (congrArg some (by kernel_rfl))
 f284:=Tryz.func224.trans (congrArg some (by kernel_rfl))
 f285:=Tryz.func225.trans (congrArg some (by kernel_rfl))
 f286:=Tryz.func226.trans (congrArg some (by kernel_rfl))
 f287:=Tryz.func220.trans (congrArg some (by kernel_rfl))
 f316:=Tryz.func221.trans (congrArg some (by kernel_rfl))
 f317:=Tryz.func240.trans (congrArg some (by kernel_rfl))
 f318:=Tryz.func241.trans (congrArg some (by kernel_rfl))
 f319:=Tryz.func242.trans (congrArg some (by kernel_rfl))
 f320:=Tryz.func243.trans (congrArg some (by kernel_rfl))
 f321:=Tryz.func238.trans (congrArg some (by kernel_rfl))
 f322:=Tryz.func239.trans (congrArg some (by kernel_rfl))
 f337:=Tryz.func246.trans (congrArg some (by kernel_rfl))
 f338:=Tryz.func247.trans (congrArg some (by kernel_rfl))
 t0:=Tryz.underlying0
 a0:=Tryz.isAgg0
 z0:=Tryz.sizeOf0
 v0:=Tryz.zeroValue0
 t2:=Tryz.underlying2
 a2:=Tryz.isAgg2
 z2:=Tryz.sizeOf2
 v2:=Tryz.zeroValue2
 t3:=Tryz.underlying3
 a3:=Tryz.isAgg3
 z3:=Tryz.sizeOf3
 v3:=Tryz.zeroValue3
 t4:=Tryz.underlying4
 a4:=Tryz.isAgg4
 z4:=Tryz.sizeOf4
 v4:=Tryz.zeroValue4
 t5:=Tryz.underlying5
 a5:=Tryz.isAgg5
 z5:=Tryz.sizeOf5
 v5:=Tryz.zeroValue5
 t9:=Tryz.underlying9
 a9:=Tryz.isAgg9
 z9:=Tryz.sizeOf9
 v9:=Tryz.zeroValue9
 t20:=Tryz.underlying20
 a20:=Tryz.isAgg20
 z20:=Tryz.sizeOf20
 v20:=Tryz.zeroValue20
 t21:=Tryz.underlying21
 a21:=Tryz.isAgg21
 z21:=Tryz.sizeOf21
 v21:=Tryz.zeroValue21
 t37:=Tryz.underlying158
 a37:=Tryz.isAgg158
 z37:=Tryz.sizeOf158
 v37:=Tryz.zeroValue158
 t46:=Tryz.underlying246
 a46:=Tryz.isAgg246
 z46:=Tryz.sizeOf246
 v46:=Tryz.zeroValue246
 t51:=Tryz.underlying274
 a51:=Tryz.isAgg274
 z51:=Tryz.sizeOf274
 v51:=Tryz.zeroValue274
 t53:=Tryz.underlying276
 a53:=Tryz.isAgg276
 z53:=Tryz.sizeOf276
 v53:=Tryz.zeroValue276
 t75:=Tryz.underlying46
 a75:=Tryz.isAgg46
 z75:=Tryz.sizeOf46
 v75:=Tryz.zeroValue46
 t76:=Tryz.underlying47
 a76:=Tryz.isAgg47
 z76:=Tryz.sizeOf47
 v76:=Tryz.zeroValue47
 t85:=Tryz.underlying259
 a85:=Tryz.isAgg259
 z85:=Tryz.sizeOf259
 v85:=Tryz.zeroValue259
 t127:=Tryz.underlying213
 a127:=Tryz.isAgg213
 z127:=Tryz.sizeOf213
 v127:=Tryz.zeroValue213
 t143:=Tryz.underlying304
 a143:=Tryz.isAgg304
 z143:=Tryz.sizeOf304
 v143:=Tryz.zeroValue304
 t145:=Tryz.underlying306
 a145:=Tryz.isAgg306
 z145:=Tryz.sizeOf306
 v145:=Tryz.zeroValue306
 t167:=Tryz.underlying258
 a167:=Tryz.isAgg258
 z167:=Tryz.sizeOf258
 v167:=Tryz.zeroValue258
 t168:=Tryz.underlying261
 a168:=Tryz.isAgg261
 z168:=Tryz.sizeOf261
 v168:=Tryz.zeroValue261
 t171:=Tryz.underlying290
 a171:=Tryz.isAgg290
 z171:=Tryz.sizeOf290
 v171:=Tryz.zeroValue290
 t173:=Tryz.underlying292
 a173:=Tryz.isAgg292
 z173:=Tryz.sizeOf292
 v173:=Tryz.zeroValue292
 t175:=Tryz.underlying284
 a175:=Tryz.isAgg284
 z175:=Tryz.sizeOf284
 v175:=Tryz.zeroValue284
 t210:=Tryz.underlying288
 a210:=Tryz.isAgg288
 z210:=Tryz.sizeOf288
 v210:=Tryz.zeroValue288
 t212:=Tryz.underlying308
 a212:=Tryz.isAgg308
 z212:=Tryz.sizeOf308
 v212:=Tryz.zeroValue308
 t213:=Tryz.underlying309
 a213:=Tryz.isAgg309
 z213:=Tryz.sizeOf309
 t232:=Tryz.underlying313
 a232:=Tryz.isAgg313
 z232:=Tryz.sizeOf313
 v232:=Tryz.zeroValue313
 t233:=Tryz.underlying314
 a233:=Tryz.isAgg314
 z233:=Tryz.sizeOf314
 v233:=Tryz.zeroValue314
 g15:=by kernel_rfl
 g16:=by kernel_rfl
 g17:=by kernel_rfl
 g18:=by kernel_rfl
 g19:=by kernel_rfl
 t80:=Tryz.underlying54
 a80:=Tryz.isAgg54
 z80:=Tryz.sizeOf54
 v80:=Tryz.zeroValue54
 i0:=by kernel_rfl
 i2:=by kernel_rfl
 i3:=by kernel_rfl
 i4:=by kernel_rfl
 i5:=by kernel_rfl
 i9:=by kernel_rfl
 i20:=by kernel_rfl
 i21:=by kernel_rfl
 i37:=by kernel_rfl
 i46:=by kernel_rfl
 i51:=by kernel_rfl
 i53:=by kernel_rfl
 i75:=by kernel_rfl
 i76:=by kernel_rfl
 i80:=by kernel_rfl
 i85:=by kernel_rfl
 i127:=by kernel_rfl
 i143:=by kernel_rfl
 i145:=by kernel_rfl
 i167:=by kernel_rfl
 i168:=by kernel_rfl
 i171:=by kernel_rfl
 i173:=by kernel_rfl
 i175:=by kernel_rfl
 i210:=by kernel_rfl
 i212:=by kernel_rfl
 i232:=by kernel_rfl
 i233:=by kernel_rfl
 m15:=by kernel_rfl
 m16:=by kernel_rfl
 m17:=by kernel_rfl
 m18:=by kernel_rfl
 m19:=by kernel_rfl
 c0:=by kernel_rfl
 c2:=by kernel_rfl
 c3:=by kernel_rfl
 c4:=by kernel_rfl
 c5:=by kernel_rfl
 c9:=by kernel_rfl
 c20:=by kernel_rfl
 c21:=by kernel_rfl
 c37:=by kernel_rfl
 c46:=by kernel_rfl
 c51:=by kernel_rfl
 c53:=by kernel_rfl
 c75:=by kernel_rfl
 c76:=by kernel_rfl
 c80:=by kernel_rfl
 c85:=by kernel_rfl
 c127:=by kernel_rfl
 c143:=by kernel_rfl
 c145:=by kernel_rfl
 c167:=by kernel_rfl
 c168:=by kernel_rfl
 c171:=by kernel_rfl
 c173:=by kernel_rfl
 c175:=by kernel_rfl
 c210:=by kernel_rfl
 c212:=by kernel_rfl
 c213:=by kernel_rfl
 c232:=by kernel_rfl
 c233:=by kernel_rfl }
open Go.RowKit in
theorem Tryz.strconv_Atoi_ok (s:ByteArray)(hmax:s.size<=9223372036854775806)(v:Int)(h:Lib.atoiAll s.data.toList=.ok v)(w:World) :
  Calls Tryz.prog 127 #[.string s] w fun e w'=>e=.returned (.tuple #[.int .i64 v,.nilIface])/\(w'=w\/∃ t,w'=Lib.bytesWorld w 5 t):=Any.strconv_Atoi_ok Tryz.laysC172 s hmax v h w
open Go.RowKit in
open Go.RowKit in
def Tryz.lays219_ren:Go.Shelf.Ren:=⟨fun|219=>187|217=>216|225=>217|224=>218|267=>219|266=>236|314=>237|n=>n,fun|9=>9|3=>3|4=>4|5=>5|46=>246|146=>300|51=>274|n=>n,fun|1=>2|n=>n⟩
theorem Tryz.lays219:Go.Proofs.Lays.n219 Tryz.prog Tryz.lays219_ren:={
 mixed:=by kernel_rfl
 f217:=Tryz.func216.trans (congrArg some (by kernel_rfl))
 f219:=Tryz.func187.trans (congrArg some (by kernel_rfl))
 f224:=Tryz.func218.trans (congrArg some (by kernel_rfl))
 f225:=Tryz.func217.trans (congrArg some (by kernel_rfl))
 f266:=Tryz.func236.trans (congrArg some (by kernel_rfl))
 f267:=Tryz.func219.trans (congrArg some (by kernel_rfl))
 f314:=Tryz.func237.trans (congrArg some (by kernel_rfl))
 t3:=Tryz.underlying3
 a3:=Tryz.isAgg3
 z3:=Tryz.sizeOf3
 v3:=Tryz.zeroValue3
 t4:=Tryz.underlying4
 a4:=Tryz.isAgg4
 z4:=Tryz.sizeOf4
 v4:=Tryz.zeroValue4
 t5:=Tryz.underlying5
 a5:=Tryz.isAgg5
 z5:=Tryz.sizeOf5
 v5:=Tryz.zeroValue5
 t9:=Tryz.underlying9
 a9:=Tryz.isAgg9
 z9:=Tryz.sizeOf9
 v9:=Tryz.zeroValue9
 t46:=Tryz.underlying246
 a46:=Tryz.isAgg246
 z46:=Tryz.sizeOf246
 v46:=Tryz.zeroValue246
 t51:=Tryz.underlying274
 a51:=Tryz.isAgg274
 z51:=Tryz.sizeOf274
 v51:=Tryz.zeroValue274
 t146:=Tryz.underlying300
 a146:=Tryz.isAgg300
 z146:=Tryz.sizeOf300
 v146:=Tryz.zeroValue300
 g1:=by kernel_rfl }
open Go.RowKit Go.Lib in
theorem Tryz.stringslite_Index_one (s:ByteArray)(c:UInt8)(w:World) :
  Calls Tryz.prog 187 #[.string s,.string ⟨#[c]⟩] w fun e w'=>e=.returned (.int .i64 (Lib.indexByte s.data.toList c))/\w'=w:=Any.stringslite_Index_one Tryz.lays219 s c w
def Tryz.lays101_ren:Go.Shelf.Ren:=⟨fun|101=>128|208=>169|206=>193|n=>n,fun|9=>9|4=>4|3=>3|n=>n,fun|n=>n⟩
theorem Tryz.lays101:Go.Proofs.Lays.n101 Tryz.prog Tryz.lays101_ren:={
 mixed:=by kernel_rfl
 f101:=Tryz.func128.trans (congrArg some (by kernel_rfl))
 f206:=Tryz.func193.trans (congrArg some (by kernel_rfl))
 f208:=Tryz.func169.trans (congrArg some (by kernel_rfl))
 t3:=Tryz.underlying3
 a3:=Tryz.isAgg3
 z3:=Tryz.sizeOf3
 v3:=Tryz.zeroValue3
 t4:=Tryz.underlying4
 a4:=Tryz.isAgg4
 z4:=Tryz.sizeOf4
 v4:=Tryz.zeroValue4
 t9:=Tryz.underlying9
 a9:=Tryz.isAgg9
 z9:=Tryz.sizeOf9
 v9:=Tryz.zeroValue9 }
open Go.RowKit Go.Lib in
theorem Tryz.strings_TrimPrefix (s p:ByteArray)(w:World) :
  Calls Tryz.prog 128 #[.string s,.string p] w fun e w'=>e=.returned (.string ⟨(Lib.trimPrefix s.data.toList p.data.toList).toArray⟩)/\w'=w:=Any.strings_TrimPrefix Tryz.lays101 s p w
end
end Go.Proofs.YtipbhlofbpnpjaaGreatDoor
