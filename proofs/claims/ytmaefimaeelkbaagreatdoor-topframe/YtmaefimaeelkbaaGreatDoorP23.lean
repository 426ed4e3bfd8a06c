/-
  Texts laid together: Thr, TNew, TNew2, GGrid, Sv, Nv3.
-/
import Derived.Test.YtmaefimaeelkbaaGreatDoorP22
import Derived.Test.YtmaefimaeelkbaaGreatDoorP15
import Derived.Test.YtmaefimaeelkbaaGreatDoorP21
import Derived.Deep.AppendLies
namespace Go.Proofs.YtmaefimaeelkbaaGreatDoor
section
open Go.RowKit
structure TabOk (w:World) (tb pb:Nat) (W H V:Int) (bl:Nat->Bool):Prop where
 ok:∃ T,TabAt w tb pb W H V bl T/\∀ d,d<8->Right W H bl T d
theorem TabOk.keep {D:Nat->Prop}{w w':World}{tb pb:Nat}{W H V:Int}{bl:Nat->Bool}(t:TabOk w tb pb W H V bl)(K:Keep D w w')(h1:¬ D tb)(h2:¬ D pb)(h3:¬ D 1):TabOk w' tb pb W H V bl:=by
 obtain ⟨T,a,b⟩:=t.ok
 exact ⟨T,a.keep K h1 h2 h3,b⟩
theorem TabOk.below {w w':World}{tb pb:Nat}{W H V:Int}{bl:Nat->Bool}(t:TabOk w tb pb W H V bl)(hb:Below w.heap.size w w'):TabOk w' tb pb W H V bl :=
 t.keep (Keep.of_below (F:=fun _=>False) hb) id id id
end
section
open Go.RowKit
def tabC (p:Value):Array Value:=(p::List.replicate 2048 (.int .i64 0)).toArray
set_option maxRecDepth 1000000 in
theorem built58 (p:Option Addr):Tryz.prog.built 177 [(0,.pointer p)]=some (tabC (.pointer p)):=by kernel_rfl
theorem wpList_build58 {ops:Array Oper}{rest:List Oper}{o:Oper}{a:Act}{w:World}{Q:Exit->Act->World->Prop}(hgd:o.guard=none)(x:Operand)(ho:o.op=.build 177 #[(0,x)])(p:Option Addr)
  (hx:a.eval x=.pointer p) (h:wpList Tryz.prog ops Q rest (a.put o.dst (.agg (tabC (.pointer p)))) w):wpList Tryz.prog ops Q (o::rest) a w :=
 wpList_plain hgd fun _ hK=>wp_build 177 _ ho (by simp [hx,built58]) (by simp [hx,built58];exact hK _ _ h)
theorem tabC_at (p:Value)(i:Nat)(hi:i<2048):(tabC p)[1+i]? = some (.int .i64 0):=by
 unfold tabC
 rw [List.getElem?_toArray,Nat.add_comm,List.getElem?_cons_succ,List.getElem?_replicate,if_pos hi]
theorem tabAt_new {w:World}{pb:Nat}{W H V:Int}{bl:Nat->Bool}(g:GridAt w pb W H V bl)(f:Free w pb)(s:StepsAt w)(n1:1≠pb):TabAt (w.alloc (.cells (tabC (.pointer (some ⟨pb,0,none⟩))) 177)) w.heap.size pb W H V bl (fun _ _=>0):=by
 have hp:pb<w.heap.size:=World.block_lt_of_cell? w _ g.c0
 have hB:Below w.heap.size w (w.alloc (.cells (tabC (.pointer (some ⟨pb,0,none⟩))) 177)):=(Below.refl _ _).alloc (Nat.le_refl _) _
 refine ⟨?_,fun c d hc hd=>?_,free_alloc w _ _ _ (Nat.le_refl _),g.below hB hp,fun o=>(hB.frozen (p:=⟨pb,o,none⟩) hp).trans (f o),s.below hB (by have:=s.pos;omega),by omega,by have:=s.pos;omega,n1⟩
 ·rw [World.cell?_alloc_new];unfold tabC;rw [List.getElem?_toArray,List.getElem?_cons_zero]
 ·rw [World.cell?_alloc_new,Nat.add_assoc];exact tabC_at _ (c*8+d) (by omega)
def Tabled (w w':World) (e:Ending) (W H V:Int) (bl:Nat->Bool):Prop :=
 ∃ tb pb,e=.returned (.pointer (some ⟨tb,0,none⟩))/\TabOk w' tb pb W H V bl/\w.heap.size<=tb/\w.heap.size<=pb/\Below w.heap.size w w'
end
section
open Go.RowKit
set_option maxHeartbeats 2000000 in
set_option maxRecDepth 1000000 in
theorem tnew_any {b:Nat}{W H V:Int}{bl:Nat->Bool}(w:World)(g:GridAt w b W H V bl)(s:StepsAt w) :
  Calls Tryz.prog 65 #[.pointer (some ⟨b,0,none⟩)] w fun e w'=>Tabled w w' e W H V bl:=by
 have w1':=g.w1
 have w2':=g.w2
 have h1':=g.h1
 have h2':=g.h2
 obtain ⟨k1,k2⟩:=wh_bd g.w1 g.w2 g.h1 g.h2
 have s0:=s.pos
 have hcp:=copy_any w g
 go_enter Tryz.func65,Tryz.ntmps65
 go_wp2_with (first|(go_at_call 80;refine hcp.mono ?_;rintro e wa ⟨rfl,hba,hza,ga,gf⟩;have t0:=tabAt_new ga gf (s.below hba (by omega)) (by omega);have HB0:Below w.heap.size w (wa.alloc (.cells (tabC (.pointer (some ⟨w.heap.size,0,none⟩))) 177)):=hba.alloc hba.size _;have p0:=t0.p0)|refine wpList_build58 rfl _ rfl (some ⟨w.heap.size,0,none⟩) rfl ?_)
 have hz:w.heap.size<=wa.heap.size:=by omega
 clear hcp hba ga gf hza
 refine (cells_any _ t0.ga).mono ?_
 rintro e wb ⟨rfl,m,rfl⟩
 have t1:=t0.drewN m
 have HB1:=below_drewN HB0 m
 have hz1:((wa.alloc (.cells (tabC (.pointer (some ⟨w.heap.size,0,none⟩))) 177)).drewN m).heap.size=wa.heap.size+1:=by simp
 clear t0 HB0 p0
 generalize (wa.alloc (.cells (tabC (.pointer (some ⟨w.heap.size,0,none⟩))) 177)).drewN m=wb at *
 obtain ⟨N,hN⟩:∃ N:Nat,W*H=N:=⟨(W*H).toNat,by omega⟩
 have HN:Hid (W*H=N):=hN
 rw [hN] at k1 k2 ⊢
 clear hN
 go_wp2
 go_loopg [18] N (fun gk iv wr=>∃ (k:Nat) (T:Nat->Nat->Nat),k<=N/\gk=N - k/\iv=.int .i64 k/\TabAt wr wa.heap.size w.heap.size W H V bl T/\Ends W H bl T k 0/\Below w.heap.size w wr)
 case atStart=>exact ⟨0,_,by omega,rfl,rfl,t1,Ends.start W H bl _,HB1⟩
 case round =>
  clear t1 HB1
  obtain ⟨k,T,hk,hgk,rfl,tr,E,HB⟩:=hrel
  have HG:Hid (gk=N - k):=hgk
  clear hgk
  by_cases hlt:k<N
  ·have hlt':(k:Int)<(N:Int):=by omega
   have hin:inB W H k=true:=decide_eq_true ⟨by omega,by rw [HN.out];exact hlt'⟩
   obtain ⟨x,y,ha,hi,hpl⟩:∃ x y,atB W H x y=true/\idx W x y=k/\Calls Tryz.prog 84 #[.pointer (some ⟨w.heap.size,0,none⟩),.int .i64 (k:Int)] wr fun e w'=>e=.returned (.tuple #[.int .i64 x,.int .i64 y,.nilIface])/\∃ m,w'=wr.drewN m:=by
    obtain ⟨ha,hi⟩:=at_place w1' hin
    exact ⟨_,_,ha,by omega,place_in (k:Int) wr tr.ga hin⟩
   have HI:Hid (idx W x y=k):=hi
   clear hi
   obtain ⟨i1,i2,i3,i4⟩:=at_iff.1 ha
   have p0:=tr.p0
   go_wp2_with (go_at_call 84;refine hpl.mono ?_;rintro e w2 ⟨rfl,m2,rfl⟩)
   have t2:=tr.drewN m2
   have HB2:=below_drewN HB m2
   clear tr HB hpl p0
   generalize wr.drewN m2=w2 at *
   go_loopg [31] 8 (fun gk iv wr=>∃ (d:Nat) (T:Nat->Nat->Nat),d<=8/\gk=8 - d/\iv=.int .i64 d/\TabAt wr wa.heap.size w.heap.size W H V bl T/\Ends W H bl T k d/\Below w.heap.size w wr)
   case atStart=>exact ⟨0,T,by omega,rfl,rfl,t2,E,HB2⟩
   case round =>
    clear t2 HB2 E
    obtain ⟨d,T,hd,hgd,rfl,tr,E,HB⟩:=hrel
    have HD:Hid (gk=8 - d):=hgd
    clear hgd
    by_cases hd8:d<8
    ·have hd8':(d:Int)<8:=by omega
     have hie:=isEnd_any x y d wr tr hd8 (by omega) (by omega) (by omega) (by omega)
     cases hat:atB W H (x+stepX d) (y+stepY d) with
     |true =>
      rw [hat] at hie
      have E1:=E.pass ha HI.out hat
      go_wp2_with (go_at_call 110;refine hie.mono ?_;rintro e w3 ⟨rfl,m3,rfl⟩)
      go_roundg (8 - (d+1))
      case measure=>have:=HD.out;omega
      case rel=>exact ⟨d+1,T,by omega,rfl,by go_num,tr.drewN m3,E1,below_drewN HB m3⟩
     |false =>
      rw [hat] at hie
      have hct:=fun m=>count_any x y d (wr.drewN m) (tr.drewN m) hd8 (by omega) (by omega) (by omega) (by omega) (fun hm=>by rw [end_not hat] at hm;cases hm)
      go_wp2_with (first|(go_at_call 110;refine hie.mono ?_;rintro e w3 ⟨rfl,m3,rfl⟩)|(go_at_call 111;refine (hct _).mono ?_;rintro e w4 ⟨rfl,T4,t4,C4,K4⟩))
      go_roundg (8 - (d+1))
      case measure=>have:=HD.out;omega
      case rel=>exact ⟨d+1,T4,by omega,rfl,by go_num,t4,E.count ha HI.out C4,(below_drewN HB m3).trans (K4.to_below HB.size (fun q hq=>by rw [hq];exact hz))⟩
    ·have:d=8:=by omega
     subst this
     go_wp2
     go_roundg (N - (k+1))
     case measure=>have:=HG.out;omega
     case rel=>exact ⟨k+1,T,by omega,rfl,by go_num,tr,E.next,HB⟩
  ·have:k=N:=by omega
   subst this
   go_wp2
   go_ret
   exact ⟨_,_,rfl,⟨T,tr,fun d hd=>E.all w1' w2' h1' h2' (by rw [HN.out];exact Int.le_refl _) hd⟩,hz,Nat.le_refl _,HB⟩
end
section
open Go.RowKit Go.Maps Go.Sort Go.Shelf
set_option maxHeartbeats 400000 in
theorem ggrid_any {rb pb mb:Nat}{W H V:Int}{bl:Nat->Bool}(w:World)(G:GraphAt w rb pb mb W H V bl) :
  Calls Tryz.prog 41 #[.pointer (some ⟨rb,0,none⟩)] w fun e w'=>e=.returned (.pointer (some ⟨w.heap.size,0,none⟩))/\Below w.heap.size w w'/\w.heap.size<w'.heap.size/\GridAt w' w.heap.size W H V bl/\Free w' w.heap.size:=by
 obtain ⟨f,G,E⟩:=G
 have p0:=G.p0
 have hcp:=copy_any w G.ga
 clear G E
 go_enter Tryz.func41,Tryz.ntmps41
 go_wp2_with fail
 refine hcp.mono ?_
 rintro e w1 ⟨rfl,hb1,hs1,g1,fr1⟩
 clear hcp
 go_wp2
 go_ret
 exact ⟨rfl,hb1,hs1,g1,fr1⟩
end
section
open Go.RowKit Go.Lib
structure SvAt (w:World) (lo hi sb rb pb mb lb tb gb N x:Nat) (W H V V2:Int) (bl:Nat->Bool) (most:Nat):Prop where
 c0:w.cell? ⟨sb,0,none⟩=some (.int .i64 (most:Int))
 c1:w.cell? ⟨sb,1,none⟩=some (.pointer (some ⟨rb,0,none⟩))
 c2:w.cell? ⟨sb,2,none⟩=some (.pointer (some ⟨lb,0,none⟩))
 c3:w.cell? ⟨sb,3,none⟩=some (.pointer (some ⟨tb,0,none⟩))
 fz:w.frozen? ⟨sb,2,none⟩=false
 gi:GraphIn w rb pb mb W H V bl (fun g=>g≠tb/\g≠gb/\g≠sb)
 lv:Lvd w N lb most W H bl (esF W H bl)
 ta:TabOk w tb gb W H V2 bl
 l1:lo<=rb/\lo<=pb/\lo<=mb/\lo<=N
 l2:rb<x/\pb<x/\mb<x
 l3:x<=tb/\x<=gb/\tb<sb/\gb<sb
 l4:sb<hi
 m1:1<=most
 m6:most<=6
 vv:V2=V
def Sv (w:World) (lo hi sb:Nat) (W H V:Int) (bl:Nat->Bool) (most:Nat):Prop:=∃ rb pb mb lb tb gb N x V2,SvAt w lo hi sb rb pb mb lb tb gb N x W H V V2 bl most
section
variable {w w' : World} {lo hi sb rb pb mb lb tb gb N x most : Nat} {W H V V2 : Int} {bl : Nat → Bool}
theorem SvAt.gr (S:SvAt w lo hi sb rb pb mb lb tb gb N x W H V V2 bl most):GraphAt w rb pb mb W H V bl:=S.gi.graph
theorem SvAt.lt (S:SvAt w lo hi sb rb pb mb lb tb gb N x W H V V2 bl most):sb<w.heap.size:=World.block_lt_of_cell? _ _ S.c0
theorem SvAt.below (S:SvAt w lo hi sb rb pb mb lb tb gb N x W H V V2 bl most)(hb:Below w.heap.size w w'):SvAt w' lo hi sb rb pb mb lb tb gb N x W H V V2 bl most:=by
 have k:∀ {a:Addr}{v:Value},w.cell? a=some v->w'.cell? a=some v:=fun {a v} h=>(hb.cell (World.block_lt_of_cell? w a h)).trans h
 exact ⟨k S.c0,k S.c1,k S.c2,k S.c3,(hb.frozen (p:=⟨sb,2,none⟩) S.lt).trans S.fz,S.gi.below hb,S.lv.below hb,S.ta.below hb,S.l1,S.l2,S.l3,S.l4,S.m1,S.m6,S.vv⟩
theorem Sv.below (S:Sv w lo hi sb W H V bl most)(hb:Below w.heap.size w w'):Sv w' lo hi sb W H V bl most:=by
 obtain ⟨rb,pb,mb,lb,tb,gb,N,x,V2,S⟩:=S
 exact ⟨rb,pb,mb,lb,tb,gb,N,x,V2,S.below hb⟩
theorem SvAt.st (S:SvAt w lo hi sb rb pb mb lb tb gb N x W H V V2 bl most):StepsAt w:=by
 obtain ⟨T,t,_⟩:=S.ta.ok
 exact t.st
theorem SvAt.side (S:SvAt w lo hi sb rb pb mb lb tb gb N x W H V V2 bl most):1<=W/\W<=16/\1<=H/\H<=16:=by
 obtain ⟨f,G,_⟩:=S.gr
 exact ⟨G.ga.w1,G.ga.w2,G.ga.h1,G.ga.h2⟩
theorem Sv.side (S:Sv w lo hi sb W H V bl most):1<=W/\W<=16/\1<=H/\H<=16:=by
 obtain ⟨rb,pb,mb,lb,tb,gb,N,x,V2,S⟩:=S
 exact S.side
theorem Sv.mst (S:Sv w lo hi sb W H V bl most):1<=most/\most<=6:=by
 obtain ⟨rb,pb,mb,lb,tb,gb,N,x,V2,S⟩:=S
 exact ⟨S.m1,S.m6⟩
end
theorem conn_rows' {rb pb mb:Nat}{W H V:Int}{c:Nat}{bl:Nat->Bool}(w:World)(G:GraphAt w rb pb mb W H V bl)(s:StepsAt w)(w1:1<=W)(w2:W<=16)(h1:1<=H)(h2:H<=16)(hc:inB W H c=true)(hfree:bl c=false) :
  Calls Tryz.prog 87 #[.pointer (some ⟨rb,0,none⟩),.int .i64 (c:Int)] w fun e w'=>∃ A cap l,e=.returned (.tuple #[.slice A (frI W c l).length cap,.nilIface])/\RowI w' A (frI W c l)/\Cnp W H bl c l/\(frI W c l).length<=1000/\Below w.heap.size w w':=by
 refine (conn_ok w G s hc (by rw [Int.toNat_natCast];exact hfree)).mono ?_
 rintro e w' ⟨v,l,rfl,hown,⟨hr,hl⟩,hb⟩
 obtain ⟨a1,a2⟩:=cns_len w1 w2 h1 h2 hr hl
 obtain ⟨A,cap,rfl,hrow⟩:=rowI_of hown a2
 exact ⟨A,cap,l,rfl,hrow,⟨hr,hl⟩,by rw [frI_len];omega,hb⟩
theorem GsAt.below {w w':World}{gc xc yc M:Nat}{W tz:Int}(h:GsAt w gc xc yc M W tz)(hb:Below w.heap.size w w'):GsAt w' gc xc yc M W tz:=by
 have k:∀ {a:Addr}{v:Value},w.cell? a=some v->w'.cell? a=some v:=fun {a v} h=>(hb.cell (World.block_lt_of_cell? w a h)).trans h
 exact ⟨k h.1,k h.2.1,k h.2.2⟩
def Bst (W H:Int) (bl:Nat->Bool) (most:Nat) (a t:Nat) (la lb:List Nat) (stops:List Nat) (s d:Int) (f:Bool):Prop :=
 ∃ k st,Rds most (crs W H bl (W*H).toNat) ⟨fun _=>0,esF W H bl⟩ k st/\Over most (crs W H bl (W*H).toNat) k st/\BestR (crs W H bl (W*H).toNat) ⟨endL (k+1) st,st.es⟩ (gsN W H t) (frI W a la) (frI W t lb) stops s d f
theorem sbest_any {M gc xc yc lb N most cap cap2 a t:Nat}{W H V:Int}{bl:Nat->Bool}{A A2:Option Addr}{la lt:List Nat}(w:World)(hL:Lvd w N lb most W H bl (esF W H bl))(g:GridAt w M W H V bl)(G:GsAt w gc xc yc M W (t:Int))(ht:inB W H t=true)(m1:1<=most)(m6:most<=6)(ho:RowI w A (frI W a la))(hi:RowI w A2 (frI W t lt))(hol:(frI W a la).length<=1000)(hil:(frI W t lt).length<=1000) :
  Calls Tryz.prog 88 #[.pointer (some ⟨lb,0,none⟩),.slice A (frI W a la).length cap,.slice A2 (frI W t lt).length cap2,.func (.func 85) #[] #[.pointer (some ⟨gc,0,none⟩),.pointer (some ⟨xc,0,none⟩),.pointer (some ⟨yc,0,none⟩)]] w fun e w'=>∃ stops s d b v,e=.returned (.tuple #[v,.agg #[.int .i64 s,.int .i64 d],.bool b])/\Bst W H bl most a t la lt stops s d b/\w'.ownsRow w.heap.size 3 1 v stops.length (vals stops)/\stops.length<=40000/\Below w.heap.size w w':=by
 obtain ⟨vb,eb,k,st,f,hR,hO,V⟩:=hL
 obtain ⟨O,hlv,hU⟩:=lvOk (esF_ok g.w1) g.w1 g.w2 g.h1 g.h2 m6 m1 hR
 refine (best_any (cs:=[.pointer (some ⟨gc,0,none⟩),.pointer (some ⟨xc,0,none⟩),.pointer (some ⟨yc,0,none⟩)]) w V O hlv hU (gs_ok w G.1 G.2.1 G.2.2 g ht) (gsN_bd g.w1 g.w2 g.h1 g.h2 ht) ho hi hol hil).mono ?_
 rintro e w' ⟨way,s,d,b,v,rfl,hB,hown,hwl,hb⟩
 exact ⟨way,s,d,b,v,rfl,⟨k,st,hR,hO,hB⟩,hown,hwl,hb⟩
end
section
open Go.RowKit Go.Lib
theorem Bst.ov {W H:Int}{bl:Nat->Bool}{most a t:Nat}{la lb stops way:List Nat}{s d:Int}{f:Bool}(h:Bst W H bl most a t la lb stops s d f)(h1:Cnp W H bl a la)(h2:Cnp W H bl t lb)(h3:stops.length<=40000)(h4:f=false->way=[])(h5:f=true->∃ l,way=a::l/\JnR W H bl a (stops++[t]) l):OvR W H bl most a t way s d f:=by
 obtain ⟨k,st,r1,r2,r3⟩:=h
 exact ⟨k,st,la,lb,stops,r1,r2,h1,h2,r3,h3,h4,h5⟩
theorem Bst.near {W H:Int}{bl:Nat->Bool}(w1:1<=W)(w2:W<=16)(h1:1<=H)(h2:H<=16){most a t:Nat}(m1:1<=most)(m6:most<=6){la lb stops:List Nat}{s d:Int}(h:Bst W H bl most a t la lb stops s d true)(ha:inB W H a=true)(hfa:bl a=false)(ht:inB W H t=true)(hft:bl t=false)(k1:Cnp W H bl a la)(k2:Cnp W H bl t lb):NrC W H bl a (stops++[t]):=by
 obtain ⟨k,st,r1,r2,r3⟩:=h
 exact (OvR.stops w1 w2 h1 h2 m1 m6 ha hfa ht hft r1 k1 k2 r3).1
theorem Bst.no {W H:Int}{bl:Nat->Bool}{most a t:Nat}{la lb stops:List Nat}{s d:Int}(h:Bst W H bl most a t la lb stops s d false):s=0/\d=0:=by
 obtain ⟨k,st,_,_,r3⟩:=h
 obtain ⟨_,_,_,_,_,_,_,_,h4,_⟩:=r3
 exact (h4 rfl).2
set_option maxHeartbeats 4000000 in
set_option maxRecDepth 1000000 in
theorem overC_any {lo hi sb rb pb mb lb tb gb N x M most a t:Nat}{W H V V2 V3:Int}{bl:Nat->Bool}(w:World)(S:SvAt w lo hi sb rb pb mb lb tb gb N x W H V V2 bl most)(d:DiagAt w)(g:GridAt w M W H V3 bl)(ha:inB W H a=true)(hfa:bl a=false)(ht:inB W H t=true)(hft:bl t=false) :
  Calls Tryz.prog 44 #[.pointer (some ⟨sb,0,none⟩),.pointer (some ⟨M,0,none⟩),.int .i64 (a:Int),.int .i64 (t:Int)] w fun e w'=>∃ v way s d f,e=.returned (.agg #[v,.int .i64 s,.int .i64 d,.int .i64 (if f then 0 else 5)])/\w'.ownsRow w.heap.size 3 1 v way.length (vals way)/\OvR W H bl most a t way s d f/\Below w.heap.size w w':=by
 obtain ⟨w1,w2,h1,h2⟩:=S.side
 obtain ⟨i0,hi,hz0,hz1,hz2⟩:=info_parts Tryz.info3
 have hM:=World.block_lt_of_cell? _ _ g.c0
 have b0:Below w.heap.size w (w.alloc (.cells #[.slice none 0 0,.int .i64 0,.int .i64 0,.int .i64 0] 56)):=(Below.refl _ _).alloc (Nat.le_refl _) _
 have an0:=An.new w (.slice none 0 0) 0 0 0
 have S0:=S.below b0
 have q1:=S0.c1
 have hc1:=conn_rows' _ S0.gr S0.st w1 w2 h1 h2 ha hfa
 go_enter Tryz.func44,Tryz.ntmps44
 go_wp2_with fail
 generalize w.alloc (.cells #[.slice none 0 0,.int .i64 0,.int .i64 0,.int .i64 0] 56)=wa at *
 refine hc1.mono ?_
 rintro e wb ⟨A1,cap1,la,rfl,r1,cn1,le1,hb1⟩
 have S1:=S0.below hb1
 have an1:=an0.below hb1
 have B1:=b0.trans (hb1.mono b0.size)
 have q1:=S1.c1
 have hc2:=conn_rows' _ S1.gr S1.st w1 w2 h1 h2 ht hft
 clear hc1 S0 an0 hb1 b0
 go_wp2_with fail
 refine hc2.mono ?_
 rintro e wr ⟨A2,cap2,lt,rfl,r2,cn2,le2,hb2⟩
 have S2:=S1.below hb2
 have an2:=an1.below hb2
 have B2:=B1.trans (hb2.mono B1.size)
 have r1:=r1.below (Nat.le_refl _) hb2
 have HC:Hid (Cnp W H bl a la/\Cnp W H bl t lt):=⟨cn1,cn2⟩
 have c2:=S2.c2
 have g2:=g.below B2 hM
 have hM2:M<wr.heap.size:=Nat.lt_of_lt_of_le hM B2.size
 have sz2:w.heap.size<wr.heap.size:=World.block_lt_of_cell? _ _ an2.c0
 clear hc2 S1 an1 hb2 B1 cn1 cn2 q1
 have HG:Hid (∀ w',Below wr.heap.size wr w'->_):=fun w' hb=>guessTo_any w' (g2.below hb hM2) ht
 have HB:Hid (∀ w' gc xc yc,Below wr.heap.size wr w'->GsAt w' gc xc yc M W (t:Int)->_):=fun w' gc xc yc hb G=>sbest_any (cap:=cap1) (cap2:=cap2) w' (S2.lv.below hb) (g2.below hb hM2) G ht S2.m1 S2.m6 (r1.below (Nat.le_refl _) hb) (r2.below (Nat.le_refl _) hb) le1 le2
 go_upto_region 3 with fail
 go_cut [13,14,15] from 34 to 47 (fun cv pv fv wd=>∃ stops s d f T vS,vS=cv/\pv=.pointer (some ⟨T,0,none⟩)/\fv=.bool f/\Slot wd T s d/\w.heap.size<T/\wd.ownsRow (w.heap.size+1) 3 1 vS stops.length (vals stops)/\(∀ q,vS.ownBlock=some q->q≠T)/\Bst W H bl most a t la lt stops s d f/\stops.length<=40000/\Below wr.heap.size wr wd)
 case first =>
  have e0:Below wr.heap.size wr wr.drew:=(Below.refl _ _).drew
  have eA:Below wr.heap.size wr (wr.drew.alloc (.cells #[.int .i64 0,.int .i64 0] 53)):=e0.alloc e0.size _
  have sA:Slot (wr.drew.alloc (.cells #[.int .i64 0,.int .i64 0] 53)) wr.heap.size 0 0:=Slot.new wr.drew 0 0
  have CC:Hid (∀ w',Below wr.heap.size wr w'->w'.cell? ⟨sb,2,none⟩=some (.pointer (some ⟨lb,0,none⟩))):=fun w' h=>(h.cell (World.block_lt_of_cell? wr _ c2)).trans c2
  clear c2 r1 r2 S2 g2 an2
  go_region_held3 (fun w'=>w'.cell? ⟨sb,2,none⟩=some (.pointer (some ⟨lb,0,none⟩))) (first|exact CC.out _ e0|exact CC.out _ eA|exact CC.out _ e5|exact CC.out _ (e5.alloc e5.size _)|exact CC.out _ e6|exact CC.out _ (e6.alloc e6.size _)|exact CC.out _ ((e6.setCell (p:=⟨_,0,none⟩) (by first|exact Nat.le_refl _|exact e5.size) _).setCell (p:=⟨_,1,none⟩) (by first|exact Nat.le_refl _|exact e5.size) _)|exact CC.out _ (((e6.alloc e6.size _).setCell (p:=⟨_,0,none⟩) e6.size _).setCell (p:=⟨_,1,none⟩) e6.size _))
   (first
    |(go_at_call 43;first|(refine (HG.out _ e0).mono ?_;rintro r w5 ⟨gc,xc,yc,rfl,G5,hb5⟩;have e5:=e0.trans (hb5.mono e0.size))|(refine (HG.out _ eA).mono ?_;rintro r w5 ⟨gc,xc,yc,rfl,G5,hb5⟩;have e5:=eA.trans (hb5.mono eA.size);have sl:=sA.below hb5))
    |(go_at_call 88;first|(refine (HB.out _ _ _ _ e5 G5).mono ?_;rintro r w6 ⟨stops,s,d',f,v,rfl,hBst,hown,hsl,hb6⟩;have e6:=e5.trans (hb6.mono e5.size);first|(have s6:=sl.below hb6;have g0:=s6.c0;have g1:=s6.c1;have g2:=s6.z0;have g3:=s6.z1)|skip)|(refine (HB.out _ _ _ _ (e5.alloc e5.size _) (G5.below ((Below.refl _ _).alloc (Nat.le_refl _) _))).mono ?_;rintro r w6 ⟨stops,s,d',f,v,rfl,hBst,hown,hsl,hb6⟩;have e6:=(e5.alloc e5.size _).trans (hb6.mono (e5.alloc e5.size _).size);have s6:=(Slot.new w5 0 0).below hb6;have g0:=s6.c0;have g1:=s6.c1;have g2:=s6.z0;have g3:=s6.z1)))
  all_goals
   go_wp2_with fail
   go_meet
  ·exact ⟨stops,s,d',f,_,_,rfl,rfl,rfl,Slot.new w6 _ _,by have:=e6.size;omega,own_base (World.ownsRow.alloc hown _) (by have:=e5.size;omega),fun q hq=>Nat.ne_of_lt (hown.lt q hq).2,hBst,hsl,e6.alloc e6.size _⟩
  ·have z5:=e5.size
   refine ⟨stops,s,d',f,_,_,rfl,rfl,rfl,s6.set _ _,by omega,own_base (own_keep hown (set_keep w6 w5.heap.size s d') (fun q hq=>by have:=(hown.lt q hq).1;simp at this;omega)) (by simp;omega),(fun q hq=>by have:=(hown.lt q hq).1;simp at this;omega),hBst,hsl,?_⟩
   exact (e6.setCell (p:=⟨w5.heap.size,0,none⟩) z5 _).setCell (p:=⟨w5.heap.size,1,none⟩) z5 _
  ·have z5:=e5.size
   have z6:wr.heap.size<w5.heap.size:=World.block_lt_of_cell? _ _ sl.c0
   refine ⟨stops,s,d',f,_,_,rfl,rfl,rfl,s6.set _ _,by omega,own_base (own_keep hown (set_keep w6 wr.heap.size s d') (fun q hq=>by have:=(hown.lt q hq).1;omega)) (by omega),(fun q hq=>by have:=(hown.lt q hq).1;omega),hBst,hsl,?_⟩
   exact (e6.setCell (p:=⟨wr.heap.size,0,none⟩) (Nat.le_refl _) _).setCell (p:=⟨wr.heap.size,1,none⟩) (Nat.le_refl _) _
 case rest =>
  obtain ⟨stops,s,d',f,T,vS,rfl,rfl,rfl,slT,hT,hown,hqT,hBst,hsl,hb3⟩:=hcut
  have an3:=an2.below hb3
  have B3:=B2.trans (hb3.mono B2.size)
  have x0:=an3.c0
  have x1:=an3.c1
  have x2:=an3.c2
  have x3:=an3.c3
  have y0:=an3.z0
  have y1:=an3.z1
  have y2:=an3.z2
  have y3:=an3.z3
  clear HG HB r1 r2 an2 c2 hb3
  cases f with
  |false =>
   obtain ⟨e1,e2⟩:=hBst.no
   subst e1 e2
   clear slT hown
   go_wp2
   have r:=an3.set (.slice none 0 0) 0 0 5
   refine bodyPost_ret (v:=.agg #[.slice none 0 0,.int .i64 0,.int .i64 0,.int .i64 5]) (by simp [results,Tryz.results44,go_sem,r.c0,r.c1,r.c2,r.c3]) rfl ?_
   exact ⟨_,[],0,0,false,rfl,World.ownsRow_nil _ _ _ _,hBst.ov HC.out.1 HC.out.2 hsl (fun _=>rfl) (fun q=>by cases q),an_below B3 (Nat.le_refl _) _ _ _ _⟩
  |true =>
   have HNR:=Bst.near w1 w2 h1 h2 S.m1 S.m6 hBst ha hfa ht hft HC.out.1 HC.out.2
   have g3:=g.below B3 hM
   have s3:StepsAt wc:=S.st.below B3 (by omega)
   have d3:=d.below B3
   have t0:=slT.c0
   have t1:=slT.c1
   have hTl:T<wc.heap.size:=World.block_lt_of_cell? _ _ t0
   have hlw:w.heap.size<wc.heap.size:=World.block_lt_of_cell? _ _ x0
   have HJ:Hid (∀ (w7:World) (g7 c7:Nat),Below w.heap.size w w7->w7.ownsRow (w.heap.size+1) 3 1 (.slice (some ⟨g7,0,none⟩) (stops.length+1) c7) (stops.length+1) (vals stops++[.int .i64 (t:Int)])->Calls Tryz.prog 89 #[.pointer (some ⟨M,0,none⟩),.int .i64 (a:Int),.slice (some ⟨g7,0,none⟩) (stops.length+1) c7] w7 fun e w'=>∃ g8 c8 l,e=.returned (.slice (some ⟨g8,0,none⟩) (l.length+1) c8)/\w'.ownsRow w7.heap.size 3 1 (.slice (some ⟨g8,0,none⟩) (l.length+1) c8) (a::l).length (vals (a::l))/\JnR W H bl a (stops++[t]) l/\Below w7.heap.size w7 w'):=fun w7 g7 c7 hb ho=>by
    have e1:stops.length+1=(stops++[t]).length:=by simp
    have e2:vals stops++[.int .i64 (t:Int)]=vals (stops++[t]):=by simp [vals]
    rw [e1,e2] at ho
    rw [e1]
    obtain ⟨g9,c9,q1,q2,_⟩:=rowN_of ho (by simp)
    cases q1
    refine (njoin_any w7 (g.below hb hM) (S.st.below hb (by omega)) (d.below hb) q2 HNR (by simp;omega)).mono ?_
    rintro e w' ⟨v,l,h1,h2,h3,_,h4⟩
    obtain ⟨g8,c8,rfl,_⟩:=rowN_of h2 (by simp)
    exact ⟨g8,c8,l,h1,h2,h3,h4⟩
   clear g3 s3 d3 HNR
   go_upto_region 6 with fail
   have e0:Below wc.heap.size wc wc.drew:=(Below.refl _ _).drew
   have B0:=B3.trans (e0.mono B3.size)
   have o0:=own_below hown e0
   have k0:Keep (fun k=>vS.ownBlock=some k) wc wc.drew:=Keep.of_below e0
   have CC:Hid (∀ w',Keep (fun k=>vS.ownBlock=some k) wc w'->w'.cell? ⟨T,0,none⟩=some (.int .i64 s)/\w'.cell? ⟨T,1,none⟩=some (.int .i64 d')):=fun w' h=>⟨h.cellOf t0 (fun q=>hqT T q rfl),h.cellOf t1 (fun q=>hqT T q rfl)⟩
   have hqw:∀ q,vS.ownBlock=some q->w.heap.size<q:=fun q hq=>(hown.lt q hq).1
   have zc:w.heap.size<=wc.heap.size:=B3.size
   have o6:=o0.alloc (.cells #[.int .i64 (t:Int)] 3)
   have B6:Below w.heap.size w (wc.drew.alloc (.cells #[.int .i64 (t:Int)] 3)):=B0.alloc zc _
   have kA:=k0.alloc (.cells #[.int .i64 (t:Int)] 3)
   have a1:∀ j u,[Value.int .i64 (t:Int)][j]? = some u->(wc.drew.alloc (.cells #[.int .i64 (t:Int)] 3)).cell? ((⟨wc.heap.size,0,none⟩:Addr).add j)=some u:=fun j u hj=>by
    match j,hj with
    |0,hj =>
     cases hj
     exact World.cell?_alloc_at (w:=wc.drew) #[.int .i64 (t:Int)] 3 wc.heap.size 0 rfl
   have a2:∀ u ∈ [Value.int .i64 (t:Int)],u.oneCell'=true:=fun u hu=>by simp at hu;subst hu;rfl
   have a3:stops.length+1<=maxLen:=by unfold maxLen;omega
   have a4:(stops.length+1)*8<=140737488355328:=by omega
   have a5:w.heap.size+1<=(wc.drew.alloc (.cells #[.int .i64 (t:Int)] 3)).heap.size:=by simp;omega
   clear t0 t1 slT hown x0 x1 x2 x3 y0 y1 y2 y3
   go_region_held3 (fun w'=>w'.cell? ⟨T,0,none⟩=some (.int .i64 s)/\w'.cell? ⟨T,1,none⟩=some (.int .i64 d')) (first|exact CC.out _ k0|exact CC.out _ kA|exact CC.out _ k7|exact CC.out _ k8|exact ⟨(an_keep w8 w.heap.size _ _ _ _).cellOf (CC.out _ k8).1 (Nat.ne_of_gt hT),(an_keep w8 w.heap.size _ _ _ _).cellOf (CC.out _ k8).2 (Nat.ne_of_gt hT)⟩)
    (first
     |(refine step_append_lies _ rfl (.tmp 53) (.tmp 55) 51 rfl (w.heap.size+1) 3 i0 (.int .i64 0) 1 8 Tryz.underlying51 hi hz0 hz1 hz2 rfl (by decide) _ _ _ rfl o6 ⟨wc.heap.size,0,none⟩ 1 1 [.int .i64 (t:Int)] rfl rfl a1 a2 (by decide) a3 a4 a5 _ rfl ?_;intro g7 c7 w7 hown7 hg7 _ hlt7;have B7:Below w.heap.size w w7:=(B6.grown hg7 (by simp;omega) (fun q hq=>Nat.le_of_lt (hqw q hq)));have k7:=kA.grown hg7 (fun k hk _=>hk);have h8:=HJ.out w7 g7 c7 B7 hown7)
     |(go_at_call 89;refine h8.mono ?_;rintro r w8 ⟨g8,c8,l8,rfl,hown8,hj8,hb8⟩;have k8:=k7.below hb8;have an8:=an3.keep k8 (fun q=>absurd (hqw _ q) (Nat.lt_irrefl _));have x0:=an8.c0;have x1:=an8.c1;have x2:=an8.c2;have x3:=an8.c3;have y0:=an8.z0;have y1:=an8.z1;have y2:=an8.z2;have y3:=an8.z3;have B8:=B7.trans (hb8.mono B7.size)))
   go_wp2
   have r:=an8.set (.slice (some ⟨g8,0,none⟩) (l8.length+1) c8) s d' 0
   refine bodyPost_ret (v:=.agg #[.slice (some ⟨g8,0,none⟩) (l8.length+1) c8,.int .i64 s,.int .i64 d',.int .i64 0]) (by simp [results,Tryz.results44,go_sem,r.c0,r.c1,r.c2,r.c3]) rfl ?_
   refine ⟨_,a::l8,s,d',true,rfl,own_base (own_keep hown8 (an_keep w8 w.heap.size _ _ _ _) (fun q hq=>by have:=(hown8.lt q hq).1;have:=B7.size;have:w.heap.size<w7.heap.size:=Nat.lt_of_lt_of_le hlw k7.size;omega)) B7.size,hBst.ov HC.out.1 HC.out.2 hsl (fun q=>by cases q) (fun _=>⟨l8,rfl,hj8⟩),an_below B8 (Nat.le_refl _) _ _ _ _⟩
end
end Go.Proofs.YtmaefimaeelkbaaGreatDoor
