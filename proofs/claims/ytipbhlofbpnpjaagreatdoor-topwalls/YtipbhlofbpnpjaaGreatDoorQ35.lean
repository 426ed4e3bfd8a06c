/-
  Texts laid together: Sv, Nv3, Nv4, TShelf.
-/
import Derived.Test.YtipbhlofbpnpjaaGreatDoorQ32
import Derived.Test.YtipbhlofbpnpjaaGreatDoorQ34
import Derived.Deep.AppendLies
import Derived.Shelf.Strings.Builder1
import Derived.Shelf.Strings.BuilderF
import Derived.Shelf.Strings.BuilderK
import Derived.Shelf.Strconv.Atoi
import Derived.Shelf.Strconv.Itoa0
import Derived.Shelf.Strconv.Itoa1
import Derived.Shelf.LaysM
import Derived.Shelf.Strconv.Itoa2
import Derived.Shelf.Strconv.Itoa3
import Derived.Shelf.Strconv.AtoiErrFast
import Derived.Shelf.Strconv.ParseIntEmpty
import Derived.Shelf.Strconv.AtoiFail
import Derived.Shelf.Strconv.Clone
import Derived.Shelf.Strconv.SyntaxError
import Derived.Shelf.LaysC
import Derived.Shelf.Strconv.ToError
import Derived.Shelf.Strconv.Lower
import Derived.Shelf.Strconv.ParseUint10
import Derived.Shelf.Strconv.ParseUint10Empty
import Derived.Shelf.Strconv.ParseUint10Any
import Derived.Shelf.Strconv.ParseInt10
import Derived.Shelf.Strconv.AtoiLong
import Derived.Shelf.Strconv.AtoiInnerAll
import Derived.Shelf.Strconv.RangeError
import Derived.Shelf.Strconv.ToErrorRange
import Derived.Shelf.Strconv.AtoiAll
import Derived.Shelf.Strconv.ErrVarAll
import Derived.Shelf.Strings.Search1
import Derived.Shelf.Strings.Search2
import Derived.Shelf.Strings.Cut
import Derived.Shelf.Strings.Shaped
import Derived.Shelf.Strings.Prefix
import Derived.Test.YtipbhlofbpnpjaaGreatDoorProg
namespace Go.Proofs.YtipbhlofbpnpjaaGreatDoor
section
open Go.RowKit Go.Lib
structure SvAt (w:World) (lo hi sb rb pb mb lb tb gb N x:Nat) (W H V V2:Int) (bl:Nat->Bool) (most:Nat):Prop where
 c0:w.cell? ⟨sb,0,none⟩=some (.int .i64 (most:Int))
 c1:w.cell? ⟨sb,1,none⟩=some (.pointer (some ⟨rb,0,none⟩))
 c2:w.cell? ⟨sb,2,none⟩=some (.pointer (some ⟨lb,0,none⟩))
 c3:w.cell? ⟨sb,3,none⟩=some (.pointer (some ⟨tb,0,none⟩))
 fz:w.frozen? ⟨sb,2,none⟩=false
 gi:GraphIn w rb pb mb W H V bl (fun g=>g≠tb/\g≠gb/\g≠sb)
 lv:Lvd w N lb most W H bl (esF W H bl)
 ta:TabOk w tb gb W H V2 bl
 l1:lo<=rb/\lo<=pb/\lo<=mb/\lo<=N
 l2:rb < x/\pb < x/\mb < x
 l3:x<=tb/\x<=gb/\tb < sb/\gb < sb
 l4:sb < hi
 m1:1<=most
 m6:most<=6
 vv:V2=V
def Sv (w:World) (lo hi sb:Nat) (W H V:Int) (bl:Nat->Bool) (most:Nat):Prop:=∃ rb pb mb lb tb gb N x V2,SvAt w lo hi sb rb pb mb lb tb gb N x W H V V2 bl most
section
variable {w w' : World} {lo hi sb rb pb mb lb tb gb N x most : Nat} {W H V V2 : Int} {bl : Nat → Bool}
theorem SvAt.gr (S:SvAt w lo hi sb rb pb mb lb tb gb N x W H V V2 bl most):GraphAt w rb pb mb W H V bl:=S.gi.graph
theorem SvAt.lt (S:SvAt w lo hi sb rb pb mb lb tb gb N x W H V V2 bl most):sb < w.heap.size:=World.block_lt_of_cell? _ _ S.c0
theorem SvAt.below (S:SvAt w lo hi sb rb pb mb lb tb gb N x W H V V2 bl most) (hb:Below w.heap.size w w'):SvAt w' lo hi sb rb pb mb lb tb gb N x W H V V2 bl most:=by
 have k:∀ {a:Addr}{v:Value},w.cell? a=some v->w'.cell? a=some v:=fun {a v} h=>(hb.cell (World.block_lt_of_cell? w a h)).trans h
 exact ⟨k S.c0,k S.c1,k S.c2,k S.c3,(hb.frozen (p:=⟨sb,2,none⟩) S.lt).trans S.fz,S.gi.below hb,S.lv.below hb,S.ta.below hb,S.l1,S.l2,S.l3,S.l4,S.m1,S.m6,S.vv⟩
theorem Sv.below (S:Sv w lo hi sb W H V bl most) (hb:Below w.heap.size w w'):Sv w' lo hi sb W H V bl most:=by
 obtain ⟨rb,pb,mb,lb,tb,gb,N,x,V2,S⟩:=S
 exact ⟨rb,pb,mb,lb,tb,gb,N,x,V2,S.below hb⟩
theorem SvAt.st (S:SvAt w lo hi sb rb pb mb lb tb gb N x W H V V2 bl most):StepsAt w:=by
 obtain ⟨T,t,_⟩:=S.ta.ok
 exact t.st
theorem SvAt.side (S:SvAt w lo hi sb rb pb mb lb tb gb N x W H V V2 bl most):1<=W/\W<=16/\1<=H/\H<=16:=by
 obtain ⟨f,G,_⟩:=S.gr
 exact ⟨G.ga.w1,G.ga.w2,G.ga.h1,G.ga.h2⟩
theorem Sv.side (S:Sv w lo hi sb W H V bl most):1<=W/\W<=16/\1<=H/\H<=16:=by
 obtain ⟨rb,pb,mb,lb,tb,gb,N,x,V2,S⟩:=S
 exact S.side
theorem Sv.mst (S:Sv w lo hi sb W H V bl most):1<=most/\most<=6:=by
 obtain ⟨rb,pb,mb,lb,tb,gb,N,x,V2,S⟩:=S
 exact ⟨S.m1,S.m6⟩
end
theorem conn_rows' {rb pb mb:Nat}{W H V:Int}{c:Nat}{bl:Nat->Bool}(w:World) (G:GraphAt w rb pb mb W H V bl) (s:StepsAt w) (w1:1<=W) (w2:W<=16) (h1:1<=H) (h2:H<=16) (hc:inB W H c=true) (hfree:bl c=false) :
  Calls Tryz.prog 79 #[.pointer (some ⟨rb,0,none⟩),.int .i64 (c:Int)] w fun e w'=>∃ A cap l,e=.returned (.tuple #[.slice A (frI W c l).length cap,.nilIface])/\RowI w' A (frI W c l)/\Cnp W H bl c l/\(frI W c l).length<=1000/\Below w.heap.size w w':=by
 refine (conn_ok w G s hc (by rw [Int.toNat_natCast];exact hfree)).mono ?_
 rintro e w' ⟨v,l,rfl,hown,⟨hr,hl⟩,hb⟩
 obtain ⟨a1,a2⟩:=cns_len w1 w2 h1 h2 hr hl
 obtain ⟨A,cap,rfl,hrow⟩:=rowI_of hown a2
 exact ⟨A,cap,l,rfl,hrow,⟨hr,hl⟩,by rw [frI_len];omega,hb⟩
theorem GsAt.below {w w':World}{gc xc yc M:Nat}{W tz:Int}(h:GsAt w gc xc yc M W tz) (hb:Below w.heap.size w w'):GsAt w' gc xc yc M W tz:=by
 have k:∀ {a:Addr}{v:Value},w.cell? a=some v->w'.cell? a=some v:=fun {a v} h=>(hb.cell (World.block_lt_of_cell? w a h)).trans h
 exact ⟨k h.1,k h.2.1,k h.2.2⟩
def Bst (W H:Int) (bl:Nat->Bool) (most:Nat) (a t:Nat) (la lb:List Nat) (stops:List Nat) (s d:Int) (f:Bool):Prop :=
 ∃ k st,Rds most (crs W H bl (W*H).toNat) ⟨fun _=>0,esF W H bl⟩ k st/\Over most (crs W H bl (W*H).toNat) k st/\BestR (crs W H bl (W*H).toNat) ⟨endL (k+1) st,st.es⟩ (gsN W H t) (frI W a la) (frI W t lb) stops s d f
theorem sbest_any {M gc xc yc lb N most cap cap2 a t:Nat}{W H V:Int}{bl:Nat->Bool}{A A2:Option Addr}{la lt:List Nat}(w:World) (hL:Lvd w N lb most W H bl (esF W H bl)) (g:GridAt w M W H V bl) (G:GsAt w gc xc yc M W (t:Int)) (ht:inB W H t=true) (m1:1<=most) (m6:most<=6) (ho:RowI w A (frI W a la)) (hi:RowI w A2 (frI W t lt)) (hol:(frI W a la).length<=1000) (hil:(frI W t lt).length<=1000) :
  Calls Tryz.prog 80 #[.pointer (some ⟨lb,0,none⟩),.slice A (frI W a la).length cap,.slice A2 (frI W t lt).length cap2,.func (.func 77) #[] #[.pointer (some ⟨gc,0,none⟩),.pointer (some ⟨xc,0,none⟩),.pointer (some ⟨yc,0,none⟩)]] w fun e w'=>∃ stops s d b v,e=.returned (.tuple #[v,.agg #[.int .i64 s,.int .i64 d],.bool b])/\Bst W H bl most a t la lt stops s d b/\w'.ownsRow w.heap.size 3 1 v stops.length (vals stops)/\stops.length<=40000/\Below w.heap.size w w':=by
 obtain ⟨vb,eb,k,st,f,hR,hO,V⟩:=hL
 obtain ⟨O,hlv,hU⟩:=lvOk (esF_ok g.w1) g.w1 g.w2 g.h1 g.h2 m6 m1 hR
 refine (best_any (cs:=[.pointer (some ⟨gc,0,none⟩),.pointer (some ⟨xc,0,none⟩),.pointer (some ⟨yc,0,none⟩)]) w V O hlv hU (gs_ok w G.1 G.2.1 G.2.2 g ht) (gsN_bd g.w1 g.w2 g.h1 g.h2 ht) ho hi hol hil).mono ?_
 rintro e w' ⟨way,s,d,b,v,rfl,hB,hown,hwl,hb⟩
 exact ⟨way,s,d,b,v,rfl,⟨k,st,hR,hO,hB⟩,hown,hwl,hb⟩
end
section
open Go.RowKit Go.Lib
theorem Bst.ov {W H:Int}{bl:Nat->Bool}{most a t:Nat}{la lb stops way:List Nat}{s d:Int}{f:Bool}(h:Bst W H bl most a t la lb stops s d f) (h1:Cnp W H bl a la) (h2:Cnp W H bl t lb) (h3:stops.length<=40000) (h4:f=false->way=[]) (h5:f=true->∃ l,way=a::l/\JnR W H bl a (stops++[t]) l):OvR W H bl most a t way s d f:=by
 obtain ⟨k,st,r1,r2,r3⟩:=h
 exact ⟨k,st,la,lb,stops,r1,r2,h1,h2,r3,h3,h4,h5⟩
theorem Bst.near {W H:Int}{bl:Nat->Bool}(w1:1<=W) (w2:W<=16) (h1:1<=H) (h2:H<=16) {most a t:Nat}(m1:1<=most) (m6:most<=6) {la lb stops:List Nat}{s d:Int}(h:Bst W H bl most a t la lb stops s d true) (ha:inB W H a=true) (hfa:bl a=false) (ht:inB W H t=true) (hft:bl t=false) (k1:Cnp W H bl a la) (k2:Cnp W H bl t lb):NrC W H bl a (stops++[t]):=by
 obtain ⟨k,st,r1,r2,r3⟩:=h
 exact (OvR.stops w1 w2 h1 h2 m1 m6 ha hfa ht hft r1 k1 k2 r3).1
theorem Bst.no {W H:Int}{bl:Nat->Bool}{most a t:Nat}{la lb stops:List Nat}{s d:Int}(h:Bst W H bl most a t la lb stops s d false):s=0/\d=0:=by
 obtain ⟨k,st,_,_,r3⟩:=h
 obtain ⟨_,_,_,_,_,_,_,_,h4,_⟩:=r3
 exact (h4 rfl).2
set_option maxHeartbeats 4000000 in
set_option maxRecDepth 1000000 in
theorem overC_any {lo hi sb rb pb mb lb tb gb N x M most a t:Nat}{W H V V2 V3:Int}{bl:Nat->Bool}(w:World) (S:SvAt w lo hi sb rb pb mb lb tb gb N x W H V V2 bl most) (d:DiagAt w) (g:GridAt w M W H V3 bl) (ha:inB W H a=true) (hfa:bl a=false) (ht:inB W H t=true) (hft:bl t=false) :
  Calls Tryz.prog 44 #[.pointer (some ⟨sb,0,none⟩),.pointer (some ⟨M,0,none⟩),.int .i64 (a:Int),.int .i64 (t:Int)] w fun e w'=>∃ v way s d f,e=.returned (.agg #[v,.int .i64 s,.int .i64 d,.int .i64 (if f then 0 else 5)])/\w'.ownsRow w.heap.size 3 1 v way.length (vals way)/\OvR W H bl most a t way s d f/\Below w.heap.size w w':=by
 obtain ⟨w1,w2,h1,h2⟩:=S.side
 obtain ⟨i0,hi,hz0,hz1,hz2⟩:=info_parts Tryz.info3
 have hM:=World.block_lt_of_cell? _ _ g.c0
 have b0:Below w.heap.size w (w.alloc (.cells #[.slice none 0 0,.int .i64 0,.int .i64 0,.int .i64 0] 41)):=(Below.refl _ _).alloc (Nat.le_refl _) _
 have an0:=An.new w (.slice none 0 0) 0 0 0
 have S0:=S.below b0
 have q1:=S0.c1
 have hc1:=conn_rows' _ S0.gr S0.st w1 w2 h1 h2 ha hfa
 go_enter Tryz.func44,Tryz.ntmps44
 go_wp2_with fail
 generalize w.alloc (.cells #[.slice none 0 0,.int .i64 0,.int .i64 0,.int .i64 0] 41)=wa at *
 refine hc1.mono ?_
 rintro e wb ⟨A1,cap1,la,rfl,r1,cn1,le1,hb1⟩
 have S1:=S0.below hb1
 have an1:=an0.below hb1
 have B1:=b0.trans (hb1.mono b0.size)
 have q1:=S1.c1
 have hc2:=conn_rows' _ S1.gr S1.st w1 w2 h1 h2 ht hft
 clear hc1 S0 an0 hb1 b0
 go_wp2_with fail
 refine hc2.mono ?_
 rintro e wr ⟨A2,cap2,lt,rfl,r2,cn2,le2,hb2⟩
 have S2:=S1.below hb2
 have an2:=an1.below hb2
 have B2:=B1.trans (hb2.mono B1.size)
 have r1:=r1.below (Nat.le_refl _) hb2
 have HC:Hid (Cnp W H bl a la/\Cnp W H bl t lt):=⟨cn1,cn2⟩
 have c2:=S2.c2
 have g2:=g.below B2 hM
 have hM2:M < wr.heap.size:=Nat.lt_of_lt_of_le hM B2.size
 have sz2:w.heap.size < wr.heap.size:=World.block_lt_of_cell? _ _ an2.c0
 clear hc2 S1 an1 hb2 B1 cn1 cn2 q1
 have HG:Hid (∀ w',Below wr.heap.size wr w'->_):=fun w' hb=>guessTo_any w' (g2.below hb hM2) ht
 have HB:Hid (∀ w' gc xc yc,Below wr.heap.size wr w'->GsAt w' gc xc yc M W (t:Int)->_):=fun w' gc xc yc hb G=>sbest_any (cap:=cap1) (cap2:=cap2) w' (S2.lv.below hb) (g2.below hb hM2) G ht S2.m1 S2.m6 (r1.below (Nat.le_refl _) hb) (r2.below (Nat.le_refl _) hb) le1 le2
 go_upto_region 3 with fail
 go_cut [13,14,15] from 34 to 47 (fun cv pv fv wd=>∃ stops s d f T vS,vS=cv/\pv=.pointer (some ⟨T,0,none⟩)/\fv=.bool f/\Slot wd T s d/\w.heap.size < T/\wd.ownsRow (w.heap.size+1) 3 1 vS stops.length (vals stops)/\(∀ q,vS.ownBlock=some q->q≠T)/\Bst W H bl most a t la lt stops s d f/\stops.length<=40000/\Below wr.heap.size wr wd)
 case first =>
  have e0:Below wr.heap.size wr wr.drew:=(Below.refl _ _).drew
  have eA:Below wr.heap.size wr (wr.drew.alloc (.cells #[.int .i64 0,.int .i64 0] 38)):=e0.alloc e0.size _
  have sA:Slot (wr.drew.alloc (.cells #[.int .i64 0,.int .i64 0] 38)) wr.heap.size 0 0:=Slot.new wr.drew 0 0
  have CC:Hid (∀ w',Below wr.heap.size wr w'->w'.cell? ⟨sb,2,none⟩=some (.pointer (some ⟨lb,0,none⟩))):=fun w' h=>(h.cell (World.block_lt_of_cell? wr _ c2)).trans c2
  clear c2 r1 r2 S2 g2 an2
  go_region_held3 (fun w'=>w'.cell? ⟨sb,2,none⟩=some (.pointer (some ⟨lb,0,none⟩))) (first | exact CC.out _ e0 | exact CC.out _ eA | exact CC.out _ e5 | exact CC.out _ (e5.alloc e5.size _) | exact CC.out _ e6 | exact CC.out _ (e6.alloc e6.size _) | exact CC.out _ ((e6.setCell (p:=⟨_,0,none⟩) (by first | exact Nat.le_refl _ | exact e5.size) _).setCell (p:=⟨_,1,none⟩) (by first | exact Nat.le_refl _ | exact e5.size) _) | exact CC.out _ (((e6.alloc e6.size _).setCell (p:=⟨_,0,none⟩) e6.size _).setCell (p:=⟨_,1,none⟩) e6.size _))
   (first
    | (go_at_call 43;first | (refine (HG.out _ e0).mono ?_;rintro r w5 ⟨gc,xc,yc,rfl,G5,hb5⟩;have e5:=e0.trans (hb5.mono e0.size)) | (refine (HG.out _ eA).mono ?_;rintro r w5 ⟨gc,xc,yc,rfl,G5,hb5⟩;have e5:=eA.trans (hb5.mono eA.size);have sl:=sA.below hb5))
    | (go_at_call 80;first | (refine (HB.out _ _ _ _ e5 G5).mono ?_;rintro r w6 ⟨stops,s,d',f,v,rfl,hBst,hown,hsl,hb6⟩;have e6:=e5.trans (hb6.mono e5.size);first | (have s6:=sl.below hb6;have g0:=s6.c0;have g1:=s6.c1;have g2:=s6.z0;have g3:=s6.z1) | skip) | (refine (HB.out _ _ _ _ (e5.alloc e5.size _) (G5.below ((Below.refl _ _).alloc (Nat.le_refl _) _))).mono ?_;rintro r w6 ⟨stops,s,d',f,v,rfl,hBst,hown,hsl,hb6⟩;have e6:=(e5.alloc e5.size _).trans (hb6.mono (e5.alloc e5.size _).size);have s6:=(Slot.new w5 0 0).below hb6;have g0:=s6.c0;have g1:=s6.c1;have g2:=s6.z0;have g3:=s6.z1)))
  all_goals
   go_wp2_with fail
   go_meet
  ·exact ⟨stops,s,d',f,_,_,rfl,rfl,rfl,Slot.new w6 _ _,by have:=e6.size;omega,own_base (World.ownsRow.alloc hown _) (by have:=e5.size;omega),fun q hq=>Nat.ne_of_lt (hown.lt q hq).2,hBst,hsl,e6.alloc e6.size _⟩
  ·have z5:=e5.size
   refine ⟨stops,s,d',f,_,_,rfl,rfl,rfl,s6.set _ _,by omega,own_base (own_keep hown (set_keep w6 w5.heap.size s d') (fun q hq=>by have:=(hown.lt q hq).1;simp at this;omega)) (by simp;omega),(fun q hq=>by have:=(hown.lt q hq).1;simp at this;omega),hBst,hsl,?_⟩
   exact (e6.setCell (p:=⟨w5.heap.size,0,none⟩) z5 _).setCell (p:=⟨w5.heap.size,1,none⟩) z5 _
  ·have z5:=e5.size
   have z6:wr.heap.size < w5.heap.size:=World.block_lt_of_cell? _ _ sl.c0
   refine ⟨stops,s,d',f,_,_,rfl,rfl,rfl,s6.set _ _,by omega,own_base (own_keep hown (set_keep w6 wr.heap.size s d') (fun q hq=>by have:=(hown.lt q hq).1;omega)) (by omega),(fun q hq=>by have:=(hown.lt q hq).1;omega),hBst,hsl,?_⟩
   exact (e6.setCell (p:=⟨wr.heap.size,0,none⟩) (Nat.le_refl _) _).setCell (p:=⟨wr.heap.size,1,none⟩) (Nat.le_refl _) _
 case rest =>
  obtain ⟨stops,s,d',f,T,vS,rfl,rfl,rfl,slT,hT,hown,hqT,hBst,hsl,hb3⟩:=hcut
  have an3:=an2.below hb3
  have B3:=B2.trans (hb3.mono B2.size)
  have x0:=an3.c0
  have x1:=an3.c1
  have x2:=an3.c2
  have x3:=an3.c3
  have y0:=an3.z0
  have y1:=an3.z1
  have y2:=an3.z2
  have y3:=an3.z3
  clear HG HB r1 r2 an2 c2 hb3
  cases f with
  | false =>
    obtain ⟨e1,e2⟩:=hBst.no
    subst e1 e2
    clear slT hown
    go_wp2
    have r:=an3.set (.slice none 0 0) 0 0 5
    refine bodyPost_ret (v:=.agg #[.slice none 0 0,.int .i64 0,.int .i64 0,.int .i64 5]) (by simp [results,Tryz.results44,go_sem,r.c0,r.c1,r.c2,r.c3]) rfl ?_
    exact ⟨_,[],0,0,false,rfl,World.ownsRow_nil _ _ _ _,hBst.ov HC.out.1 HC.out.2 hsl (fun _=>rfl) (fun q=>by cases q),an_below B3 (Nat.le_refl _) _ _ _ _⟩
  | true =>
    have HNR:=Bst.near w1 w2 h1 h2 S.m1 S.m6 hBst ha hfa ht hft HC.out.1 HC.out.2
    have g3:=g.below B3 hM
    have s3:StepsAt wc:=S.st.below B3 (by omega)
    have d3:=d.below B3
    have t0:=slT.c0
    have t1:=slT.c1
    have hTl:T < wc.heap.size:=World.block_lt_of_cell? _ _ t0
    have hlw:w.heap.size < wc.heap.size:=World.block_lt_of_cell? _ _ x0
    have HJ:Hid (∀ (w7:World) (g7 c7:Nat),Below w.heap.size w w7->w7.ownsRow (w.heap.size+1) 3 1 (.slice (some ⟨g7,0,none⟩) (stops.length+1) c7) (stops.length+1) (vals stops++[.int .i64 (t:Int)])->Calls Tryz.prog 81 #[.pointer (some ⟨M,0,none⟩),.int .i64 (a:Int),.slice (some ⟨g7,0,none⟩) (stops.length+1) c7] w7 fun e w'=>∃ g8 c8 l,e=.returned (.slice (some ⟨g8,0,none⟩) (l.length+1) c8)/\w'.ownsRow w7.heap.size 3 1 (.slice (some ⟨g8,0,none⟩) (l.length+1) c8) (a::l).length (vals (a::l))/\JnR W H bl a (stops++[t]) l/\Below w7.heap.size w7 w'):=fun w7 g7 c7 hb ho=>by
     have e1:stops.length+1=(stops++[t]).length:=by simp
     have e2:vals stops++[.int .i64 (t:Int)]=vals (stops++[t]):=by simp [vals]
     rw [e1,e2] at ho
     rw [e1]
     obtain ⟨g9,c9,q1,q2,_⟩:=rowN_of ho (by simp)
     cases q1
     refine (njoin_any w7 (g.below hb hM) (S.st.below hb (by omega)) (d.below hb) q2 HNR (by simp;omega)).mono ?_
     rintro e w' ⟨v,l,h1,h2,h3,_,h4⟩
     obtain ⟨g8,c8,rfl,_⟩:=rowN_of h2 (by simp)
     exact ⟨g8,c8,l,h1,h2,h3,h4⟩
    clear g3 s3 d3 HNR
    go_upto_region 6 with fail
    have e0:Below wc.heap.size wc wc.drew:=(Below.refl _ _).drew
    have B0:=B3.trans (e0.mono B3.size)
    have o0:=own_below hown e0
    have k0:Keep (fun k=>vS.ownBlock=some k) wc wc.drew:=Keep.of_below e0
    have CC:Hid (∀ w',Keep (fun k=>vS.ownBlock=some k) wc w'->w'.cell? ⟨T,0,none⟩=some (.int .i64 s)/\w'.cell? ⟨T,1,none⟩=some (.int .i64 d')):=fun w' h=>⟨h.cellOf t0 (fun q=>hqT T q rfl),h.cellOf t1 (fun q=>hqT T q rfl)⟩
    have hqw:∀ q,vS.ownBlock=some q->w.heap.size < q:=fun q hq=>(hown.lt q hq).1
    have zc:w.heap.size<=wc.heap.size:=B3.size
    have o6:=o0.alloc (.cells #[.int .i64 (t:Int)] 3)
    have B6:Below w.heap.size w (wc.drew.alloc (.cells #[.int .i64 (t:Int)] 3)):=B0.alloc zc _
    have kA:=k0.alloc (.cells #[.int .i64 (t:Int)] 3)
    have a1:∀ j u,[Value.int .i64 (t:Int)][j]? = some u->(wc.drew.alloc (.cells #[.int .i64 (t:Int)] 3)).cell? ((⟨wc.heap.size,0,none⟩:Addr).add j)=some u:=fun j u hj=>by
     match j,hj with
     | 0,hj =>
       cases hj
       exact World.cell?_alloc_at (w:=wc.drew) #[.int .i64 (t:Int)] 3 wc.heap.size 0 rfl
    have a2:∀ u ∈ [Value.int .i64 (t:Int)],u.oneCell'=true:=fun u hu=>by simp at hu;subst hu;rfl
    have a3:stops.length+1<=maxLen:=by unfold maxLen;omega
    have a4:(stops.length+1)*8<=140737488355328:=by omega
    have a5:w.heap.size+1<=(wc.drew.alloc (.cells #[.int .i64 (t:Int)] 3)).heap.size:=by simp;omega
    clear t0 t1 slT hown x0 x1 x2 x3 y0 y1 y2 y3
    go_region_held3 (fun w'=>w'.cell? ⟨T,0,none⟩=some (.int .i64 s)/\w'.cell? ⟨T,1,none⟩=some (.int .i64 d')) (first | exact CC.out _ k0 | exact CC.out _ kA | exact CC.out _ k7 | exact CC.out _ k8 | exact ⟨(an_keep w8 w.heap.size _ _ _ _).cellOf (CC.out _ k8).1 (Nat.ne_of_gt hT),(an_keep w8 w.heap.size _ _ _ _).cellOf (CC.out _ k8).2 (Nat.ne_of_gt hT)⟩)
     (first
      | (refine step_append_lies _ rfl (.tmp 53) (.tmp 55) 22 rfl (w.heap.size+1) 3 i0 (.int .i64 0) 1 8 Tryz.underlying22 hi hz0 hz1 hz2 rfl (by decide) _ _ _ rfl o6 ⟨wc.heap.size,0,none⟩ 1 1 [.int .i64 (t:Int)] rfl rfl a1 a2 (by decide) a3 a4 a5 _ rfl ?_;intro g7 c7 w7 hown7 hg7 _ hlt7;have B7:Below w.heap.size w w7:=(B6.grown hg7 (by simp;omega) (fun q hq=>Nat.le_of_lt (hqw q hq)));have k7:=kA.grown hg7 (fun k hk _=>hk);have h8:=HJ.out w7 g7 c7 B7 hown7)
      | (go_at_call 81;refine h8.mono ?_;rintro r w8 ⟨g8,c8,l8,rfl,hown8,hj8,hb8⟩;have k8:=k7.below hb8;have an8:=an3.keep k8 (fun q=>absurd (hqw _ q) (Nat.lt_irrefl _));have x0:=an8.c0;have x1:=an8.c1;have x2:=an8.c2;have x3:=an8.c3;have y0:=an8.z0;have y1:=an8.z1;have y2:=an8.z2;have y3:=an8.z3;have B8:=B7.trans (hb8.mono B7.size)))
    go_wp2
    have r:=an8.set (.slice (some ⟨g8,0,none⟩) (l8.length+1) c8) s d' 0
    refine bodyPost_ret (v:=.agg #[.slice (some ⟨g8,0,none⟩) (l8.length+1) c8,.int .i64 s,.int .i64 d',.int .i64 0]) (by simp [results,Tryz.results44,go_sem,r.c0,r.c1,r.c2,r.c3]) rfl ?_
    refine ⟨_,a::l8,s,d',true,rfl,own_base (own_keep hown8 (an_keep w8 w.heap.size _ _ _ _) (fun q hq=>by have:=(hown8.lt q hq).1;have:=B7.size;have:w.heap.size < w7.heap.size:=Nat.lt_of_lt_of_le hlw k7.size;omega)) B7.size,hBst.ov HC.out.1 HC.out.2 hsl (fun q=>by cases q) (fun _=>⟨l8,rfl,hj8⟩),an_below B8 (Nat.le_refl _) _ _ _ _⟩
end
section
open Go.RowKit Go.Lib
theorem ff2_cases (W H:Int) (bl:Nat->Bool) (a t:Int):ff2 W H bl a t=0\/ff2 W H bl a t=1\/ff2 W H bl a t=4:=by
 have h:∀ c,ffv W H bl c=0\/ffv W H bl c=1\/ffv W H bl c=4:=fun c=>by
  unfold ffv
  split
  ·split
   ·exact .inr (.inr rfl)
   ·exact .inl rfl
  ·exact .inr (.inl rfl)
 unfold ff2
 split
 ·exact h t
 ·exact h a
set_option maxHeartbeats 400000 in
theorem nnum_any (w:World) (n:Int):Calls Tryz.prog 45 #[.iface 39 (.int .i64 n)] w fun e w'=>e=.returned (.int .i64 n)/\w'=w:=by
 have h:∀ (v:Value) (w:World),(Instr.typeAssert (.iface 39 v) 46 39 true).run Tryz.prog w=.ok (.tuple #[v,.bool true]) w:=fun v w=>by kernel_rfl
 go_enter Tryz.func45,Tryz.ntmps45
 go_wp2
 go_ret
 exact ⟨rfl,rfl⟩
theorem eq5 (w:World):(binOp .eql 46 (.iface 39 (.int .i64 5)) (.iface 39 (.int .i64 5))).run Tryz.prog w=.ok (.bool true) w:=by kernel_rfl
theorem eq1 (w:World):(binOp .eql 46 (.iface 39 (.int .i64 1)) (.iface 39 (.int .i64 5))).run Tryz.prog w=.ok (.bool false) w:=by kernel_rfl
theorem eq4 (w:World):(binOp .eql 46 (.iface 39 (.int .i64 4)) (.iface 39 (.int .i64 5))).run Tryz.prog w=.ok (.bool false) w:=by kernel_rfl
set_option maxHeartbeats 4000000 in
set_option maxRecDepth 1000000 in
theorem ask_any {lo hi sb most:Nat}{W H V:Int}{bl:Nat->Bool}(a t:Int) (w:World) (S:Sv w lo hi sb W H V bl most) (d:DiagAt w) :
  Calls Tryz.prog 18 #[.pointer (some ⟨sb,0,none⟩),.int .i64 a,.int .i64 t] w fun e w'=>∃ v way s d err,e=.returned (.agg #[v,.int .i64 s,.int .i64 d,.int .i64 err])/\w'.ownsRow w.heap.size 3 1 v way.length (vals way)/\AnsR W H bl most a t way s d err/\Below w.heap.size w w':=by
 obtain ⟨rb,pb,mb,lb,tb,gb,N,x,V2,S⟩:=S
 obtain ⟨w1,w2,h1,h2⟩:=S.side
 have b0:Below w.heap.size w (w.alloc (.cells #[.slice none 0 0,.int .i64 0,.int .i64 0,.int .i64 0] 41)):=(Below.refl _ _).alloc (Nat.le_refl _) _
 have an0:=An.new w (.slice none 0 0) 0 0 0
 have S0:=S.below b0
 have q1:=S0.c1
 have hgg:=ggrid_any _ S0.gr
 have hsp:=S.st.pos
 have q5:=eq5
 have q4:=eq4
 have q1':=eq1
 go_enter Tryz.func18,Tryz.ntmps18
 go_wp2_with fail
 generalize w.alloc (.cells #[.slice none 0 0,.int .i64 0,.int .i64 0,.int .i64 0] 41)=wa at *
 refine hgg.mono ?_
 rintro e wb ⟨rfl,hb1,hz1,g1,_⟩
 have S1:=S0.below hb1
 have an1:=an0.below hb1
 have B1:=b0.trans (hb1.mono b0.size)
 have d1:=d.below B1
 generalize hMw:wa.heap.size=M at *
 clear hgg S0 an0 q1 hb1 hMw b0
 rcases ff2_cases W H bl a t with hf | hf
 ·obtain ⟨⟨hia,hfa⟩,⟨hit,hft⟩⟩:=ff2_ok hf
  have ja:0<=a/\a < W*H:=of_decide_eq_true hia
  have jt:0<=t/\t < W*H:=of_decide_eq_true hit
  obtain ⟨aN,rfl⟩:∃ aN:Nat,a=(aN:Int):=⟨a.toNat,by omega⟩
  obtain ⟨tN,rfl⟩:∃ tN:Nat,t=(tN:Int):=⟨t.toNat,by omega⟩
  rw [Int.toNat_natCast] at hfa hft
  by_cases hn:∃ z,On W H bl (aN:Int) (tN:Int) z
  ·have hw:=rway_ok aN (tN:Int) wb g1 S1.st d1 hz1 hf hn
   go_wp2_with fail
   refine hw.mono ?_
   rintro e wd ⟨v,l,rfl,hown,hch,hl,hb2⟩
   obtain ⟨g3,cap3,rfl,_,hg3,_⟩:=rowN_of hown (by simp)
   have B2:=B1.trans (hb2.mono B1.size)
   have an2:=an1.below hb2
   have g2:=g1.below hb2 hz1
   have hgt:=guessTo_any wd g2 hit
   have HA:Hid (AnsR W H bl most (aN:Int) (tN:Int) (aN::l) (octS W aN tN) (octD W aN tN) 0):=Or.inr ⟨hf,Or.inl ⟨hn,rfl,⟨l,rfl,hch⟩,rfl,rfl⟩⟩
   have hlt:w.heap.size < wb.heap.size:=World.block_lt_of_cell? _ _ an1.c0
   have hM2:=Nat.lt_of_lt_of_le hz1 hb2.size
   clear hw an1 S1 hch hn
   go_wp2_with fail
   refine hgt.mono ?_
   rintro e we ⟨gc,xc,yc,rfl,G3,hb3⟩
   have B3:=B2.trans (hb3.mono B2.size)
   have an3:=an2.below hb3
   have own3:=own_below hown hb3
   have hgs:=gs_call (n:=(aN:Int)) we G3.1 G3.2.1 G3.2.2 (g2.below hb3 hM2) hit
   have hgn:gsN W H (tN:Int) (aN:Int)=(octS W aN tN,octD W aN tN):=by unfold gsN;rw [if_pos hia]
   rw [hgn] at hgs
   clear hgt an2 G3 hb3 hown hgn
   go_wp2_with fail
   refine hgs.mono ?_
   rintro e wf ⟨rfl,hb4⟩
   have B4:=B3.trans (hb4.mono B3.size)
   have an4:=an3.below hb4
   have own4:=own_below own3 hb4
   have x0:=an4.c0
   have x1:=an4.c1
   have x2:=an4.c2
   have x3:=an4.c3
   have y0:=an4.z0
   have y1:=an4.z1
   have y2:=an4.z2
   have y3:=an4.z3
   clear hgs an3 own3 hb4
   generalize octS W (aN:Int) (tN:Int)=os at *
   generalize octD W (aN:Int) (tN:Int)=od at *
   go_wp2
   have r:=an4.set (.slice (some ⟨g3,0,none⟩) (l.length+1) cap3) os od 0
   refine bodyPost_ret (v:=.agg #[.slice (some ⟨g3,0,none⟩) (l.length+1) cap3,.int .i64 os,.int .i64 od,.int .i64 0]) (by simp [results,Tryz.results18,go_sem,r.c0,r.c1,r.c2,r.c3]) rfl ?_
   exact ⟨_,aN::l,os,od,0,rfl,own_base (own_keep own4 (an_keep wf w.heap.size _ _ _ _) (fun q hq=>by have:=(own4.lt q hq).1;omega)) (by omega),HA.out,an_below B4 (Nat.le_refl _) _ _ _ _⟩
  ·have hw:=rway_none (aN:Int) (tN:Int) wb g1 S1.st d1 hz1 hf hn
   go_wp2_with fail
   refine hw.mono ?_
   rintro e wd ⟨rfl,hb2⟩
   have B2:=B1.trans (hb2.mono B1.size)
   have an2:=an1.below hb2
   have hov:=overC_any wd (S1.below hb2) (d1.below hb2) (g1.below hb2 hz1) hia hfa hit hft
   have hlt:w.heap.size < wd.heap.size:=World.block_lt_of_cell? _ _ an2.c0
   have HN:Hid (¬ ∃ z,On W H bl (aN:Int) (tN:Int) z):=hn
   clear hw an1 S1 hn hb2
   go_wp2_with fail
   refine hov.mono ?_
   rintro e we ⟨v,way,s,dd,f,rfl,hown,hO,hb3⟩
   have B3:=B2.trans (hb3.mono B2.size)
   have an3:=an2.below hb3
   have x0:=an3.c0
   have x1:=an3.c1
   have x2:=an3.c2
   have x3:=an3.c3
   have y0:=an3.z0
   have y1:=an3.z1
   have y2:=an3.z2
   have y3:=an3.z3
   have HA:Hid (AnsR W H bl most (aN:Int) (tN:Int) way s dd (if f then 0 else 5)):=Or.inr ⟨hf,Or.inr ⟨HN.out,f,by rw [Int.toNat_natCast,Int.toNat_natCast];exact hO,rfl⟩⟩
   obtain ⟨n,A,cap,rfl⟩:∃ (n:Nat) (A:Option Addr) (cap:Nat),v=.slice A n cap:=by
    rcases hown.2 with ⟨rfl,_⟩ | ⟨g9,cap9,_,rfl,_⟩
    ·exact ⟨_,_,_,rfl⟩
    ·exact ⟨_,_,_,rfl⟩
   generalize (if f then (0:Int) else 5)=er at *
   clear hov an2 hb3 hO
   go_wp2
   have r:=an3.set (.slice A n cap) s dd er
   refine bodyPost_ret (v:=.agg #[.slice A n cap,.int .i64 s,.int .i64 dd,.int .i64 er]) (by simp [results,Tryz.results18,go_sem,r.c0,r.c1,r.c2,r.c3]) rfl ?_
   exact ⟨_,way,s,dd,er,rfl,own_base (own_keep hown (an_keep we w.heap.size _ _ _ _) (fun q hq=>by have:=(hown.lt q hq).1;omega)) (by omega),HA.out,an_below B3 (Nat.le_refl _) _ _ _ _⟩
 ·have hne:ff2 W H bl a t≠0:=by omega
  have hw:=rway_err a t wb g1 hz1 hne
  have HA:Hid (AnsR W H bl most a t [] 0 0 (ff2 W H bl a t)):=Or.inl ⟨hne,rfl,rfl,rfl,rfl⟩
  rw [errV_some hne] at hw
  generalize ff2 W H bl a t=n at *
  go_wp2_with fail
  refine hw.mono ?_
  rintro e wd ⟨rfl,hb2⟩
  have B2:=B1.trans (hb2.mono B1.size)
  have an2:=an1.below hb2
  have hnm:=nnum_any wd n
  have x0:=an2.c0
  have x1:=an2.c1
  have x2:=an2.c2
  have x3:=an2.c3
  have y0:=an2.z0
  have y1:=an2.z1
  have y2:=an2.z2
  have y3:=an2.z3
  clear hw an1 S1 hb2 hne
  rcases hf with rfl | rfl
  ·go_wp2_with fail
   refine hnm.mono ?_
   rintro e w' ⟨rfl,rfl⟩
   go_wp2
   have r:=an2.set (.slice none 0 0) 0 0 1
   refine bodyPost_ret (v:=.agg #[.slice none 0 0,.int .i64 0,.int .i64 0,.int .i64 1]) (by simp [results,Tryz.results18,go_sem,r.c0,r.c1,r.c2,r.c3]) rfl ?_
   exact ⟨_,[],0,0,1,rfl,World.ownsRow_nil _ _ _ _,HA.out,an_below B2 (Nat.le_refl _) _ _ _ _⟩
  ·go_wp2_with fail
   refine hnm.mono ?_
   rintro e w' ⟨rfl,rfl⟩
   go_wp2
   have r:=an2.set (.slice none 0 0) 0 0 4
   refine bodyPost_ret (v:=.agg #[.slice none 0 0,.int .i64 0,.int .i64 0,.int .i64 4]) (by simp [results,Tryz.results18,go_sem,r.c0,r.c1,r.c2,r.c3]) rfl ?_
   exact ⟨_,[],0,0,4,rfl,World.ownsRow_nil _ _ _ _,HA.out,an_below B2 (Nat.le_refl _) _ _ _ _⟩
end
section
open Go.Shelf
open Go.RowKit in
def Tryz.laysM171_ren:Go.Shelf.Ren:=⟨fun | 171=>133 | 243=>171 | 246=>194 | 283=>223 | 284=>224 | 285=>225 | 286=>226 | 129=>205 | 317=>240 | 318=>241 | 319=>242 | 320=>243 | 337=>246 | 338=>247 | n=>n,fun | 3=>3 | 9=>9 | 2=>2 | 4=>4 | 171=>290 | 0=>0 | 53=>276 | 37=>158 | 5=>5 | 173=>292 | 212=>308 | 51=>274 | 20=>20 | 213=>309 | 46=>246 | 232=>313 | 233=>314 | n=>n,fun | 17=>5 | 18=>6 | 19=>7 | n=>n⟩
theorem Tryz.laysM171:Go.Proofs.LaysM.n171 Tryz.prog Tryz.laysM171_ren:={
 mixed:=by kernel_rfl
 f129:=Tryz.func205.trans (congrArg some (by kernel_rfl))
 f171:=Tryz.func133.trans (congrArg some (by kernel_rfl))
 f243:=Tryz.func171.trans (congrArg some (by kernel_rfl))
 f246:=Tryz.func194.trans (congrArg some (by kernel_rfl))
 f283:=Tryz.func223.trans (congrArg some (by kernel_rfl))
 f284:=Tryz.func224.trans (congrArg some (by kernel_rfl))
 f285:=Tryz.func225.trans (congrArg some (by kernel_rfl))
 f286:=Tryz.func226.trans (congrArg some (by kernel_rfl))
 f317:=Tryz.func240.trans (congrArg some (by kernel_rfl))
 f318:=Tryz.func241.trans (congrArg some (by kernel_rfl))
 f319:=Tryz.func242.trans (congrArg some (by kernel_rfl))
 f320:=Tryz.func243.trans (congrArg some (by kernel_rfl))
 f337:=Tryz.func246.trans (congrArg some (by kernel_rfl))
 f338:=Tryz.func247.trans (congrArg some (by kernel_rfl))
 t0:=Tryz.underlying0
 a0:=Tryz.isAgg0
 z0:=Tryz.sizeOf0
 v0:=Tryz.zeroValue0
 t2:=Tryz.underlying2
 a2:=Tryz.isAgg2
 z2:=Tryz.sizeOf2
 v2:=Tryz.zeroValue2
 t3:=Tryz.underlying3
 a3:=Tryz.isAgg3
 z3:=Tryz.sizeOf3
 v3:=Tryz.zeroValue3
 t4:=Tryz.underlying4
 a4:=Tryz.isAgg4
 z4:=Tryz.sizeOf4
 v4:=Tryz.zeroValue4
 t5:=Tryz.underlying5
 a5:=Tryz.isAgg5
 z5:=Tryz.sizeOf5
 v5:=Tryz.zeroValue5
 t9:=Tryz.underlying9
 a9:=Tryz.isAgg9
 z9:=Tryz.sizeOf9
 v9:=Tryz.zeroValue9
 t20:=Tryz.underlying20
 a20:=Tryz.isAgg20
 z20:=Tryz.sizeOf20
 v20:=Tryz.zeroValue20
 t37:=Tryz.underlying158
 a37:=Tryz.isAgg158
 z37:=Tryz.sizeOf158
 v37:=Tryz.zeroValue158
 t46:=Tryz.underlying246
 a46:=Tryz.isAgg246
 z46:=Tryz.sizeOf246
 v46:=Tryz.zeroValue246
 t51:=Tryz.underlying274
 a51:=Tryz.isAgg274
 z51:=Tryz.sizeOf274
 v51:=Tryz.zeroValue274
 t53:=Tryz.underlying276
 a53:=Tryz.isAgg276
 z53:=Tryz.sizeOf276
 v53:=Tryz.zeroValue276
 t171:=Tryz.underlying290
 a171:=Tryz.isAgg290
 z171:=Tryz.sizeOf290
 v171:=Tryz.zeroValue290
 t173:=Tryz.underlying292
 a173:=Tryz.isAgg292
 z173:=Tryz.sizeOf292
 v173:=Tryz.zeroValue292
 t212:=Tryz.underlying308
 a212:=Tryz.isAgg308
 z212:=Tryz.sizeOf308
 v212:=Tryz.zeroValue308
 t213:=Tryz.underlying309
 a213:=Tryz.isAgg309
 z213:=Tryz.sizeOf309
 t232:=Tryz.underlying313
 a232:=Tryz.isAgg313
 z232:=Tryz.sizeOf313
 v232:=Tryz.zeroValue313
 t233:=Tryz.underlying314
 a233:=Tryz.isAgg314
 z233:=Tryz.sizeOf314
 v233:=Tryz.zeroValue314
 g17:=by kernel_rfl
 g18:=by kernel_rfl
 g19:=by kernel_rfl
 i0:=by kernel_rfl
 i2:=by kernel_rfl
 i3:=by kernel_rfl
 i4:=by kernel_rfl
 i5:=by kernel_rfl
 i9:=by kernel_rfl
 i20:=by kernel_rfl
 i37:=by kernel_rfl
 i46:=by kernel_rfl
 i51:=by kernel_rfl
 i53:=by kernel_rfl
 i171:=by kernel_rfl
 i173:=by kernel_rfl
 i212:=by kernel_rfl
 i232:=by kernel_rfl
 i233:=by kernel_rfl
 m17:=by kernel_rfl
 m18:=by kernel_rfl
 m19:=by kernel_rfl }
open Go.RowKit Go.Sort Go.Lib in
theorem Tryz.strconv_Itoa (n : Int) (h0 : -9223372036854775808 ≤ n) (h1 : n ≤ 9223372036854775807) (w : World) (htab : Lib.TabIs Tryz.prog w "internal/strconv.uint64pow10" .u64 Lib.pow10Tab) :
  Calls Tryz.prog 133 #[.int .i64 n] w fun e w'=>e=.returned (.string ⟨(Lib.itoa n).toArray⟩)/\∃ k os,w'=grow (w.drewN k) os:=Any.strconv_Itoa Tryz.laysM171 n h0 h1 w htab
def Tryz.laysC172_ren:Go.Shelf.Ren:=⟨fun | 172=>127 | 244=>167 | 245=>168 | 247=>188 | 279=>189 | 280=>190 | 281=>191 | 282=>192 | 287=>220 | 316=>221 | 171=>133 | 205=>222 | 321=>238 | 322=>239 | 243=>171 | 246=>194 | 283=>223 | 284=>224 | 285=>225 | 286=>226 | 129=>205 | 317=>240 | 318=>241 | 319=>242 | 320=>243 | 337=>246 | 338=>247 | n=>n,fun | 9=>9 | 3=>3 | 75=>46 | 76=>47 | 4=>4 | 5=>5 | 167=>258 | 37=>158 | 0=>0 | 85=>259 | 2=>2 | 168=>261 | 53=>276 | 175=>284 | 46=>246 | 210=>288 | 127=>213 | 145=>306 | 143=>304 | 21=>21 | 171=>290 | 173=>292 | 212=>308 | 51=>274 | 20=>20 | 213=>309 | 232=>313 | 233=>314 | 80=>54 | n=>n,fun | 15=>3 | 16=>4 | 17=>5 | 18=>6 | 19=>7 | n=>n⟩
theorem Tryz.laysC172:Go.Proofs.LaysC.n172 Tryz.prog Tryz.laysC172_ren:={
 mixed:=by kernel_rfl
 f129:=Tryz.func205.trans (congrArg some (by kernel_rfl))
 f171:=Tryz.func133.trans (congrArg some (by kernel_rfl))
 f172:=Tryz.func127.trans (congrArg some (by kernel_rfl))
 f205:=Tryz.func222.trans (congrArg some (by kernel_rfl))
 f243:=Tryz.func171.trans (congrArg some (by kernel_rfl))
 f244:=Tryz.func167.trans (congrArg some (by kernel_rfl))
 f245:=Tryz.func168.trans (congrArg some (by kernel_rfl))
 f246:=Tryz.func194.trans (congrArg some (by kernel_rfl))
 f247:=Tryz.func188.trans (congrArg some (by kernel_rfl))
 f279:=Tryz.func189.trans (congrArg some (by kernel_rfl))
 f280:=Tryz.func190.trans (congrArg some (by kernel_rfl))
 f281:=Tryz.func191.trans (congrArg some (by kernel_rfl))
 f282:=Tryz.func192.trans (congrArg some (by kernel_rfl))
 f283:=Tryz.func223.trans (congrArg some (by kernel_rfl))
 f284:=Tryz.func224.trans (congrArg some (by kernel_rfl))
 f285:=Tryz.func225.trans (congrArg some (by kernel_rfl))
 f286:=Tryz.func226.trans (congrArg some (by kernel_rfl))
 f287:=Tryz.func220.trans (congrArg some (by kernel_rfl))
 f316:=Tryz.func221.trans (congrArg some (by kernel_rfl))
 f317:=Tryz.func240.trans (congrArg some (by kernel_rfl))
 f318:=Tryz.func241.trans (congrArg some (by kernel_rfl))
 f319:=Tryz.func242.trans (congrArg some (by kernel_rfl))
 f320:=Tryz.func243.trans (congrArg some (by kernel_rfl))
 f321:=Tryz.func238.trans (congrArg some (by kernel_rfl))
 f322:=Tryz.func239.trans (congrArg some (by kernel_rfl))
 f337:=Tryz.func246.trans (congrArg some (by kernel_rfl))
 f338:=Tryz.func247.trans (congrArg some (by kernel_rfl))
 t0:=Tryz.underlying0
 a0:=Tryz.isAgg0
 z0:=Tryz.sizeOf0
 v0:=Tryz.zeroValue0
 t2:=Tryz.underlying2
 a2:=Tryz.isAgg2
 z2:=Tryz.sizeOf2
 v2:=Tryz.zeroValue2
 t3:=Tryz.underlying3
 a3:=Tryz.isAgg3
 z3:=Tryz.sizeOf3
 v3:=Tryz.zeroValue3
 t4:=Tryz.underlying4
 a4:=Tryz.isAgg4
 z4:=Tryz.sizeOf4
 v4:=Tryz.zeroValue4
 t5:=Tryz.underlying5
 a5:=Tryz.isAgg5
 z5:=Tryz.sizeOf5
 v5:=Tryz.zeroValue5
 t9:=Tryz.underlying9
 a9:=Tryz.isAgg9
 z9:=Tryz.sizeOf9
 v9:=Tryz.zeroValue9
 t20:=Tryz.underlying20
 a20:=Tryz.isAgg20
 z20:=Tryz.sizeOf20
 v20:=Tryz.zeroValue20
 t21:=Tryz.underlying21
 a21:=Tryz.isAgg21
 z21:=Tryz.sizeOf21
 v21:=Tryz.zeroValue21
 t37:=Tryz.underlying158
 a37:=Tryz.isAgg158
 z37:=Tryz.sizeOf158
 v37:=Tryz.zeroValue158
 t46:=Tryz.underlying246
 a46:=Tryz.isAgg246
 z46:=Tryz.sizeOf246
 v46:=Tryz.zeroValue246
 t51:=Tryz.underlying274
 a51:=Tryz.isAgg274
 z51:=Tryz.sizeOf274
 v51:=Tryz.zeroValue274
 t53:=Tryz.underlying276
 a53:=Tryz.isAgg276
 z53:=Tryz.sizeOf276
 v53:=Tryz.zeroValue276
 t75:=Tryz.underlying46
 a75:=Tryz.isAgg46
 z75:=Tryz.sizeOf46
 v75:=Tryz.zeroValue46
 t76:=Tryz.underlying47
 a76:=Tryz.isAgg47
 z76:=Tryz.sizeOf47
 v76:=Tryz.zeroValue47
 t85:=Tryz.underlying259
 a85:=Tryz.isAgg259
 z85:=Tryz.sizeOf259
 v85:=Tryz.zeroValue259
 t127:=Tryz.underlying213
 a127:=Tryz.isAgg213
 z127:=Tryz.sizeOf213
 v127:=Tryz.zeroValue213
 t143:=Tryz.underlying304
 a143:=Tryz.isAgg304
 z143:=Tryz.sizeOf304
 v143:=Tryz.zeroValue304
 t145:=Tryz.underlying306
 a145:=Tryz.isAgg306
 z145:=Tryz.sizeOf306
 v145:=Tryz.zeroValue306
 t167:=Tryz.underlying258
 a167:=Tryz.isAgg258
 z167:=Tryz.sizeOf258
 v167:=Tryz.zeroValue258
 t168:=Tryz.underlying261
 a168:=Tryz.isAgg261
 z168:=Tryz.sizeOf261
 v168:=Tryz.zeroValue261
 t171:=Tryz.underlying290
 a171:=Tryz.isAgg290
 z171:=Tryz.sizeOf290
 v171:=Tryz.zeroValue290
 t173:=Tryz.underlying292
 a173:=Tryz.isAgg292
 z173:=Tryz.sizeOf292
 v173:=Tryz.zeroValue292
 t175:=Tryz.underlying284
 a175:=Tryz.isAgg284
 z175:=Tryz.sizeOf284
 v175:=Tryz.zeroValue284
 t210:=Tryz.underlying288
 a210:=Tryz.isAgg288
 z210:=Tryz.sizeOf288
 v210:=Tryz.zeroValue288
 t212:=Tryz.underlying308
 a212:=Tryz.isAgg308
 z212:=Tryz.sizeOf308
 v212:=Tryz.zeroValue308
 t213:=Tryz.underlying309
 a213:=Tryz.isAgg309
 z213:=Tryz.sizeOf309
 t232:=Tryz.underlying313
 a232:=Tryz.isAgg313
 z232:=Tryz.sizeOf313
 v232:=Tryz.zeroValue313
 t233:=Tryz.underlying314
 a233:=Tryz.isAgg314
 z233:=Tryz.sizeOf314
 v233:=Tryz.zeroValue314
 g15:=by kernel_rfl
 g16:=by kernel_rfl
 g17:=by kernel_rfl
 g18:=by kernel_rfl
 g19:=by kernel_rfl
 t80:=Tryz.underlying54
 a80:=Tryz.isAgg54
 z80:=Tryz.sizeOf54
 v80:=Tryz.zeroValue54
 i0:=by kernel_rfl
 i2:=by kernel_rfl
 i3:=by kernel_rfl
 i4:=by kernel_rfl
 i5:=by kernel_rfl
 i9:=by kernel_rfl
 i20:=by kernel_rfl
 i21:=by kernel_rfl
 i37:=by kernel_rfl
 i46:=by kernel_rfl
 i51:=by kernel_rfl
 i53:=by kernel_rfl
 i75:=by kernel_rfl
 i76:=by kernel_rfl
 i80:=by kernel_rfl
 i85:=by kernel_rfl
 i127:=by kernel_rfl
 i143:=by kernel_rfl
 i145:=by kernel_rfl
 i167:=by kernel_rfl
 i168:=by kernel_rfl
 i171:=by kernel_rfl
 i173:=by kernel_rfl
 i175:=by kernel_rfl
 i210:=by kernel_rfl
 i212:=by kernel_rfl
 i232:=by kernel_rfl
 i233:=by kernel_rfl
 m15:=by kernel_rfl
 m16:=by kernel_rfl
 m17:=by kernel_rfl
 m18:=by kernel_rfl
 m19:=by kernel_rfl
 c0:=by kernel_rfl
 c2:=by kernel_rfl
 c3:=by kernel_rfl
 c4:=by kernel_rfl
 c5:=by kernel_rfl
 c9:=by kernel_rfl
 c20:=by kernel_rfl
 c21:=by kernel_rfl
 c37:=by kernel_rfl
 c46:=by kernel_rfl
 c51:=by kernel_rfl
 c53:=by kernel_rfl
 c75:=by kernel_rfl
 c76:=by kernel_rfl
 c80:=by kernel_rfl
 c85:=by kernel_rfl
 c127:=by kernel_rfl
 c143:=by kernel_rfl
 c145:=by kernel_rfl
 c167:=by kernel_rfl
 c168:=by kernel_rfl
 c171:=by kernel_rfl
 c173:=by kernel_rfl
 c175:=by kernel_rfl
 c210:=by kernel_rfl
 c212:=by kernel_rfl
 c213:=by kernel_rfl
 c232:=by kernel_rfl
 c233:=by kernel_rfl }
open Go.RowKit in
theorem Tryz.strconv_Atoi_ok (s:ByteArray) (hmax:s.size<=9223372036854775806) (v:Int) (h:Lib.atoiAll s.data.toList=.ok v) (w:World) :
  Calls Tryz.prog 127 #[.string s] w fun e w'=>e=.returned (.tuple #[.int .i64 v,.nilIface])/\(w'=w\/∃ t,w'=Lib.bytesWorld w 5 t):=Any.strconv_Atoi_ok Tryz.laysC172 s hmax v h w
open Go.RowKit in
open Go.RowKit in
def Tryz.lays219_ren:Go.Shelf.Ren:=⟨fun | 219=>187 | 217=>216 | 225=>217 | 224=>218 | 267=>219 | 266=>236 | 314=>237 | n=>n,fun | 9=>9 | 3=>3 | 4=>4 | 5=>5 | 46=>246 | 146=>300 | 51=>274 | n=>n,fun | 1=>2 | n=>n⟩
theorem Tryz.lays219:Go.Proofs.Lays.n219 Tryz.prog Tryz.lays219_ren:={
 mixed:=by kernel_rfl
 f217:=Tryz.func216.trans (congrArg some (by kernel_rfl))
 f219:=Tryz.func187.trans (congrArg some (by kernel_rfl))
 f224:=Tryz.func218.trans (congrArg some (by kernel_rfl))
 f225:=Tryz.func217.trans (congrArg some (by kernel_rfl))
 f266:=Tryz.func236.trans (congrArg some (by kernel_rfl))
 f267:=Tryz.func219.trans (congrArg some (by kernel_rfl))
 f314:=Tryz.func237.trans (congrArg some (by kernel_rfl))
 t3:=Tryz.underlying3
 a3:=Tryz.isAgg3
 z3:=Tryz.sizeOf3
 v3:=Tryz.zeroValue3
 t4:=Tryz.underlying4
 a4:=Tryz.isAgg4
 z4:=Tryz.sizeOf4
 v4:=Tryz.zeroValue4
 t5:=Tryz.underlying5
 a5:=Tryz.isAgg5
 z5:=Tryz.sizeOf5
 v5:=Tryz.zeroValue5
 t9:=Tryz.underlying9
 a9:=Tryz.isAgg9
 z9:=Tryz.sizeOf9
 v9:=Tryz.zeroValue9
 t46:=Tryz.underlying246
 a46:=Tryz.isAgg246
 z46:=Tryz.sizeOf246
 v46:=Tryz.zeroValue246
 t51:=Tryz.underlying274
 a51:=Tryz.isAgg274
 z51:=Tryz.sizeOf274
 v51:=Tryz.zeroValue274
 t146:=Tryz.underlying300
 a146:=Tryz.isAgg300
 z146:=Tryz.sizeOf300
 v146:=Tryz.zeroValue300
 g1:=by kernel_rfl }
open Go.RowKit Go.Lib in
theorem Tryz.stringslite_Index_one (s:ByteArray) (c:UInt8) (w:World) :
  Calls Tryz.prog 187 #[.string s,.string ⟨#[c]⟩] w fun e w'=>e=.returned (.int .i64 (Lib.indexByte s.data.toList c))/\w'=w:=Any.stringslite_Index_one Tryz.lays219 s c w
def Tryz.lays101_ren:Go.Shelf.Ren:=⟨fun | 101=>128 | 208=>169 | 206=>193 | n=>n,fun | 9=>9 | 4=>4 | 3=>3 | n=>n,fun | n=>n⟩
theorem Tryz.lays101:Go.Proofs.Lays.n101 Tryz.prog Tryz.lays101_ren:={
 mixed:=by kernel_rfl
 f101:=Tryz.func128.trans (congrArg some (by kernel_rfl))
 f206:=Tryz.func193.trans (congrArg some (by kernel_rfl))
 f208:=Tryz.func169.trans (congrArg some (by kernel_rfl))
 t3:=Tryz.underlying3
 a3:=Tryz.isAgg3
 z3:=Tryz.sizeOf3
 v3:=Tryz.zeroValue3
 t4:=Tryz.underlying4
 a4:=Tryz.isAgg4
 z4:=Tryz.sizeOf4
 v4:=Tryz.zeroValue4
 t9:=Tryz.underlying9
 a9:=Tryz.isAgg9
 z9:=Tryz.sizeOf9
 v9:=Tryz.zeroValue9 }
open Go.RowKit Go.Lib in
theorem Tryz.strings_TrimPrefix (s p:ByteArray) (w:World) :
  Calls Tryz.prog 128 #[.string s,.string p] w fun e w'=>e=.returned (.string ⟨(Lib.trimPrefix s.data.toList p.data.toList).toArray⟩)/\w'=w:=Any.strings_TrimPrefix Tryz.lays101 s p w
end
end Go.Proofs.YtipbhlofbpnpjaaGreatDoor
