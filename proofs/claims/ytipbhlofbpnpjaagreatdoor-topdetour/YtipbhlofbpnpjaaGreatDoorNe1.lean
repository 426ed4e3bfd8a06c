/- -/
import Derived.Test.YtipbhlofbpnpjaaGreatDoorP23
import Derived.Test.YtipbhlofbpnpjaaGreatDoorGSet
import Derived.Test.YtipbhlofbpnpjaaGreatDoorTSet
namespace Go.Proofs.YtipbhlofbpnpjaaGreatDoor
open Go.RowKit Go.Lib
structure Hf (w:World) (lo hi sb rb pb mb tb gb x:Nat) (W H V:Int) (bl:Nat->Bool) (most:Nat):Prop where
 c0:w.cell? ⟨sb,0,none⟩=some (.int .i64 (most:Int))
 c1:w.cell? ⟨sb,1,none⟩=some (.pointer (some ⟨rb,0,none⟩))
 c2:∃ u,w.cell? ⟨sb,2,none⟩=some u
 c3:w.cell? ⟨sb,3,none⟩=some (.pointer (some ⟨tb,0,none⟩))
 fz:w.frozen? ⟨sb,2,none⟩=false
 gi:GraphIn w rb pb mb W H V bl (fun g=>g≠tb/\g≠gb/\g≠sb)
 ta:TabOk w tb gb W H V bl
 l1:lo<=rb/\lo<=pb/\lo<=mb
 l2:rb<x/\pb<x/\mb<x
 l3:x<=tb/\x<=gb/\tb<sb/\gb<sb
 l4:sb<hi
def Wr (pb mb tb gb:Nat) (k:Nat):Prop:=k=pb\/k=mb\/k=tb\/k=gb
section
variable {w w' : World} {lo hi sb rb pb mb lb tb gb N x most : Nat} {W H V V2 : Int} {bl : Nat → Bool}
theorem SvAt.hf (S:SvAt w lo hi sb rb pb mb lb tb gb N x W H V V2 bl most):Hf w lo hi sb rb pb mb tb gb x W H V bl most:=by
 have ta:=S.ta
 rw [S.vv] at ta
 exact ⟨S.c0,S.c1,⟨_,S.c2⟩,S.c3,S.fz,S.gi,ta,⟨S.l1.1,S.l1.2.1,S.l1.2.2.1⟩,S.l2,S.l3,S.l4⟩
theorem Hf.lt (S:Hf w lo hi sb rb pb mb tb gb x W H V bl most):sb<w.heap.size:=World.block_lt_of_cell? _ _ S.c0
theorem Hf.below (S:Hf w lo hi sb rb pb mb tb gb x W H V bl most)(hb:Below w.heap.size w w'):Hf w' lo hi sb rb pb mb tb gb x W H V bl most:=by
 have k:∀ {a:Addr}{v:Value},w.cell? a=some v->w'.cell? a=some v:=fun {a v} h=>(hb.cell (World.block_lt_of_cell? w a h)).trans h
 obtain ⟨u,c2⟩:=S.c2
 exact ⟨k S.c0,k S.c1,⟨u,k c2⟩,k S.c3,(hb.frozen (p:=⟨sb,2,none⟩) S.lt).trans S.fz,S.gi.below hb,S.ta.below hb,S.l1,S.l2,S.l3,S.l4⟩
theorem Hf.side (S:Hf w lo hi sb rb pb mb tb gb x W H V bl most):1<=W/\W<=16/\1<=H/\H<=16:=by
 obtain ⟨f,G,_⟩:=S.gi
 exact ⟨G.ga.w1,G.ga.w2,G.ga.h1,G.ga.h2⟩
theorem GraphIn.keep {F Q:Nat->Prop}(G:GraphIn w rb pb mb W H V bl Q)(K:Keep F w w')(h1:¬ F rb)(h2:¬ F pb)(h3:¬ F mb)(h4:∀ g,Q g->¬ F g):GraphIn w' rb pb mb W H V bl Q:=by
 obtain ⟨f,S,E,I⟩:=G
 exact ⟨f,S.keep K h1 h2 h3,fun c=>(E c).kept K (fun v l g hfc ho hg _=>h4 g (I c v g hfc hg)) rfl,I⟩
end
theorem upd_same {bl:Nat->Bool}{c:Nat}{v:Bool}(h:bl c=v):upd bl c v=bl:=by
 funext n
 unfold upd
 split
 ·next e=>rw [e,h]
 ·rfl
def SetP (w w':World) (e:Ending) (lo hi sb rb pb mb tb gb x:Nat) (W H V:Int) (bl:Nat->Bool) (most c:Nat) (v:Bool):Prop :=
 (bl c=v/\e=.returned (.bool false)/\Below w.heap.size w w')\/(bl c=!v/\e=.returned (.bool true)/\Hf w' lo hi sb rb pb mb tb gb x W H (V+1) (upd bl c v) most/\Keep (Wr pb mb tb gb) w w')
set_option maxHeartbeats 2000000 in
theorem nset_any {lo hi sb rb pb mb tb gb x most c:Nat}{W H V:Int}{bl:Nat->Bool}(v:Bool)(w:World)(S:Hf w lo hi sb rb pb mb tb gb x W H V bl most)(hc:inB W H c=true)(v1:0<=V)(v2:V<=1000000)(hlo:2<=lo) :
  Calls Tryz.prog 47 #[.pointer (some ⟨sb,0,none⟩),.agg #[.int .i64 c,.bool v]] w fun e w'=>SetP w w' e lo hi sb rb pb mb tb gb x W H V bl most c v:=by
 obtain ⟨a1,a2,a3⟩:=S.l1
 obtain ⟨a4,a5,a6⟩:=S.l2
 obtain ⟨a7,a8,a9,a10⟩:=S.l3
 have hsl:=S.lt
 have b0:Below w.heap.size w (w.alloc (.cells #[.int .i64 c,.bool v] 62)):=(Below.refl _ _).alloc (Nat.le_refl _) _
 have q0:(w.alloc (.cells #[.int .i64 c,.bool v] 62)).cell? ⟨w.heap.size,0,none⟩=some (.int .i64 c):=World.cell?_alloc_at #[.int .i64 c,.bool v] 62 w.heap.size 0 rfl
 have q1:(w.alloc (.cells #[.int .i64 c,.bool v] 62)).cell? ⟨w.heap.size,1,none⟩=some (.bool v):=World.cell?_alloc_at #[.int .i64 c,.bool v] 62 w.heap.size 1 rfl
 have S0:=S.below b0
 go_enter Tryz.func47,Tryz.ntmps47
 go_wp2_with fail
 have hz0:w.heap.size<(w.alloc (.cells #[.int .i64 c,.bool v] 62)).heap.size:=by simp
 generalize w.alloc (.cells #[.int .i64 c,.bool v] 62)=wa at *
 have e0:Below wa.heap.size wa wa.drew:=(Below.refl _ _).drew
 have S1:=S0.below e0
 have hzd:w.heap.size<wa.drew.heap.size:=hz0
 have ta:TabOk wa.drew tb gb W H V bl:=S1.ta
 have c3:=S1.c3
 have q0:wa.drew.cell? ⟨w.heap.size,0,none⟩=some (.int .i64 c):=q0
 have q1:wa.drew.cell? ⟨w.heap.size,1,none⟩=some (.bool v):=q1
 have B1:Below w.heap.size w wa.drew:=b0.trans (e0.mono b0.size)
 by_cases hv:bl c=v
 ·have ht:=tset_same c v wa.drew ta hc hv
  have HV:Hid (bl c=v):=hv
  clear hv ta
  go_region_held3 (fun w'=>w'.cell? ⟨sb,3,none⟩=some (.pointer (some ⟨tb,0,none⟩))/\w'.cell? ⟨w.heap.size,0,none⟩=some (.int .i64 c)/\w'.cell? ⟨w.heap.size,1,none⟩=some (.bool v)) (first|with_reducible exact ⟨c3,q0,q1⟩)
   (first|(go_at_call 83;refine ht.mono ?_;rintro r w5 ⟨rfl,m5,hw5⟩;have h5:Below wa.drew.heap.size wa.drew w5:=(by rw [hw5];exact below_drewN (Below.refl _ _) _);clear hw5;have c3:=(h5.cell (World.block_lt_of_cell? _ _ c3)).trans c3;have q0:=(h5.cell (World.block_lt_of_cell? _ _ q0)).trans q0;have q1:=(h5.cell (World.block_lt_of_cell? _ _ q1)).trans q1))
  go_wp2_with fail
  have e5:Below w5.heap.size w5 w5.drew:=(Below.refl _ _).drew
  have S5:=(S1.below h5).below e5
  have c1:=S5.c1
  have q0:w5.drew.cell? ⟨w.heap.size,0,none⟩=some (.int .i64 c):=q0
  have q1:w5.drew.cell? ⟨w.heap.size,1,none⟩=some (.bool v):=q1
  have B5:=(B1.trans (h5.mono B1.size)).trans (e5.mono (B1.trans (h5.mono B1.size)).size)
  have hg:=gset_same v w5.drew S5.gi.graph hc HV.out
  clear ht c3 S0 S1 S
  go_region_held3 (fun w'=>w'.cell? ⟨sb,1,none⟩=some (.pointer (some ⟨rb,0,none⟩))/\w'.cell? ⟨w.heap.size,0,none⟩=some (.int .i64 c)/\w'.cell? ⟨w.heap.size,1,none⟩=some (.bool v)) (first|with_reducible exact ⟨c1,q0,q1⟩)
   (first|(go_at_call 84;refine hg.mono ?_;rintro r w6 ⟨rfl,h6⟩;have c1:=(h6.cell (World.block_lt_of_cell? _ _ c1)).trans c1;have q0:=(h6.cell (World.block_lt_of_cell? _ _ q0)).trans q0;have q1:=(h6.cell (World.block_lt_of_cell? _ _ q1)).trans q1))
  go_wp2
  go_ret
  exact Or.inl ⟨HV.out,rfl,B5.trans (h6.mono B5.size)⟩
 ·have hv':bl c=!v:=by cases hb:bl c <;> cases v <;> simp_all
  have ht:=tset_new c v wa.drew ta hc hv' v1 v2
  have HV:Hid (bl c=!v):=hv'
  have n1:sb≠tb/\sb≠gb:=⟨by omega,by omega⟩
  have n2:w.heap.size≠tb/\w.heap.size≠gb:=⟨by omega,by omega⟩
  have n3:w.heap.size≠pb/\w.heap.size≠mb:=⟨by omega,by omega⟩
  clear hv hv' ta
  go_region_held3 (fun w'=>w'.cell? ⟨sb,3,none⟩=some (.pointer (some ⟨tb,0,none⟩))/\w'.cell? ⟨w.heap.size,0,none⟩=some (.int .i64 c)/\w'.cell? ⟨w.heap.size,1,none⟩=some (.bool v)) (first|with_reducible exact ⟨c3,q0,q1⟩)
   (first|(go_at_call 83;refine ht.mono ?_;rintro r w5 ⟨rfl,T5,K5⟩;have c3:=K5.cellOf c3 (fun h=>h.elim n1.1 n1.2);have q0:=K5.cellOf q0 (fun h=>h.elim n2.1 n2.2);have q1:=K5.cellOf q1 (fun h=>h.elim n2.1 n2.2)))
  go_wp2_with fail
  have e5:Below w5.heap.size w5 w5.drew:=(Below.refl _ _).drew
  have K5':Keep (fun k=>k=tb\/k=gb) wa.drew w5.drew:=K5.drew
  have hsz:=K5'.size
  have st5:StepsAt w5.drew:=by
   obtain ⟨T,t,_⟩:=(T5.below e5).ok
   exact t.st
  have c1:=K5'.cellOf S1.c1 (fun h=>h.elim n1.1 n1.2)
  have q0:w5.drew.cell? ⟨w.heap.size,0,none⟩=some (.int .i64 c):=q0
  have q1:w5.drew.cell? ⟨w.heap.size,1,none⟩=some (.bool v):=q1
  have G5:=S1.gi.keep K5' (fun h=>h.elim (by omega) (by omega)) (fun h=>h.elim (by omega) (by omega)) (fun h=>h.elim (by omega) (by omega)) (fun g hg h=>h.elim hg.1 hg.2.1)
  have hg:=gset_new v w5.drew G5 (fun g hg=>⟨by omega,by omega,by omega⟩) st5 hc HV.out v1 v2 (by omega) (by omega)
  have T5':=T5.below e5
  have d0:=K5'.cellOf S1.c0 (fun h=>h.elim n1.1 n1.2)
  have d2:∃ u,w5.drew.cell? ⟨sb,2,none⟩=some u:=by
   obtain ⟨u,hu⟩:=S1.c2
   exact ⟨u,K5'.cellOf hu (fun h=>h.elim n1.1 n1.2)⟩
  have d3:=K5'.cellOf S1.c3 (fun h=>h.elim n1.1 n1.2)
  have d4:=(K5'.frozen (p:=⟨sb,2,none⟩) S1.lt (fun h=>h.elim n1.1 n1.2)).trans S1.fz
  have HK5:Hid (Keep (Wr pb mb tb gb) w w5.drew):=(Keep.of_below B1).trans K5' (fun k _ h=>h.elim (fun h=>Or.inr (Or.inr (Or.inl h))) (fun h=>Or.inr (Or.inr (Or.inr h))))
  have HD:Hid (w5.drew.cell? ⟨sb,0,none⟩=some (.int .i64 (most:Int))/\(∃ u,w5.drew.cell? ⟨sb,2,none⟩=some u)/\w5.drew.cell? ⟨sb,3,none⟩=some (.pointer (some ⟨tb,0,none⟩))/\w5.drew.frozen? ⟨sb,2,none⟩=false):=⟨d0,d2,d3,d4⟩
  have HL:Hid ((lo<=rb/\lo<=pb/\lo<=mb)/\(rb<x/\pb<x/\mb<x)/\(x<=tb/\x<=gb/\tb<sb/\gb<sb)/\sb<hi):=⟨S.l1,S.l2,S.l3,S.l4⟩
  have hsp:sb≠pb/\sb≠mb:=⟨by omega,by omega⟩
  have hrow:tb≠pb/\tb≠mb/\gb≠pb/\gb≠mb/\1≠pb/\1≠mb:=⟨by omega,by omega,by omega,by omega,by omega,by omega⟩
  have hsd:sb<w5.drew.heap.size:=Nat.lt_of_lt_of_le S1.lt hsz
  clear ht c3 S0 S1 S K5 K5' G5 st5 T5 d0 d2 d3 d4
  go_region_held3 (fun w'=>w'.cell? ⟨sb,1,none⟩=some (.pointer (some ⟨rb,0,none⟩))/\w'.cell? ⟨w.heap.size,0,none⟩=some (.int .i64 c)/\w'.cell? ⟨w.heap.size,1,none⟩=some (.bool v)) (first|with_reducible exact ⟨c1,q0,q1⟩)
   (first|(go_at_call 84;refine hg.mono ?_;rintro r w6 ⟨rfl,G6,K6⟩;have c1:=K6.cellOf c1 (fun h=>h.elim hsp.1 hsp.2);have q0:=K6.cellOf q0 (fun h=>h.elim n3.1 n3.2);have q1:=K6.cellOf q1 (fun h=>h.elim n3.1 n3.2)))
  obtain ⟨d0,⟨u,d2⟩,d3,d4⟩:=HD.out
  obtain ⟨k1,k2,k3,k4⟩:=HL.out
  have HF:Hid (Hf w6 lo hi sb rb pb mb tb gb x W H (V+1) (upd bl c v) most):=⟨K6.cellOf d0 (fun h=>h.elim hsp.1 hsp.2),c1,⟨u,K6.cellOf d2 (fun h=>h.elim hsp.1 hsp.2)⟩,K6.cellOf d3 (fun h=>h.elim hsp.1 hsp.2),(K6.frozen (p:=⟨sb,2,none⟩) hsd (fun h=>h.elim hsp.1 hsp.2)).trans d4,G6,T5'.keep K6 (fun h=>h.elim hrow.1 hrow.2.1) (fun h=>h.elim hrow.2.2.1 hrow.2.2.2.1) (fun h=>h.elim hrow.2.2.2.2.1 hrow.2.2.2.2.2),k1,k2,k3,k4⟩
  have HK6:Hid (Keep (Wr pb mb tb gb) w w6):=HK5.out.trans K6 (fun k _ h=>h.elim Or.inl (fun h=>Or.inr (Or.inl h)))
  clear d0 d2 d3 d4 T5' G6 K6
  go_wp2
  go_ret
  exact Or.inr ⟨HV.out,rfl,HF.out,HK6.out⟩
end Go.Proofs.YtipbhlofbpnpjaaGreatDoor
