/-
  Texts laid together: LocT, GSet, TSet, Ne1.
-/
import Derived.Test.YtipbhlofbpnpjaaGreatDoorQ43
import Derived.Test.YtipbhlofbpnpjaaGreatDoorQ34
import Derived.Test.YtipbhlofbpnpjaaGreatDoorQ35
namespace Go.Proofs.YtipbhlofbpnpjaaGreatDoor
section
section
variable {W H c0 : Int} {bl bl' : Nat → Bool}
theorem loc_corn (hbl:∀ n:Nat,(n:Int)≠c0->bl n=bl' n) (w1:1<=W) {c:Int}(h:¬ Tch W H bl (c0 % W) (c0 / W) (c0 / W+1+1) (c0 % W - 1) c) (hc:cornB W H bl c=true) :
  (∀ p,inB W H p=true->bl p.toNat=false->Blk W c0 p->¬ Dir W H bl p c)/\¬ Blk W c0 c/\cornB W H bl' c=true:=by
 rw [Tch.all] at h
 have hno:∀ p,inB W H p=true->bl p.toNat=false->Blk W c0 p->¬ Dir W H bl p c:=fun p hp hf hB hd=>h ⟨hc,p,⟨hp,hf,hd⟩,by unfold Blk at hB;omega⟩
 have hin:=cornC_in w1 (cornB_iff.1 hc)
 have hnb:¬ Blk W c0 c:=fun hB=>hno c hin (corn_free hc) hB (Dir.self w1)
 exact ⟨hno,hnb,cornB_iff.2 (far_corn hbl hnb (cornB_iff.1 hc))⟩
theorem loc_edge (hbl:∀ n:Nat,(n:Int)≠c0->bl n=bl' n) (w1:1<=W) (w2:W<=16) (h1:1<=H) (h2:H<=16) {c:Int}(h:¬ Tch W H bl (c0 % W) (c0 / W) (c0 / W+1+1) (c0 % W - 1) c) (hc:cornB W H bl c=true) (d:Int) (hd:Dir W H bl c d/\(decide (d≠c)&&cornB W H bl d)=true) :
  Dir W H bl' c d/\(decide (d≠c)&&cornB W H bl' d)=true:=by
 obtain ⟨hno,_,_⟩:=loc_corn hbl w1 h hc
 rw [Bool.and_eq_true] at hd
 have hin:=cornC_in w1 (cornB_iff.1 hc)
 have hdin:=cornC_in w1 (cornB_iff.1 hd.2.2)
 have:=oct_small w1 w2 h1 h2 hin hdin
 obtain ⟨k1,k2⟩:=edge_kept hbl w1 (by omega) (by omega) hin (corn_free hc) (cornB_iff.1 hd.2.2) hd.1 hno
 rw [Bool.and_eq_true]
 exact ⟨k2,hd.2.1,cornB_iff.2 k1⟩
theorem EOk.loc {w:World}{pb:Nat}{f:Int->Option Value}(hbl:∀ n:Nat,(n:Int)≠c0->bl n=bl' n) (w1:1<=W) (w2:W<=16) (h1:1<=H) (h2:H<=16) {c:Int}
  (hn:¬ Tch W H bl (c0 % W) (c0 / W) (c0 / W+1+1) (c0 % W - 1) c) (hn':¬ Tch W H bl' (c0 % W) (c0 / W) (c0 / W+1+1) (c0 % W - 1) c) (E:EOk w pb W H bl f c):EOk w pb W H bl' f c:=by
 have hbl':∀ n:Nat,(n:Int)≠c0->bl' n=bl n:=fun n h=>(hbl n h).symm
 refine ⟨fun hc=>?_,fun hc=>?_⟩
 ·have hc0:=(loc_corn hbl' w1 hn' hc).2.2
  obtain ⟨v,l,e1,e2,e3,e4⟩:=E.yes hc0
  refine ⟨v,l,e1,e2,⟨e3.1,fun n=>?_⟩,e4⟩
  rw [e3.2 n]
  exact ⟨loc_edge hbl w1 w2 h1 h2 hn hc0 n,loc_edge hbl' w1 w2 h1 h2 hn' hc n⟩
 ·refine E.no ?_
  cases hb:cornB W H bl c with
  | false=>rfl
  | true =>
    have:=(loc_corn hbl w1 hn hb).2.2
    rw [hc] at this;cases this
end
end
section
open Go.RowKit
theorem Touch.keep {b:Nat}{w w':World}(h:Touch b w w'):Keep (fun k=>k=b) w w':=⟨h.os,h.tape,h.output,by rw [h.size];exact Nat.le_refl _,fun i _ hn=>h.other i hn⟩
theorem EOk.kept {F:Nat->Prop}{w w':World}{pb:Nat}{W H c:Int}{bl:Nat->Bool}{f f':Int->Option Value}(E:EOk w pb W H bl f c) (K:Keep F w w') (hF:∀ v l g,f c=some v->w.ownsRow 0 207 4 v (List.length l) (edgesV W c l)->v.ownBlock=some g->pb < g->¬ F g) (hf:f' c=f c):EOk w' pb W H bl f' c:=by
 refine ⟨fun h=>?_,fun h=>hf.trans (E.no h)⟩
 obtain ⟨v,l,h1,h2,h3,h4⟩:=E.yes h
 exact ⟨v,l,hf.trans h1,own_keep h2 K (fun g hg=>hF v l g h1 h2 hg (h4 g hg)),h3,h4⟩
theorem mkmapT (w:World):(Instr.makeMap 133 none).run Tryz.prog w=.ok (.map (some w.heap.size)) (w.alloc (.map #[] 0)):=by kernel_rfl
set_option maxHeartbeats 1000000 in
theorem gset_same {rb pb mb c:Nat}{W H V:Int}{bl:Nat->Bool}(v:Bool) (w:World) (G:GraphAt w rb pb mb W H V bl) (hc:inB W H c=true) (hv:bl c=v) :
  Calls Tryz.prog 84 #[.pointer (some ⟨rb,0,none⟩),.int .i64 c,.bool v] w fun e w'=>e=.returned (.tuple #[.bool false,.nilIface])/\Below w.heap.size w w':=by
 obtain ⟨f,G,E⟩:=G
 have p0:=G.p0
 obtain ⟨l1,l2,l3⟩:=G.lts
 have hcp:=copy_any w G.ga
 go_enter Tryz.func84,Tryz.ntmps84
 go_wp2_with fail
 refine hcp.mono ?_
 rintro e w1 ⟨rfl,hb1,hs1,g1,fr1⟩
 have hse:=set_same c v w1 (G.ga.below hb1 l2) hc hv
 have p0:=(hb1.cell (p:=⟨rb,0,none⟩) l1).trans p0
 clear hcp G E g1 fr1
 go_wp2_with fail
 refine hse.mono ?_
 rintro e w2 ⟨rfl,m2,rfl⟩
 clear hse
 go_wp2
 go_ret2
 exact ⟨rfl,below_drewN hb1 _⟩
set_option maxHeartbeats 4000000 in
set_option maxRecDepth 1000000 in
theorem gset_new {rb pb mb c:Nat}{W H V:Int}{bl:Nat->Bool}{Q:Nat->Prop}(v:Bool) (w:World) (G:GraphIn w rb pb mb W H V bl Q) (hQ:Hid (∀ g,w.heap.size<=g->Q g)) (s:StepsAt w) (hc:inB W H c=true) (hv:bl c=!v) (v1:0<=V) (v2:V<=1000000) (h0:1≠pb) (h0m:1≠mb) :
  Calls Tryz.prog 84 #[.pointer (some ⟨rb,0,none⟩),.int .i64 c,.bool v] w fun e w'=>e=.returned (.tuple #[.bool true,.nilIface])/\GraphIn w' rb pb mb W H (V+1) (upd bl c v) Q/\Keep (fun k=>k=pb\/k=mb) w w':=by
 obtain ⟨f,G,E⟩:=G
 have p0:=G.p0
 obtain ⟨l1,l2,l3⟩:=G.lts
 obtain ⟨n1,n2⟩:=G.ne
 have hrp:=G.rp
 have gw1:=G.ga.w1
 have gw2:=G.ga.w2
 have gh1:=G.ga.h1
 have gh2:=G.ga.h2
 have hspos:=s.pos
 have hwh:=wh_bd G.ga.w1 G.ga.w2 G.ga.h1 G.ga.h2
 have hbl:Hid (∀ n:Nat,(n:Int)≠(c:Int)->bl n=upd bl c v n):=fun n hn=>by unfold upd;rw [if_neg (by omega)]
 have hcp:=copy_any w G.ga
 have HE:Hid (∀ c:Int,EOk w pb W H bl f c):=E.1
 have HQ0:Hid (∀ (c:Int) v g,f c=some v->v.ownBlock=some g->Q g):=E.2
 clear E
 go_enter Tryz.func84,Tryz.ntmps84
 go_wp2_with fail
 refine hcp.mono ?_
 rintro e w1 ⟨rfl,hb1,hs1,g1,fr1⟩
 have G1:=G.below hb1
 have hse:=set_new c v w1 G1.ga G1.fr hc hv v1 v2
 have p01:=G1.p0
 clear hcp fr1 p0 hv
 go_wp2_with fail
 refine hse.mono ?_
 rintro e w2 ⟨rfl,ht2,g2,fr2⟩
 clear hse
 generalize hblv:upd bl c v=bl' at *
 have HBV:Hid (upd bl c v=bl'):=hblv
 clear hblv
 have K2:=ht2.keep
 have gb2:=g1.keep K2 (show w.heap.size≠pb by omega)
 have p02:=K2.cellOf p01 hrp
 have p12:=K2.cellOf G1.p1 hrp
 have m2:MapF Tryz.prog 3 w2 mb f (cntS (keyB f) 256):=G1.mp.keep K2 (fun e=>n2 e.symm)
 have s2:=(s.below hb1 (by omega)).keep K2 h0
 have hz2:w1.heap.size=w2.heap.size:=ht2.size.symm
 have G2:GSt w2 rb pb mb W H (V+1) bl' f:=⟨p02,p12,g2,m2,G.bd,fr2,hrp⟩
 have KK2:Keep (fun k=>k=pb\/k=mb) w w2:=(Keep.of_below hb1).trans K2 (fun _ _ h=>Or.inl h)
 have HE2:Hid (∀ c:Int,EOk w2 pb W H bl f c):=fun c=>((HE.out c).below hb1).kept K2 (fun v l g _ _ _ hg e=>by omega) rfl
 clear G1 G g1 g2 fr2 m2 p12 p01 HE K2 ht2
 have hmk:=mkmapT w2
 have hT0:=SetAt.made w2
 have B3:Below w2.heap.size w2 (w2.alloc (.map #[] 0)):=(Below.refl _ _).alloc (Nat.le_refl _) _
 have hz1:=hb1.size
 have hta:=touched_any (c:=(c:Int)) (w2.alloc (.map #[] 0)) (gb2.below B3 (by omega)) (s2.below B3 (by omega)) (by simp;omega) hT0 (by omega) (by omega) hc rfl rfl
 go_wp2_with fail
 refine hta.mono ?_
 rintro e w3 ⟨rfl,⟨T1,hT1,hT1i⟩,K3⟩
 have p03:=K3.cellOf ((B3.cell (p:=⟨rb,0,none⟩) (show rb < w2.heap.size by omega)).trans p02) (show rb≠w2.heap.size by omega)
 have G3:=(G2.below B3).keep K3 (show rb≠w2.heap.size by omega) (show pb≠w2.heap.size by omega) (show mb≠w2.heap.size by omega)
 have s3:=(s2.below B3 (by omega)).keep K3 (show 1≠w2.heap.size by omega)
 have KK3:Keep (fun k=>k=pb\/k=mb) w w3:=(KK2.below B3).trans K3 (fun i hi h=>by omega)
 have HE3:Hid (∀ c:Int,EOk w3 pb W H bl f c):=fun c=>((HE2.out c).below B3).kept K3 (fun v l g hfc ho hg _ e=>own_map (own_below ho (Below.refl _ _)) hT0.mp g hg e) rfl
 have HT1:Hid (∀ z,T1 z=true↔Tch W H bl ((c:Int) % W) ((c:Int) / W) ((c:Int) / W+1+1) ((c:Int) % W - 1) z):=fun z=>(hT1i z).trans ⟨fun h=>h.resolve_left (by decide),Or.inr⟩
 have hz3':w2.heap.size+1<=w3.heap.size:=by have:=K3.size;rw [show (w2.alloc (.map #[] 0)).heap.size=w2.heap.size+1 by simp] at this;exact this
 have htb:=touched_any (c:=(c:Int)) w3 G3.ga s3 G3.lts.2.1 hT1 (show pb≠w2.heap.size by omega) (by omega) hc rfl rfl
 clear hta hmk hT0 B3 G2 gb2 s2 HE2 KK2 K3 hT1i p02
 go_wp2_with fail
 refine htb.mono ?_
 rintro e w4 ⟨rfl,⟨T,hT,hTi⟩,K4⟩
 have G4:=G3.keep K4 (show rb≠w2.heap.size by omega) (show pb≠w2.heap.size by omega) (show mb≠w2.heap.size by omega)
 have s4:=s3.keep K4 (show 1≠w2.heap.size by omega)
 have KK4:Keep (fun k=>k=pb\/k=mb) w w4:=KK3.trans K4 (fun i hi h=>by omega)
 have HE4:Hid (∀ c:Int,EOk w4 pb W H bl f c):=fun c=>(HE3.out c).kept K4 (fun v l g hfc ho hg _ e=>own_map ho hT1.mp g hg e) rfl
 have HT:Hid (∀ z,T z=true↔Tch W H bl ((c:Int) % W) ((c:Int) / W) ((c:Int) / W+1+1) ((c:Int) % W - 1) z\/Tch W H bl' ((c:Int) % W) ((c:Int) / W) ((c:Int) / W+1+1) ((c:Int) % W - 1) z):=fun z=>(hTi z).trans (or_congr (HT1.out z) Iff.rfl)
 have hz4:=K4.size
 have htl:=hT.lt
 generalize htbn:w2.heap.size=tb at *
 clear htb G3 s3 HE3 KK3 K4 hTi hT1 HT1 p03 htbn
 go_wp2_with (first | (at_range;refine wpList_rangeF rfl _ 133 rfl 3 185 law3 Tryz.underT tb _ _ rfl hT.mp ?_;intro w5 hrg5 hg5 hs5) | go_in)
 have b5:Below w4.heap.size w4 w5:=(Below.refl _ _).grown hg5 (Nat.le_refl _) (by simp)
 have G5:=G4.below b5
 have s5:=s4.below b5 (by omega)
 have KK5:=KK4.below b5
 have HE5:Hid (∀ c:Int,EOk w5 pb W H bl f c):=fun c=>(HE4.out c).below b5
 generalize hrn:w4.heap.size=r at *
 clear G4 s4 KK4 HE4 b5 hg5
 go_frame
 go_loopg [] (cntS T 256) (fun gk wr=>∃ left cnt f',gk=cnt/\RngS wr tb r T left cnt/\GSt wr rb pb mb W H (V+1) bl' f'/\StepsAt wr/\Hid (∀ i:Int,T i=true->left i=false->EOk wr pb W H bl' f' i)/\Hid (∀ i:Int,¬ (T i=true/\left i=false)->EOk wr pb W H bl f' i)/\Hid (∀ (c:Int) v g,f' c=some v->v.ownBlock=some g->Q g)/\Keep (fun k=>k=pb\/k=mb) w wr)
 case atStart =>
  refine ⟨_,_,f,rfl,hrg5,G5,s5,fun i h1 h2=>?_,fun i _=>HE5.out i,HQ0,KK5⟩
  rw [setF_isSome,h1] at h2
  cases h2
 case round =>
  obtain ⟨left,cnt,f',hgk,hrg,Gr,sr,hyes,hno,hin,hK⟩:=hrel
  go_wp2_with (first | (at_next;refine wpList_nextF rfl _ rfl 3 law3 tb r _ _ _ _ rfl hrg ?_ ?_) | go_in)
  ·intro hc0 hl0
   have HF:Hid (∀ i:Int,EOk wr pb W H bl' f' i):=fun i=>by
    by_cases hti:T i=true
    ·exact hyes.out i hti (hl0 i)
    ·have hnt:=fun h=>hti ((HT.out i).2 h)
     exact (hno.out i (fun h=>hti h.1)).loc hbl.out gw1 gw2 gh1 gh2 (fun h=>hnt (Or.inl h)) (fun h=>hnt (Or.inr h))
   clear hyes hno
   go_wp2
   go_ret2
   rw [HBV.out]
   exact ⟨rfl,⟨f',Gr,HF.out,hin.out⟩,hK⟩
  ·intro x v' w6 cnt1 hwx hlx hfx hrg1 hlt hg1 hs1 hen
   obtain ⟨hTx,rfl⟩:=setF_val hfx
   have hxin:inB W H x=true:=by
    rcases (HT.out x).1 hTx with h | h
    ·exact cornC_in gw1 (cornB_iff.1 h.1)
    ·exact cornC_in gw1 (cornB_iff.1 h.1)
   have kr:Keep (fun k=>k=r) wr w6:=(Keep.refl _ _).grown hg1 (fun k e _=>by cases e;rfl)
   have hzr:=hK.size
   have G6:=Gr.keep kr (show rb≠r by omega) (show pb≠r by omega) (show mb≠r by omega)
   have s6:=sr.keep kr (show 1≠r by omega)
   have K6:Keep (fun k=>k=pb\/k=mb) w w6:=hK.trans kr (fun i hi h=>by omega)
   have hlk:=look_any w6 G6 s6 hxin
   go_wp2_with fail
   refine hlk.mono ?_
   rintro e w7 ⟨rfl,⟨f2,G7,hf2,E7,I7⟩,K7⟩
   have hrg2:=hrg1.keep K7 (show tb≠mb by omega) (show r≠mb by omega)
   have s7:=s6.keep K7 h0m
   have K7':Keep (fun k=>k=pb\/k=mb) w w7:=K6.trans K7 (fun i hi h=>Or.inr h)
   have HY:Hid (∀ i:Int,T i=true->(left i&&!decide (i=x))=false->EOk w7 pb W H bl' f2 i):=fun i h1 h2=>by
    by_cases e:i=x
    ·rw [e];exact E7
    ·refine ((hyes.out i h1 (by rw [decide_eq_false e] at h2;simpa using h2)).kept kr (fun v l g hfc ho hg _ e=>own_rng ho hrg g hg (by rw [e])) rfl).kept K7 (fun v l g hfc ho hg _ e=>own_map ho G6.mp g hg e) (hf2 i e)
   have HN:Hid (∀ i:Int,¬ (T i=true/\(left i&&!decide (i=x))=false)->EOk w7 pb W H bl f2 i):=fun i h=>by
    have e:i≠x:=fun e=>h ⟨by rw [e];exact hTx,by rw [decide_eq_true e];simp⟩
    refine ((hno.out i (fun h2=>h ⟨h2.1,by rw [h2.2];rfl⟩)).kept kr (fun v l g hfc ho hg _ e=>own_rng ho hrg g hg (by rw [e])) rfl).kept K7 (fun v l g hfc ho hg _ e=>own_map ho G6.mp g hg e) (hf2 i e)
   have HI:Hid (∀ (c:Int) v g,f2 c=some v->v.ownBlock=some g->Q g):=fun c v g h hg=>by
    by_cases e:c=x
    ·rw [e] at h;exact hQ.out g (Nat.le_trans K6.size (I7 v g h hg))
    ·rw [hf2 c e] at h;exact hin.out c v g h hg
   clear hlk hyes hno hin Gr sr hrg hrg1 kr G6 s6 K6 K7 E7 I7 hf2
   go_wp2
   go_roundg cnt1
   case measure=>omega
   case rel=>exact ⟨_,cnt1,f2,rfl,hrg2,G7,s7,HY,HN,HI,K7'⟩
end
section
open Go.RowKit
set_option maxHeartbeats 400000 in
theorem tset_same {tb pb:Nat}{W H V:Int}{bl:Nat->Bool}(c:Nat) (v:Bool) (w:World) (t:TabOk w tb pb W H V bl) (hr:inB W H c=true) (hv:bl c=v) :
  Calls Tryz.prog 83 #[.pointer (some ⟨tb,0,none⟩),.int .i64 c,.bool v] w fun e w'=>e=.returned (.tuple #[.bool false,.nilIface])/\∃ m,w'=w.drewN m:=by
 obtain ⟨T,t,_⟩:=t.ok
 have p0:=t.p0
 go_enter Tryz.func83,Tryz.ntmps83
 go_wp2_with (go_at_call 70;refine (set_same c v _ t.ga hr hv).mono ?_;rintro e w' ⟨rfl,m,rfl⟩)
 go_ret2
 exact ⟨rfl,_,rfl⟩
theorem through_v {tb pb c:Nat}{W H V:Int}{bl:Nat->Bool}{v:Bool}{T:Nat->Nat->Nat}{x y:Int}(hc:idx W x y=c) (d:Nat) (w:World) (t:TabAt w tb pb W H V (upd bl c v) T) (hp:atB W H x y=true) (hR:Right W H bl T d) (hd:d < 8) :
  Calls Tryz.prog 120 #[.pointer (some ⟨tb,0,none⟩),.int .i64 x,.int .i64 y,.int .i64 d] w fun e w'=>ThrPost w w' e tb pb W H V (upd bl c v) d T:=by
 subst hc
 exact through_any x y d w t hp hR hd
set_option maxHeartbeats 1000000 in
theorem tset_new {tb pb:Nat}{W H V:Int}{bl:Nat->Bool}(c:Nat) (v:Bool) (w:World) (t:TabOk w tb pb W H V bl) (hr:inB W H c=true) (hv:bl c=!v) (v1:0<=V) (v2:V<=1000000) :
  Calls Tryz.prog 83 #[.pointer (some ⟨tb,0,none⟩),.int .i64 c,.bool v] w fun e w'=>e=.returned (.tuple #[.bool true,.nilIface])/\TabOk w' tb pb W H (V+1) (upd bl c v)/\Keep (fun k=>k=tb\/k=pb) w w':=by
 obtain ⟨T,t,hR⟩:=t.ok
 have p0:=t.p0
 obtain ⟨x,y,ha,hi,hpl⟩:∃ x y,atB W H x y=true/\idx W x y=c/\∀ w (V:Int) (bl:Nat->Bool),GridAt w pb W H V bl->Calls Tryz.prog 76 #[.pointer (some ⟨pb,0,none⟩),.int .i64 (c:Int)] w fun e w'=>e=.returned (.tuple #[.int .i64 x,.int .i64 y,.nilIface])/\∃ m,w'=w.drewN m:=by
  obtain ⟨ha,hi⟩:=at_place t.ga.w1 hr
  exact ⟨_,_,ha,by omega,fun w V bl g=>place_in (c:Int) w g hr⟩
 have HI:Hid (idx W x y=c):=hi
 clear hi
 have hset:=set_new c v w t.ga t.gf hr hv v1 v2
 go_enter Tryz.func83,Tryz.ntmps83
 go_wp2_with (go_at_call 70;refine hset.mono ?_;rintro e w1 ⟨rfl,T1,G1,F1⟩;have q0:=T1.keep.cellOf p0 t.ne)
 have K1:=T1.keep
 have t1:TabAt w1 tb pb W H (V+1) (upd bl c v) T :=
  ⟨K1.cellOf t.p0 t.ne,fun a d ha hd=>K1.cellOf (t.ts a d ha hd) t.ne,t.fr.keep t.blocks.1 K1 t.ne,G1,F1,t.st.keep K1 t.n1,t.ne,t.n0,t.n1⟩
 have K1':Keep (fun k=>k=tb\/k=pb) w w1:=K1.mono (fun _ _ h=>Or.inr h)
 clear T1 G1 F1 K1 hset t p0 q0
 refine (hpl _ _ _ t1.ga).mono ?_
 rintro e w2 ⟨rfl,m,rfl⟩
 have t2:=t1.drewN m
 have K2:=K1'.drewN m
 clear t1 K1' hpl
 generalize w1.drewN m=w2 at *
 go_wp2
 go_loopg [41] 8 (fun gk iv wr=>∃ (k:Nat) (T':Nat->Nat->Nat),k<=8/\gk=8 - k/\iv=.int .i64 k/\TabAt wr tb pb W H (V+1) (upd bl c v) T'/\(∀ d,d < k->Right W H (upd bl c v) T' d)/\(∀ d,k<=d->d < 8->Right W H bl T' d)/\Keep (fun k=>k=tb\/k=pb) w wr)
 case atStart=>exact ⟨0,T,by omega,rfl,rfl,t2,fun d hd=>absurd hd (Nat.not_lt_zero d),fun d _ hd=>hR d hd,K2⟩
 case round =>
  clear t2 K2 hR
  obtain ⟨k,T',hk,hgk,rfl,tr,R1,R2,Kr⟩:=hrel
  have HG:Hid (gk=8 - k):=hgk
  clear hgk
  by_cases hlt:k < 8
  ·have hlt':(k:Int) < 8:=by omega
   have hth:=through_v HI.out k wr tr ha (R2 k (Nat.le_refl k) hlt) hlt
   go_wp2_with (go_at_call 120;refine hth.mono ?_;rintro e w3 ⟨rfl,T3,t3,Rk,Tu,K3⟩)
   go_roundg (8 - (k+1))
   case measure=>have:=HG.out;omega
   case rel =>
    refine ⟨k+1,T3,by omega,rfl,by go_num,t3,fun d hd=>?_,fun d hd hd8=>?_,Kr.trans K3 (fun _ _ h=>Or.inl h)⟩
    ·by_cases q:d=k
     ·rw [q];exact Rk
     ·exact fun a b hab=>Tu.keep hab (R1 d (by omega) a b hab)
    ·exact fun a b hab=>(Tu.other hab (by omega)).trans (R2 d (by omega) hd8 a b hab)
  ·have:k=8:=by omega
   subst this
   go_wp2
   go_ret2
   exact ⟨rfl,⟨T',tr,R1⟩,Kr⟩
end
section
open Go.RowKit Go.Lib
structure Hf (w:World) (lo hi sb rb pb mb tb gb x:Nat) (W H V:Int) (bl:Nat->Bool) (most:Nat):Prop where
 c0:w.cell? ⟨sb,0,none⟩=some (.int .i64 (most:Int))
 c1:w.cell? ⟨sb,1,none⟩=some (.pointer (some ⟨rb,0,none⟩))
 c2:∃ u,w.cell? ⟨sb,2,none⟩=some u
 c3:w.cell? ⟨sb,3,none⟩=some (.pointer (some ⟨tb,0,none⟩))
 fz:w.frozen? ⟨sb,2,none⟩=false
 gi:GraphIn w rb pb mb W H V bl (fun g=>g≠tb/\g≠gb/\g≠sb)
 ta:TabOk w tb gb W H V bl
 l1:lo<=rb/\lo<=pb/\lo<=mb
 l2:rb < x/\pb < x/\mb < x
 l3:x<=tb/\x<=gb/\tb < sb/\gb < sb
 l4:sb < hi
def Wr (pb mb tb gb:Nat) (k:Nat):Prop:=k=pb\/k=mb\/k=tb\/k=gb
section
variable {w w' : World} {lo hi sb rb pb mb lb tb gb N x most : Nat} {W H V V2 : Int} {bl : Nat → Bool}
theorem SvAt.hf (S:SvAt w lo hi sb rb pb mb lb tb gb N x W H V V2 bl most):Hf w lo hi sb rb pb mb tb gb x W H V bl most:=by
 have ta:=S.ta
 rw [S.vv] at ta
 exact ⟨S.c0,S.c1,⟨_,S.c2⟩,S.c3,S.fz,S.gi,ta,⟨S.l1.1,S.l1.2.1,S.l1.2.2.1⟩,S.l2,S.l3,S.l4⟩
theorem Hf.lt (S:Hf w lo hi sb rb pb mb tb gb x W H V bl most):sb < w.heap.size:=World.block_lt_of_cell? _ _ S.c0
theorem Hf.below (S:Hf w lo hi sb rb pb mb tb gb x W H V bl most) (hb:Below w.heap.size w w'):Hf w' lo hi sb rb pb mb tb gb x W H V bl most:=by
 have k:∀ {a:Addr}{v:Value},w.cell? a=some v->w'.cell? a=some v:=fun {a v} h=>(hb.cell (World.block_lt_of_cell? w a h)).trans h
 obtain ⟨u,c2⟩:=S.c2
 exact ⟨k S.c0,k S.c1,⟨u,k c2⟩,k S.c3,(hb.frozen (p:=⟨sb,2,none⟩) S.lt).trans S.fz,S.gi.below hb,S.ta.below hb,S.l1,S.l2,S.l3,S.l4⟩
theorem Hf.side (S:Hf w lo hi sb rb pb mb tb gb x W H V bl most):1<=W/\W<=16/\1<=H/\H<=16:=by
 obtain ⟨f,G,_⟩:=S.gi
 exact ⟨G.ga.w1,G.ga.w2,G.ga.h1,G.ga.h2⟩
theorem GraphIn.keep {F Q:Nat->Prop}(G:GraphIn w rb pb mb W H V bl Q) (K:Keep F w w') (h1:¬ F rb) (h2:¬ F pb) (h3:¬ F mb) (h4:∀ g,Q g->¬ F g):GraphIn w' rb pb mb W H V bl Q:=by
 obtain ⟨f,S,E,I⟩:=G
 exact ⟨f,S.keep K h1 h2 h3,fun c=>(E c).kept K (fun v l g hfc ho hg _=>h4 g (I c v g hfc hg)) rfl,I⟩
end
theorem upd_same {bl:Nat->Bool}{c:Nat}{v:Bool}(h:bl c=v):upd bl c v=bl:=by
 funext n
 unfold upd
 split
 ·next e=>rw [e,h]
 ·rfl
def SetP (w w':World) (e:Ending) (lo hi sb rb pb mb tb gb x:Nat) (W H V:Int) (bl:Nat->Bool) (most c:Nat) (v:Bool):Prop :=
 (bl c=v/\e=.returned (.bool false)/\Below w.heap.size w w')\/(bl c=!v/\e=.returned (.bool true)/\Hf w' lo hi sb rb pb mb tb gb x W H (V+1) (upd bl c v) most/\Keep (Wr pb mb tb gb) w w')
set_option maxHeartbeats 2000000 in
theorem nset_any {lo hi sb rb pb mb tb gb x most c:Nat}{W H V:Int}{bl:Nat->Bool}(v:Bool) (w:World) (S:Hf w lo hi sb rb pb mb tb gb x W H V bl most) (hc:inB W H c=true) (v1:0<=V) (v2:V<=1000000) (hlo:2<=lo) :
  Calls Tryz.prog 47 #[.pointer (some ⟨sb,0,none⟩),.agg #[.int .i64 c,.bool v]] w fun e w'=>SetP w w' e lo hi sb rb pb mb tb gb x W H V bl most c v:=by
 obtain ⟨a1,a2,a3⟩:=S.l1
 obtain ⟨a4,a5,a6⟩:=S.l2
 obtain ⟨a7,a8,a9,a10⟩:=S.l3
 have hsl:=S.lt
 have b0:Below w.heap.size w (w.alloc (.cells #[.int .i64 c,.bool v] 62)):=(Below.refl _ _).alloc (Nat.le_refl _) _
 have q0:(w.alloc (.cells #[.int .i64 c,.bool v] 62)).cell? ⟨w.heap.size,0,none⟩=some (.int .i64 c):=World.cell?_alloc_at #[.int .i64 c,.bool v] 62 w.heap.size 0 rfl
 have q1:(w.alloc (.cells #[.int .i64 c,.bool v] 62)).cell? ⟨w.heap.size,1,none⟩=some (.bool v):=World.cell?_alloc_at #[.int .i64 c,.bool v] 62 w.heap.size 1 rfl
 have S0:=S.below b0
 go_enter Tryz.func47,Tryz.ntmps47
 go_wp2_with fail
 have hz0:w.heap.size < (w.alloc (.cells #[.int .i64 c,.bool v] 62)).heap.size:=by simp
 generalize w.alloc (.cells #[.int .i64 c,.bool v] 62)=wa at *
 have e0:Below wa.heap.size wa wa.drew:=(Below.refl _ _).drew
 have S1:=S0.below e0
 have hzd:w.heap.size < wa.drew.heap.size:=hz0
 have ta:TabOk wa.drew tb gb W H V bl:=S1.ta
 have c3:=S1.c3
 have q0:wa.drew.cell? ⟨w.heap.size,0,none⟩=some (.int .i64 c):=q0
 have q1:wa.drew.cell? ⟨w.heap.size,1,none⟩=some (.bool v):=q1
 have B1:Below w.heap.size w wa.drew:=b0.trans (e0.mono b0.size)
 by_cases hv:bl c=v
 ·have ht:=tset_same c v wa.drew ta hc hv
  have HV:Hid (bl c=v):=hv
  clear hv ta
  go_region_held3 (fun w'=>w'.cell? ⟨sb,3,none⟩=some (.pointer (some ⟨tb,0,none⟩))/\w'.cell? ⟨w.heap.size,0,none⟩=some (.int .i64 c)/\w'.cell? ⟨w.heap.size,1,none⟩=some (.bool v)) (first | with_reducible exact ⟨c3,q0,q1⟩)
   (first | (go_at_call 83;refine ht.mono ?_;rintro r w5 ⟨rfl,m5,hw5⟩;have h5:Below wa.drew.heap.size wa.drew w5:=(by rw [hw5];exact below_drewN (Below.refl _ _) _);clear hw5;have c3:=(h5.cell (World.block_lt_of_cell? _ _ c3)).trans c3;have q0:=(h5.cell (World.block_lt_of_cell? _ _ q0)).trans q0;have q1:=(h5.cell (World.block_lt_of_cell? _ _ q1)).trans q1))
  go_wp2_with fail
  have e5:Below w5.heap.size w5 w5.drew:=(Below.refl _ _).drew
  have S5:=(S1.below h5).below e5
  have c1:=S5.c1
  have q0:w5.drew.cell? ⟨w.heap.size,0,none⟩=some (.int .i64 c):=q0
  have q1:w5.drew.cell? ⟨w.heap.size,1,none⟩=some (.bool v):=q1
  have B5:=(B1.trans (h5.mono B1.size)).trans (e5.mono (B1.trans (h5.mono B1.size)).size)
  have hg:=gset_same v w5.drew S5.gi.graph hc HV.out
  clear ht c3 S0 S1 S
  go_region_held3 (fun w'=>w'.cell? ⟨sb,1,none⟩=some (.pointer (some ⟨rb,0,none⟩))/\w'.cell? ⟨w.heap.size,0,none⟩=some (.int .i64 c)/\w'.cell? ⟨w.heap.size,1,none⟩=some (.bool v)) (first | with_reducible exact ⟨c1,q0,q1⟩)
   (first | (go_at_call 84;refine hg.mono ?_;rintro r w6 ⟨rfl,h6⟩;have c1:=(h6.cell (World.block_lt_of_cell? _ _ c1)).trans c1;have q0:=(h6.cell (World.block_lt_of_cell? _ _ q0)).trans q0;have q1:=(h6.cell (World.block_lt_of_cell? _ _ q1)).trans q1))
  go_wp2
  go_ret
  exact Or.inl ⟨HV.out,rfl,B5.trans (h6.mono B5.size)⟩
 ·have hv':bl c=!v:=by cases hb:bl c <;> cases v <;> simp_all
  have ht:=tset_new c v wa.drew ta hc hv' v1 v2
  have HV:Hid (bl c=!v):=hv'
  have n1:sb≠tb/\sb≠gb:=⟨by omega,by omega⟩
  have n2:w.heap.size≠tb/\w.heap.size≠gb:=⟨by omega,by omega⟩
  have n3:w.heap.size≠pb/\w.heap.size≠mb:=⟨by omega,by omega⟩
  clear hv hv' ta
  go_region_held3 (fun w'=>w'.cell? ⟨sb,3,none⟩=some (.pointer (some ⟨tb,0,none⟩))/\w'.cell? ⟨w.heap.size,0,none⟩=some (.int .i64 c)/\w'.cell? ⟨w.heap.size,1,none⟩=some (.bool v)) (first | with_reducible exact ⟨c3,q0,q1⟩)
   (first | (go_at_call 83;refine ht.mono ?_;rintro r w5 ⟨rfl,T5,K5⟩;have c3:=K5.cellOf c3 (fun h=>h.elim n1.1 n1.2);have q0:=K5.cellOf q0 (fun h=>h.elim n2.1 n2.2);have q1:=K5.cellOf q1 (fun h=>h.elim n2.1 n2.2)))
  go_wp2_with fail
  have e5:Below w5.heap.size w5 w5.drew:=(Below.refl _ _).drew
  have K5':Keep (fun k=>k=tb\/k=gb) wa.drew w5.drew:=K5.drew
  have hsz:=K5'.size
  have st5:StepsAt w5.drew:=by
   obtain ⟨T,t,_⟩:=(T5.below e5).ok
   exact t.st
  have c1:=K5'.cellOf S1.c1 (fun h=>h.elim n1.1 n1.2)
  have q0:w5.drew.cell? ⟨w.heap.size,0,none⟩=some (.int .i64 c):=q0
  have q1:w5.drew.cell? ⟨w.heap.size,1,none⟩=some (.bool v):=q1
  have G5:=S1.gi.keep K5' (fun h=>h.elim (by omega) (by omega)) (fun h=>h.elim (by omega) (by omega)) (fun h=>h.elim (by omega) (by omega)) (fun g hg h=>h.elim hg.1 hg.2.1)
  have hg:=gset_new v w5.drew G5 (fun g hg=>⟨by omega,by omega,by omega⟩) st5 hc HV.out v1 v2 (by omega) (by omega)
  have T5':=T5.below e5
  have d0:=K5'.cellOf S1.c0 (fun h=>h.elim n1.1 n1.2)
  have d2:∃ u,w5.drew.cell? ⟨sb,2,none⟩=some u:=by
   obtain ⟨u,hu⟩:=S1.c2
   exact ⟨u,K5'.cellOf hu (fun h=>h.elim n1.1 n1.2)⟩
  have d3:=K5'.cellOf S1.c3 (fun h=>h.elim n1.1 n1.2)
  have d4:=(K5'.frozen (p:=⟨sb,2,none⟩) S1.lt (fun h=>h.elim n1.1 n1.2)).trans S1.fz
  have HK5:Hid (Keep (Wr pb mb tb gb) w w5.drew):=(Keep.of_below B1).trans K5' (fun k _ h=>h.elim (fun h=>Or.inr (Or.inr (Or.inl h))) (fun h=>Or.inr (Or.inr (Or.inr h))))
  have HD:Hid (w5.drew.cell? ⟨sb,0,none⟩=some (.int .i64 (most:Int))/\(∃ u,w5.drew.cell? ⟨sb,2,none⟩=some u)/\w5.drew.cell? ⟨sb,3,none⟩=some (.pointer (some ⟨tb,0,none⟩))/\w5.drew.frozen? ⟨sb,2,none⟩=false):=⟨d0,d2,d3,d4⟩
  have HL:Hid ((lo<=rb/\lo<=pb/\lo<=mb)/\(rb < x/\pb < x/\mb < x)/\(x<=tb/\x<=gb/\tb < sb/\gb < sb)/\sb < hi):=⟨S.l1,S.l2,S.l3,S.l4⟩
  have hsp:sb≠pb/\sb≠mb:=⟨by omega,by omega⟩
  have hrow:tb≠pb/\tb≠mb/\gb≠pb/\gb≠mb/\1≠pb/\1≠mb:=⟨by omega,by omega,by omega,by omega,by omega,by omega⟩
  have hsd:sb < w5.drew.heap.size:=Nat.lt_of_lt_of_le S1.lt hsz
  clear ht c3 S0 S1 S K5 K5' G5 st5 T5 d0 d2 d3 d4
  go_region_held3 (fun w'=>w'.cell? ⟨sb,1,none⟩=some (.pointer (some ⟨rb,0,none⟩))/\w'.cell? ⟨w.heap.size,0,none⟩=some (.int .i64 c)/\w'.cell? ⟨w.heap.size,1,none⟩=some (.bool v)) (first | with_reducible exact ⟨c1,q0,q1⟩)
   (first | (go_at_call 84;refine hg.mono ?_;rintro r w6 ⟨rfl,G6,K6⟩;have c1:=K6.cellOf c1 (fun h=>h.elim hsp.1 hsp.2);have q0:=K6.cellOf q0 (fun h=>h.elim n3.1 n3.2);have q1:=K6.cellOf q1 (fun h=>h.elim n3.1 n3.2)))
  obtain ⟨d0,⟨u,d2⟩,d3,d4⟩:=HD.out
  obtain ⟨k1,k2,k3,k4⟩:=HL.out
  have HF:Hid (Hf w6 lo hi sb rb pb mb tb gb x W H (V+1) (upd bl c v) most):=⟨K6.cellOf d0 (fun h=>h.elim hsp.1 hsp.2),c1,⟨u,K6.cellOf d2 (fun h=>h.elim hsp.1 hsp.2)⟩,K6.cellOf d3 (fun h=>h.elim hsp.1 hsp.2),(K6.frozen (p:=⟨sb,2,none⟩) hsd (fun h=>h.elim hsp.1 hsp.2)).trans d4,G6,T5'.keep K6 (fun h=>h.elim hrow.1 hrow.2.1) (fun h=>h.elim hrow.2.2.1 hrow.2.2.2.1) (fun h=>h.elim hrow.2.2.2.2.1 hrow.2.2.2.2.2),k1,k2,k3,k4⟩
  have HK6:Hid (Keep (Wr pb mb tb gb) w w6):=HK5.out.trans K6 (fun k _ h=>h.elim Or.inl (fun h=>Or.inr (Or.inl h)))
  clear d0 d2 d3 d4 T5' G6 K6
  go_wp2
  go_ret
  exact Or.inr ⟨HV.out,rfl,HF.out,HK6.out⟩
end
end Go.Proofs.YtipbhlofbpnpjaaGreatDoor
