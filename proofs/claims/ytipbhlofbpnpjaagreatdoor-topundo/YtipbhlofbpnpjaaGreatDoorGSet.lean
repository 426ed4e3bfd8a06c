/- -/
import Derived.Test.YtipbhlofbpnpjaaGreatDoorLocT
namespace Go.Proofs.YtipbhlofbpnpjaaGreatDoor
open Go.RowKit
theorem Touch.keep {b:Nat}{w w':World}(h:Touch b w w'):Keep (fun k=>k=b) w w':=⟨h.os,h.tape,h.output,by rw [h.size];exact Nat.le_refl _,fun i _ hn=>h.other i hn⟩
theorem EOk.kept {F:Nat->Prop}{w w':World}{pb:Nat}{W H c:Int}{bl:Nat->Bool}{f f':Int->Option Value}(E:EOk w pb W H bl f c)(K:Keep F w w')(hF:∀ v l g,f c=some v->w.ownsRow 0 207 4 v (List.length l) (edgesV W c l)->v.ownBlock=some g->pb<g->¬ F g)(hf:f' c=f c):EOk w' pb W H bl f' c:=by
 refine ⟨fun h=>?_,fun h=>hf.trans (E.no h)⟩
 obtain ⟨v,l,h1,h2,h3,h4⟩:=E.yes h
 exact ⟨v,l,hf.trans h1,own_keep h2 K (fun g hg=>hF v l g h1 h2 hg (h4 g hg)),h3,h4⟩
theorem mkmapT (w:World):(Instr.makeMap 133 none).run Tryz.prog w=.ok (.map (some w.heap.size)) (w.alloc (.map #[] 0)):=by kernel_rfl
set_option maxHeartbeats 1000000 in
theorem gset_same {rb pb mb c:Nat}{W H V:Int}{bl:Nat->Bool}(v:Bool)(w:World)(G:GraphAt w rb pb mb W H V bl)(hc:inB W H c=true)(hv:bl c=v) :
  Calls Tryz.prog 84 #[.pointer (some ⟨rb,0,none⟩),.int .i64 c,.bool v] w fun e w'=>e=.returned (.tuple #[.bool false,.nilIface])/\Below w.heap.size w w':=by
 obtain ⟨f,G,E⟩:=G
 have p0:=G.p0
 obtain ⟨l1,l2,l3⟩:=G.lts
 have hcp:=copy_any w G.ga
 go_enter Tryz.func84,Tryz.ntmps84
 go_wp2_with fail
 refine hcp.mono ?_
 rintro e w1 ⟨rfl,hb1,hs1,g1,fr1⟩
 have hse:=set_same c v w1 (G.ga.below hb1 l2) hc hv
 have p0:=(hb1.cell (p:=⟨rb,0,none⟩) l1).trans p0
 clear hcp G E g1 fr1
 go_wp2_with fail
 refine hse.mono ?_
 rintro e w2 ⟨rfl,m2,rfl⟩
 clear hse
 go_wp2
 go_ret2
 exact ⟨rfl,below_drewN hb1 _⟩
set_option maxHeartbeats 4000000 in
set_option maxRecDepth 1000000 in
theorem gset_new {rb pb mb c:Nat}{W H V:Int}{bl:Nat->Bool}{Q:Nat->Prop}(v:Bool)(w:World)(G:GraphIn w rb pb mb W H V bl Q)(hQ:Hid (∀ g,w.heap.size<=g->Q g))(s:StepsAt w)(hc:inB W H c=true)(hv:bl c=!v)(v1:0<=V)(v2:V<=1000000)(h0:1≠pb)(h0m:1≠mb) :
  Calls Tryz.prog 84 #[.pointer (some ⟨rb,0,none⟩),.int .i64 c,.bool v] w fun e w'=>e=.returned (.tuple #[.bool true,.nilIface])/\GraphIn w' rb pb mb W H (V+1) (upd bl c v) Q/\Keep (fun k=>k=pb\/k=mb) w w':=by
 obtain ⟨f,G,E⟩:=G
 have p0:=G.p0
 obtain ⟨l1,l2,l3⟩:=G.lts
 obtain ⟨n1,n2⟩:=G.ne
 have hrp:=G.rp
 have gw1:=G.ga.w1
 have gw2:=G.ga.w2
 have gh1:=G.ga.h1
 have gh2:=G.ga.h2
 have hspos:=s.pos
 have hwh:=wh_bd G.ga.w1 G.ga.w2 G.ga.h1 G.ga.h2
 have hbl:Hid (∀ n:Nat,(n:Int)≠(c:Int)->bl n=upd bl c v n):=fun n hn=>by unfold upd;rw [if_neg (by omega)]
 have hcp:=copy_any w G.ga
 have HE:Hid (∀ c:Int,EOk w pb W H bl f c):=E.1
 have HQ0:Hid (∀ (c:Int) v g,f c=some v->v.ownBlock=some g->Q g):=E.2
 clear E
 go_enter Tryz.func84,Tryz.ntmps84
 go_wp2_with fail
 refine hcp.mono ?_
 rintro e w1 ⟨rfl,hb1,hs1,g1,fr1⟩
 have G1:=G.below hb1
 have hse:=set_new c v w1 G1.ga G1.fr hc hv v1 v2
 have p01:=G1.p0
 clear hcp fr1 p0 hv
 go_wp2_with fail
 refine hse.mono ?_
 rintro e w2 ⟨rfl,ht2,g2,fr2⟩
 clear hse
 generalize hblv:upd bl c v=bl' at *
 have HBV:Hid (upd bl c v=bl'):=hblv
 clear hblv
 have K2:=ht2.keep
 have gb2:=g1.keep K2 (show w.heap.size≠pb by omega)
 have p02:=K2.cellOf p01 hrp
 have p12:=K2.cellOf G1.p1 hrp
 have m2:MapF Tryz.prog 3 w2 mb f (cntS (keyB f) 256):=G1.mp.keep K2 (fun e=>n2 e.symm)
 have s2:=(s.below hb1 (by omega)).keep K2 h0
 have hz2:w1.heap.size=w2.heap.size:=ht2.size.symm
 have G2:GSt w2 rb pb mb W H (V+1) bl' f:=⟨p02,p12,g2,m2,G.bd,fr2,hrp⟩
 have KK2:Keep (fun k=>k=pb\/k=mb) w w2:=(Keep.of_below hb1).trans K2 (fun _ _ h=>Or.inl h)
 have HE2:Hid (∀ c:Int,EOk w2 pb W H bl f c):=fun c=>((HE.out c).below hb1).kept K2 (fun v l g _ _ _ hg e=>by omega) rfl
 clear G1 G g1 g2 fr2 m2 p12 p01 HE K2 ht2
 have hmk:=mkmapT w2
 have hT0:=SetAt.made w2
 have B3:Below w2.heap.size w2 (w2.alloc (.map #[] 0)):=(Below.refl _ _).alloc (Nat.le_refl _) _
 have hz1:=hb1.size
 have hta:=touched_any (c:=(c:Int)) (w2.alloc (.map #[] 0)) (gb2.below B3 (by omega)) (s2.below B3 (by omega)) (by simp;omega) hT0 (by omega) (by omega) hc rfl rfl
 go_wp2_with fail
 refine hta.mono ?_
 rintro e w3 ⟨rfl,⟨T1,hT1,hT1i⟩,K3⟩
 have p03:=K3.cellOf ((B3.cell (p:=⟨rb,0,none⟩) (show rb<w2.heap.size by omega)).trans p02) (show rb≠w2.heap.size by omega)
 have G3:=(G2.below B3).keep K3 (show rb≠w2.heap.size by omega) (show pb≠w2.heap.size by omega) (show mb≠w2.heap.size by omega)
 have s3:=(s2.below B3 (by omega)).keep K3 (show 1≠w2.heap.size by omega)
 have KK3:Keep (fun k=>k=pb\/k=mb) w w3:=(KK2.below B3).trans K3 (fun i hi h=>by omega)
 have HE3:Hid (∀ c:Int,EOk w3 pb W H bl f c):=fun c=>((HE2.out c).below B3).kept K3 (fun v l g hfc ho hg _ e=>own_map (own_below ho (Below.refl _ _)) hT0.mp g hg e) rfl
 have HT1:Hid (∀ z,T1 z=true↔Tch W H bl ((c:Int) % W) ((c:Int) / W) ((c:Int) / W+1+1) ((c:Int) % W - 1) z):=fun z=>(hT1i z).trans ⟨fun h=>h.resolve_left (by decide),Or.inr⟩
 have hz3':w2.heap.size+1<=w3.heap.size:=by have:=K3.size;rw [show (w2.alloc (.map #[] 0)).heap.size=w2.heap.size+1 by simp] at this;exact this
 have htb:=touched_any (c:=(c:Int)) w3 G3.ga s3 G3.lts.2.1 hT1 (show pb≠w2.heap.size by omega) (by omega) hc rfl rfl
 clear hta hmk hT0 B3 G2 gb2 s2 HE2 KK2 K3 hT1i p02
 go_wp2_with fail
 refine htb.mono ?_
 rintro e w4 ⟨rfl,⟨T,hT,hTi⟩,K4⟩
 have G4:=G3.keep K4 (show rb≠w2.heap.size by omega) (show pb≠w2.heap.size by omega) (show mb≠w2.heap.size by omega)
 have s4:=s3.keep K4 (show 1≠w2.heap.size by omega)
 have KK4:Keep (fun k=>k=pb\/k=mb) w w4:=KK3.trans K4 (fun i hi h=>by omega)
 have HE4:Hid (∀ c:Int,EOk w4 pb W H bl f c):=fun c=>(HE3.out c).kept K4 (fun v l g hfc ho hg _ e=>own_map ho hT1.mp g hg e) rfl
 have HT:Hid (∀ z,T z=true↔Tch W H bl ((c:Int) % W) ((c:Int) / W) ((c:Int) / W+1+1) ((c:Int) % W - 1) z\/Tch W H bl' ((c:Int) % W) ((c:Int) / W) ((c:Int) / W+1+1) ((c:Int) % W - 1) z):=fun z=>(hTi z).trans (or_congr (HT1.out z) Iff.rfl)
 have hz4:=K4.size
 have htl:=hT.lt
 generalize htbn:w2.heap.size=tb at *
 clear htb G3 s3 HE3 KK3 K4 hTi hT1 HT1 p03 htbn
 go_wp2_with (first|(at_range;refine wpList_rangeF rfl _ 133 rfl 3 185 law3 Tryz.underT tb _ _ rfl hT.mp ?_;intro w5 hrg5 hg5 hs5)|go_in)
 have b5:Below w4.heap.size w4 w5:=(Below.refl _ _).grown hg5 (Nat.le_refl _) (by simp)
 have G5:=G4.below b5
 have s5:=s4.below b5 (by omega)
 have KK5:=KK4.below b5
 have HE5:Hid (∀ c:Int,EOk w5 pb W H bl f c):=fun c=>(HE4.out c).below b5
 generalize hrn:w4.heap.size=r at *
 clear G4 s4 KK4 HE4 b5 hg5
 go_frame
 go_loopg [] (cntS T 256) (fun gk wr=>∃ left cnt f',gk=cnt/\RngS wr tb r T left cnt/\GSt wr rb pb mb W H (V+1) bl' f'/\StepsAt wr/\Hid (∀ i:Int,T i=true->left i=false->EOk wr pb W H bl' f' i)/\Hid (∀ i:Int,¬ (T i=true/\left i=false)->EOk wr pb W H bl f' i)/\Hid (∀ (c:Int) v g,f' c=some v->v.ownBlock=some g->Q g)/\Keep (fun k=>k=pb\/k=mb) w wr)
 case atStart =>
  refine ⟨_,_,f,rfl,hrg5,G5,s5,fun i h1 h2=>?_,fun i _=>HE5.out i,HQ0,KK5⟩
  rw [setF_isSome,h1] at h2
  cases h2
 case round =>
  obtain ⟨left,cnt,f',hgk,hrg,Gr,sr,hyes,hno,hin,hK⟩:=hrel
  go_wp2_with (first|(at_next;refine wpList_nextF rfl _ rfl 3 law3 tb r _ _ _ _ rfl hrg ?_ ?_)|go_in)
  ·intro hc0 hl0
   have HF:Hid (∀ i:Int,EOk wr pb W H bl' f' i):=fun i=>by
    by_cases hti:T i=true
    ·exact hyes.out i hti (hl0 i)
    ·have hnt:=fun h=>hti ((HT.out i).2 h)
     exact (hno.out i (fun h=>hti h.1)).loc hbl.out gw1 gw2 gh1 gh2 (fun h=>hnt (Or.inl h)) (fun h=>hnt (Or.inr h))
   clear hyes hno
   go_wp2
   go_ret2
   rw [HBV.out]
   exact ⟨rfl,⟨f',Gr,HF.out,hin.out⟩,hK⟩
  ·intro x v' w6 cnt1 hwx hlx hfx hrg1 hlt hg1 hs1 hen
   obtain ⟨hTx,rfl⟩:=setF_val hfx
   have hxin:inB W H x=true:=by
    rcases (HT.out x).1 hTx with h|h
    ·exact cornC_in gw1 (cornB_iff.1 h.1)
    ·exact cornC_in gw1 (cornB_iff.1 h.1)
   have kr:Keep (fun k=>k=r) wr w6:=(Keep.refl _ _).grown hg1 (fun k e _=>by cases e;rfl)
   have hzr:=hK.size
   have G6:=Gr.keep kr (show rb≠r by omega) (show pb≠r by omega) (show mb≠r by omega)
   have s6:=sr.keep kr (show 1≠r by omega)
   have K6:Keep (fun k=>k=pb\/k=mb) w w6:=hK.trans kr (fun i hi h=>by omega)
   have hlk:=look_any w6 G6 s6 hxin
   go_wp2_with fail
   refine hlk.mono ?_
   rintro e w7 ⟨rfl,⟨f2,G7,hf2,E7,I7⟩,K7⟩
   have hrg2:=hrg1.keep K7 (show tb≠mb by omega) (show r≠mb by omega)
   have s7:=s6.keep K7 h0m
   have K7':Keep (fun k=>k=pb\/k=mb) w w7:=K6.trans K7 (fun i hi h=>Or.inr h)
   have HY:Hid (∀ i:Int,T i=true->(left i&&!decide (i=x))=false->EOk w7 pb W H bl' f2 i):=fun i h1 h2=>by
    by_cases e:i=x
    ·rw [e];exact E7
    ·refine ((hyes.out i h1 (by rw [decide_eq_false e] at h2;simpa using h2)).kept kr (fun v l g hfc ho hg _ e=>own_rng ho hrg g hg (by rw [e])) rfl).kept K7 (fun v l g hfc ho hg _ e=>own_map ho G6.mp g hg e) (hf2 i e)
   have HN:Hid (∀ i:Int,¬ (T i=true/\(left i&&!decide (i=x))=false)->EOk w7 pb W H bl f2 i):=fun i h=>by
    have e:i≠x:=fun e=>h ⟨by rw [e];exact hTx,by rw [decide_eq_true e];simp⟩
    refine ((hno.out i (fun h2=>h ⟨h2.1,by rw [h2.2];rfl⟩)).kept kr (fun v l g hfc ho hg _ e=>own_rng ho hrg g hg (by rw [e])) rfl).kept K7 (fun v l g hfc ho hg _ e=>own_map ho G6.mp g hg e) (hf2 i e)
   have HI:Hid (∀ (c:Int) v g,f2 c=some v->v.ownBlock=some g->Q g):=fun c v g h hg=>by
    by_cases e:c=x
    ·rw [e] at h;exact hQ.out g (Nat.le_trans K6.size (I7 v g h hg))
    ·rw [hf2 c e] at h;exact hin.out c v g h hg
   clear hlk hyes hno hin Gr sr hrg hrg1 kr G6 s6 K6 K7 E7 I7 hf2
   go_wp2
   go_roundg cnt1
   case measure=>omega
   case rel=>exact ⟨_,cnt1,f2,rfl,hrg2,G7,s7,HY,HN,HI,K7'⟩
end Go.Proofs.YtipbhlofbpnpjaaGreatDoor
