/-
  Texts laid together: Look, RWay, WalkP, RCost, FF, RefM.
-/
import Derived.Test.YtmaefimaeelkbaaGreatDoorP8
import Derived.Test.YtmaefimaeelkbaaGreatDoorP5
import Derived.Test.YtmaefimaeelkbaaGreatDoorP2
import Derived.Deep.RegionHeld3
import Derived.Deep.RegionWith
namespace Go.Proofs.YtmaefimaeelkbaaGreatDoor
section
open Go.RowKit
theorem Tryz.underM:Tryz.prog.underlying 123=some (.map 3 126):=by kernel_rfl
theorem zeroM (w:World):(zeroValue 126).run Tryz.prog w=.ok (.slice none 0 0) w:=by kernel_rfl
def keyB (f:Int->Option Value):Int->Bool:=fun i=>(f i).isSome
theorem keyB_put (f:Int->Option Value)(a:Int)(v:Value):keyB (putF f a v)=insS (keyB f) a:=by
 funext i
 unfold keyB putF insS
 by_cases e:i=a
 ·rw [if_pos e,decide_eq_true e];rfl
 ·rw [if_neg e,decide_eq_false e];rfl
def rmS (S:Int->Bool) (a:Int):Int->Bool:=fun i=>S i&&!decide (i=a)
theorem keyB_del (f:Int->Option Value)(a:Int):keyB (delF f a)=rmS (keyB f) a:=by
 funext i
 unfold keyB delF rmS
 by_cases e:i=a
 ·rw [if_pos e,decide_eq_true e];simp
 ·rw [if_neg e,decide_eq_false e];simp
theorem rmS_ins {S:Int->Bool}{a:Int}(h:S a=true):insS (rmS S a) a=S:=by
 funext i
 unfold insS rmS
 by_cases e:i=a
 ·rw [decide_eq_true e,e,h];rfl
 ·rw [decide_eq_false e];simp
theorem rmS_same {S:Int->Bool}{a:Int}(h:S a=false):rmS S a=S:=by
 funext i
 unfold rmS
 by_cases e:i=a
 ·rw [e,h];rfl
 ·rw [decide_eq_false e];simp
theorem cntS_rm (S:Int->Bool)(a:Int)(N:Nat)(h0:0<=a)(h:a<N)(hs:S a=true):cntS (rmS S a) N=cntS S N - 1:=by
 have:=cntS_put (rmS S a) a N h0 h (by unfold rmS;rw [decide_eq_true rfl];simp)
 rw [rmS_ins hs] at this
 omega
structure GSt (w:World) (rb pb mb:Nat) (W H V:Int) (bl:Nat->Bool) (f:Int->Option Value):Prop where
 p0:w.cell? ⟨rb,0,none⟩=some (.pointer (some ⟨pb,0,none⟩))
 p1:w.cell? ⟨rb,1,none⟩=some (.map (some mb))
 ga:GridAt w pb W H V bl
 mp:MapF Tryz.prog 3 w mb f (cntS (keyB f) 256)
 bd:∀ i,keyB f i=true->0<=i/\i<256
 fr:Free w pb
 rp:rb≠pb
section
variable {w w' : World} {rb pb mb : Nat} {W H V : Int} {bl : Nat → Bool} {f : Int → Option Value}
theorem GSt.lts (G:GSt w rb pb mb W H V bl f):rb<w.heap.size/\pb<w.heap.size/\mb<w.heap.size:=⟨World.block_lt_of_cell? w _ G.p0,World.block_lt_of_cell? w _ G.ga.c0,G.mp.lt⟩
theorem GSt.ne (G:GSt w rb pb mb W H V bl f):rb≠mb/\pb≠mb:=by
 constructor
 ·intro e
  have h:=G.mp.cell 0
  rw [<- e,G.p0] at h;cases h
 ·intro e
  have h:=G.mp.cell 0
  rw [<- e,G.ga.c0] at h;cases h
theorem GSt.keep {F:Nat->Prop}(G:GSt w rb pb mb W H V bl f)(K:Keep F w w')(h1:¬ F rb)(h2:¬ F pb)(h3:¬ F mb):GSt w' rb pb mb W H V bl f :=
 ⟨K.cellOf G.p0 h1,K.cellOf G.p1 h1,G.ga.keep K h2,G.mp.keep K h3,G.bd,fun o=>(K.frozen (p:=⟨pb,o,none⟩) G.lts.2.1 h2).trans (G.fr o),G.rp⟩
theorem GSt.below (G:GSt w rb pb mb W H V bl f)(hb:Below w.heap.size w w'):GSt w' rb pb mb W H V bl f:=G.keep (F:=fun _=>False) (Keep.of_below hb) id id id
theorem GSt.room (_G:GSt w rb pb mb W H V bl f):cntS (keyB f) 256<maxLen:=by
 have:=cntS_le (keyB f) 256
 unfold maxLen
 omega
theorem GSt.put (G:GSt w rb pb mb W H V bl f){a:Int}{v:Value}(h0:0<=a)(h1:a<256)(hm:MapF Tryz.prog 3 w' mb (putF f a v) (if (f a).isSome then cntS (keyB f) 256 else cntS (keyB f) 256+1))(ht:w.mapTurned w' mb):GSt w' rb pb mb W H V bl (putF f a v):=by
 have K:=turned_keep ht
 refine ⟨K.cellOf G.p0 G.ne.1,K.cellOf G.p1 G.ne.1,G.ga.keep K G.ne.2,?_,fun i hi=>?_,fun o=>(K.frozen (p:=⟨pb,o,none⟩) G.lts.2.1 G.ne.2).trans (G.fr o),G.rp⟩
 ·rw [keyB_put]
  cases hs:keyB f a with
  |true=>rw [insS_same hs];have e:(f a).isSome=true:=hs;rw [e] at hm;exact hm
  |false=>rw [cntS_put (keyB f) a 256 h0 h1 hs];have e:(f a).isSome=false:=hs;rw [e] at hm;exact hm
 ·rw [keyB_put] at hi
  rcases (insS_iff _ _ _).1 hi with rfl|hi
  ·exact ⟨h0,h1⟩
  ·exact G.bd i hi
theorem GSt.del (G:GSt w rb pb mb W H V bl f){a:Int}(h0:0<=a)(h1:a<256)(hm:MapF Tryz.prog 3 w' mb (delF f a) (if (f a).isSome then cntS (keyB f) 256 - 1 else cntS (keyB f) 256))(ht:w.mapTurned w' mb):GSt w' rb pb mb W H V bl (delF f a):=by
 have K:=turned_keep ht
 refine ⟨K.cellOf G.p0 G.ne.1,K.cellOf G.p1 G.ne.1,G.ga.keep K G.ne.2,?_,fun i hi=>?_,fun o=>(K.frozen (p:=⟨pb,o,none⟩) G.lts.2.1 G.ne.2).trans (G.fr o),G.rp⟩
 ·rw [keyB_del]
  cases hs:keyB f a with
  |true=>rw [cntS_rm _ _ _ h0 h1 hs];have e:(f a).isSome=true:=hs;rw [e] at hm;exact hm
  |false=>rw [rmS_same hs];have e:(f a).isSome=false:=hs;rw [e] at hm;exact hm
 ·rw [keyB_del] at hi
  unfold rmS at hi
  rw [Bool.and_eq_true] at hi
  exact G.bd i hi.1
end
def EdgeL (W H:Int) (bl:Nat->Bool) (c:Int) (l:List Nat):Prop:=l.Pairwise (·<·)/\∀ n:Nat,n ∈ l↔Dir W H bl c n/\(decide ((n:Int)≠c)&&cornB W H bl n)=true
structure EOk (w:World) (pb:Nat) (W H:Int) (bl:Nat->Bool) (f:Int->Option Value) (c:Int):Prop where
 yes:cornB W H bl c=true->∃ v l,f c=some v/\w.ownsRow 0 204 4 v l.length (edgesV W c l)/\EdgeL W H bl c l/\∀ g,v.ownBlock=some g->pb<g
 no:cornB W H bl c=false->f c=none
set_option maxHeartbeats 400000 in
theorem clo_look {cb xb rb pb:Nat}{W H V c:Int}{bl:Nat->Bool}(w:World)(n:Int)(q1:w.cell? ⟨cb,0,none⟩=some (.int .i64 c))(q2:w.cell? ⟨xb,0,none⟩=some (.pointer (some ⟨rb,0,none⟩)))(p0:w.cell? ⟨rb,0,none⟩=some (.pointer (some ⟨pb,0,none⟩)))(g:GridAt w pb W H V bl)(s:StepsAt w)(hn:inB W H n=true) :
  Calls Tryz.prog 150 #[.int .i64 n,.pointer (some ⟨cb,0,none⟩),.pointer (some ⟨xb,0,none⟩)] w fun e w'=>e=.returned (.bool (decide (n≠c)&&cornB W H bl n))/\Below w.heap.size w w':=by
 have h1:=isc_any n w g s hn
 generalize cornB W H bl n=r at *
 by_cases e:n=c
 ·subst e
  have er:(decide (n≠n)&&r)=false:=by simp
  rw [er]
  go_enter Tryz.func150,Tryz.ntmps150
  go_wp2
  go_ret
  exact ⟨rfl,Below.refl _ _⟩
 ·have er:(decide (n≠c)&&r)=r:=by simp [e]
  rw [er]
  clear er
  go_enter Tryz.func150,Tryz.ntmps150
  go_wp2_with fail
  refine h1.mono ?_
  rintro e1 w1 ⟨rfl,m,rfl⟩
  clear h1
  go_wp2
  go_ret
  have en:(n != c)=true:=by simp [e]
  refine ⟨?_,below_drewN (Below.refl _ _) _⟩
  show Ending.returned (.bool (n != c&&r))=_
  rw [en,Bool.true_and]
theorem corn_free {W H c:Int}{bl:Nat->Bool}(h:cornB W H bl c=true):bl c.toNat=false:=by
 have h1:=(cornB_iff.1 h).1
 unfold openB at h1
 rw [Bool.and_eq_true] at h1
 have e:=cell_eq W c
 have h2:=h1.2
 rw [e] at h2
 simpa using h2
theorem own_base {w:World}{b1 b2 e k n:Nat}{v:Value}{xs:List Value}(h:w.ownsRow b1 e k v n xs)(hle:b2<=b1):w.ownsRow b2 e k v n xs:=by
 refine ⟨h.1,?_⟩
 rcases h.2 with h2|⟨g,cap,cur,hv,hbase,hg,h3⟩
 ·exact Or.inl h2
 ·exact Or.inr ⟨g,cap,cur,hv,Nat.le_trans hle hbase,hg,h3⟩
set_option maxHeartbeats 2000000 in
theorem look_any {rb pb mb:Nat}{W H V c:Int}{bl:Nat->Bool}{f:Int->Option Value}(w:World)(G:GSt w rb pb mb W H V bl f)(s:StepsAt w)(hc:inB W H c=true) :
  Calls Tryz.prog 109 #[.pointer (some ⟨rb,0,none⟩),.int .i64 c] w fun e w'=>e=.returned (.tuple #[])/\(∃ f',GSt w' rb pb mb W H V bl f'/\(∀ i,i≠c->f' i=f i)/\EOk w' pb W H bl f' c/\∀ v g,f' c=some v->v.ownBlock=some g->w.heap.size<=g)/\Keep (fun k=>k=mb) w w':=by
 have gw1:=G.ga.w1
 have hwh:=wh_bd G.ga.w1 G.ga.w2 G.ga.h1 G.ga.h2
 have hci:0<=c/\c<W*H:=of_decide_eq_true hc
 have hwc:=wf_small hci.1 (show c<256 by omega)
 obtain ⟨l1,l2,l3⟩:=G.lts
 have HB:Below w.heap.size w ((w.alloc (.cells #[.pointer (some ⟨rb,0,none⟩)] 92)).alloc (.cells #[.int .i64 c] 3)):=((Below.refl _ _).alloc (Nat.le_refl _) _).alloc (by simp) _
 have q1:((w.alloc (.cells #[.pointer (some ⟨rb,0,none⟩)] 92)).alloc (.cells #[.int .i64 c] 3)).cell? ⟨w.heap.size,0,none⟩=some (.pointer (some ⟨rb,0,none⟩)):=by
  rw [World.cell?_alloc_old _ _ _ (by simp),World.cell?_alloc_new];rfl
 have q2:((w.alloc (.cells #[.pointer (some ⟨rb,0,none⟩)] 92)).alloc (.cells #[.int .i64 c] 3)).cell? ⟨w.heap.size+1,0,none⟩=some (.int .i64 c) :=
  World.cell?_alloc_at #[.int .i64 c] 3 (w.heap.size+1) 0 (by simp)
 go_enter Tryz.func109,Tryz.ntmps109
 go_wp2_with fail
 generalize (w.alloc (.cells #[.pointer (some ⟨rb,0,none⟩)] 92)).alloc (.cells #[.int .i64 c] 3)=W0 at *
 have HB:Below w.heap.size w W0.drew:=⟨HB.os,HB.tape,HB.output,HB.size,HB.block⟩
 have q1:W0.drew.cell? ⟨w.heap.size,0,none⟩=some (.pointer (some ⟨rb,0,none⟩)):=q1
 have q2:W0.drew.cell? ⟨w.heap.size+1,0,none⟩=some (.int .i64 c):=q2
 have G0:=G.below HB
 have s0:=s.below HB (by omega)
 have p0:=G0.p0
 have his:=isc_any c W0.drew G0.ga s0 hc
 cases hcn:cornB W H bl c with
 |false =>
  rw [hcn] at his
  go_region_held3 (fun w'=>w'.cell? ⟨w.heap.size,0,none⟩=some (.pointer (some ⟨rb,0,none⟩))/\w'.cell? ⟨w.heap.size+1,0,none⟩=some (.int .i64 c)/\w'.cell? ⟨rb,0,none⟩=some (.pointer (some ⟨pb,0,none⟩))) (first|(exact ⟨q1,q2,p0⟩)) (first|(go_at_call 129;refine his.mono ?_;rintro e w5 ⟨rfl,m5,hw5⟩;have hb5:Below W0.drew.heap.size W0.drew w5:=(by rw [hw5];exact below_drewN (Below.refl _ _) _);clear hw5;have q1:=(hb5.cell (World.block_lt_of_cell? _ _ q1)).trans q1;have p0:=(hb5.cell (World.block_lt_of_cell? _ _ p0)).trans p0;have q2:=(hb5.cell (World.block_lt_of_cell? _ _ q2)).trans q2))
  go_wp2_with fail
  have G5:GSt w5.drew rb pb mb W H V bl f:=(G0.below hb5).below (Below.refl _ _).drew
  have K5:Keep (fun k=>k=mb) w w5.drew:=((Keep.of_below HB).below hb5).drew
  have q1:w5.drew.cell? ⟨w.heap.size,0,none⟩=some (.pointer (some ⟨rb,0,none⟩)):=q1
  have q2:w5.drew.cell? ⟨w.heap.size+1,0,none⟩=some (.int .i64 c):=q2
  have p1:=G5.p1
  obtain ⟨w6,hrun,hm6,ht6⟩:=G5.mp.drop law3 Tryz.underM hwc 0
  have G6:=G5.del hci.1 (by omega) hm6 ht6
  have K6:Keep (fun k=>k=mb) w w6:=K5.trans (turned_keep ht6) (fun _ _ h=>h)
  clear G5 G0 hb5 his hm6 ht6 K5 p0 HB
  go_region
  go_wp2
  refine bodyPost_ret (v:=.tuple #[]) (by simp [results,Tryz.results109,go_sem]) rfl ?_
  exact ⟨rfl,⟨_,G6,fun i hi=>delF_other f hi,⟨fun h=>(by rw [hcn] at h;cases h),fun _=>delF_same f c⟩,fun v g h=>by rw [delF_same] at h;cases h⟩,K6⟩
 |true =>
  rw [hcn] at his
  go_region_held3 (fun w'=>w'.cell? ⟨w.heap.size,0,none⟩=some (.pointer (some ⟨rb,0,none⟩))/\w'.cell? ⟨w.heap.size+1,0,none⟩=some (.int .i64 c)/\w'.cell? ⟨rb,0,none⟩=some (.pointer (some ⟨pb,0,none⟩))) (first|(exact ⟨q1,q2,p0⟩)) (first|(go_at_call 129;refine his.mono ?_;rintro e w5 ⟨rfl,m5,hw5⟩;have hb5:Below W0.drew.heap.size W0.drew w5:=(by rw [hw5];exact below_drewN (Below.refl _ _) _);clear hw5;have q1:=(hb5.cell (World.block_lt_of_cell? _ _ q1)).trans q1;have p0:=(hb5.cell (World.block_lt_of_cell? _ _ p0)).trans p0;have q2:=(hb5.cell (World.block_lt_of_cell? _ _ q2)).trans q2))
  go_wp2_with fail
  have hb5:Below W0.drew.heap.size W0.drew w5.drew:=⟨hb5.os,hb5.tape,hb5.output,hb5.size,hb5.block⟩
  have G5:GSt w5.drew rb pb mb W H V bl f:=G0.below hb5
  have s5:=s0.below hb5 (by have:=HB.size;omega)
  have B5:Below w.heap.size w w5.drew:=HB.trans (hb5.mono HB.size)
  have q1:w5.drew.cell? ⟨w.heap.size,0,none⟩=some (.pointer (some ⟨rb,0,none⟩)):=q1
  have q2:w5.drew.cell? ⟨w.heap.size+1,0,none⟩=some (.int .i64 c):=q2
  have p0:=G5.p0
  have p1:=G5.p1
  have hz5:=B5.size
  have hfr:bl c.toNat=false:=corn_free hcn
  have hfind:=find_look (cb:=w.heap.size+1) (rb:=w.heap.size) (p:=fun n=>decide (n≠c)&&cornB W H bl n) w5.drew G5.ga s5 (by omega) hc hfr (fun w' n hB' hn=>by
   have kk:∀ {a:Addr}{v:Value},w5.drew.cell? a=some v->w'.cell? a=some v:=fun {a v} h=>(hB'.cell (World.block_lt_of_cell? w5.drew a h)).trans h
   exact clo_look w' n (kk q2) (kk q1) (kk p0) (G5.ga.below hB' (by omega)) (s5.below hB' (by omega)) hn)
  have hn1:w.heap.size≠mb:=by omega
  have hn2:w.heap.size+1≠mb:=by omega
  clear his G0 hb5 s0
  go_region_held3 (fun w'=>w'.cell? ⟨w.heap.size,0,none⟩=some (.pointer (some ⟨rb,0,none⟩))/\w'.cell? ⟨w.heap.size+1,0,none⟩=some (.int .i64 c)/\w'.cell? ⟨rb,0,none⟩=some (.pointer (some ⟨pb,0,none⟩))/\w'.cell? ⟨rb,1,none⟩=some (.map (some mb))) (first|(exact ⟨q1,q2,p0,p1⟩)|(exact ⟨r1,r2,r3,r4⟩)) (first|(go_at_call 127;refine hfind.mono ?_;rintro e w6 ⟨v,l,rfl,hown6,hl6,hb6⟩;have q1:=(hb6.cell (World.block_lt_of_cell? _ _ q1)).trans q1;have p0:=(hb6.cell (World.block_lt_of_cell? _ _ p0)).trans p0;have q2:=(hb6.cell (World.block_lt_of_cell? _ _ q2)).trans q2;have p1:=(hb6.cell (World.block_lt_of_cell? _ _ p1)).trans p1;have G6:=G5.below hb6;obtain ⟨w7,hrun7,hm7,ht7⟩:=G6.mp.store law3 Tryz.underM G6.room hwc v;have r1:=(turned_keep ht7).cellOf q1 hn1;have r2:=(turned_keep ht7).cellOf q2 hn2;have r3:=(turned_keep ht7).cellOf p0 G6.ne.1;have r4:=(turned_keep ht7).cellOf p1 G6.ne.1))
  all_goals
   have G7:=G6.put hci.1 (by omega) hm7 ht7
   have K7:Keep (fun k=>k=mb) w w7:=((Keep.of_below B5).below hb6).trans (turned_keep ht7) (fun _ _ h=>h)
   have O7:w7.ownsRow 0 204 4 v l.length (edgesV W c l):=own_keep (own_base hown6 (Nat.zero_le _)) (turned_keep ht7) (own_map hown6 G6.mp)
   have HO:Hid (∀ g,v.ownBlock=some g->pb<g):=fun g hg=>by have:=(hown6.lt g hg).1;omega
   have HO2:Hid (∀ g,v.ownBlock=some g->w.heap.size<=g):=fun g hg=>by have:=(hown6.lt g hg).1;omega
   have HL:Hid (EdgeL W H bl c l):=hl6
   clear hl6 hm7 ht7 hb6 G6 hown6 hfind
   go_wp2
   go_end0
   exact ⟨rfl,⟨_,G7,fun i hi=>putF_other f v hi,⟨fun _=>⟨v,l,putF_same f c v,O7,HL.out,HO.out⟩,fun h=>(by rw [hcn] at h;cases h)⟩,fun v' g h hg=>by rw [putF_same] at h;cases h;exact HO2.out g hg⟩,K7⟩
end
section
open Go.RowKit
variable {W H : Int} {bl : Nat → Bool}
theorem onw_mem4 {c t:Int}{z:Nat}(w1:1<=W)(hc:inB W H c=true):z ∈ onw W H bl c t 4↔∃ k,k % 2=1/\Edge W H bl c k z/\Good (c % W) (c / W) (t % W) (t / W) k:=by
 unfold onw
 rw [List.mem_map]
 constructor
 ·rintro ⟨i,hi,rfl⟩
  rw [List.mem_filter] at hi
  have h:=hi.2
  have hi4:=List.mem_range.1 hi.1
  unfold onB at h
  rw [Bool.and_eq_true] at h
  refine ⟨dF i,?_,⟨dF_lt i,hc,h.1,tgt_eq w1 h.1⟩,goodB_iff.1 h.2⟩
  have:i=0\/i=1\/i=2\/i=3:=by omega
  rcases this with rfl|rfl|rfl|rfl <;> decide
 ·rintro ⟨k,hk,⟨h1,_,h3,h4⟩,hg⟩
  have hdf:∃ i,i<4/\dF i=k:=by
   have:k=1\/k=3\/k=5\/k=7:=by omega
   rcases this with rfl|rfl|rfl|rfl
   ·exact ⟨0,by decide,rfl⟩
   ·exact ⟨1,by decide,rfl⟩
   ·exact ⟨2,by decide,rfl⟩
   ·exact ⟨3,by decide,rfl⟩
  obtain ⟨i,hi,rfl⟩:=hdf
  refine ⟨i,List.mem_filter.2 ⟨List.mem_range.2 hi,?_⟩,?_⟩
  ·unfold onB
   rw [Bool.and_eq_true]
   exact ⟨h3,goodB_iff.2 hg⟩
  ·have:=tgt_eq (H:=H) w1 h3
   omega
theorem onw_split (c t:Int):∃ r,onw W H bl c t 8=onw W H bl c t 4++r:=by
 rw [onw_succ W H bl c t 7,onw_succ W H bl c t 6,onw_succ W H bl c t 5,onw_succ W H bl c t 4,List.append_assoc,List.append_assoc,List.append_assoc]
 exact ⟨_,rfl⟩
theorem pick_chosen {a t p:Int}{S:Int->Bool}{l:List Nat}{i:Nat}(w1:1<=W)(hp:inB W H p=true)(hl:onw W H bl p t 8=l)(hS:∀ z,S z=true↔On W H bl a t z)(hi:i<l.length)(h1:S ((l.getD i 0:Nat):Int)=true)(h2:∀ j,j<i->S ((l.getD j 0:Nat):Int)=false) :
  ∃ k,Chosen W H bl a t p k ((l.getD i 0:Nat):Int):=by
 obtain ⟨r,hr⟩:=onw_split (W:=W) (H:=H) (bl:=bl) p t
 rw [hl] at hr
 by_cases q:i<(onw W H bl p t 4).length
 ·have e:l.getD i 0=(onw W H bl p t 4).getD i 0:=by
   rw [hr,List.getD_eq_getElem?_getD,List.getD_eq_getElem?_getD,List.getElem?_append_left q]
  have hm:l.getD i 0 ∈ onw W H bl p t 4:=by rw [e,getD_at _ _ q];exact List.getElem_mem q
  obtain ⟨k,k1,k2,k3⟩:=(onw_mem4 w1 hp).1 hm
  exact ⟨k,⟨k2,k3,(hS _).1 h1⟩,fun h=>by omega⟩
 ·obtain ⟨k,e,g⟩:=(onw_row (z:=((l.getD i 0:Nat):Int)) w1 hp hl).1 ⟨i,hi,rfl⟩
  refine ⟨k,⟨e,g,(hS _).1 h1⟩,fun _ j z hj hc=>?_⟩
  have hz:0<=z/\z<W*H:=of_decide_eq_true (hc.1.in' w1)
  have hm:z.toNat ∈ onw W H bl p t 4:=(onw_mem4 w1 hp).2 ⟨j,hj,by rw [Int.toNat_of_nonneg hz.1];exact hc.1,hc.2.1⟩
  obtain ⟨n,hn,h⟩:=List.getElem_of_mem hm
  have e:l.getD n 0=z.toNat:=by
   rw [hr,List.getD_eq_getElem?_getD,List.getElem?_append_left hn,List.getElem?_eq_getElem hn,h];rfl
  have:=h2 n (by omega)
  rw [e,Int.toNat_of_nonneg hz.1,(hS z).2 hc.2.2] at this
  cases this
theorem pick_none {a t p:Int}{S:Int->Bool}{l:List Nat}(w1:1<=W)(hoS:octS W a t<=1000)(hoD:octD W a t<=1000)(hp:inB W H p=true)(hl:onw W H bl p t 8=l)(hS:∀ z,S z=true↔On W H bl a t z)(hon:On W H bl a t p)(h2:∀ j,j<l.length->S ((l.getD j 0:Nat):Int)=false):p=t:=by
 apply Classical.byContradiction
 intro hne
 obtain ⟨j,r,e,g,ho⟩:=hon.next w1 hoS hoD hne
 obtain ⟨i,hi,rfl⟩:=(onw_row (z:=r) w1 hp hl).2 ⟨j,e,g⟩
 have:=h2 i hi
 rw [(hS _).2 ho] at this
 cases this
def NextIs (W H:Int) (bl:Nat->Bool) (a t p:Int) (cv mv:Value):Prop:=(∃ k,∃ r:Nat,cv=.int .i64 r/\mv=.bool true/\Chosen W H bl a t p k r)\/(cv=.int .i64 0/\mv=.bool false/\p=t)
theorem rnext_v {b ob:Nat}{V a t p:Int}{S:Int->Bool}(w:World)(g:GridAt w b W H V bl)(s:StepsAt w)(d:DiagAt w)(hb:b<w.heap.size)(hS:SetAt w ob S)(hSi:∀ z,S z=true↔On W H bl a t z)(hoS:octS W a t<=1000)(hoD:octD W a t<=1000)(ht:inB W H t=true)(hp:inB W H p=true)(hon:On W H bl a t p) :
  Calls Tryz.prog 83 #[.pointer (some ⟨b,0,none⟩),.map (some ob),.int .i64 p,.int .i64 t] w fun e w'=>Below w.heap.size w w'/\∃ cv mv,e=.returned (.tuple #[cv,mv])/\NextIs W H bl a t p cv mv:=by
 refine (rnext_any rfl w g s d hb hS hp ht).mono ?_
 rintro e w' ⟨hb',⟨i,hi,h1,h2,rfl⟩|⟨h2,rfl⟩⟩
 ·obtain ⟨k,hk⟩:=pick_chosen g.w1 hp rfl hSi hi h1 h2
  exact ⟨hb',_,_,rfl,Or.inl ⟨k,_,rfl,rfl,hk⟩⟩
 ·exact ⟨hb',_,_,rfl,Or.inr ⟨rfl,rfl,pick_none g.w1 hoS hoD hp rfl hSi hon h2⟩⟩
def ints (l:List Nat):List Int:=l.map fun n:Nat=>(n:Int)
theorem ints_snoc (l:List Nat)(n:Nat):ints (l++[n])=ints l++[(n:Int)]:=by unfold ints;rw [List.map_append];rfl
set_option maxHeartbeats 2000000 in
set_option maxRecDepth 1000000 in
theorem rway_ok {b:Nat}{V:Int}(a:Nat)(t:Int)(w:World)(g:GridAt w b W H V bl)(s:StepsAt w)(d:DiagAt w)(hb:b<w.heap.size)(hf:ff2 W H bl a t=0)(hyes:∃ z,On W H bl a t z) :
  Calls Tryz.prog 42 #[.pointer (some ⟨b,0,none⟩),.int .i64 a,.int .i64 t] w fun e w'=>∃ v l,e=.returned (.tuple #[v,.nilIface])/\w'.ownsRow w.heap.size 3 1 v (a::l).length (vals (a::l))/\Chn (WSt W H bl a t) a (ints l) t/\l.length<=64/\Below w.heap.size w w':=by
 have h1:=check2_any a t w g hb
 rw [hf,errV_nil] at h1
 obtain ⟨⟨ha,_⟩,⟨ht,_⟩⟩:=ff2_ok hf
 obtain ⟨i0,hi,hz0,hz1,hz2⟩:=info_parts Tryz.info3
 have gw1:=g.w1
 have hsm:=oct_small g.w1 g.w2 g.h1 g.h2 ha ht
 have hoS:octS W a t<=1000:=by omega
 have hoD:octD W a t<=1000:=by omega
 obtain ⟨z,hz⟩:=hyes
 have hona:=(hz.ends gw1 hoS hoD).1
 go_enter Tryz.func42,Tryz.ntmps42
 go_wp2_with fail
 refine h1.mono ?_
 rintro e w1 ⟨rfl,hb1⟩
 have h2:=rbtw_any w1 (g.below hb1 hb) (s.below hb1 (by omega)) (d.below hb1) (Nat.lt_of_lt_of_le hb hb1.size) ha ht
 clear h1
 go_wp2_with fail
 refine h2.mono ?_
 rintro e w2 ⟨nb,T,rfl,hT,hTi,hnb,hb2⟩
 have B2:=hb1.trans (hb2.mono hb1.size)
 have hlen:=fun ty=>hT.mp.len (t:=164) Tryz.underS ty
 have hcp:0<cntS T 256:=hT.ne_nil.2 ⟨z,(hTi z).2 hz⟩
 have hcn:((cntS T 256:Nat):Int)≠0:=by omega
 have bA:Below w2.heap.size w2 (w2.alloc (.cells #[.int .i64 a] 3)):=(Below.refl _ _).alloc (Nat.le_refl _) _
 have B3:=B2.trans (bA.mono B2.size)
 have hT3:=hT.below bA
 have h3:=rnext_v (w2.alloc (.cells #[.int .i64 a] 3)) (g.below B3 hb) (s.below B3 (by omega)) (d.below B3) (Nat.lt_of_lt_of_le hb B3.size) hT3 hTi hoS hoD ht ha hona
 have HTi:Hid (∀ z,T z=true↔On W H bl a t z):=hTi
 have hcn':(((cntS T 256:Nat):Int) == 0)=false:=by simpa using hcn
 have hO2:(w2.alloc (.cells #[.int .i64 a] 3)).ownsRow w2.heap.size 3 1 (.slice (some ⟨w2.heap.size,0,none⟩) 1 1) [a].length (vals [a]):=World.ownsRow_lit w2 #[.int .i64 a] 1 (Nat.le_refl _) (by unfold maxLen;omega) rfl
 have hnl:=hT.lt
 have z2:=B2.size
 clear h2 hb2 hTi hz hT hcn
 generalize cntS T 256=cn at *
 go_wp2_with fail
 refine h3.mono ?_
 rintro e w3 ⟨hb3,cv,mv,rfl,hnx⟩
 have hT4:=hT3.below hb3
 have hO3:=own_below hO2 hb3
 have B4:=B3.trans (hb3.mono B3.size)
 have z3:w2.heap.size<=w3.heap.size:=by have h:=hb3.size;simp at h;omega
 have hn0:=octN_nonneg W a t
 have hn1:octN W a t<=32:=by unfold octN;omega
 clear h3 hb3 hT3 hO2 B3 bA
 generalize w2.heap.size=N2 at *
 go_wp2
 go_loopg [10,11,12] (octN W a t).toNat (fun gk v cv mv wr=>∃ (p:Int) (l:List Nat),gk=(octN W p t).toNat/\(l.length:Int)+octN W p t=octN W a t/\wr.ownsRow N2 3 1 v (a::l).length (vals (a::l))/\Hid (Chn (WSt W H bl a t) a (ints l) p)/\On W H bl a t p/\inB W H p=true/\NextIs W H bl a t p cv mv/\SetAt wr nb T/\N2<=wr.heap.size/\Below w.heap.size w wr)
 case atStart=>exact ⟨a,[],rfl,by simp,hO3,rfl,hona,ha,hnx,hT4,z3,B4⟩
 case round =>
  obtain ⟨p,l,hgk,hln,hown,hch,hon,hpin,hnx',hT',hz',hB⟩:=hrel
  have hsz:=hB.size
  have hpn:=octN_nonneg W p t
  rcases hnx' with ⟨k,r,rfl,rfl,hck⟩|⟨rfl,rfl,rfl⟩
  ·have hrn:=octN_step gw1 hck.1.1 hck.1.2.1
   have hrin:=hck.1.1.in' gw1
   have hron:=hck.1.2.2
   have HC:Hid (Chn (WSt W H bl a t) a (ints (l++[r])) r):=by
    have:=Chn.snoc hch.out (show WSt W H bl a t p r from ⟨k,hck⟩)
    rw [<- ints_snoc] at this
    exact this
   have hnbz:nb<wr.heap.size:=hT'.lt
   clear hck hch
   go_wp2_with (at_builtin;refine wpList_append_own _ rfl _ _ 51 rfl N2 3 i0 (.int .i64 0) 1 8 Tryz.underlying51 hi hz0 hz1 hz2 rfl (by decide) _ _ _ rfl (World.ownsRow.alloc hown _) ⟨wr.heap.size,0,none⟩ 1 1 [.int .i64 r] rfl rfl ?c1 ?c2 ?c3 ?c4 ?c5 ?_)
   case c1 =>
    intro j u hj
    match j,hj with
    |0,hj =>
     simp at hj;subst hj;simp only [Addr.add]
     exact World.cell?_alloc_at (w:=wr) #[.int .i64 r] 3 wr.heap.size 0 rfl
   case c2=>intro u hu;simp at hu;subst hu;rfl
   case c3=>simp;unfold maxLen;omega
   case c4=>simp;omega
   case c5=>simp;omega
   intro v' w4 hown' hgrow _
   have hg4:=hgrow.size
   have hbase:=fun q hq=>(hown.lt q hq).1
   have B5:Below w.heap.size w w4:=(hB.alloc hsz _).grown hgrow (by simp;omega) (fun q hq=>Nat.le_trans z2 (hbase q hq))
   have hT5:SetAt w4 nb T:=(hT'.grown (World.grownBy_alloc wr _ none) (by simp)).grown hgrow (fun e=>by have:=hbase nb e.symm;omega)
   have O5:w4.ownsRow N2 3 1 v' (a::(l++[r])).length (vals (a::(l++[r]))):=by
    have e1:(a::(l++[r])).length=(a::l).length+1:=by simp
    have e2:vals (a::(l++[r]))=vals (a::l)++[.int .i64 r]:=by simp [vals]
    rw [e1,e2]
    exact hown'
   have h6:=rnext_v w4 (g.below B5 hb) (s.below B5 (by omega)) (d.below B5) (Nat.lt_of_lt_of_le hb B5.size) hT5 HTi.out hoS hoD ht hrin hron
   clear hown' hgrow hown hT' hB hon
   go_wp2_with fail
   refine h6.mono ?_
   rintro e w5 ⟨hb5,cv',mv',rfl,hnx5⟩
   have hT6:=hT5.below hb5
   have O6:=own_below O5 hb5
   have B6:=B5.trans (hb5.mono B5.size)
   have z6:N2<=w5.heap.size:=by have h1:=hg4;have h2:=hb5.size;simp at h1;omega
   clear h6 hT5 O5 hb5 B5
   go_wp2
   go_roundg (octN W r t).toNat
   case measure=>have:=octN_nonneg W r t;omega
   case rel=>exact ⟨r,l++[r],rfl,by simp;omega,O6,HC,hron,hrin,hnx5,hT6,z6,B6⟩
  ·go_wp2
   go_ret2
   exact ⟨_,l,rfl,own_base hown z2,hch.out,by omega,hB⟩
end
section
open Go.RowKit
end
section
open Go.RowKit
set_option maxHeartbeats 400000 in
theorem plus_any (s d t u:Int)(w:World)(h:okC s d)(k:okC t u) :
  Calls Tryz.prog 78 #[.agg #[.int .i64 s,.int .i64 d],.agg #[.int .i64 t,.int .i64 u]] w fun e w'=>e=.returned (.agg #[.int .i64 (s+t),.int .i64 (d+u)])/\Below w.heap.size w w':=by
 obtain ⟨h1,h2,h3,h4⟩:=h
 obtain ⟨k1,k2,k3,k4⟩:=k
 go_enter Tryz.func78,Tryz.ntmps78
 go_wp2
 exact bodyPost_ret (v:=.agg #[.int .i64 (s+t),.int .i64 (d+u)]) (by simp [results,Tryz.results78,go_sem]) rfl ⟨rfl,((((Below.refl _ _).alloc (Nat.le_refl _) _).alloc (by simp) _).alloc (by simp;omega) _)⟩
theorem neg_sq (x:Int):-x*-x=x*x:=by rw [Int.neg_mul,Int.mul_neg,Int.neg_neg]
theorem irr_pos (x y:Int)(hx:0<=x)(hy:0<=y)(hq:y<38613965)(h:x*x=2*(y*y)):x=0:=by
 have a:=pos_lt x y hx hy hq
 have b:=pos_gt x y hx hy hq
 have e:38613965*x=54608393*y:=by
  rcases Int.lt_trichotomy (38613965*x) (54608393*y) with k|k|k
  ·have:=a.mpr k;omega
  ·exact k
  ·have:=b.mpr k;omega
 exact (no_mid x y e (Int.lt_of_lt_of_le (by decide) hy) hq).1
theorem irr (x y:Int)(h1:-38613965<y)(h2:y<38613965)(h:x*x=2*(y*y)):x=0:=by
 by_cases hx:0<=x <;> by_cases hy:0<=y
 ·exact irr_pos x y hx hy h2 h
 ·exact irr_pos x (-y) hx (by omega) (by omega) (by rw [neg_sq];exact h)
 ·have:=irr_pos (-x) y (by omega) hy h2 (by rw [neg_sq];exact h)
  omega
 ·have:=irr_pos (-x) (-y) (by omega) (by omega) (by omega) (by rw [neg_sq,neg_sq];exact h)
  omega
theorem sq_pos (x:Int):x=0\/0<x*x:=by
 by_cases h:x=0
 ·left;exact h
 ·right
  have:=mul_self_nonneg x
  by_cases g:x*x=0
  ·exact absurd (sq_zero x g) h
  ·omega
theorem cmpC_of (s d t u r:Int)(h1:-38613965<d - u)(h2:d - u<38613965)
  (H:∀ X Y:Int,(s - t=0\/0<X)->(d - u=0\/0<Y)->(s - t=0->X=0)->(d - u=0->Y=0)->(X=2*Y->s - t=0)->X=(s - t)*(s - t)->Y=(d - u)*(d - u) ->
   ∀ A B:Int,(s - t<0->A=-X)->(¬ s - t<0->A=X)->(d - u > 0->B=-Y)->(¬ d - u > 0->B=Y)->(r=-1/\A<2*B)\/(r=0/\A=2*B)\/(r=1/\2*B<A)) :
  cmpC s d t u=r:=by
 have h:=H _ _ (sq_pos (s - t)) (sq_pos (d - u)) (fun e=>by rw [e];rfl) (fun e=>by rw [e];rfl) (irr (s - t) (d - u) h1 h2) rfl rfl (if s - t<0 then -((s - t)*(s - t)) else (s - t)*(s - t)) (if d - u > 0 then -((d - u)*(d - u)) else (d - u)*(d - u)) (fun e=>by rw [if_pos e]) (fun e=>by rw [if_neg e]) (fun e=>by rw [if_pos e]) (fun e=>by rw [if_neg e])
 have e1:sqs (s - t)=if s - t<0 then -((s - t)*(s - t)) else (s - t)*(s - t):=by unfold sqs;rw [Int.neg_mul]
 have e2:sqs (u - d)=if d - u > 0 then -((d - u)*(d - u)) else (d - u)*(d - u):=by
  have n:u - d=-(d - u):=by omega
  rw [n,sqs_neg]
  unfold sqs
  rw [Int.neg_mul]
  by_cases c:d - u<0
  ·rw [if_pos c,if_neg (by omega),Int.neg_neg]
  ·rw [if_neg c]
   by_cases c2:d - u > 0
   ·rw [if_pos c2]
   ·rw [if_neg c2]
    have:d - u=0:=by omega
    rw [this];rfl
 unfold cmpC cmpI
 rw [e1,e2]
 rcases h with ⟨rfl,h⟩|⟨rfl,h⟩|⟨rfl,h⟩
 ·rw [if_pos h]
 ·rw [h,if_neg (by omega)];simp
 ·rw [if_neg (by omega),if_pos h]
theorem ret_int {k:IntKind}{a b:Int}(h:a=b):Ending.returned (.int k a)=.returned (.int k b):=by rw [h]
set_option maxHeartbeats 1000000 in
theorem rcmp_any (s d t u:Int)(w:World)(h:okC s d)(k:okC t u) :
  Calls Tryz.prog 79 #[.agg #[.int .i64 s,.int .i64 d],.agg #[.int .i64 t,.int .i64 u]] w fun e w'=>e=.returned (.int .i64 (cmpC s d t u))/\Below w.heap.size w w':=by
 obtain ⟨h1,h2,h3,h4⟩:=h
 obtain ⟨k1,k2,k3,k4⟩:=k
 have hB:Below w.heap.size w ((w.alloc (.cells #[.int .i64 s,.int .i64 d] 53)).alloc (.cells #[.int .i64 t,.int .i64 u] 53)):=((Below.refl _ _).alloc (Nat.le_refl _) _).alloc (by simp) _
 have bx:=mul_self_bd (s - t) (by omega) (by omega)
 have by_:=mul_self_bd (d - u) (by omega) (by omega)
 have e2:2*(d - u)*(d - u)=2*((d - u)*(d - u)):=Int.mul_assoc _ _ _
 have by2:0<=2*(d - u)*(d - u)/\2*(d - u)*(d - u)<=140737488355328:=by rw [e2];omega
 go_enter Tryz.func79,Tryz.ntmps79
 go_wp2
 all_goals
  go_ret
  refine ⟨ret_int (Eq.symm (cmpC_of s d t u _ (by omega) (by omega) ?_)),hB⟩
  clear hB bx by_ e2 by2
  intro X Y p1 p2 p3 p4 p5 eX eY A B q1 q2 q3 q4
  simp only [<- eX,<- eY,beq_iff_eq,beq_eq_false_iff_ne,ne_eq,decide_eq_decide,true_and] at *
  clear eX eY
  omega
end
section
open Go.RowKit
end
section
variable {E : Int → Nat → Int → Prop} {o : Int} {N : Nat}
def pot (F:Int->Option (Int × Int)):Nat->Int
 |0=>0
 |N+1=>pot F N+(match F N with|some c=>val c.1 c.2|none=>13979748609)
def pot1 (c:Option (Int × Int)):Int:=match c with|some c=>val c.1 c.2|none=>13979748609
theorem pot_succ (F:Int->Option (Int × Int))(N:Nat):pot F (N+1)=pot F N+pot1 (F N):=rfl
theorem pot_same (F:Int->Option (Int × Int))(a s d:Int)(N:Nat)(h:(N:Int)<=a):pot (putH F a s d) N=pot F N:=by
 induction N with
 |zero=>rfl
 |succ N ih =>
  rw [pot_succ,pot_succ,ih (by omega)]
  have:putH F a s d N=F N:=if_neg (by omega)
  rw [this]
theorem pot_put (F:Int->Option (Int × Int))(a s d:Int)(N:Nat)(h0:0<=a)(h:a<N):pot (putH F a s d) N=pot F N - pot1 (F a)+val s d:=by
 induction N with
 |zero=>omega
 |succ N ih =>
  rw [pot_succ,pot_succ]
  by_cases e:a=N
  ·rw [pot_same F a s d N (by omega)]
   have:putH F a s d N=some (s,d):=if_pos e.symm
   rw [this,<- e]
   show _+val s d=_
   omega
  ·rw [ih (by omega)]
   have:putH F a s d N=F N:=if_neg (fun q=>e q.symm)
   rw [this]
   omega
structure Lab (E:Int->Nat->Int->Prop) (o:Int) (N:Nat) (F:Int->Option (Int × Int)) (ok:Int->Nat->Prop):Prop where
 sound:∀ {a s d},F a=some (s,d)->Wk E o a s d/\val s d<=cnt F N*54608393
 edge:∀ {a b s d k},F a=some (s,d)->E a k b->ok a k->∃ s' d',F b=some (s',d')/\val s' d'<=val s d+val (stS k) (stD k)
 org:∃ s d,F o=some (s,d)/\val s d<=0
 dom:∀ {a c},F a=some c->0<=a/\a<N
theorem Lab.widen {F:Int->Option (Int × Int)}{ok ok':Int->Nat->Prop}(h:Lab E o N F ok)(hk:∀ {a k b s d},F a=some (s,d)->E a k b->ok' a k->ok a k):Lab E o N F ok' :=
 ⟨fun hx=>h.sound hx,fun hx e hd=>h.edge hx e (hk hx e hd),h.org,fun hx=>h.dom hx⟩
theorem Lab.val_bd {F:Int->Option (Int × Int)}{ok:Int->Nat->Prop}(h:Lab E o N F ok)(hN:N<=256){a s d:Int}(ha:F a=some (s,d)):0<=s/\0<=d/\val s d<=13979748608:=by
 obtain ⟨h1,h2⟩:=h.sound ha
 obtain ⟨n1,n2⟩:=h1.nonneg
 have:=cnt_le F N
 exact ⟨n1,n2,by omega⟩
theorem pot_nonneg {F:Int->Option (Int × Int)}(h:∀ {a s d},F a=some (s,d)->0<=val s d)(N:Nat):0<=pot F N:=by
 induction N with
 |zero=>exact Int.le_refl _
 |succ N ih =>
  rw [pot_succ]
  cases hc:F N with
  |none=>show 0<=pot F N+13979748609;omega
  |some c=>obtain ⟨s,d⟩:=c;have:=h hc;show 0<=pot F N+val s d;omega
theorem Lab.pot0 {F:Int->Option (Int × Int)}{ok:Int->Nat->Prop}(h:Lab E o N F ok):0<=pot F N :=
 pot_nonneg (fun hx=>by obtain ⟨n1,n2⟩:=(h.sound hx).1.nonneg;unfold val;omega) N
theorem Lab.start (E:Int->Nat->Int->Prop)(o:Int)(N:Nat)(h0:0<=o)(h1:o<N)(ok:Int->Nat->Prop)(hk:∀ k,¬ ok o k):Lab E o N (putH (fun _=>none) o 0 0) ok:=by
 refine ⟨fun {a s d} h=>?_,fun {a b s d k} h _ hd=>?_,⟨0,0,if_pos rfl,by decide⟩,fun {a c} h=>?_⟩
 ·unfold putH at h
  split at h
  ·cases h;rename_i e;subst e
   have e0:val 0 0=0:=by decide
   exact ⟨Wk.nil,by rw [e0];omega⟩
  ·cases h
 ·unfold putH at h
  split at h
  ·rename_i e;subst e;exact absurd hd (hk k)
  ·cases h
 ·unfold putH at h
  split at h
  ·rename_i e;subst e;exact ⟨h0,h1⟩
  ·cases h
theorem pot_start (o:Int)(N:Nat)(hN:N<=256)(h0:0<=o)(h1:o<N):pot (putH (fun _=>none) o 0 0) N<=3578815643904:=by
 rw [pot_put _ _ _ _ _ h0 h1]
 have:∀ n:Nat,pot (fun _=>none) n=n*13979748609:=by
  intro n
  induction n with
  |zero=>rfl
  |succ n ih=>rw [pot_succ,ih];show _+13979748609=_;omega
 rw [this]
 show _ - 13979748609+val 0 0<=_
 have:val 0 0=0:=by decide
 omega
theorem Lab.nearer {F:Int->Option (Int × Int)}{pend:Int->Prop}{dn:Nat->Prop}{at' b s d:Int}{k:Nat}(hN:N<=256)(h:Lab E o N F (fun a j=>(¬ pend a/\a≠at')\/(a=at'/\dn j)))(ha:F at'=some (s,d))(e:E at' k b)
  (hb0:0<=b) (hb1:b<N) (hb:∀ {t u},F b=some (t,u)->val (s+stS k) (d+stD k)<val t u) (hu:∀ {y},E at' k y->y=b) :
  Lab E o N (putH F b (s+stS k) (d+stD k)) (fun a j=>(¬ (pend a\/a=b)/\a≠at')\/(a=at'/\(dn j\/j=k)))/\pot (putH F b (s+stS k) (d+stD k)) N+1<=pot F N/\putH F b (s+stS k) (d+stD k) at'=some (s,d):=by
 have hk:=val_st k
 have hva:=val_add s d (stS k) (stD k)
 have hne:b≠at':=by
  intro q;subst q
  have:=hb ha
  omega
 have hat:putH F b (s+stS k) (d+stD k) at'=some (s,d):=by unfold putH;rw [if_neg (fun q=>hne q.symm)];exact ha
 have hcnt:cnt F N<=cnt (putH F b (s+stS k) (d+stD k)) N/\(F b=none->cnt (putH F b (s+stS k) (d+stD k)) N=cnt F N+1):=by
  refine ⟨?_,fun q=>cnt_put F b _ _ N hb0 hb1 q⟩
  cases hc:F b with
  |none=>rw [cnt_put F b _ _ N hb0 hb1 hc];omega
  |some c =>
   have:∀ n:Nat,cnt F n<=cnt (putH F b (s+stS k) (d+stD k)) n:=by
    intro n
    induction n with
    |zero=>exact Nat.le_refl _
    |succ n ih =>
     unfold cnt
     by_cases q:(n:Int)=b
     ·have:putH F b (s+stS k) (d+stD k) n=some (s+stS k,d+stD k):=if_pos q
      rw [this];simp;split <;> omega
     ·have:putH F b (s+stS k) (d+stD k) n=F n:=if_neg q
      rw [this];omega
   exact this N
 have h1:=h.sound ha
 refine ⟨⟨fun {x t u} hx=>?_,fun {x y t u j} hx ex hd=>?_,?_,fun {x c} hx=>?_⟩,?_,hat⟩
 ·unfold putH at hx
  split at hx
  ·cases hx;rename_i q;subst q
   refine ⟨Wk.step h1.1 e,?_⟩
   cases hc:F x with
   |none=>rw [hcnt.2 hc,hva];have:=h1.2;omega
   |some c =>
    obtain ⟨t,u⟩:=c
    have:=hb hc
    have:=(h.sound hc).2
    have:=hcnt.1
    omega
  ·have:=h.sound hx;exact ⟨this.1,by have:=this.2;have:=hcnt.1;omega⟩
 ·have key:∀ {s2 d2:Int},F y=some (s2,d2)->val s2 d2<=val t u+val (stS j) (stD j)->∃ s' d',putH F b (s+stS k) (d+stD k) y=some (s',d')/\val s' d'<=val t u+val (stS j) (stD j):=by
   intro s2 d2 h2 h3
   by_cases q:y=b
   ·subst q
    have:=hb h2
    exact ⟨_,_,if_pos rfl,by omega⟩
   ·exact ⟨s2,d2,by unfold putH;rw [if_neg q];exact h2,h3⟩
  rcases hd with ⟨hd1,hd2⟩|⟨rfl,hd⟩
  ·have q:x≠b:=fun q=>hd1 (Or.inr q)
   have hx':F x=some (t,u):=by unfold putH at hx;rw [if_neg q] at hx;exact hx
   obtain ⟨s2,d2,h2,h3⟩:=h.edge hx' ex (Or.inl ⟨fun q2=>hd1 (Or.inl q2),hd2⟩)
   exact key h2 h3
  ·rw [hat] at hx;cases hx
   rcases hd with hd|rfl
   ·obtain ⟨s2,d2,h2,h3⟩:=h.edge ha ex (Or.inr ⟨rfl,hd⟩)
    exact key h2 h3
   ·have:=hu ex
    subst this
    exact ⟨_,_,if_pos rfl,by rw [hva];exact Int.le_refl _⟩
 ·obtain ⟨s2,d2,h2,h3⟩:=h.org
  by_cases q:o=b
  ·subst q
   have:=hb h2
   exact ⟨_,_,if_pos rfl,by omega⟩
  ·exact ⟨s2,d2,by unfold putH;rw [if_neg q];exact h2,h3⟩
 ·unfold putH at hx
  split at hx
  ·rename_i q;subst q;exact ⟨hb0,hb1⟩
  ·exact h.dom hx
 ·rw [pot_put F b _ _ N hb0 hb1]
  have:val (s+stS k) (d+stD k)+1<=pot1 (F b):=by
   cases hc:F b with
   |none =>
    show _<=13979748609
    have h2:=h1.2
    have h3:=hcnt.2 hc
    have h4:=cnt_le (putH F b (s+stS k) (d+stD k)) N
    rw [hva]
    omega
   |some c=>obtain ⟨t,u⟩:=c;have:=hb hc;show _<=val t u;omega
  omega
theorem Lab.asfar {F:Int->Option (Int × Int)}{pend:Int->Prop}{dn:Nat->Prop}{at' b s d t u:Int}{k:Nat}(h:Lab E o N F (fun a j=>(¬ pend a/\a≠at')\/(a=at'/\dn j)))(ha:F at'=some (s,d))
  (hb:F b=some (t,u)) (hle:val t u<=val (s+stS k) (d+stD k)) (hu:∀ {y},E at' k y->y=b) :
  Lab E o N F (fun a j=>(¬ pend a/\a≠at')\/(a=at'/\(dn j\/j=k))):=by
 refine ⟨fun hx=>h.sound hx,fun {x y t' u' j} hx ex hd=>?_,h.org,fun hx=>h.dom hx⟩
 rcases hd with hd|⟨rfl,hd|rfl⟩
 ·exact h.edge hx ex (Or.inl hd)
 ·exact h.edge hx ex (Or.inr ⟨rfl,hd⟩)
 ·rw [ha] at hx;cases hx
  have:=hu ex
  subst this
  exact ⟨t,u,hb,by rw [val_add] at hle;exact hle⟩
theorem Lab.done {F:Int->Option (Int × Int)}(hN:N<=256)(h:Lab E o N F (fun _ _=>True)):Best E o F:=by
 refine ⟨fun hx=>(h.sound hx).1,fun {a s d} hw=>?_,fun {a s d} hx=>h.val_bd hN hx⟩
 refine hw.ind (R:=fun a s d=>∃ s' d',F a=some (s',d')/\val s' d'<=val s d) h.org (fun a s d k b _ ih e=>?_)
 obtain ⟨s',d',h1,h2⟩:=ih
 obtain ⟨s2,d2,h3,h4⟩:=h.edge h1 e trivial
 exact ⟨s2,d2,h3,by rw [val_add];omega⟩
end
end Go.Proofs.YtmaefimaeelkbaaGreatDoor
