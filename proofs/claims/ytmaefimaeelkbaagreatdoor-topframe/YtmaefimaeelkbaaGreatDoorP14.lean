/-
  Texts laid together: Push2, Push3, Pop, PushAll, LevD, SrS.
-/
import Derived.Test.YtmaefimaeelkbaaGreatDoorP13
import Derived.Test.YtmaefimaeelkbaaGreatDoorP2
import Derived.Test.YtmaefimaeelkbaaGreatDoorP10
import Derived.Test.YtmaefimaeelkbaaGreatDoorP12
namespace Go.Proofs.YtmaefimaeelkbaaGreatDoor
section
open Go.RowKit
def hb3 (b mb:Nat) (v:Value) (k:Nat):Prop:=k=b\/k=mb\/v.ownBlock=some k
set_option maxHeartbeats 1000000 in
theorem push_less {b mb n:Nat}{v:Value}{H:Int->Option (Int × Int)}(a s d t u:Int)(w:World)(h:HeapAt w b mb v n H)(ha:H a=some (t,u))(hc:okC s d)(hn:val s d<val t u) :
  Calls Tryz.prog 202 #[.pointer (some ⟨b,0,none⟩),.int .i64 a,.agg #[.int .i64 s,.int .i64 d]] w fun e w'=>e=.returned (.bool true)/\HeapAt w' b mb v n (putH H a s d)/\Keep (hb3 b mb v) w w':=by
 obtain ⟨it,f,S,O⟩:=h.ex
 obtain ⟨i,hi,e⟩:=(S.holds a t u).mp ha
 obtain ⟨g,cap,rfl,_,_,hg⟩:=S.rep.row.pos (by omega)
 obtain ⟨q1,q2,q3⟩:=S.rep.row.cells hi
 have hk:=S.ok i hi
 have hrise:Rising (updI it i ⟨a,s,d⟩) n i:=Rising.less O hi ⟨a,s,d⟩ (by rw [e];unfold bef Item.v;simp only;omega)
 rw [e] at q1 q2 q3 hk
 have hlt:=(ltB_val hc hk).mpr hn
 have c0:=S.rep.c0
 have c1:=S.rep.c1
 have hb:=S.rep.blocks.1
 have hwf:=S.wf i hi
 rw [e] at hwf
 have hf:=S.atf.at' i hi
 rw [e] at hf
 have HB0:Below w.heap.size w (w.alloc (.cells #[.int .i64 s,.int .i64 d] 53)):=(Below.refl _ w).alloc (Nat.le_refl _) _
 have hl:=((S.rep.below HB0).map).look_some law3 Tryz.under51 (zero3 _) hwf hf true
 have h1:(i:Int)<(n:Int):=by omega
 have s0:∀ x:Since (w.alloc (.cells #[.int .i64 s,.int .i64 d] 53)),x.u.cell? ⟨w.heap.size,0,none⟩=some (.int .i64 s):=fun x=>(x.cell _ _ (by simp)).trans (World.cell?_alloc_at #[.int .i64 s,.int .i64 d] 53 w.heap.size 0 rfl)
 have s1:∀ x:Since (w.alloc (.cells #[.int .i64 s,.int .i64 d] 53)),x.u.cell? ⟨w.heap.size,1,none⟩=some (.int .i64 d):=fun x=>(x.cell _ _ (by simp)).trans (World.cell?_alloc_at #[.int .i64 s,.int .i64 d] 53 w.heap.size 1 rfl)
 have s2:∀ x:Since (w.alloc (.cells #[.int .i64 s,.int .i64 d] 53)),x.u.cell? ⟨b,0,none⟩=some (.slice (some ⟨g,0,none⟩) n cap):=fun x=>(x.cell _ _ (by simp;omega)).trans ((HB0.cell (p:=⟨b,0,none⟩) hb).trans c0)
 have s3:∀ x:Since (w.alloc (.cells #[.int .i64 s,.int .i64 d] 53)),x.u.cell? ⟨g,i*3+1,none⟩=some (.int .i64 t):=fun x=>(x.cell _ _ (by simp;omega)).trans ((HB0.cell (p:=⟨g,i*3+1,none⟩) hg).trans q2)
 have s4:∀ x:Since (w.alloc (.cells #[.int .i64 s,.int .i64 d] 53)),x.u.cell? ⟨g,i*3+2,none⟩=some (.int .i64 u):=fun x=>(x.cell _ _ (by simp;omega)).trans ((HB0.cell (p:=⟨g,i*3+2,none⟩) hg).trans q3)
 have hne:=since_ne (w.alloc (.cells #[.int .i64 s,.int .i64 d] 53))
 have em:(if (f a).isSome then n else n+1)=n:=by rw [hf];rfl
 have P1:=fun w R=>put_any (b:=b) (mb:=mb) (g:=g) (cap:=cap) (n:=n) (m:=n) (it:=it) (f:=f) i a s d w R hi S.bd hwf
 rw [em] at P1
 have HS2:∀ w',Rep w' b mb (.slice (some ⟨g,0,none⟩) n cap) n (updI it i ⟨a,s,d⟩) (putF f a (.int .i64 i)) n->HS w' b mb (.slice (some ⟨g,0,none⟩) n cap) n (updI it i ⟨a,s,d⟩) (putF f a (.int .i64 i)) (putH H a s d):=by
  intro w' R
  have ea:(it i).id=a:=by rw [e]
  refine ⟨R,S.atf.same hi (x:=⟨a,s,d⟩) ea,fun k hk=>?_,fun k hk=>?_,S.holds.same S.atf.apart hi ea,S.bd⟩
  ·by_cases ek:k=i
   ·subst ek;rw [updI_i];exact hwf
   ·rw [updI_k it _ ek];exact S.wf k hk
  ·by_cases ek:k=i
   ·subst ek;rw [updI_i];exact hc
   ·rw [updI_k it _ ek];exact S.ok k hk
 have RB:∀ w',Below w.heap.size w w'->Rep w' b mb (.slice (some ⟨g,0,none⟩) n cap) n it f n:=fun w' h=>S.rep.below h
 clear S O h e ha q1 q2 q3 hf em
 go_enter Tryz.func202,Tryz.ntmps202
 go_wp2
 refine wp_region_since (by kernel_rfl) (by kernel_rfl) ?_
 repeat (go_big_quiet_step ((go_at_call 178;exact Calls.since_of (less_v hlt _ hc hk))))
 refine wpQuiet_nil ?_
 rintro _ ⟨x,rfl⟩
 have HB1:Below w.heap.size w x.u:=HB0.trans (x.h.mono (by simp))
 have t0:=s0 x
 have t1:=s1 x
 clear s0 s1 s2 s3 s4 hne
 go_wp2_with fail
 refine (P1 _ (RB _ HB1)).mono ?_
 rintro e w1 ⟨rfl,R1,K1⟩
 have S1:=HS2 _ R1
 go_wp2_with fail
 refine (rise_any _ S1 hrise).mono ?_
 rintro e w2 ⟨rfl,⟨it',f',S2,O2⟩,K2⟩
 have KK:Keep (hb3 b mb (.slice (some ⟨g,0,none⟩) n cap)) w w2:=by
  have k1:=(Keep.of_below (F:=fun k=>k=g\/k=mb) HB1).trans K1 (fun _ _ h=>h)
  have k2:=k1.trans K2 (fun _ _ h=>h)
  refine k2.mono (fun i _ h=>?_)
  rcases h with rfl|rfl
  ·exact Or.inr (Or.inr rfl)
  ·exact Or.inr (Or.inl rfl)
 clear K1 K2 R1 S1 HB1 HB0 P1 RB HS2
 go_wp2
 go_ret
 exact ⟨rfl,⟨it',f',S2,O2⟩,KK⟩
end
section
open Go.RowKit
theorem Tryz.info56:(Tryz.prog.info? 263).map (fun i=>(i.zero,i.size,i.bytes))=some (some (.agg #[.int .i64 0,.int .i64 0,.int .i64 0]),3,24):=by kernel_rfl
theorem Tryz.under52:Tryz.prog.underlying 259=some (.slice 263):=by kernel_rfl
theorem cell_three_new (w:World)(x y z:Value)(t:TypeId):∀ j u,[x,y,z][j]? = some u->(w.alloc (.cells #[x,y,z] t)).cell? ((⟨w.heap.size,0,none⟩:Addr).add j)=some u:=by
 intro j u hj
 match j,hj with
 |0,hj=>simp at hj;subst hj;simp [Addr.add]
 |1,hj=>simp at hj;subst hj;simp [Addr.add]
 |2,hj=>simp at hj;subst hj;simp [Addr.add]
theorem row_grown {w w':World}{v v':Value}{n:Nat}{it:Nat->Item}{xs:List Value}(h1:w.ownsRow 0 263 3 v n xs)(hx:∀ i,i<n->xs[i*3]? = some (.int .i64 (it i).id)/\xs[i*3+1]? = some (.int .i64 (it i).s)/\xs[i*3+2]? = some (.int .i64 (it i).d))
  (h2:w'.ownsRow 0 263 3 v' (n+1) (xs++[.int .i64 0,.int .i64 0,.int .i64 0])):Row w' v' (n+1) (updI it n ⟨0,0,0⟩):=by
 have hl:xs.length=n*3:=h1.1
 refine ⟨_,h2,fun i hi=>?_⟩
 by_cases e:i=n
 ·subst e
  rw [updI_i]
  refine ⟨?_,?_,?_⟩
  ·rw [List.getElem?_append_right (by omega)];simp [hl]
  ·rw [List.getElem?_append_right (by omega)];simp [hl]
  ·rw [List.getElem?_append_right (by omega)];simp [hl]
 ·rw [updI_k it _ e]
  obtain ⟨a1,a2,a3⟩:=hx i (by omega)
  refine ⟨?_,?_,?_⟩
  ·rw [List.getElem?_append_left (by omega)];exact a1
  ·rw [List.getElem?_append_left (by omega)];exact a2
  ·rw [List.getElem?_append_left (by omega)];exact a3
theorem updI_twice (it:Nat->Item)(i:Nat)(x y:Item):updI (updI it i x) i y=updI it i y:=by
 funext k;unfold updI;split <;> rfl
set_option maxHeartbeats 1000000 in
theorem push_new {b mb n:Nat}{v:Value}{H:Int->Option (Int × Int)}(a s d:Int)(w:World)(h:HeapAt w b mb v n H)(ha:H a=none)(hc:okC s d)(hwf:(Lit.int .i64 a).wf=true)(hn:n<1000000) :
  Calls Tryz.prog 202 #[.pointer (some ⟨b,0,none⟩),.int .i64 a,.agg #[.int .i64 s,.int .i64 d]] w fun e w'=>e=.returned (.bool true)/\(∃ v',HeapAt w' b mb v' (n+1) (putH H a s d)/\(v'.ownBlock=v.ownBlock\/∃ g,v'.ownBlock=some g/\w.heap.size<=g))/\Keep (hb3 b mb v) w w':=by
 obtain ⟨i0,hi0,hz0,hz1,hz2⟩:=info_parts Tryz.info56
 obtain ⟨it,f,S,O⟩:=h.ex
 obtain ⟨hb,hmb,hbm,hgs⟩:=S.rep.blocks
 have c0:=S.rep.c0
 have c1:=S.rep.c1
 have f0:=S.rep.f0
 have hf:=S.mem ha
 obtain ⟨xs,hown,hxs⟩:=S.rep.row
 have hv:∃ A cap,v=.slice A n cap:=by
  rcases hown.2 with ⟨rfl,rfl⟩|⟨g,cap,cur,rfl,_⟩
  ·exact ⟨_,_,rfl⟩
  ·exact ⟨_,_,rfl⟩
 obtain ⟨A,cap,rfl⟩:=hv
 have HB0:Below w.heap.size w (w.alloc (.cells #[.int .i64 s,.int .i64 d] 53)):=(Below.refl _ w).alloc (Nat.le_refl _) _
 have hl:=((S.rep.below HB0).map).look_none law3 Tryz.under51 (zero3 _) hwf hf true
 have hne:=since_ne (w.alloc (.cells #[.int .i64 s,.int .i64 d] 53))
 go_enter Tryz.func202,Tryz.ntmps202
 go_wp2
 refine wp_region_since (by kernel_rfl) (by kernel_rfl) ?_
 repeat (go_big_quiet_step (fail))
 refine wpQuiet_nil ?_
 rintro _ ⟨x,rfl⟩
 have HB1:Below w.heap.size w x.u:=HB0.trans (x.h.mono (by simp))
 have t0:x.u.cell? ⟨w.heap.size,0,none⟩=some (.int .i64 s):=(x.cell _ _ (by simp)).trans (World.cell?_alloc_at #[.int .i64 s,.int .i64 d] 53 w.heap.size 0 rfl)
 have t1:x.u.cell? ⟨w.heap.size,1,none⟩=some (.int .i64 d):=(x.cell _ _ (by simp)).trans (World.cell?_alloc_at #[.int .i64 s,.int .i64 d] 53 w.heap.size 1 rfl)
 have hx0:w.heap.size<x.u.heap.size:=by have:=x.h.size;simp at this;omega
 have c0':=(HB1.cell (p:=⟨b,0,none⟩) hb).trans c0
 have f0':=(HB1.frozen (p:=⟨b,0,none⟩) hb).trans f0
 have hown1:x.u.ownsRow 0 263 3 (.slice A n cap) n xs:=hown.kept (row:=none) ⟨HB1.os,HB1.tape,HB1.output,HB1.size,fun k hk _=>HB1.block k hk⟩ (by cases hq:(Value.slice A n cap).ownBlock <;> simp)
 go_wp2_with (at_builtin;refine wpList_append_own_at _ rfl _ _ 259 rfl 0 263 i0 (.agg #[.int .i64 0,.int .i64 0,.int .i64 0]) 3 24 Tryz.under52 hi0 hz0 hz1 hz2 rfl (by decide) _ _ _ rfl (hown1.alloc _) ⟨x.u.heap.size,0,none⟩ 1 1 [.int .i64 0,.int .i64 0,.int .i64 0] rfl rfl (cell_three_new _ _ _ _ _) (by intro u hu;simp at hu;subst hu;rfl) (by unfold maxLen;omega) (by omega) (by omega) ?_)
 intro v' w1 ho hgr _ hloc
 have K1:Keep (fun k=>(Value.slice A n cap).ownBlock=some k) w w1:=((Keep.of_below HB1).alloc _).grown hgr (fun k hk _=>hk)
 have hrow1:=row_grown hown1 hxs ho
 obtain ⟨g',cap',rfl,hcap,hmax,hg'⟩:=hrow1.pos (by omega)
 have hnb:∀ k,(Value.slice A n cap).ownBlock=some k->k<w.heap.size/\k≠b/\k≠mb:=hgs
 have hg2:g'≠b/\((Value.slice A n cap).ownBlock=some g'\/w.heap.size<=g'):=by
  rcases hloc with hloc|hloc
  ·have e:(Value.slice A n cap).ownBlock=some g':=hloc.symm
   exact ⟨(hnb g' e).2.1,Or.inl e⟩
  ·simp only [Value.ownBlock,Option.some.injEq] at hloc
   exact ⟨by omega,Or.inr (by omega)⟩
 have c0w:w1.cell? ⟨b,0,none⟩=some (.slice A n cap):=(K1.cell (p:=⟨b,0,none⟩) hb (fun e=>(hnb b e).2.1 rfl)).trans c0
 have c1w:w1.cell? ⟨b,1,none⟩=some (.map (some mb)):=(K1.cell (p:=⟨b,1,none⟩) hb (fun e=>(hnb b e).2.1 rfl)).trans c1
 have f0w:w1.frozen? ⟨b,0,none⟩=false:=(K1.frozen (p:=⟨b,0,none⟩) hb (fun e=>(hnb b e).2.1 rfl)).trans f0
 have mapw:MapF Tryz.prog 3 w1 mb f n:=S.rep.map.keep K1 (fun e=>(hnb mb e).2.2 rfl)
 have KX:Keep (fun k=>(Value.slice A n cap).ownBlock=some k) x.u w1:=((Keep.refl _ x.u).alloc _).grown hgr (fun k hk _=>hk)
 have t0w:w1.cell? ⟨w.heap.size,0,none⟩=some (.int .i64 s):=(KX.cell (p:=⟨w.heap.size,0,none⟩) hx0 (fun e=>Nat.lt_irrefl _ (hnb w.heap.size e).1)).trans t0
 have t1w:w1.cell? ⟨w.heap.size,1,none⟩=some (.int .i64 d):=(KX.cell (p:=⟨w.heap.size,1,none⟩) hx0 (fun e=>Nat.lt_irrefl _ (hnb w.heap.size e).1)).trans t1
 have R2:Rep (w1.setCell ⟨b,0,none⟩ (.slice (some ⟨g',0,none⟩) (n+1) cap')) b mb (.slice (some ⟨g',0,none⟩) (n+1) cap') (n+1) (updI it n ⟨0,0,0⟩) f n:=by
  have kb:Keep (fun k=>k=b) w1 (w1.setCell ⟨b,0,none⟩ (.slice (some ⟨g',0,none⟩) (n+1) cap')):=(Keep.refl (fun k=>k=b) w1).setCell (p:=⟨b,0,none⟩) (fun _=>rfl) _
  refine ⟨World.cell?_setCell_same _ _ _ c0w,?_,?_,hrow1.keep kb (fun q hq=>?_),mapw.keep kb (fun e=>hbm e.symm),fun e=>?_⟩
  ·rw [World.cell?_setCell_other _ _ _ _ (by intro e;cases e)];exact c1w
  ·rw [World.frozen?_setCell];exact f0w
  ·simp only [Value.ownBlock,Option.some.injEq] at hq;rw [<- hq];exact hg2.1
  ·simp only [Value.ownBlock,Option.some.injEq] at e;exact hg2.1 e
 have K2:Keep (hb3 b mb (.slice A n cap)) w (w1.setCell ⟨b,0,none⟩ (.slice (some ⟨g',0,none⟩) (n+1) cap')):=(K1.mono (G:=hb3 b mb (.slice A n cap)) (fun _ _ h=>Or.inr (Or.inr h))).setCell (p:=⟨b,0,none⟩) (fun _=>Or.inl rfl) _
 have em:(if (f a).isSome then n else n+1)=n+1:=by rw [hf];rfl
 have P1:=fun w R=>put_any (b:=b) (mb:=mb) (g:=g') (cap:=cap') (n:=n+1) (m:=n) (it:=updI it n ⟨0,0,0⟩) (f:=f) n a s d w R (by omega) (by omega) hwf
 rw [em,updI_twice] at P1
 have HS2:∀ w',Rep w' b mb (.slice (some ⟨g',0,none⟩) (n+1) cap') (n+1) (updI it n ⟨a,s,d⟩) (putF f a (.int .i64 n)) (n+1)->HS w' b mb (.slice (some ⟨g',0,none⟩) (n+1) cap') (n+1) (updI it n ⟨a,s,d⟩) (putF f a (.int .i64 n)) (putH H a s d):=by
  intro w' R
  refine ⟨R,S.atf.last (x:=⟨a,s,d⟩) hf,fun k hk=>?_,fun k hk=>?_,S.holds.last ha,by omega⟩
  ·by_cases ek:k=n
   ·subst ek;rw [updI_i];exact hwf
   ·rw [updI_k it _ ek];exact S.wf k (by omega)
  ·by_cases ek:k=n
   ·subst ek;rw [updI_i];exact hc
   ·rw [updI_k it _ ek];exact S.ok k (by omega)
 have hrise:Rising (updI it n ⟨a,s,d⟩) (n+1) n:=Rising.last O _
 have hloc2:(Value.slice (some ⟨g',0,none⟩) (n+1) cap').ownBlock=(Value.slice A n cap).ownBlock\/∃ g,(Value.slice (some ⟨g',0,none⟩) (n+1) cap').ownBlock=some g/\w.heap.size<=g:=by
  rcases hg2.2 with e|e
  ·exact Or.inl e.symm
  ·exact Or.inr ⟨g',rfl,e⟩
 clear S O h K1 KX hrow1 mapw hown1 hown hgr ho hxs HB0 HB1 hl hne c0' f0' t0 t1 hgs em hloc
 go_wp2_with fail
 refine (P1 _ R2).mono ?_
 rintro e w3 ⟨rfl,R3,K3⟩
 have S3:=HS2 _ R3
 go_wp2_with fail
 refine (rise_any _ S3 hrise).mono ?_
 rintro e w4 ⟨rfl,⟨it',f',S4,O4⟩,K4⟩
 have KK:Keep (hb3 b mb (.slice A n cap)) w w4:=by
  have hs:∀ k,k<w.heap.size->(k=g'\/k=mb)->hb3 b mb (.slice A n cap) k:=by
   rintro k hk (rfl|rfl)
   ·rcases hg2.2 with e|e
    ·exact Or.inr (Or.inr e)
    ·omega
   ·exact Or.inr (Or.inl rfl)
  exact (K2.trans K3 hs).trans K4 hs
 clear K2 K3 K4 R3 S3 P1 HS2 R2
 go_wp2
 go_ret
 exact ⟨rfl,⟨_,⟨it',f',S4,O4⟩,hloc2⟩,KK⟩
end
section
open Go.RowKit
set_option maxHeartbeats 1000000 in
theorem pop_none {b mb:Nat}{v:Value}{H:Int->Option (Int × Int)}(w:World)(h:HeapAt w b mb v 0 H) :
  Calls Tryz.prog 132 #[.pointer (some ⟨b,0,none⟩)] w fun e w'=>e=.returned (.tuple #[.int .i64 0,.agg #[.int .i64 0,.int .i64 0],.bool false])/\Below w.heap.size w w':=by
 obtain ⟨it,f,S,O⟩:=h.ex
 have c0:=S.rep.c0
 have hb:=S.rep.blocks.1
 have hv:∃ A cap,v=.slice A 0 cap:=by
  obtain ⟨xs,ho,_⟩:=S.rep.row
  rcases ho.2 with ⟨rfl,_⟩|⟨g,cap,cur,rfl,_⟩
  ·exact ⟨_,_,rfl⟩
  ·exact ⟨_,_,rfl⟩
 obtain ⟨A,cap,rfl⟩:=hv
 clear S O h
 go_enter Tryz.func132,Tryz.ntmps132
 go_wp2
 exact bodyPost_ret (v:=.tuple #[.int .i64 0,.agg #[.int .i64 0,.int .i64 0],.bool false]) (by simp [results,Tryz.results132,go_sem]) rfl ⟨rfl,(Below.refl _ _).alloc (Nat.le_refl _) _⟩
theorem Row.shrink {w:World}{g m cap:Nat}{it:Nat->Item}(h:Row w (.slice (some ⟨g,0,none⟩) (m+1) cap) (m+1) it):Row w (.slice (some ⟨g,0,none⟩) m cap) m it:=by
 obtain ⟨xs,ho,hx⟩:=h
 have hl:xs.length=(m+1)*3:=ho.1
 rcases ho.2 with ⟨h',_⟩|⟨g',cap',cur,h',hb,hg,hnc,hcm,hcs,htake⟩
 ·cases h'
 ·cases h'
  refine ⟨xs.take (m*3),⟨by rw [List.length_take];omega,.inr ⟨g,cap,cur,rfl,hb,hg,by omega,hcm,hcs,?_⟩⟩,fun i hi=>?_⟩
  ·rw [<- htake,List.take_take];congr 1;omega
  ·obtain ⟨a1,a2,a3⟩:=hx i (by omega)
   refine ⟨?_,?_,?_⟩
   ·rw [List.getElem?_take,if_pos (by omega)];exact a1
   ·rw [List.getElem?_take,if_pos (by omega)];exact a2
   ·rw [List.getElem?_take,if_pos (by omega)];exact a3
theorem AtF.pop {it:Nat->Item}{m:Nat}{f:Int->Option Value}(h:AtF it (m+1) f)(hm:0<m):AtF (updI it 0 (it m)) m (putF (delF f (it 0).id) (it m).id (.int .i64 (0:Nat))):=by
 have hp:=h.apart
 refine ⟨fun k hk=>?_,fun a v hv=>?_⟩
 ·by_cases e1:k=0
  ·subst e1;rw [updI_i,putF_same]
  ·rw [updI_k it _ e1,putF_other _ _ (fun e=>by have:=hp k m (by omega) (by omega) e;omega),delF_other _ (fun e=>e1 (hp k 0 (by omega) (by omega) e))]
   exact h.at' k (by omega)
 ·unfold putF at hv
  split at hv
  ·rename_i e;cases hv;exact ⟨0,hm,by rw [updI_i];exact e.symm,rfl⟩
  ·rename_i e
   unfold delF at hv
   split at hv
   ·cases hv
   ·rename_i e2
    obtain ⟨k,hk,ea,ev⟩:=h.of a v hv
    have k0:k≠0:=fun q=>e2 (by rw [<- ea,q])
    have km:k≠m:=fun q=>e (by rw [<- ea,q])
    exact ⟨k,by omega,by rw [updI_k it _ k0];exact ea,ev⟩
structure Fr (w:World) (N:Nat) (x y:Item):Prop where
 a0:w.cell? ⟨N,0,none⟩=some (.int .i64 0)
 a1:w.cell? ⟨N,1,none⟩=some (.int .i64 0)
 f0:w.frozen? ⟨N,0,none⟩=false
 f1:w.frozen? ⟨N,1,none⟩=false
 b0:w.cell? ⟨N+1,0,none⟩=some (.int .i64 x.id)
 b1:w.cell? ⟨N+1,1,none⟩=some (.int .i64 x.s)
 b2:w.cell? ⟨N+1,2,none⟩=some (.int .i64 x.d)
 c0:w.cell? ⟨N+1+1,0,none⟩=some (.int .i64 y.id)
 c1:w.cell? ⟨N+1+1,1,none⟩=some (.int .i64 y.s)
 c2:w.cell? ⟨N+1+1,2,none⟩=some (.int .i64 y.d)
theorem Fr.keep {F:Nat->Prop}{w w':World}{N:Nat}{x y:Item}(h:Fr w N x y)(K:Keep F w w')(hN:N+3<=w.heap.size)(hF:∀ k,N<=k->¬ F k):Fr w' N x y:=by
 have g0:∀ o,w'.cell? ⟨N,o,none⟩=w.cell? ⟨N,o,none⟩:=fun o=>K.cell (p:=⟨N,o,none⟩) (by show N<_;omega) (hF N (by omega))
 have g1:∀ o,w'.cell? ⟨N+1,o,none⟩=w.cell? ⟨N+1,o,none⟩:=fun o=>K.cell (p:=⟨N+1,o,none⟩) (by show N+1<_;omega) (hF (N+1) (by omega))
 have g2:∀ o,w'.cell? ⟨N+1+1,o,none⟩=w.cell? ⟨N+1+1,o,none⟩:=fun o=>K.cell (p:=⟨N+1+1,o,none⟩) (by show N+1+1<_;omega) (hF (N+1+1) (by omega))
 have g3:∀ o,w'.frozen? ⟨N,o,none⟩=w.frozen? ⟨N,o,none⟩:=fun o=>K.frozen (p:=⟨N,o,none⟩) (by show N<_;omega) (hF N (by omega))
 exact ⟨(g0 0).trans h.a0,(g0 1).trans h.a1,(g3 0).trans h.f0,(g3 1).trans h.f1,(g1 0).trans h.b0,(g1 1).trans h.b1,(g1 2).trans h.b2,(g2 0).trans h.c0,(g2 1).trans h.c1,(g2 2).trans h.c2⟩
theorem popWorld {b mb g m cap:Nat}(w:World)(x y:Item){v:Value}(hb:b<w.heap.size)(c0:w.cell? ⟨b,0,none⟩=some v)(c1:w.cell? ⟨b,1,none⟩=some (.map (some mb)))(f0:w.frozen? ⟨b,0,none⟩=false) :
  ∃ W1:World,W1=((((w.alloc (.cells #[.int .i64 0,.int .i64 0] 53)).alloc (.cells #[.int .i64 x.id,.int .i64 x.s,.int .i64 x.d] 263)).alloc (.cells #[.int .i64 y.id,.int .i64 y.s,.int .i64 y.d] 263)).setCell ⟨b,0,none⟩ (.slice (some ⟨g,0,none⟩) m cap)) /\
   Keep (fun k=>k=b) w W1/\W1.heap.size=w.heap.size+3/\W1.cell? ⟨b,0,none⟩=some (.slice (some ⟨g,0,none⟩) m cap)/\W1.cell? ⟨b,1,none⟩=some (.map (some mb))/\W1.frozen? ⟨b,0,none⟩=false/\Fr W1 w.heap.size x y:=by
 have z1:(w.alloc (.cells #[.int .i64 0,.int .i64 0] 53)).heap.size=w.heap.size+1:=by simp
 have z2:((w.alloc (.cells #[.int .i64 0,.int .i64 0] 53)).alloc (.cells #[.int .i64 x.id,.int .i64 x.s,.int .i64 x.d] 263)).heap.size=w.heap.size+1+1:=by simp
 have k3:Below w.heap.size w (((w.alloc (.cells #[.int .i64 0,.int .i64 0] 53)).alloc (.cells #[.int .i64 x.id,.int .i64 x.s,.int .i64 x.d] 263)).alloc (.cells #[.int .i64 y.id,.int .i64 y.s,.int .i64 y.d] 263)):=(((Below.refl _ _).alloc (Nat.le_refl _) _).alloc (by simp) _).alloc (by simp;omega) _
 have F3:Fr (((w.alloc (.cells #[.int .i64 0,.int .i64 0] 53)).alloc (.cells #[.int .i64 x.id,.int .i64 x.s,.int .i64 x.d] 263)).alloc (.cells #[.int .i64 y.id,.int .i64 y.s,.int .i64 y.d] 263)) w.heap.size x y:=by
  have p0:∀ o,(((w.alloc (.cells #[.int .i64 0,.int .i64 0] 53)).alloc (.cells #[.int .i64 x.id,.int .i64 x.s,.int .i64 x.d] 263)).alloc (.cells #[.int .i64 y.id,.int .i64 y.s,.int .i64 y.d] 263)).cell? ⟨w.heap.size,o,none⟩=(w.alloc (.cells #[.int .i64 0,.int .i64 0] 53)).cell? ⟨w.heap.size,o,none⟩:=fun o=>by
   rw [((Below.refl _ ((w.alloc (.cells #[.int .i64 0,.int .i64 0] 53)).alloc (.cells #[.int .i64 x.id,.int .i64 x.s,.int .i64 x.d] 263))).alloc (Nat.le_refl _) _).cell (p:=⟨w.heap.size,o,none⟩) (by rw [z2];show w.heap.size<_;omega),((Below.refl _ (w.alloc (.cells #[.int .i64 0,.int .i64 0] 53))).alloc (Nat.le_refl _) _).cell (p:=⟨w.heap.size,o,none⟩) (by rw [z1];show w.heap.size<_;omega)]
  have p1:∀ o,(((w.alloc (.cells #[.int .i64 0,.int .i64 0] 53)).alloc (.cells #[.int .i64 x.id,.int .i64 x.s,.int .i64 x.d] 263)).alloc (.cells #[.int .i64 y.id,.int .i64 y.s,.int .i64 y.d] 263)).cell? ⟨w.heap.size+1,o,none⟩=((w.alloc (.cells #[.int .i64 0,.int .i64 0] 53)).alloc (.cells #[.int .i64 x.id,.int .i64 x.s,.int .i64 x.d] 263)).cell? ⟨w.heap.size+1,o,none⟩:=fun o=>by
   rw [((Below.refl _ ((w.alloc (.cells #[.int .i64 0,.int .i64 0] 53)).alloc (.cells #[.int .i64 x.id,.int .i64 x.s,.int .i64 x.d] 263))).alloc (Nat.le_refl _) _).cell (p:=⟨w.heap.size+1,o,none⟩) (by rw [z2];show w.heap.size+1<_;omega)]
  refine ⟨?_,?_,?_,?_,?_,?_,?_,?_,?_,?_⟩
  ·rw [p0];exact World.cell?_alloc_at _ _ _ 0 rfl
  ·rw [p0];exact World.cell?_alloc_at _ _ _ 1 rfl
  ·rw [frozen?_alloc_cells,frozen?_alloc_cells,frozen?_alloc_cells];unfold World.frozen?;rw [Array.getElem?_eq_none (Nat.le_refl _)]
  ·rw [frozen?_alloc_cells,frozen?_alloc_cells,frozen?_alloc_cells];unfold World.frozen?;rw [Array.getElem?_eq_none (Nat.le_refl _)]
  ·rw [p1];exact World.cell?_alloc_at _ _ _ 0 z1.symm
  ·rw [p1];exact World.cell?_alloc_at _ _ _ 1 z1.symm
  ·rw [p1];exact World.cell?_alloc_at _ _ _ 2 z1.symm
  ·exact World.cell?_alloc_at _ _ _ 0 z2.symm
  ·exact World.cell?_alloc_at _ _ _ 1 z2.symm
  ·exact World.cell?_alloc_at _ _ _ 2 z2.symm
 have K0:=Keep.of_below (F:=fun k=>k=b) k3
 have Kb:Keep (fun k=>k=b) _ _:=(Keep.refl (fun k=>k=b) (((w.alloc (.cells #[.int .i64 0,.int .i64 0] 53)).alloc (.cells #[.int .i64 x.id,.int .i64 x.s,.int .i64 x.d] 263)).alloc (.cells #[.int .i64 y.id,.int .i64 y.s,.int .i64 y.d] 263))).setCell (p:=⟨b,0,none⟩) (fun _=>rfl) (.slice (some ⟨g,0,none⟩) m cap)
 refine ⟨_,rfl,K0.trans Kb (fun _ _ h=>h),by simp,World.cell?_setCell_same _ _ _ ((k3.cell (p:=⟨b,0,none⟩) hb).trans c0),?_,?_,F3.keep Kb (by simp) (fun k hk e=>by omega)⟩
 ·rw [World.cell?_setCell_other _ _ _ _ (by intro e;cases e)]
  exact (k3.cell (p:=⟨b,1,none⟩) hb).trans c1
 ·rw [World.frozen?_setCell]
  exact (k3.frozen (p:=⟨b,0,none⟩) hb).trans f0
theorem popCells (W:World)(N:Nat)(s d:Int)(a0:W.cell? ⟨N,0,none⟩=some (.int .i64 0))(a1:W.cell? ⟨N,1,none⟩=some (.int .i64 0)) :
  ((W.setCell ⟨N,0,none⟩ (.int .i64 s)).setCell ⟨N,1,none⟩ (.int .i64 d)).cell? ⟨N,0,none⟩=some (.int .i64 s)/\((W.setCell ⟨N,0,none⟩ (.int .i64 s)).setCell ⟨N,1,none⟩ (.int .i64 d)).cell? ⟨N,1,none⟩=some (.int .i64 d):=by
 constructor
 ·rw [World.cell?_setCell_other _ _ _ _ (by intro e;cases e)];exact World.cell?_setCell_same _ _ _ a0
 ·refine World.cell?_setCell_same _ _ _ (u:=.int .i64 0) ?_
  rw [World.cell?_setCell_other _ _ _ _ (by intro e;cases e)];exact a1
set_option maxHeartbeats 1000000 in
set_option maxRecDepth 1000000 in
theorem pop_one {b mb m:Nat}{v:Value}{H:Int->Option (Int × Int)}(w:World)(h:HeapAt w b mb v (m+1) H) :
  Calls Tryz.prog 132 #[.pointer (some ⟨b,0,none⟩)] w fun e w'=>∃ a s d,e=.returned (.tuple #[.int .i64 a,.agg #[.int .i64 s,.int .i64 d],.bool true])/\H a=some (s,d)/\(∀ a' s' d',H a'=some (s',d')->¬ bef ⟨a',s',d'⟩ ⟨a,s,d⟩)/\(∃ v',HeapAt w' b mb v' m (delH H a)/\v'.ownBlock=v.ownBlock)/\Keep (hb3 b mb v) w w':=by
 obtain ⟨it,f,S,O⟩:=h.ex
 obtain ⟨g,cap,rfl,hcap,hmax,hg⟩:=S.rep.row.pos (by omega)
 obtain ⟨hb,hmb,hbm,hgs⟩:=S.rep.blocks
 obtain ⟨_,hgb,hgm⟩:=hgs g rfl
 obtain ⟨q1,q2,q3⟩:=S.rep.row.cells (show 0<m+1 by omega)
 obtain ⟨p1,p2,p3⟩:=S.rep.row.cells (show m<m+1 by omega)
 have hbd:=S.bd
 have c0:=S.rep.c0
 have c1:=S.rep.c1
 have f0:=S.rep.f0
 have h0:H (it 0).id=some ((it 0).s,(it 0).d):=S.holds.at (by omega)
 have hmin:∀ a' s' d',H a'=some (s',d')->¬ bef ⟨a',s',d'⟩ (it 0):=fun a' s' d' h=>S.holds.least O h
 have hcap':((m:Nat):Int)<=(cap:Int):=by omega
 unfold maxLen at hmax
 simp only [Nat.zero_mul] at q1 q2 q3
 have k3:∀ A B C:Obj,Below w.heap.size w (((w.alloc A).alloc B).alloc C):=fun A B C=>(((Below.refl _ _).alloc (Nat.le_refl _) _).alloc (by simp) _).alloc (by simp;omega) _
 have e3:∀ A B C:Obj,(((w.alloc A).alloc B).alloc C).cell? ⟨b,0,none⟩=some (.slice (some ⟨g,0,none⟩) (m+1) cap):=fun A B C=>((k3 A B C).cell (p:=⟨b,0,none⟩) hb).trans c0
 have e4:∀ A B C:Obj,(((w.alloc A).alloc B).alloc C).frozen? ⟨b,0,none⟩=false:=fun A B C=>((k3 A B C).frozen (p:=⟨b,0,none⟩) hb).trans f0
 clear k3
 have HW:=popWorld (g:=g) (m:=m) (cap:=cap) w (it 0) (it m) hb c0 c1 f0
 obtain ⟨W1,eW,K1,z1,d0,d1,df,fr⟩:=HW
 have row1:Row W1 (.slice (some ⟨g,0,none⟩) m cap) m it:=S.rep.row.shrink.keep K1 (fun q hq=>by simp only [Value.ownBlock,Option.some.injEq] at hq;rw [<- hq];exact hgb)
 have map1:MapF Tryz.prog 3 W1.drew mb f (m+1):=(S.rep.map.keep K1 (fun e=>hbm e.symm)).kept rfl
 have hwf0:=S.wf 0 (by omega)
 have hwfm:=S.wf m (by omega)
 have hf0:=S.atf.at' 0 (by omega)
 obtain ⟨W2,hrun,M2,T2⟩:=map1.drop (t:=129) law3 Tryz.under51 hwf0 0
 have em:(if (f (it 0).id).isSome then m+1 - 1 else m+1)=m:=by rw [hf0];rfl
 rw [em] at M2
 have K2:Keep (fun k=>k=mb) W1 W2:=(Keep.refl (fun k=>k=mb) W1).drew.trans (turned_keep T2) (fun _ _ h=>h)
 have z2:w.heap.size+3<=W2.heap.size:=by have:=K2.size;omega
 have KA:Keep (hb3 b mb (.slice (some ⟨g,0,none⟩) (m+1) cap)) w W2:=(K1.mono (G:=hb3 b mb (.slice (some ⟨g,0,none⟩) (m+1) cap)) (fun _ _ h=>Or.inl h)).trans K2 (fun _ _ h=>Or.inr (Or.inl h))
 have fr2:=fr.keep K2 (by omega) (fun k hk e=>by omega)
 have R2:Rep W2 b mb (.slice (some ⟨g,0,none⟩) m cap) m it (delF f (it 0).id) m:=by
  refine ⟨(K2.cell (p:=⟨b,0,none⟩) (by show b<_;omega) hbm).trans d0,(K2.cell (p:=⟨b,1,none⟩) (by show b<_;omega) hbm).trans d1,(K2.frozen (p:=⟨b,0,none⟩) (by show b<_;omega) hbm).trans df,row1.keep K2 (fun q hq=>?_),M2,S.rep.nb⟩
  simp only [Value.ownBlock,Option.some.injEq] at hq;rw [<- hq];exact hgm
 have b0:=fr.b0
 clear map1 M2 T2 K1 K2 row1 df
 go_enter Tryz.func132,Tryz.ntmps132
 go_wp2
 rw [<- eW]
 clear eW e3 e4 c0 c1 f0 q1 q2 q3 p1 p2 p3
 go_region
 clear hrun b0 d0 d1
 by_cases hm:m=0
 ·subst hm
  obtain ⟨a0,a1,g0,g1,b0,b1,b2,l0,l1,l2⟩:=fr2
  have HF:HeapAt ((W2.setCell ⟨w.heap.size,0,none⟩ (.int .i64 (it 0).s)).setCell ⟨w.heap.size,1,none⟩ (.int .i64 (it 0).d)).drew b mb (.slice (some ⟨g,0,none⟩) 0 cap) 0 (delH H (it 0).id)/\Keep (hb3 b mb (.slice (some ⟨g,0,none⟩) (0+1) cap)) w ((W2.setCell ⟨w.heap.size,0,none⟩ (.int .i64 (it 0).s)).setCell ⟨w.heap.size,1,none⟩ (.int .i64 (it 0).d)).drew:=by
   have kk:Keep (fun k=>k=w.heap.size) W2 ((W2.setCell ⟨w.heap.size,0,none⟩ (.int .i64 (it 0).s)).setCell ⟨w.heap.size,1,none⟩ (.int .i64 (it 0).d)).drew:=(((Keep.refl (fun k=>k=w.heap.size) W2).setCell (p:=⟨w.heap.size,0,none⟩) (fun _=>rfl) _).setCell (p:=⟨w.heap.size,1,none⟩) (fun _=>rfl) _).drew
   refine ⟨⟨it,delF f (it 0).id,⟨R2.keep kk (by omega) (by omega) (fun q hq=>?_),⟨fun i hi=>by omega,fun a v hv=>?_⟩,fun i hi=>by omega,fun i hi=>by omega,fun a s d=>⟨fun hh=>?_,fun ⟨i,hi,_⟩=>by omega⟩,by omega⟩,fun j _ hj=>by omega⟩,KA.trans kk (fun i hi e=>by omega)⟩
   ·simp only [Value.ownBlock,Option.some.injEq] at hq;omega
   ·unfold delF at hv
    split at hv
    ·cases hv
    ·rename_i e
     obtain ⟨i,hi,ea,_⟩:=S.atf.of a v hv
     have:i=0:=by omega
     subst this
     exact absurd ea.symm e
   ·unfold delH at hh
    split at hh
    ·cases hh
    ·rename_i e
     obtain ⟨i,hi,ea⟩:=(S.holds a s d).mp hh
     have:i=0:=by omega
     subst this
     exact absurd (by rw [ea]) (fun q:(it 0).id=a=>e q.symm)
  clear KA R2 S O h hgs
  have r0:=popCells W2 w.heap.size (it 0).s (it 0).d a0 a1
  go_wp2
  go_region
  go_wp2
  exact bodyPost_ret (v:=.tuple #[.int .i64 (it 0).id,.agg #[.int .i64 (it 0).s,.int .i64 (it 0).d],.bool true]) (by simp [results,Tryz.results132,go_sem,r0.1,r0.2]) rfl ⟨_,_,_,rfl,h0,hmin,⟨_,HF.1,rfl⟩,HF.2⟩
 ·have hm0:0<m:=by omega
  have hm1:(0:Int)<(m:Int):=by omega
  have hidne:(it m).id≠(it 0).id:=fun e=>hm (S.atf.apart m 0 (by omega) (by omega) e)
  have em2:(if (delF f (it 0).id (it m).id).isSome then m else m+1)=m:=by rw [delF_other _ hidne,S.atf.at' m (by omega)];rfl
  have P1:=fun w R=>put_any (b:=b) (mb:=mb) (g:=g) (cap:=cap) (n:=m) (m:=m) (it:=it) (f:=delF f (it 0).id) 0 (it m).id (it m).s (it m).d w R hm0 (by omega) hwfm
  rw [em2] at P1
  have HS2:∀ w',Rep w' b mb (.slice (some ⟨g,0,none⟩) m cap) m (updI it 0 (it m)) (putF (delF f (it 0).id) (it m).id (.int .i64 (0:Nat))) m->HS w' b mb (.slice (some ⟨g,0,none⟩) m cap) m (updI it 0 (it m)) (putF (delF f (it 0).id) (it m).id (.int .i64 (0:Nat))) (delH H (it 0).id):=by
   intro w' R
   refine ⟨R,S.atf.pop hm0,fun k hk=>?_,fun k hk=>?_,S.holds.pop S.atf.apart,by omega⟩
   ·by_cases ek:k=0
    ·subst ek;rw [updI_i];exact hwfm
    ·rw [updI_k it _ ek];exact S.wf k (by omega)
   ·by_cases ek:k=0
    ·subst ek;rw [updI_i];exact S.ok m (by omega)
    ·rw [updI_k it _ ek];exact S.ok k (by omega)
  have hsink:Sinking (updI it 0 (it m)) m 0:=Sinking.first O _
  obtain ⟨a0,a1,g0,g1,b0,b1,b2,l0,l1,l2⟩:=fr2
  clear S O h hgs em em2 hf0 fr
  go_wp2_with fail
  refine (P1 _ R2).mono ?_
  rintro e W3 ⟨rfl,R3,K3⟩
  have S3:=HS2 _ R3
  go_wp2_with fail
  refine (sink_any _ S3 hm0 hsink).mono ?_
  rintro e W4 ⟨rfl,⟨it',f',S4,O4⟩,K4⟩
  have K5:Keep (fun k=>k=g\/k=mb) W2 W4:=K3.trans K4 (fun _ _ h=>h)
  obtain ⟨a0,a1,g0,g1,b0,b1,b2,l0,l1,l2⟩:=(Fr.mk a0 a1 g0 g1 b0 b1 b2 l0 l1 l2:Fr W2 w.heap.size (it 0) (it m)).keep K5 z2 (fun k hk e=>by omega)
  have z4:w.heap.size+3<=W4.heap.size:=by have:=K5.size;omega
  have KB:Keep (hb3 b mb (.slice (some ⟨g,0,none⟩) (m+1) cap)) w W4:=KA.trans K5 (fun k _ e=>by
   rcases e with rfl|rfl
   ·exact Or.inr (Or.inr rfl)
   ·exact Or.inr (Or.inl rfl))
  have HF:HeapAt ((W4.setCell ⟨w.heap.size,0,none⟩ (.int .i64 (it 0).s)).setCell ⟨w.heap.size,1,none⟩ (.int .i64 (it 0).d)).drew b mb (.slice (some ⟨g,0,none⟩) m cap) m (delH H (it 0).id)/\Keep (hb3 b mb (.slice (some ⟨g,0,none⟩) (m+1) cap)) w ((W4.setCell ⟨w.heap.size,0,none⟩ (.int .i64 (it 0).s)).setCell ⟨w.heap.size,1,none⟩ (.int .i64 (it 0).d)).drew:=by
   have kk:Keep (fun k=>k=w.heap.size) W4 ((W4.setCell ⟨w.heap.size,0,none⟩ (.int .i64 (it 0).s)).setCell ⟨w.heap.size,1,none⟩ (.int .i64 (it 0).d)).drew:=(((Keep.refl (fun k=>k=w.heap.size) W4).setCell (p:=⟨w.heap.size,0,none⟩) (fun _=>rfl) _).setCell (p:=⟨w.heap.size,1,none⟩) (fun _=>rfl) _).drew
   have hh:HeapAt W4 b mb (.slice (some ⟨g,0,none⟩) m cap) m (delH H (it 0).id):=⟨it',f',S4,O4⟩
   exact ⟨hh.keep kk (by omega) (by omega) (fun q hq=>by simp only [Value.ownBlock,Option.some.injEq] at hq;omega),KB.trans kk (fun i hi e=>by omega)⟩
  have r0:=popCells W4 w.heap.size (it 0).s (it 0).d a0 a1
  clear KA KB K3 K4 K5 R2 R3 S3 S4 P1 HS2
  go_wp2
  go_region
  go_wp2
  exact bodyPost_ret (v:=.tuple #[.int .i64 (it 0).id,.agg #[.int .i64 (it 0).s,.int .i64 (it 0).d],.bool true]) (by simp [results,Tryz.results132,go_sem,r0.1,r0.2]) rfl ⟨_,_,_,rfl,h0,hmin,⟨_,HF.1,rfl⟩,HF.2⟩
end
section
open Go.RowKit
def pushB (H:Int->Option (Int × Int)) (a s d:Int):Bool:=match H a with|none=>true|some c=>decide (val s d<val c.1 c.2)
def pushH (H:Int->Option (Int × Int)) (a s d:Int):Int->Option (Int × Int):=if pushB H a s d then putH H a s d else H
theorem pushed (H:Int->Option (Int × Int))(a s d:Int):Pushed H a s d (pushH H a s d):=by
 unfold Pushed pushH pushB
 cases ha:H a with
 |none=>left;exact ⟨rfl,fun h=>(by cases h)⟩
 |some c =>
  obtain ⟨t,u⟩:=c
  by_cases hv:val s d<val t u
  ·left
   refine ⟨by simp [hv],fun h=>?_⟩
   cases h;exact hv
  ·right
   exact ⟨by simp [hv],t,u,rfl,by omega⟩
def HeapTo (w w':World) (b mb:Nat) (v:Value) (n:Nat) (H:Int->Option (Int × Int)):Prop :=
 ∃ v' n',HeapAt w' b mb v' n' H/\n'<=n+1/\∀ g,v'.ownBlock=some g->v.ownBlock=some g\/w.heap.size<=g
theorem push_all {b mb n:Nat}{v:Value}{H:Int->Option (Int × Int)}(a s d:Int)(w:World)(h:HeapAt w b mb v n H)(hc:okC s d)(hwf:(Lit.int .i64 a).wf=true)(hn:n<1000000) :
  Calls Tryz.prog 202 #[.pointer (some ⟨b,0,none⟩),.int .i64 a,.agg #[.int .i64 s,.int .i64 d]] w fun e w'=>e=.returned (.bool (pushB H a s d))/\HeapTo w w' b mb v n (pushH H a s d)/\Keep (hb3 b mb v) w w':=by
 cases ha:H a with
 |none =>
  have e1:pushB H a s d=true:=by unfold pushB;rw [ha]
  have e2:pushH H a s d=putH H a s d:=by unfold pushH;rw [e1];rfl
  rw [e1,e2]
  exact (push_new a s d w h ha hc hwf hn).mono fun e w' ⟨he,⟨v',h',hl⟩,K⟩=>⟨he,⟨v',n+1,h',Nat.le_refl _,fun g hg=>by
   rcases hl with hl|⟨g',hl,hg'⟩
   ·exact Or.inl (by rw [<- hl];exact hg)
   ·rw [hl] at hg;cases hg;exact Or.inr hg'⟩,K⟩
 |some c =>
  obtain ⟨t,u⟩:=c
  by_cases hv:val s d<val t u
  ·have e1:pushB H a s d=true:=by unfold pushB;rw [ha];exact decide_eq_true hv
   have e2:pushH H a s d=putH H a s d:=by unfold pushH;rw [e1];rfl
   rw [e1,e2]
   exact (push_less a s d t u w h ha hc hv).mono fun e w' ⟨he,h',K⟩=>⟨he,⟨v,n,h',Nat.le_succ _,fun g hg=>Or.inl hg⟩,K⟩
  ·have e1:pushB H a s d=false:=by unfold pushB;rw [ha];exact decide_eq_false hv
   have e2:pushH H a s d=H:=by unfold pushH;rw [e1];rfl
   rw [e1,e2]
   exact (push_no a s d t u w h ha hc hv).mono fun e w' ⟨he,hb⟩=>⟨he,⟨v,n,h.below hb,Nat.le_succ _,fun g hg=>Or.inl hg⟩,Keep.of_below hb⟩
theorem hb3_lt {w:World}{b mb n:Nat}{v:Value}{H:Int->Option (Int × Int)}(h:HeapAt w b mb v n H){k:Nat}(hk:hb3 b mb v k):k<w.heap.size:=by
 obtain ⟨h1,h2,h3⟩:=h.blocks
 rcases hk with rfl|rfl|hk
 ·exact h1
 ·exact h2
 ·exact h3 k hk
end
section
structure Dg (Ed:Int->Int->Int->Int->Prop) (o:Int) (F H:Int->Option (Int × Int)) (D:Int->Int->Prop):Prop where
 sF:∀ {a s d},F a=some (s,d)->Wg Ed o a s d
 sH:∀ {a s d},H a=some (s,d)->Wg Ed o a s d
 off:∀ {a s d},H a=some (s,d)->F a=none
 home:(∃ s d,F o=some (s,d)/\val s d<=0)\/∃ s d,H o=some (s,d)/\val s d<=0
 mono:∀ {a s d b t u},F a=some (s,d)->H b=some (t,u)->val s d<=val t u
 edge:∀ {a b s d t u},F a=some (s,d)->Ed a b t u->D a b->(∃ s' d',F b=some (s',d')/\val s' d'<=val (s+t) (d+u))\/∃ s' d',H b=some (s',d')/\val s' d'<=val (s+t) (d+u)
section
variable {Ed : Int → Int → Int → Int → Prop} {o a b s d t u : Int} {F H H' : Int → Option (Int × Int)} {D D' : Int → Int → Prop}
theorem putH_at (F:Int->Option (Int × Int))(a s d:Int):putH F a s d a=some (s,d):=if_pos rfl
theorem putH_off (F:Int->Option (Int × Int)){a i:Int}(s d:Int)(h:i≠a):putH F a s d i=F i:=if_neg h
theorem delH_at (F:Int->Option (Int × Int))(a:Int):delH F a a=none:=if_pos rfl
theorem delH_off (F:Int->Option (Int × Int)){a i:Int}(h:i≠a):delH F a i=F i:=if_neg h
theorem Dg.start (Ed:Int->Int->Int->Int->Prop)(o:Int):Dg Ed o (fun _=>none) (putH (fun _=>none) o 0 0) (fun _ _=>True):=by
 refine ⟨fun h=>(by cases h),fun {a s d} h=>?_,fun _=>rfl,Or.inr ⟨0,0,putH_at _ _ _ _,by decide⟩,fun h=>(by cases h),fun h=>(by cases h)⟩
 by_cases e:a=o
 ·subst e
  rw [putH_at] at h
  cases h
  exact Wg.nil
 ·rw [putH_off _ _ _ e] at h;cases h
theorem Dg.pop (h:Dg Ed o F H (fun _ _=>True))(ha:H a=some (s,d))(hm:∀ {b t u},H b=some (t,u)->val s d<=val t u):Dg Ed o (putH F a s d) (delH H a) (fun x _=>x≠a)/\F a=none/\∀ {x t u},putH F a s d x=some (t,u)->val t u<=val s d:=by
 have hFa:=h.off ha
 refine ⟨⟨fun {x p q} hx=>?_,fun {x p q} hx=>?_,fun {x p q} hx=>?_,?_,fun {x p q y t u} hx hy=>?_,fun {x y p q t u} hx e hD=>?_⟩,hFa,fun {x t u} hx=>?_⟩
 ·by_cases e:x=a
  ·subst e;rw [putH_at] at hx;cases hx;exact h.sH ha
  ·rw [putH_off _ _ _ e] at hx;exact h.sF hx
 ·by_cases e:x=a
  ·subst e;rw [delH_at] at hx;cases hx
  ·rw [delH_off _ e] at hx;exact h.sH hx
 ·by_cases e:x=a
  ·subst e;rw [delH_at] at hx;cases hx
  ·rw [delH_off _ e] at hx;rw [putH_off _ _ _ e];exact h.off hx
 ·rcases h.home with ⟨p,q,h1,h2⟩|⟨p,q,h1,h2⟩
  ·left
   exact ⟨p,q,by rw [putH_off _ _ _ (fun e=>by rw [e,hFa] at h1;cases h1)];exact h1,h2⟩
  ·by_cases e:o=a
   ·left;subst e
    rw [ha] at h1;cases h1
    exact ⟨s,d,putH_at _ _ _ _,h2⟩
   ·right;exact ⟨p,q,by rw [delH_off _ e];exact h1,h2⟩
 ·have e2:y≠a:=fun e=>by rw [e,delH_at] at hy;cases hy
  rw [delH_off _ e2] at hy
  by_cases e:x=a
  ·subst e;rw [putH_at] at hx;cases hx;exact hm hy
  ·rw [putH_off _ _ _ e] at hx;exact h.mono hx hy
 ·have hxa:x≠a:=hD
  rw [putH_off _ _ _ hxa] at hx
  rcases h.edge hx e trivial with ⟨p',q',h1,h2⟩|⟨p',q',h1,h2⟩
  ·left
   exact ⟨p',q',by rw [putH_off _ _ _ (fun e=>by rw [e,hFa] at h1;cases h1)];exact h1,h2⟩
  ·by_cases e:y=a
   ·left;subst e
    rw [ha] at h1;cases h1
    exact ⟨s,d,putH_at _ _ _ _,h2⟩
   ·right;exact ⟨p',q',by rw [delH_off _ e];exact h1,h2⟩
 ·by_cases e:x=a
  ·subst e;rw [putH_at] at hx;cases hx;exact Int.le_refl _
  ·rw [putH_off _ _ _ e] at hx;exact h.mono hx ha
theorem Pushed.three (hp:Pushed H b s d H'):(∃ p q,H' b=some (p,q)/\val p q<=val s d)/\(∀ x p q,H x=some (p,q)->∃ p' q',H' x=some (p',q')/\val p' q'<=val p q)/\∀ x p q,H' x=some (p,q)->H x=some (p,q)\/(x=b/\p=s/\q=d):=by
 rcases hp with ⟨rfl,h1⟩|⟨rfl,t,u,h1,h2⟩
 ·refine ⟨⟨s,d,putH_at _ _ _ _,Int.le_refl _⟩,fun x p q hx=>?_,fun x p q hx=>?_⟩
  ·by_cases e:x=b
   ·subst e
    have:=h1 hx
    exact ⟨s,d,putH_at _ _ _ _,by omega⟩
   ·exact ⟨p,q,by rw [putH_off _ _ _ e];exact hx,Int.le_refl _⟩
  ·by_cases e:x=b
   ·subst e;rw [putH_at] at hx;cases hx;exact Or.inr ⟨rfl,rfl,rfl⟩
   ·rw [putH_off _ _ _ e] at hx;exact Or.inl hx
 ·exact ⟨⟨t,u,h1,h2⟩,fun x p q hx=>⟨p,q,hx,Int.le_refl _⟩,fun x p q hx=>Or.inl hx⟩
theorem Dg.push (h:Dg Ed o F H D)(ha:F a=some (s,d))(hmx:∀ {x p q},F x=some (p,q)->val p q<=val s d)(e:Ed a b t u)(hv:0<=val t u)(hb:F b=none)(hp:Pushed H b (s+t) (d+u) H')(hu:∀ {t' u'},Ed a b t' u'->t'=t/\u'=u) :
  Dg Ed o F H' (fun x y=>D x y\/(x=a/\y=b)):=by
 have hadd:=val_add s d t u
 have hw:=(h.sF ha).step e
 have hp:=hp.three
 refine ⟨h.sF,fun {x p q} hx=>?_,fun {x p q} hx=>?_,?_,fun {x p q y p' q'} hx hy=>?_,fun {x y p q t' u'} hx e' hD=>?_⟩
 ·rcases hp.2.2 x p q hx with h1|⟨rfl,rfl,rfl⟩
  ·exact h.sH h1
  ·exact hw
 ·rcases hp.2.2 x p q hx with h1|⟨rfl,_,_⟩
  ·exact h.off h1
  ·exact hb
 ·rcases h.home with h1|⟨p,q,h1,h2⟩
  ·exact Or.inl h1
  ·right
   obtain ⟨p',q',h3,h4⟩:=hp.2.1 o p q h1
   exact ⟨p',q',h3,by omega⟩
 ·rcases hp.2.2 y p' q' hy with h1|⟨rfl,rfl,rfl⟩
  ·exact h.mono hx h1
  ·have:=hmx hx;omega
 ·have old:∀ {y t' u'},Ed x y t' u'->D x y->(∃ s' d',F y=some (s',d')/\val s' d'<=val (p+t') (q+u'))\/∃ s' d',H' y=some (s',d')/\val s' d'<=val (p+t') (q+u'):=fun {y t' u'} e' hD=>by
   rcases h.edge hx e' hD with h1|⟨p',q',h1,h2⟩
   ·exact Or.inl h1
   ·right
    obtain ⟨p2,q2,h3,h4⟩:=hp.2.1 y p' q' h1
    exact ⟨p2,q2,h3,by omega⟩
  rcases hD with hD|⟨rfl,rfl⟩
  ·exact old e' hD
  ·right
   obtain ⟨rfl,rfl⟩:=hu e'
   rw [ha] at hx;cases hx
   obtain ⟨p2,q2,h3,h4⟩:=hp.1
   exact ⟨p2,q2,h3,h4⟩
theorem Dg.pass (h:Dg Ed o F H D)(hmx:∀ {x p q},F x=some (p,q)->val p q<=val s d)(ha:F a=some (s,d))(hD:∀ {y t u},Ed a y t u->D' a y->D a y\/(F y≠none/\0<=val t u))(hD2:∀ {x y},x≠a->D' x y->D x y):Dg Ed o F H D':=by
 refine ⟨h.sF,h.sH,h.off,h.home,h.mono,fun {x y p q t' u'} hx e' hd=>?_⟩
 by_cases e:x=a
 ·subst e
  rcases hD e' hd with h1|⟨h1,h2⟩
  ·exact h.edge hx e' h1
  ·left
   rw [ha] at hx;cases hx
   cases hy:F y with
   |none=>exact absurd hy h1
   |some c =>
    have:=hmx (x:=y) (p:=c.1) (q:=c.2) hy
    exact ⟨c.1,c.2,rfl,by rw [val_add];omega⟩
 ·exact h.edge hx e' (hD2 e hd)
theorem Dg.within (h:Dg Ed o F H (fun _ _=>True)){M:Int}(hM:∀ {b t u},H b=some (t,u)->M<val t u)(h0:0<=M)(hn:∀ {a b t u},Ed a b t u->0<=val t u){x y:Int}(hxy:val x y<=M) :
  (∃ p q,Wg Ed o b p q/\val p q<=val x y)↔∃ p q,F b=some (p,q)/\val p q<=val x y:=by
 constructor
 ·rintro ⟨p,q,hw,hv⟩
  have key:val p q<=M->∃ p' q',F b=some (p',q')/\val p' q'<=val p q :=
   (hw (fun b p q=>Wg Ed o b p q/\(val p q<=M->∃ p' q',F b=some (p',q')/\val p' q'<=val p q)) ⟨Wg.nil,fun _=>by
    rcases h.home with h1|⟨p,q,h1,h2⟩
    ·exact h1
    ·have:=hM h1;omega⟩ (fun a s d b t u ⟨hwa,ih⟩ e=>⟨hwa.step e,fun hle=>by
    have hadd:=val_add s d t u
    have hv0:=hn e
    obtain ⟨p',q',h1,h2⟩:=ih (by omega)
    have hadd2:=val_add p' q' t u
    rcases h.edge h1 e trivial with ⟨p2,q2,h3,h4⟩|⟨p2,q2,h3,h4⟩
    ·exact ⟨p2,q2,h3,by omega⟩
    ·have:=hM h3;omega⟩)).2
  obtain ⟨p',q',h1,h2⟩:=key (by omega)
  exact ⟨p',q',h1,by omega⟩
 ·rintro ⟨p,q,h1,h2⟩
  exact ⟨p,q,h.sF h1,h2⟩
def potG (K:Nat) (B:Int->Option (Int × Int)):Nat->Nat
 |0=>0
 |N+1=>potG K B N+match B N with|some c=>(val c.1 c.2).toNat|none=>K
variable {B : Int → Option (Int × Int)} {K : Nat}
theorem potG_same (a s d:Int)(N:Nat)(h:(N:Int)<=a):potG K (putH B a s d) N=potG K B N:=by
 induction N with
 |zero=>rfl
 |succ N ih =>
  unfold potG
  rw [ih (by omega)]
  have:putH B a s d N=B N:=if_neg (by omega)
  rw [this]
theorem potG_put (a s d:Int)(N:Nat)(h0:0<=a)(h:a<N)(hv:0<=val s d)(hn:B a=none->(val s d).toNat<K)(hs:∀ s' d',B a=some (s',d')->val s d<val s' d'):potG K (putH B a s d) N<potG K B N:=by
 induction N with
 |zero=>omega
 |succ N ih =>
  unfold potG
  by_cases e:a=N
  ·rw [potG_same a s d N (by omega)]
   have h1:putH B a s d N=some (s,d):=if_pos e.symm
   rw [h1,<- e]
   cases hB:B a with
   |none =>
    have:=hn hB
    show potG K B N+(val s d).toNat<potG K B N+K
    omega
   |some c =>
    have:=hs c.1 c.2 hB
    show potG K B N+(val s d).toNat<potG K B N+(val c.1 c.2).toNat
    omega
  ·have h1:putH B a s d N=B N:=if_neg (fun q=>e q.symm)
   rw [h1]
   have:=ih (by omega)
   omega
theorem cntG_again (F:Int->Option (Int × Int))(a s d:Int)(N:Nat)(h:(F a).isSome=true):cnt (putH F a s d) N=cnt F N:=by
 induction N with
 |zero=>rfl
 |succ N ih =>
  unfold cnt
  rw [ih]
  by_cases e:(N:Int)=a
  ·have h1:putH F a s d N=some (s,d):=if_pos e
   rw [h1,e,h]
   rfl
  ·have h1:putH F a s d N=F N:=if_neg e
   rw [h1]
end
end
section
structure SS where
 F:Int->Option (Int × Int)
 A:Int->Option Int
 H:Int->Option (Int × Int)
def homeS:SS:=⟨fun _=>none,fun _=>none,fun _=>none⟩
def lowS (g:Int->Int × Int) (x:SS) (n s d:Int):SS:=if pushB x.F n s d=true then ⟨putH x.F n s d,x.A,pushH x.H n (s+(g n).1) (d+(g n).2)⟩ else x
def putA (A:Int->Option Int) (a n:Int):Int->Option Int:=fun i=>if i=a then some n else A i
def aheadS (x:SS) (a n:Int):SS:=⟨x.F,putA x.A a n,x.H⟩
def popS (x:SS) (n:Int):SS:=⟨x.F,x.A,delH x.H n⟩
def stepS (lv:LSt) (r:Nat) (g:Int->Int × Int) (n:Nat) (x:SS) (e:LE):SS :=
 if lv.lev n+r<=lv.lev e.to/\pushB x.F (e.to:Int) (((x.F (n:Int)).getD (0,0)).1+e.s) (((x.F (n:Int)).getD (0,0)).2+e.d)=true then
  aheadS (lowS g x (e.to:Int) (((x.F (n:Int)).getD (0,0)).1+e.s) (((x.F (n:Int)).getD (0,0)).2+e.d)) (e.to:Int) (n:Int) else x
def goS (lv:LSt) (r:Nat) (g:Int->Int × Int) (n:Nat) (x:SS):SS:=(lv.es n).foldl (stepS lv r g n) x
structure LvOk (L:List Nat) (lv:LSt):Prop where
 esy:Esy lv.es
 ends:∀ {a e},e ∈ lv.es a->a ∈ L/\e.to ∈ L
 bd:∀ {a e},e ∈ lv.es a->0<=e.s/\0<=e.d/\e.s<=512/\e.d<=512/\0<e.s+e.d
 small:∀ n ∈ L,n<256
structure SI (L:List Nat) (lv:LSt) (r:Nat) (g:Int->Int × Int) (src:Int->Int->Int->Prop) (P:Int->Int->Prop) (x:SS):Prop where
 lab:∀ {a s d},x.F a=some (s,d)->0<=a/\a.toNat ∈ L/\0<=s/\0<=d/\val s d<=97750727262208+(cnt x.F 256:Int)*47729847296
 snd:∀ {a s d},x.F a=some (s,d)->∃ o s0 d0 p q,src o s0 d0/\Wg (LvE lv r) o a p q/\s=s0+p/\d=d0+q
 ptr:∀ {a n},x.A a=some n->∃ s d s' d' t u,x.F n=some (s,d)/\x.F a=some (s',d')/\LvE lv r n a t u/\val s d+val t u<=val s' d'
 top:∀ {a s d},x.F a=some (s,d)->x.A a=none->src a s d
 hom:∀ {o s d},src o s d->∃ s' d',x.F o=some (s',d')/\val s' d'<=val s d
 key:∀ {a s d},x.H a=some (s,d)->∃ s' d',x.F a=some (s',d')/\s=s'+(g a).1/\d=d'+(g a).2
 don:∀ {a b s d t u},x.F a=some (s,d)->x.H a=none->P a b->LvE lv r a b t u->∃ s' d',x.F b=some (s',d')/\val s' d'<=val s d+val t u
theorem SI.big {L:List Nat}{lv:LSt}{r:Nat}{g:Int->Int × Int}{src:Int->Int->Int->Prop}{P:Int->Int->Prop}{x:SS}(h:SI L lv r g src P x){a s d:Int}(hF:x.F a=some (s,d)):0<=s/\0<=d/\s<=2847923/\d<=2847923/\val s d<=109969568169984:=by
 obtain ⟨_,_,h1,h2,h3⟩:=h.lab hF
 have hc:=cnt_le x.F 256
 have h4:val s d<=109969568169984:=by omega
 unfold val at h4 ⊢
 omega
theorem pushB_iff {F:Int->Option (Int × Int)}{a s d:Int}:pushB F a s d=true↔∀ s' d',F a=some (s',d')->val s d<val s' d':=by
 unfold pushB
 cases h:F a with
 |none=>exact ⟨fun _ _ _ e=>(by cases e),fun _=>rfl⟩
 |some c =>
  constructor
  ·intro h1 s' d' e
   cases e
   exact of_decide_eq_true h1
  ·intro h1
   exact decide_eq_true (h1 c.1 c.2 rfl)
theorem pushB_no {F:Int->Option (Int × Int)}{a s d:Int}(h:pushB F a s d=false):∃ s' d',F a=some (s',d')/\val s' d'<=val s d:=by
 unfold pushB at h
 cases h1:F a with
 |none=>rw [h1] at h;cases h
 |some c =>
  rw [h1] at h
  have:=of_decide_eq_false h
  exact ⟨c.1,c.2,rfl,by omega⟩
section
variable {L : List Nat} {lv : LSt} {r : Nat} {g : Int → Int × Int} {src src' : Int → Int → Int → Prop} {P : Int → Int → Prop} {D : Int → Prop} {x : SS}
theorem SI.pushH (h:SI L lv r g src P x){b s d:Int}(hb:pushB x.F b s d=true):pushH x.H b (s+(g b).1) (d+(g b).2)=putH x.H b (s+(g b).1) (d+(g b).2):=by
 have hp:pushB x.H b (s+(g b).1) (d+(g b).2)=true:=by
  rw [pushB_iff]
  intro s' d' e
  obtain ⟨s2,d2,h1,h2,h3⟩:=h.key e
  have:=pushB_iff.1 hb _ _ h1
  subst h2 h3
  unfold val at *
  omega
 unfold YtmaefimaeelkbaaGreatDoor.pushH
 rw [if_pos hp]
theorem cnt_grow (F:Int->Option (Int × Int)){b s d:Int}(h0:0<=b)(h1:b<256):cnt F 256<=cnt (putH F b s d) 256/\(F b=none->cnt (putH F b s d) 256=cnt F 256+1):=by
 constructor
 ·cases e:F b with
  |none=>rw [cnt_put F b s d 256 h0 h1 e];omega
  |some c=>rw [cntG_again F b s d 256 (by rw [e];rfl)];exact Nat.le_refl _
 ·exact cnt_put F b s d 256 h0 h1
theorem SI.low (O:LvOk L lv){n:Nat}(h:SI L lv r g src (fun a b=>a≠(n:Int)\/D b) x){s d:Int}(hn:x.F (n:Int)=some (s,d))(_hH:x.H (n:Int)=none){e:LE}(he:e ∈ lv.es n)(hl:lv.lev n+r<=lv.lev e.to)(hb:pushB x.F (e.to:Int) (s+e.s) (d+e.d)=true) :
  SI L lv r g src (fun a b=>a≠(n:Int)\/D b\/b=(e.to:Int)) (aheadS (lowS g x (e.to:Int) (s+e.s) (d+e.d)) (e.to:Int) (n:Int)) /\
  (aheadS (lowS g x (e.to:Int) (s+e.s) (d+e.d)) (e.to:Int) (n:Int))=⟨putH x.F (e.to:Int) (s+e.s) (d+e.d),putA x.A (e.to:Int) (n:Int),putH x.H (e.to:Int) (s+e.s+(g e.to).1) (d+e.d+(g e.to).2)⟩ /\
  potG 109969568169985 (putH x.F (e.to:Int) (s+e.s) (d+e.d)) 256<potG 109969568169985 x.F 256:=by
 have hx:(aheadS (lowS g x (e.to:Int) (s+e.s) (d+e.d)) (e.to:Int) (n:Int))=⟨putH x.F (e.to:Int) (s+e.s) (d+e.d),putA x.A (e.to:Int) (n:Int),putH x.H (e.to:Int) (s+e.s+(g e.to).1) (d+e.d+(g e.to).2)⟩:=by
  unfold lowS
  rw [if_pos hb,h.pushH hb]
  rfl
 rw [hx]
 have hlt:=pushB_iff.1 hb
 have hoff:¬ (e.to:Int)=(n:Int):=fun q=>O.esy.off he (by omega)
 obtain ⟨_,hnL,n1,n2,n3⟩:=h.lab hn
 obtain ⟨b1,b2,b3,b4,b5⟩:=O.bd he
 have hto:=(O.ends he).2
 have hsm:=O.small _ hto
 obtain ⟨c1,c2⟩:=cnt_grow x.F (b:=(e.to:Int)) (s:=s+e.s) (d:=d+e.d) (by omega) (by omega)
 have ed:LvE lv r (n:Int) (e.to:Int) e.s e.d:=⟨e,by rw [Int.toNat_natCast];exact he,rfl,rfl,rfl,by rw [Int.toNat_natCast];exact hl⟩
 have hval:val (s+e.s) (d+e.d)=val s d+val e.s e.d:=val_both ..
 have hve:0<=val e.s e.d/\val e.s e.d<=47729847296:=by unfold val;omega
 have hnew:val (s+e.s) (d+e.d)<=97750727262208+(cnt (putH x.F (e.to:Int) (s+e.s) (d+e.d)) 256:Int)*47729847296:=by
  cases hq:x.F (e.to:Int) with
  |none =>
   rw [c2 hq]
   omega
  |some c =>
   have k1:=hlt c.1 c.2 hq
   obtain ⟨_,_,_,_,k2⟩:=h.lab (s:=c.1) (d:=c.2) hq
   omega
 have hlower:∀ {a p q},x.F a=some (p,q)->∃ p' q',putH x.F (e.to:Int) (s+e.s) (d+e.d) a=some (p',q')/\val p' q'<=val p q:=fun {a p q} ha=>by
  by_cases ea:a=(e.to:Int)
  ·subst ea
   exact ⟨_,_,putH_at _ _ _ _,by have:=hlt _ _ ha;omega⟩
  ·exact ⟨p,q,by rw [putH_off _ _ _ ea];exact ha,Int.le_refl _⟩
 refine ⟨⟨fun {a p q} ha=>?_,fun {a p q} ha=>?_,fun {a m} ha=>?_,fun {a p q} ha hA=>?_,fun {o p q} ho=>?_,fun {a p q} ha=>?_,fun {a b p q t u} ha hHa hP hE=>?_⟩,rfl,?_⟩
 ·show 0<=a/\a.toNat ∈ L/\0<=p/\0<=q/\_
  by_cases ea:a=(e.to:Int)
  ·subst ea
   replace ha:putH x.F (e.to:Int) (s+e.s) (d+e.d) (e.to:Int)=some (p,q):=ha
   rw [putH_at] at ha
   cases ha
   exact ⟨by omega,by rw [Int.toNat_natCast];exact hto,by omega,by omega,hnew⟩
  ·replace ha:putH x.F (e.to:Int) (s+e.s) (d+e.d) a=some (p,q):=ha
   rw [putH_off _ _ _ ea] at ha
   obtain ⟨k1,k2,k3,k4,k5⟩:=h.lab ha
   exact ⟨k1,k2,k3,k4,by show _<=97750727262208+(cnt (putH x.F (e.to:Int) (s+e.s) (d+e.d)) 256:Int)*47729847296;omega⟩
 ·by_cases ea:a=(e.to:Int)
  ·subst ea
   replace ha:putH x.F (e.to:Int) (s+e.s) (d+e.d) (e.to:Int)=some (p,q):=ha
   rw [putH_at] at ha
   cases ha
   obtain ⟨o,s0,d0,p,q,k1,k2,k3,k4⟩:=h.snd hn
   exact ⟨o,s0,d0,p+e.s,q+e.d,k1,k2.step ed,by omega,by omega⟩
  ·replace ha:putH x.F (e.to:Int) (s+e.s) (d+e.d) a=some (p,q):=ha
   rw [putH_off _ _ _ ea] at ha
   exact h.snd ha
 ·show ∃ p q p' q' t u,putH x.F (e.to:Int) (s+e.s) (d+e.d) m=some (p,q)/\putH x.F (e.to:Int) (s+e.s) (d+e.d) a=some (p',q')/\_
  by_cases ea:a=(e.to:Int)
  ·subst ea
   have hm:(n:Int)=m:=by
    have:putA x.A (e.to:Int) (n:Int) (e.to:Int)=some m:=ha
    unfold putA at this
    rw [if_pos rfl] at this
    exact Option.some.inj this
   subst hm
   exact ⟨s,d,s+e.s,d+e.d,e.s,e.d,by rw [putH_off _ _ _ (fun q=>hoff q.symm)];exact hn,putH_at _ _ _ _,ed,by omega⟩
  ·have ha':x.A a=some m:=by
    have:putA x.A (e.to:Int) (n:Int) a=some m:=ha
    unfold putA at this
    rw [if_neg ea] at this
    exact this
   obtain ⟨p,q,p',q',t,u,k1,k2,k3,k4⟩:=h.ptr ha'
   obtain ⟨p2,q2,k5,k6⟩:=hlower k1
   exact ⟨p2,q2,p',q',t,u,k5,by rw [putH_off _ _ _ ea];exact k2,k3,by omega⟩
 ·have hA':putA x.A (e.to:Int) (n:Int) a=none:=hA
  unfold putA at hA'
  by_cases ea:a=(e.to:Int)
  ·rw [if_pos ea] at hA';cases hA'
  ·rw [if_neg ea] at hA'
   replace ha:putH x.F (e.to:Int) (s+e.s) (d+e.d) a=some (p,q):=ha
   rw [putH_off _ _ _ ea] at ha
   exact h.top ha hA'
 ·obtain ⟨p1,q1,k1,k2⟩:=h.hom ho
  obtain ⟨p2,q2,k3,k4⟩:=hlower k1
  exact ⟨p2,q2,k3,by omega⟩
 ·show ∃ p' q',putH x.F (e.to:Int) (s+e.s) (d+e.d) a=some (p',q')/\_
  by_cases ea:a=(e.to:Int)
  ·subst ea
   replace ha:putH x.H (e.to:Int) (s+e.s+(g e.to).1) (d+e.d+(g e.to).2) (e.to:Int)=some (p,q):=ha
   rw [putH_at] at ha
   cases ha
   exact ⟨_,_,putH_at _ _ _ _,rfl,rfl⟩
  ·replace ha:putH x.H (e.to:Int) (s+e.s+(g e.to).1) (d+e.d+(g e.to).2) a=some (p,q):=ha
   rw [putH_off _ _ _ ea] at ha
   obtain ⟨p',q',k1,k2,k3⟩:=h.key ha
   exact ⟨p',q',by rw [putH_off _ _ _ ea];exact k1,k2,k3⟩
 ·show ∃ p' q',putH x.F (e.to:Int) (s+e.s) (d+e.d) b=some (p',q')/\_
  have ea:a≠(e.to:Int):=fun q=>by
   subst q
   have:putH x.H (e.to:Int) (s+e.s+(g e.to).1) (d+e.d+(g e.to).2) (e.to:Int)=none:=hHa
   rw [putH_at] at this
   cases this
  replace ha:putH x.F (e.to:Int) (s+e.s) (d+e.d) a=some (p,q):=ha
  replace hHa:putH x.H (e.to:Int) (s+e.s+(g e.to).1) (d+e.d+(g e.to).2) a=none:=hHa
  rw [putH_off _ _ _ ea] at ha hHa
  by_cases hP':a≠(n:Int)\/D b
  ·obtain ⟨p',q',k1,k2⟩:=h.don ha hHa hP' hE
   obtain ⟨p2,q2,k3,k4⟩:=hlower k1
   exact ⟨p2,q2,k3,by omega⟩
  ·have ean:a=(n:Int):=Classical.byContradiction fun q=>hP' (Or.inl q)
   have ebe:b=(e.to:Int):=by
    rcases hP with q|q|q
    ·exact absurd ean q
    ·exact absurd (Or.inr q) hP'
    ·exact q
   subst ean ebe
   rw [hn] at ha
   cases ha
   obtain ⟨e',g1,g2,g3,g4,_⟩:=hE
   rw [Int.toNat_natCast] at g1
   have:=(O.esy.ord n).one g1 he (by omega)
   subst this g3 g4
   exact ⟨_,_,putH_at _ _ _ _,by omega⟩
 ·refine potG_put (e.to:Int) _ _ 256 (by omega) (by omega) (by unfold val at *;omega) (fun _=>?_) hlt
  have:=cnt_le (putH x.F (e.to:Int) (s+e.s) (d+e.d)) 256
  have h0:0<=val (s+e.s) (d+e.d):=by unfold val at *;omega
  omega
theorem SI.step (O:LvOk L lv){n:Nat}(h:SI L lv r g src (fun a b=>a≠(n:Int)\/D b) x){s d:Int}(hn:x.F (n:Int)=some (s,d))(hH:x.H (n:Int)=none){e:LE}(he:e ∈ lv.es n) :
  SI L lv r g src (fun a b=>a≠(n:Int)\/D b\/b=(e.to:Int)) (stepS lv r g n x e)/\(stepS lv r g n x e).F (n:Int)=some (s,d)/\(stepS lv r g n x e).H (n:Int)=none:=by
 have hoff:¬ (n:Int)=(e.to:Int):=fun q=>O.esy.off he (by omega)
 unfold stepS
 rw [hn]
 show SI L lv r g src _ (if lv.lev n+r<=lv.lev e.to/\pushB x.F (e.to:Int) (s+e.s) (d+e.d)=true then _ else x)/\_
 by_cases hc:lv.lev n+r<=lv.lev e.to/\pushB x.F (e.to:Int) (s+e.s) (d+e.d)=true
 ·obtain ⟨h1,h2,h3⟩:=h.low O hn hH he hc.1 hc.2
  have e0:(if lv.lev n+r<=lv.lev e.to/\pushB x.F (e.to:Int) (s+e.s) (d+e.d)=true then aheadS (lowS g x (e.to:Int) (s+e.s) (d+e.d)) (e.to:Int) (n:Int) else x)=aheadS (lowS g x (e.to:Int) (s+e.s) (d+e.d)) (e.to:Int) (n:Int):=if_pos hc
  show SI L lv r g src _ (if lv.lev n+r<=lv.lev e.to/\pushB x.F (e.to:Int) (s+e.s) (d+e.d)=true then aheadS (lowS g x (e.to:Int) (s+e.s) (d+e.d)) (e.to:Int) (n:Int) else x)/\(if lv.lev n+r<=lv.lev e.to/\pushB x.F (e.to:Int) (s+e.s) (d+e.d)=true then aheadS (lowS g x (e.to:Int) (s+e.s) (d+e.d)) (e.to:Int) (n:Int) else x).F _=_/\(if lv.lev n+r<=lv.lev e.to/\pushB x.F (e.to:Int) (s+e.s) (d+e.d)=true then aheadS (lowS g x (e.to:Int) (s+e.s) (d+e.d)) (e.to:Int) (n:Int) else x).H _=_
  rw [e0]
  refine ⟨h1,?_,?_⟩
  ·rw [h2]
   show putH x.F (e.to:Int) (s+e.s) (d+e.d) (n:Int)=_
   rw [putH_off _ _ _ hoff];exact hn
  ·rw [h2]
   show putH x.H (e.to:Int) _ _ (n:Int)=_
   rw [putH_off _ _ _ hoff];exact hH
 ·have e0:(if lv.lev n+r<=lv.lev e.to/\pushB x.F (e.to:Int) (s+e.s) (d+e.d)=true then aheadS (lowS g x (e.to:Int) (s+e.s) (d+e.d)) (e.to:Int) (n:Int) else x)=x:=if_neg hc
  show SI L lv r g src _ (if lv.lev n+r<=lv.lev e.to/\pushB x.F (e.to:Int) (s+e.s) (d+e.d)=true then aheadS (lowS g x (e.to:Int) (s+e.s) (d+e.d)) (e.to:Int) (n:Int) else x)/\(if lv.lev n+r<=lv.lev e.to/\pushB x.F (e.to:Int) (s+e.s) (d+e.d)=true then aheadS (lowS g x (e.to:Int) (s+e.s) (d+e.d)) (e.to:Int) (n:Int) else x).F _=_/\(if lv.lev n+r<=lv.lev e.to/\pushB x.F (e.to:Int) (s+e.s) (d+e.d)=true then aheadS (lowS g x (e.to:Int) (s+e.s) (d+e.d)) (e.to:Int) (n:Int) else x).H _=_
  rw [e0]
  refine ⟨⟨h.lab,h.snd,h.ptr,h.top,h.hom,h.key,fun {a b p q t u} ha hHa hP hE=>?_⟩,hn,hH⟩
  by_cases hP':a≠(n:Int)\/D b
  ·exact h.don ha hHa hP' hE
  ·have ean:a=(n:Int):=Classical.byContradiction fun q=>hP' (Or.inl q)
   have ebe:b=(e.to:Int):=by
    rcases hP with q|q|q
    ·exact absurd ean q
    ·exact absurd (Or.inr q) hP'
    ·exact q
   subst ean ebe
   rw [hn] at ha
   cases ha
   obtain ⟨e',g1,g2,g3,g4,g5⟩:=hE
   rw [Int.toNat_natCast] at g1 g5
   have:=(O.esy.ord n).one g1 he (by omega)
   subst this g3 g4
   cases hb:pushB x.F (e'.to:Int) (s+e'.s) (d+e'.d) with
   |true=>exact absurd ⟨g5,hb⟩ hc
   |false =>
    obtain ⟨s',d',k1,k2⟩:=pushB_no hb
    exact ⟨s',d',k1,by rw [val_both] at k2;exact k2⟩
theorem SI.mono (h:SI L lv r g src P x){P':Int->Int->Prop}(hp:∀ {a b s d t u},x.F a=some (s,d)->x.H a=none->P' a b->LvE lv r a b t u->P a b):SI L lv r g src P' x :=
 ⟨h.lab,h.snd,h.ptr,h.top,h.hom,h.key,fun ha hH hP hE=>h.don ha hH (hp ha hH hP hE) hE⟩
theorem SI.fold (O:LvOk L lv){n:Nat}{s d:Int}:∀ {l:List LE}{D:Int->Prop}{x:SS},(∀ e ∈ l,e ∈ lv.es n)->SI L lv r g src (fun a b=>a≠(n:Int)\/D b) x->x.F (n:Int)=some (s,d)->x.H (n:Int)=none ->
  SI L lv r g src (fun a b=>a≠(n:Int)\/D b\/∃ e ∈ l,b=(e.to:Int)) (l.foldl (stepS lv r g n) x)/\(l.foldl (stepS lv r g n) x).F (n:Int)=some (s,d)/\(l.foldl (stepS lv r g n) x).H (n:Int)=none
 |[],D,x,_,h,hn,hH=>⟨h.mono (fun _ _ hP _=>by
   rcases hP with q|q|⟨e,he,_⟩
   ·exact Or.inl q
   ·exact Or.inr q
   ·cases he),hn,hH⟩
 |e::l,D,x,hl,h,hn,hH=>by
  obtain ⟨h1,h2,h3⟩:=h.step O hn hH (hl e (List.mem_cons_self ..))
  obtain ⟨k1,k2,k3⟩:=SI.fold O (fun e' he'=>hl e' (List.mem_cons_of_mem _ he')) h1 h2 h3
  refine ⟨k1.mono (fun _ _ hP _=>?_),k2,k3⟩
  rcases hP with q|q|⟨e',he',q⟩
  ·exact Or.inl q
  ·exact Or.inr (Or.inl (Or.inl q))
  ·rcases List.mem_cons.1 he' with rfl|he'
   ·exact Or.inr (Or.inl (Or.inr q))
   ·exact Or.inr (Or.inr ⟨e',he',q⟩)
theorem SI.pop {P:Int->Int->Prop}(h:SI L lv r g src P x)(n:Int):SI L lv r g src (fun a b=>a≠n/\P a b) (popS x n):=by
 refine ⟨h.lab,h.snd,h.ptr,h.top,h.hom,fun {a s d} ha=>?_,fun {a b s d t u} ha hH hP hE=>?_⟩
 ·have ha':delH x.H n a=some (s,d):=ha
  by_cases e:a=n
  ·rw [e,delH_at] at ha';cases ha'
  ·rw [delH_off _ e] at ha';exact h.key ha'
 ·have hH':delH x.H n a=none:=hH
  rw [delH_off _ hP.1] at hH'
  exact h.don ha hH' hP.2 hE
theorem SI.go (O:LvOk L lv)(h:SI L lv r g src (fun _ _=>True) x){n:Nat}{s d:Int}(hn:x.F (n:Int)=some (s,d)):SI L lv r g src (fun _ _=>True) (goS lv r g n (popS x (n:Int)))/\(goS lv r g n (popS x (n:Int))).F (n:Int)=some (s,d)/\(goS lv r g n (popS x (n:Int))).H (n:Int)=none:=by
 have h1:=(h.pop (n:Int)).mono (P':=fun a b=>a≠(n:Int)\/False) (fun _ _ hP _=>⟨by rcases hP with q|q;exact q;exact q.elim,trivial⟩)
 obtain ⟨k1,k2,k3⟩:=SI.fold O (l:=lv.es n) (fun _ h=>h) h1 hn (delH_at _ _)
 refine ⟨k1.mono (fun {a b s d t u} ha hH _ hE=>?_),k2,k3⟩
 by_cases e:a=(n:Int)
 ·subst e
  obtain ⟨e',g1,g2,_⟩:=hE
  rw [Int.toNat_natCast] at g1
  exact Or.inr (Or.inr ⟨e',g1,g2⟩)
 ·exact Or.inl e
end
end
end Go.Proofs.YtmaefimaeelkbaaGreatDoor
