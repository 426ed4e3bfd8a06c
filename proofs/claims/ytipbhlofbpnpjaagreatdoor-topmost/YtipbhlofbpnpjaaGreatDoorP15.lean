/-
  Texts laid together: Push, Push2, Push3, Pop, PushAll, LevD.
-/
import Derived.Test.YtipbhlofbpnpjaaGreatDoorP14
import Derived.Test.YtipbhlofbpnpjaaGreatDoorP1
import Derived.Test.YtipbhlofbpnpjaaGreatDoorP12
namespace Go.Proofs.YtipbhlofbpnpjaaGreatDoor
section
open Go.RowKit
theorem HS.mem {w:World}{b mb n:Nat}{v:Value}{it:Nat->Item}{f:Int->Option Value}{H:Int->Option (Int × Int)}(S:HS w b mb v n it f H){a:Int}(ha:H a=none):f a=none:=by
 cases e:f a with
 |none=>rfl
 |some v =>
  obtain ⟨i,hi,ea,_⟩:=S.atf.of a v e
  exact absurd ea (S.holds.gone ha i hi)
theorem AtF.last {it:Nat->Item}{n:Nat}{f:Int->Option Value}(h:AtF it n f){x:Item}(hx:f x.id=none):AtF (updI it n x) (n+1) (putF f x.id (.int .i64 n)):=by
 refine ⟨fun k hk=>?_,fun a v hv=>?_⟩
 ·by_cases e1:k=n
  ·subst e1;rw [updI_i,putF_same]
  ·rw [updI_k it x e1,putF_other _ _ (fun e=>by rw [<- e,h.at' k (by omega)] at hx;cases hx)]
   exact h.at' k (by omega)
 ·unfold putF at hv
  split at hv
  ·rename_i e;cases hv;exact ⟨n,by omega,by rw [updI_i];exact e.symm,rfl⟩
  ·obtain ⟨k,hk,ea,ev⟩:=h.of a v hv
   exact ⟨k,by omega,by rw [updI_k it x (by omega)];exact ea,ev⟩
theorem AtF.same {it:Nat->Item}{n i:Nat}{f:Int->Option Value}(h:AtF it n f)(hi:i<n){x:Item}(hx:(it i).id=x.id):AtF (updI it i x) n (putF f x.id (.int .i64 i)):=by
 have hp:=h.apart
 refine ⟨fun k hk=>?_,fun a v hv=>?_⟩
 ·by_cases e1:k=i
  ·subst e1;rw [updI_i,putF_same]
  ·rw [updI_k it x e1,putF_other _ _ (fun e=>e1 (hp k i hk hi (by rw [hx];exact e)))]
   exact h.at' k hk
 ·unfold putF at hv
  split at hv
  ·rename_i e;cases hv;exact ⟨i,hi,by rw [updI_i];exact e.symm,rfl⟩
  ·rename_i e
   obtain ⟨k,hk,ea,ev⟩:=h.of a v hv
   refine ⟨k,hk,?_,ev⟩
   rw [updI_k it x (fun q=>e (by rw [<- ea,q,hx]))]
   exact ea
theorem ltB_val {s d t u:Int}(h:okC s d)(k:okC t u):ltB s d t u=true↔val s d<val t u:=by
 unfold ltB
 rw [cmpC_val' s d t u h k,decide_eq_true_iff]
 exact cmpI_neg _ _
theorem ltB_false {s d t u:Int}(h:okC s d)(k:okC t u)(hn:¬ val s d<val t u):ltB s d t u=false:=by
 cases e:ltB s d t u with
 |false=>rfl
 |true=>exact absurd ((ltB_val h k).mp e) hn
set_option maxHeartbeats 1000000 in
theorem push_no {b mb n:Nat}{v:Value}{H:Int->Option (Int × Int)}(a s d t u:Int)(w:World)(h:HeapAt w b mb v n H)(ha:H a=some (t,u))(hc:okC s d)(hn:¬ val s d<val t u) :
  Calls Tryz.prog 179 #[.pointer (some ⟨b,0,none⟩),.int .i64 a,.agg #[.int .i64 s,.int .i64 d]] w fun e w'=>e=.returned (.bool false)/\Below w.heap.size w w':=by
 obtain ⟨it,f,S,O⟩:=h.ex
 obtain ⟨i,hi,e⟩:=(S.holds a t u).mp ha
 obtain ⟨g,cap,rfl,_,_,hg⟩:=S.rep.row.pos (by omega)
 obtain ⟨q1,q2,q3⟩:=S.rep.row.cells hi
 have hk:=S.ok i hi
 rw [e] at q1 q2 q3 hk
 have hlt:=ltB_false hc hk hn
 have c0:=S.rep.c0
 have c1:=S.rep.c1
 have hb:=S.rep.blocks.1
 have hwf:=S.wf i hi
 rw [e] at hwf
 have hf:=S.atf.at' i hi
 rw [e] at hf
 have HB0:Below w.heap.size w (w.alloc (.cells #[.int .i64 s,.int .i64 d] 38)):=(Below.refl _ w).alloc (Nat.le_refl _) _
 have hl:=((S.rep.below HB0).map).look_some law3 Tryz.under51 (zero3 _) hwf hf true
 have h1:(i:Int)<(n:Int):=by omega
 have s0:∀ x:Since (w.alloc (.cells #[.int .i64 s,.int .i64 d] 38)),x.u.cell? ⟨w.heap.size,0,none⟩=some (.int .i64 s):=fun x=>(x.cell _ _ (by simp)).trans (World.cell?_alloc_at #[.int .i64 s,.int .i64 d] 38 w.heap.size 0 rfl)
 have s1:∀ x:Since (w.alloc (.cells #[.int .i64 s,.int .i64 d] 38)),x.u.cell? ⟨w.heap.size,1,none⟩=some (.int .i64 d):=fun x=>(x.cell _ _ (by simp)).trans (World.cell?_alloc_at #[.int .i64 s,.int .i64 d] 38 w.heap.size 1 rfl)
 have s2:∀ x:Since (w.alloc (.cells #[.int .i64 s,.int .i64 d] 38)),x.u.cell? ⟨b,0,none⟩=some (.slice (some ⟨g,0,none⟩) n cap):=fun x=>(x.cell _ _ (by simp;omega)).trans ((HB0.cell (p:=⟨b,0,none⟩) hb).trans c0)
 have s3:∀ x:Since (w.alloc (.cells #[.int .i64 s,.int .i64 d] 38)),x.u.cell? ⟨g,i*3+1,none⟩=some (.int .i64 t):=fun x=>(x.cell _ _ (by simp;omega)).trans ((HB0.cell (p:=⟨g,i*3+1,none⟩) hg).trans q2)
 have s4:∀ x:Since (w.alloc (.cells #[.int .i64 s,.int .i64 d] 38)),x.u.cell? ⟨g,i*3+2,none⟩=some (.int .i64 u):=fun x=>(x.cell _ _ (by simp;omega)).trans ((HB0.cell (p:=⟨g,i*3+2,none⟩) hg).trans q3)
 have hne:=since_ne (w.alloc (.cells #[.int .i64 s,.int .i64 d] 38))
 clear S O h e ha q1 q2 q3
 go_enter Tryz.func179,Tryz.ntmps179
 go_wp2
 refine wp_region_since (by kernel_rfl) (by kernel_rfl) ?_
 repeat (go_big_quiet_step ((go_at_call 31;exact Calls.since_of (less_v hlt _ hc hk))))
 refine wpQuiet_nil ?_
 rintro _ ⟨x,rfl⟩
 go_wp2
 go_ret
 exact ⟨rfl,HB0.trans (x.h.mono (by simp))⟩
end
section
open Go.RowKit
def hb3 (b mb:Nat) (v:Value) (k:Nat):Prop:=k=b\/k=mb\/v.ownBlock=some k
set_option maxHeartbeats 1000000 in
theorem push_less {b mb n:Nat}{v:Value}{H:Int->Option (Int × Int)}(a s d t u:Int)(w:World)(h:HeapAt w b mb v n H)(ha:H a=some (t,u))(hc:okC s d)(hn:val s d<val t u) :
  Calls Tryz.prog 179 #[.pointer (some ⟨b,0,none⟩),.int .i64 a,.agg #[.int .i64 s,.int .i64 d]] w fun e w'=>e=.returned (.bool true)/\HeapAt w' b mb v n (putH H a s d)/\Keep (hb3 b mb v) w w':=by
 obtain ⟨it,f,S,O⟩:=h.ex
 obtain ⟨i,hi,e⟩:=(S.holds a t u).mp ha
 obtain ⟨g,cap,rfl,_,_,hg⟩:=S.rep.row.pos (by omega)
 obtain ⟨q1,q2,q3⟩:=S.rep.row.cells hi
 have hk:=S.ok i hi
 have hrise:Rising (updI it i ⟨a,s,d⟩) n i:=Rising.less O hi ⟨a,s,d⟩ (by rw [e];unfold bef Item.v;simp only;omega)
 rw [e] at q1 q2 q3 hk
 have hlt:=(ltB_val hc hk).mpr hn
 have c0:=S.rep.c0
 have c1:=S.rep.c1
 have hb:=S.rep.blocks.1
 have hwf:=S.wf i hi
 rw [e] at hwf
 have hf:=S.atf.at' i hi
 rw [e] at hf
 have HB0:Below w.heap.size w (w.alloc (.cells #[.int .i64 s,.int .i64 d] 38)):=(Below.refl _ w).alloc (Nat.le_refl _) _
 have hl:=((S.rep.below HB0).map).look_some law3 Tryz.under51 (zero3 _) hwf hf true
 have h1:(i:Int)<(n:Int):=by omega
 have s0:∀ x:Since (w.alloc (.cells #[.int .i64 s,.int .i64 d] 38)),x.u.cell? ⟨w.heap.size,0,none⟩=some (.int .i64 s):=fun x=>(x.cell _ _ (by simp)).trans (World.cell?_alloc_at #[.int .i64 s,.int .i64 d] 38 w.heap.size 0 rfl)
 have s1:∀ x:Since (w.alloc (.cells #[.int .i64 s,.int .i64 d] 38)),x.u.cell? ⟨w.heap.size,1,none⟩=some (.int .i64 d):=fun x=>(x.cell _ _ (by simp)).trans (World.cell?_alloc_at #[.int .i64 s,.int .i64 d] 38 w.heap.size 1 rfl)
 have s2:∀ x:Since (w.alloc (.cells #[.int .i64 s,.int .i64 d] 38)),x.u.cell? ⟨b,0,none⟩=some (.slice (some ⟨g,0,none⟩) n cap):=fun x=>(x.cell _ _ (by simp;omega)).trans ((HB0.cell (p:=⟨b,0,none⟩) hb).trans c0)
 have s3:∀ x:Since (w.alloc (.cells #[.int .i64 s,.int .i64 d] 38)),x.u.cell? ⟨g,i*3+1,none⟩=some (.int .i64 t):=fun x=>(x.cell _ _ (by simp;omega)).trans ((HB0.cell (p:=⟨g,i*3+1,none⟩) hg).trans q2)
 have s4:∀ x:Since (w.alloc (.cells #[.int .i64 s,.int .i64 d] 38)),x.u.cell? ⟨g,i*3+2,none⟩=some (.int .i64 u):=fun x=>(x.cell _ _ (by simp;omega)).trans ((HB0.cell (p:=⟨g,i*3+2,none⟩) hg).trans q3)
 have hne:=since_ne (w.alloc (.cells #[.int .i64 s,.int .i64 d] 38))
 have em:(if (f a).isSome then n else n+1)=n:=by rw [hf];rfl
 have P1:=fun w R=>put_any (b:=b) (mb:=mb) (g:=g) (cap:=cap) (n:=n) (m:=n) (it:=it) (f:=f) i a s d w R hi S.bd hwf
 rw [em] at P1
 have HS2:∀ w',Rep w' b mb (.slice (some ⟨g,0,none⟩) n cap) n (updI it i ⟨a,s,d⟩) (putF f a (.int .i64 i)) n->HS w' b mb (.slice (some ⟨g,0,none⟩) n cap) n (updI it i ⟨a,s,d⟩) (putF f a (.int .i64 i)) (putH H a s d):=by
  intro w' R
  have ea:(it i).id=a:=by rw [e]
  refine ⟨R,S.atf.same hi (x:=⟨a,s,d⟩) ea,fun k hk=>?_,fun k hk=>?_,S.holds.same S.atf.apart hi ea,S.bd⟩
  ·by_cases ek:k=i
   ·subst ek;rw [updI_i];exact hwf
   ·rw [updI_k it _ ek];exact S.wf k hk
  ·by_cases ek:k=i
   ·subst ek;rw [updI_i];exact hc
   ·rw [updI_k it _ ek];exact S.ok k hk
 have RB:∀ w',Below w.heap.size w w'->Rep w' b mb (.slice (some ⟨g,0,none⟩) n cap) n it f n:=fun w' h=>S.rep.below h
 clear S O h e ha q1 q2 q3 hf em
 go_enter Tryz.func179,Tryz.ntmps179
 go_wp2
 refine wp_region_since (by kernel_rfl) (by kernel_rfl) ?_
 repeat (go_big_quiet_step ((go_at_call 31;exact Calls.since_of (less_v hlt _ hc hk))))
 refine wpQuiet_nil ?_
 rintro _ ⟨x,rfl⟩
 have HB1:Below w.heap.size w x.u:=HB0.trans (x.h.mono (by simp))
 have t0:=s0 x
 have t1:=s1 x
 clear s0 s1 s2 s3 s4 hne
 go_wp2_with fail
 refine (P1 _ (RB _ HB1)).mono ?_
 rintro e w1 ⟨rfl,R1,K1⟩
 have S1:=HS2 _ R1
 go_wp2_with fail
 refine (rise_any _ S1 hrise).mono ?_
 rintro e w2 ⟨rfl,⟨it',f',S2,O2⟩,K2⟩
 have KK:Keep (hb3 b mb (.slice (some ⟨g,0,none⟩) n cap)) w w2:=by
  have k1:=(Keep.of_below (F:=fun k=>k=g\/k=mb) HB1).trans K1 (fun _ _ h=>h)
  have k2:=k1.trans K2 (fun _ _ h=>h)
  refine k2.mono (fun i _ h=>?_)
  rcases h with rfl|rfl
  ·exact Or.inr (Or.inr rfl)
  ·exact Or.inr (Or.inl rfl)
 clear K1 K2 R1 S1 HB1 HB0 P1 RB HS2
 go_wp2
 go_ret
 exact ⟨rfl,⟨it',f',S2,O2⟩,KK⟩
end
section
open Go.RowKit
theorem Tryz.info56:(Tryz.prog.info? 229).map (fun i=>(i.zero,i.size,i.bytes))=some (some (.agg #[.int .i64 0,.int .i64 0,.int .i64 0]),3,24):=by kernel_rfl
theorem Tryz.under52:Tryz.prog.underlying 225=some (.slice 229):=by kernel_rfl
theorem cell_three_new (w:World)(x y z:Value)(t:TypeId):∀ j u,[x,y,z][j]? = some u->(w.alloc (.cells #[x,y,z] t)).cell? ((⟨w.heap.size,0,none⟩:Addr).add j)=some u:=by
 intro j u hj
 match j,hj with
 |0,hj=>simp at hj;subst hj;simp [Addr.add]
 |1,hj=>simp at hj;subst hj;simp [Addr.add]
 |2,hj=>simp at hj;subst hj;simp [Addr.add]
theorem row_grown {w w':World}{v v':Value}{n:Nat}{it:Nat->Item}{xs:List Value}(h1:w.ownsRow 0 229 3 v n xs)(hx:∀ i,i<n->xs[i*3]? = some (.int .i64 (it i).id)/\xs[i*3+1]? = some (.int .i64 (it i).s)/\xs[i*3+2]? = some (.int .i64 (it i).d))
  (h2:w'.ownsRow 0 229 3 v' (n+1) (xs++[.int .i64 0,.int .i64 0,.int .i64 0])):Row w' v' (n+1) (updI it n ⟨0,0,0⟩):=by
 have hl:xs.length=n*3:=h1.1
 refine ⟨_,h2,fun i hi=>?_⟩
 by_cases e:i=n
 ·subst e
  rw [updI_i]
  refine ⟨?_,?_,?_⟩
  ·rw [List.getElem?_append_right (by omega)];simp [hl]
  ·rw [List.getElem?_append_right (by omega)];simp [hl]
  ·rw [List.getElem?_append_right (by omega)];simp [hl]
 ·rw [updI_k it _ e]
  obtain ⟨a1,a2,a3⟩:=hx i (by omega)
  refine ⟨?_,?_,?_⟩
  ·rw [List.getElem?_append_left (by omega)];exact a1
  ·rw [List.getElem?_append_left (by omega)];exact a2
  ·rw [List.getElem?_append_left (by omega)];exact a3
theorem updI_twice (it:Nat->Item)(i:Nat)(x y:Item):updI (updI it i x) i y=updI it i y:=by
 funext k;unfold updI;split <;> rfl
set_option maxHeartbeats 1000000 in
theorem push_new {b mb n:Nat}{v:Value}{H:Int->Option (Int × Int)}(a s d:Int)(w:World)(h:HeapAt w b mb v n H)(ha:H a=none)(hc:okC s d)(hwf:(Lit.int .i64 a).wf=true)(hn:n<1000000) :
  Calls Tryz.prog 179 #[.pointer (some ⟨b,0,none⟩),.int .i64 a,.agg #[.int .i64 s,.int .i64 d]] w fun e w'=>e=.returned (.bool true)/\(∃ v',HeapAt w' b mb v' (n+1) (putH H a s d)/\(v'.ownBlock=v.ownBlock\/∃ g,v'.ownBlock=some g/\w.heap.size<=g))/\Keep (hb3 b mb v) w w':=by
 obtain ⟨i0,hi0,hz0,hz1,hz2⟩:=info_parts Tryz.info56
 obtain ⟨it,f,S,O⟩:=h.ex
 obtain ⟨hb,hmb,hbm,hgs⟩:=S.rep.blocks
 have c0:=S.rep.c0
 have c1:=S.rep.c1
 have f0:=S.rep.f0
 have hf:=S.mem ha
 obtain ⟨xs,hown,hxs⟩:=S.rep.row
 have hv:∃ A cap,v=.slice A n cap:=by
  rcases hown.2 with ⟨rfl,rfl⟩|⟨g,cap,cur,rfl,_⟩
  ·exact ⟨_,_,rfl⟩
  ·exact ⟨_,_,rfl⟩
 obtain ⟨A,cap,rfl⟩:=hv
 have HB0:Below w.heap.size w (w.alloc (.cells #[.int .i64 s,.int .i64 d] 38)):=(Below.refl _ w).alloc (Nat.le_refl _) _
 have hl:=((S.rep.below HB0).map).look_none law3 Tryz.under51 (zero3 _) hwf hf true
 have hne:=since_ne (w.alloc (.cells #[.int .i64 s,.int .i64 d] 38))
 go_enter Tryz.func179,Tryz.ntmps179
 go_wp2
 refine wp_region_since (by kernel_rfl) (by kernel_rfl) ?_
 repeat (go_big_quiet_step (fail))
 refine wpQuiet_nil ?_
 rintro _ ⟨x,rfl⟩
 have HB1:Below w.heap.size w x.u:=HB0.trans (x.h.mono (by simp))
 have t0:x.u.cell? ⟨w.heap.size,0,none⟩=some (.int .i64 s):=(x.cell _ _ (by simp)).trans (World.cell?_alloc_at #[.int .i64 s,.int .i64 d] 38 w.heap.size 0 rfl)
 have t1:x.u.cell? ⟨w.heap.size,1,none⟩=some (.int .i64 d):=(x.cell _ _ (by simp)).trans (World.cell?_alloc_at #[.int .i64 s,.int .i64 d] 38 w.heap.size 1 rfl)
 have hx0:w.heap.size<x.u.heap.size:=by have:=x.h.size;simp at this;omega
 have c0':=(HB1.cell (p:=⟨b,0,none⟩) hb).trans c0
 have f0':=(HB1.frozen (p:=⟨b,0,none⟩) hb).trans f0
 have hown1:x.u.ownsRow 0 229 3 (.slice A n cap) n xs:=hown.kept (row:=none) ⟨HB1.os,HB1.tape,HB1.output,HB1.size,fun k hk _=>HB1.block k hk⟩ (by cases hq:(Value.slice A n cap).ownBlock <;> simp)
 go_wp2_with (at_builtin;refine wpList_append_own_at _ rfl _ _ 225 rfl 0 229 i0 (.agg #[.int .i64 0,.int .i64 0,.int .i64 0]) 3 24 Tryz.under52 hi0 hz0 hz1 hz2 rfl (by decide) _ _ _ rfl (hown1.alloc _) ⟨x.u.heap.size,0,none⟩ 1 1 [.int .i64 0,.int .i64 0,.int .i64 0] rfl rfl (cell_three_new _ _ _ _ _) (by intro u hu;simp at hu;subst hu;rfl) (by unfold maxLen;omega) (by omega) (by omega) ?_)
 intro v' w1 ho hgr _ hloc
 have K1:Keep (fun k=>(Value.slice A n cap).ownBlock=some k) w w1:=((Keep.of_below HB1).alloc _).grown hgr (fun k hk _=>hk)
 have hrow1:=row_grown hown1 hxs ho
 obtain ⟨g',cap',rfl,hcap,hmax,hg'⟩:=hrow1.pos (by omega)
 have hnb:∀ k,(Value.slice A n cap).ownBlock=some k->k<w.heap.size/\k≠b/\k≠mb:=hgs
 have hg2:g'≠b/\((Value.slice A n cap).ownBlock=some g'\/w.heap.size<=g'):=by
  rcases hloc with hloc|hloc
  ·have e:(Value.slice A n cap).ownBlock=some g':=hloc.symm
   exact ⟨(hnb g' e).2.1,Or.inl e⟩
  ·simp only [Value.ownBlock,Option.some.injEq] at hloc
   exact ⟨by omega,Or.inr (by omega)⟩
 have c0w:w1.cell? ⟨b,0,none⟩=some (.slice A n cap):=(K1.cell (p:=⟨b,0,none⟩) hb (fun e=>(hnb b e).2.1 rfl)).trans c0
 have c1w:w1.cell? ⟨b,1,none⟩=some (.map (some mb)):=(K1.cell (p:=⟨b,1,none⟩) hb (fun e=>(hnb b e).2.1 rfl)).trans c1
 have f0w:w1.frozen? ⟨b,0,none⟩=false:=(K1.frozen (p:=⟨b,0,none⟩) hb (fun e=>(hnb b e).2.1 rfl)).trans f0
 have mapw:MapF Tryz.prog 3 w1 mb f n:=S.rep.map.keep K1 (fun e=>(hnb mb e).2.2 rfl)
 have KX:Keep (fun k=>(Value.slice A n cap).ownBlock=some k) x.u w1:=((Keep.refl _ x.u).alloc _).grown hgr (fun k hk _=>hk)
 have t0w:w1.cell? ⟨w.heap.size,0,none⟩=some (.int .i64 s):=(KX.cell (p:=⟨w.heap.size,0,none⟩) hx0 (fun e=>Nat.lt_irrefl _ (hnb w.heap.size e).1)).trans t0
 have t1w:w1.cell? ⟨w.heap.size,1,none⟩=some (.int .i64 d):=(KX.cell (p:=⟨w.heap.size,1,none⟩) hx0 (fun e=>Nat.lt_irrefl _ (hnb w.heap.size e).1)).trans t1
 have R2:Rep (w1.setCell ⟨b,0,none⟩ (.slice (some ⟨g',0,none⟩) (n+1) cap')) b mb (.slice (some ⟨g',0,none⟩) (n+1) cap') (n+1) (updI it n ⟨0,0,0⟩) f n:=by
  have kb:Keep (fun k=>k=b) w1 (w1.setCell ⟨b,0,none⟩ (.slice (some ⟨g',0,none⟩) (n+1) cap')):=(Keep.refl (fun k=>k=b) w1).setCell (p:=⟨b,0,none⟩) (fun _=>rfl) _
  refine ⟨World.cell?_setCell_same _ _ _ c0w,?_,?_,hrow1.keep kb (fun q hq=>?_),mapw.keep kb (fun e=>hbm e.symm),fun e=>?_⟩
  ·rw [World.cell?_setCell_other _ _ _ _ (by intro e;cases e)];exact c1w
  ·rw [World.frozen?_setCell];exact f0w
  ·simp only [Value.ownBlock,Option.some.injEq] at hq;rw [<- hq];exact hg2.1
  ·simp only [Value.ownBlock,Option.some.injEq] at e;exact hg2.1 e
 have K2:Keep (hb3 b mb (.slice A n cap)) w (w1.setCell ⟨b,0,none⟩ (.slice (some ⟨g',0,none⟩) (n+1) cap')):=(K1.mono (G:=hb3 b mb (.slice A n cap)) (fun _ _ h=>Or.inr (Or.inr h))).setCell (p:=⟨b,0,none⟩) (fun _=>Or.inl rfl) _
 have em:(if (f a).isSome then n else n+1)=n+1:=by rw [hf];rfl
 have P1:=fun w R=>put_any (b:=b) (mb:=mb) (g:=g') (cap:=cap') (n:=n+1) (m:=n) (it:=updI it n ⟨0,0,0⟩) (f:=f) n a s d w R (by omega) (by omega) hwf
 rw [em,updI_twice] at P1
 have HS2:∀ w',Rep w' b mb (.slice (some ⟨g',0,none⟩) (n+1) cap') (n+1) (updI it n ⟨a,s,d⟩) (putF f a (.int .i64 n)) (n+1)->HS w' b mb (.slice (some ⟨g',0,none⟩) (n+1) cap') (n+1) (updI it n ⟨a,s,d⟩) (putF f a (.int .i64 n)) (putH H a s d):=by
  intro w' R
  refine ⟨R,S.atf.last (x:=⟨a,s,d⟩) hf,fun k hk=>?_,fun k hk=>?_,S.holds.last ha,by omega⟩
  ·by_cases ek:k=n
   ·subst ek;rw [updI_i];exact hwf
   ·rw [updI_k it _ ek];exact S.wf k (by omega)
  ·by_cases ek:k=n
   ·subst ek;rw [updI_i];exact hc
   ·rw [updI_k it _ ek];exact S.ok k (by omega)
 have hrise:Rising (updI it n ⟨a,s,d⟩) (n+1) n:=Rising.last O _
 have hloc2:(Value.slice (some ⟨g',0,none⟩) (n+1) cap').ownBlock=(Value.slice A n cap).ownBlock\/∃ g,(Value.slice (some ⟨g',0,none⟩) (n+1) cap').ownBlock=some g/\w.heap.size<=g:=by
  rcases hg2.2 with e|e
  ·exact Or.inl e.symm
  ·exact Or.inr ⟨g',rfl,e⟩
 clear S O h K1 KX hrow1 mapw hown1 hown hgr ho hxs HB0 HB1 hl hne c0' f0' t0 t1 hgs em hloc
 go_wp2_with fail
 refine (P1 _ R2).mono ?_
 rintro e w3 ⟨rfl,R3,K3⟩
 have S3:=HS2 _ R3
 go_wp2_with fail
 refine (rise_any _ S3 hrise).mono ?_
 rintro e w4 ⟨rfl,⟨it',f',S4,O4⟩,K4⟩
 have KK:Keep (hb3 b mb (.slice A n cap)) w w4:=by
  have hs:∀ k,k<w.heap.size->(k=g'\/k=mb)->hb3 b mb (.slice A n cap) k:=by
   rintro k hk (rfl|rfl)
   ·rcases hg2.2 with e|e
    ·exact Or.inr (Or.inr e)
    ·omega
   ·exact Or.inr (Or.inl rfl)
  exact (K2.trans K3 hs).trans K4 hs
 clear K2 K3 K4 R3 S3 P1 HS2 R2
 go_wp2
 go_ret
 exact ⟨rfl,⟨_,⟨it',f',S4,O4⟩,hloc2⟩,KK⟩
end
section
open Go.RowKit
set_option maxHeartbeats 1000000 in
theorem pop_none {b mb:Nat}{v:Value}{H:Int->Option (Int × Int)}(w:World)(h:HeapAt w b mb v 0 H) :
  Calls Tryz.prog 115 #[.pointer (some ⟨b,0,none⟩)] w fun e w'=>e=.returned (.tuple #[.int .i64 0,.agg #[.int .i64 0,.int .i64 0],.bool false])/\Below w.heap.size w w':=by
 obtain ⟨it,f,S,O⟩:=h.ex
 have c0:=S.rep.c0
 have hb:=S.rep.blocks.1
 have hv:∃ A cap,v=.slice A 0 cap:=by
  obtain ⟨xs,ho,_⟩:=S.rep.row
  rcases ho.2 with ⟨rfl,_⟩|⟨g,cap,cur,rfl,_⟩
  ·exact ⟨_,_,rfl⟩
  ·exact ⟨_,_,rfl⟩
 obtain ⟨A,cap,rfl⟩:=hv
 clear S O h
 go_enter Tryz.func115,Tryz.ntmps115
 go_wp2
 exact bodyPost_ret (v:=.tuple #[.int .i64 0,.agg #[.int .i64 0,.int .i64 0],.bool false]) (by simp [results,Tryz.results115,go_sem]) rfl ⟨rfl,(Below.refl _ _).alloc (Nat.le_refl _) _⟩
theorem Row.shrink {w:World}{g m cap:Nat}{it:Nat->Item}(h:Row w (.slice (some ⟨g,0,none⟩) (m+1) cap) (m+1) it):Row w (.slice (some ⟨g,0,none⟩) m cap) m it:=by
 obtain ⟨xs,ho,hx⟩:=h
 have hl:xs.length=(m+1)*3:=ho.1
 rcases ho.2 with ⟨h',_⟩|⟨g',cap',cur,h',hb,hg,hnc,hcm,hcs,htake⟩
 ·cases h'
 ·cases h'
  refine ⟨xs.take (m*3),⟨by rw [List.length_take];omega,.inr ⟨g,cap,cur,rfl,hb,hg,by omega,hcm,hcs,?_⟩⟩,fun i hi=>?_⟩
  ·rw [<- htake,List.take_take];congr 1;omega
  ·obtain ⟨a1,a2,a3⟩:=hx i (by omega)
   refine ⟨?_,?_,?_⟩
   ·rw [List.getElem?_take,if_pos (by omega)];exact a1
   ·rw [List.getElem?_take,if_pos (by omega)];exact a2
   ·rw [List.getElem?_take,if_pos (by omega)];exact a3
theorem AtF.pop {it:Nat->Item}{m:Nat}{f:Int->Option Value}(h:AtF it (m+1) f)(hm:0<m):AtF (updI it 0 (it m)) m (putF (delF f (it 0).id) (it m).id (.int .i64 (0:Nat))):=by
 have hp:=h.apart
 refine ⟨fun k hk=>?_,fun a v hv=>?_⟩
 ·by_cases e1:k=0
  ·subst e1;rw [updI_i,putF_same]
  ·rw [updI_k it _ e1,putF_other _ _ (fun e=>by have:=hp k m (by omega) (by omega) e;omega),delF_other _ (fun e=>e1 (hp k 0 (by omega) (by omega) e))]
   exact h.at' k (by omega)
 ·unfold putF at hv
  split at hv
  ·rename_i e;cases hv;exact ⟨0,hm,by rw [updI_i];exact e.symm,rfl⟩
  ·rename_i e
   unfold delF at hv
   split at hv
   ·cases hv
   ·rename_i e2
    obtain ⟨k,hk,ea,ev⟩:=h.of a v hv
    have k0:k≠0:=fun q=>e2 (by rw [<- ea,q])
    have km:k≠m:=fun q=>e (by rw [<- ea,q])
    exact ⟨k,by omega,by rw [updI_k it _ k0];exact ea,ev⟩
structure Fr (w:World) (N:Nat) (x y:Item):Prop where
 a0:w.cell? ⟨N,0,none⟩=some (.int .i64 0)
 a1:w.cell? ⟨N,1,none⟩=some (.int .i64 0)
 f0:w.frozen? ⟨N,0,none⟩=false
 f1:w.frozen? ⟨N,1,none⟩=false
 b0:w.cell? ⟨N+1,0,none⟩=some (.int .i64 x.id)
 b1:w.cell? ⟨N+1,1,none⟩=some (.int .i64 x.s)
 b2:w.cell? ⟨N+1,2,none⟩=some (.int .i64 x.d)
 c0:w.cell? ⟨N+1+1,0,none⟩=some (.int .i64 y.id)
 c1:w.cell? ⟨N+1+1,1,none⟩=some (.int .i64 y.s)
 c2:w.cell? ⟨N+1+1,2,none⟩=some (.int .i64 y.d)
theorem Fr.keep {F:Nat->Prop}{w w':World}{N:Nat}{x y:Item}(h:Fr w N x y)(K:Keep F w w')(hN:N+3<=w.heap.size)(hF:∀ k,N<=k->¬ F k):Fr w' N x y:=by
 have g0:∀ o,w'.cell? ⟨N,o,none⟩=w.cell? ⟨N,o,none⟩:=fun o=>K.cell (p:=⟨N,o,none⟩) (by show N<_;omega) (hF N (by omega))
 have g1:∀ o,w'.cell? ⟨N+1,o,none⟩=w.cell? ⟨N+1,o,none⟩:=fun o=>K.cell (p:=⟨N+1,o,none⟩) (by show N+1<_;omega) (hF (N+1) (by omega))
 have g2:∀ o,w'.cell? ⟨N+1+1,o,none⟩=w.cell? ⟨N+1+1,o,none⟩:=fun o=>K.cell (p:=⟨N+1+1,o,none⟩) (by show N+1+1<_;omega) (hF (N+1+1) (by omega))
 have g3:∀ o,w'.frozen? ⟨N,o,none⟩=w.frozen? ⟨N,o,none⟩:=fun o=>K.frozen (p:=⟨N,o,none⟩) (by show N<_;omega) (hF N (by omega))
 exact ⟨(g0 0).trans h.a0,(g0 1).trans h.a1,(g3 0).trans h.f0,(g3 1).trans h.f1,(g1 0).trans h.b0,(g1 1).trans h.b1,(g1 2).trans h.b2,(g2 0).trans h.c0,(g2 1).trans h.c1,(g2 2).trans h.c2⟩
theorem popWorld {b mb g m cap:Nat}(w:World)(x y:Item){v:Value}(hb:b<w.heap.size)(c0:w.cell? ⟨b,0,none⟩=some v)(c1:w.cell? ⟨b,1,none⟩=some (.map (some mb)))(f0:w.frozen? ⟨b,0,none⟩=false) :
  ∃ W1:World,W1=((((w.alloc (.cells #[.int .i64 0,.int .i64 0] 38)).alloc (.cells #[.int .i64 x.id,.int .i64 x.s,.int .i64 x.d] 229)).alloc (.cells #[.int .i64 y.id,.int .i64 y.s,.int .i64 y.d] 229)).setCell ⟨b,0,none⟩ (.slice (some ⟨g,0,none⟩) m cap)) /\
   Keep (fun k=>k=b) w W1/\W1.heap.size=w.heap.size+3/\W1.cell? ⟨b,0,none⟩=some (.slice (some ⟨g,0,none⟩) m cap)/\W1.cell? ⟨b,1,none⟩=some (.map (some mb))/\W1.frozen? ⟨b,0,none⟩=false/\Fr W1 w.heap.size x y:=by
 have z1:(w.alloc (.cells #[.int .i64 0,.int .i64 0] 38)).heap.size=w.heap.size+1:=by simp
 have z2:((w.alloc (.cells #[.int .i64 0,.int .i64 0] 38)).alloc (.cells #[.int .i64 x.id,.int .i64 x.s,.int .i64 x.d] 229)).heap.size=w.heap.size+1+1:=by simp
 have k3:Below w.heap.size w (((w.alloc (.cells #[.int .i64 0,.int .i64 0] 38)).alloc (.cells #[.int .i64 x.id,.int .i64 x.s,.int .i64 x.d] 229)).alloc (.cells #[.int .i64 y.id,.int .i64 y.s,.int .i64 y.d] 229)):=(((Below.refl _ _).alloc (Nat.le_refl _) _).alloc (by simp) _).alloc (by simp;omega) _
 have F3:Fr (((w.alloc (.cells #[.int .i64 0,.int .i64 0] 38)).alloc (.cells #[.int .i64 x.id,.int .i64 x.s,.int .i64 x.d] 229)).alloc (.cells #[.int .i64 y.id,.int .i64 y.s,.int .i64 y.d] 229)) w.heap.size x y:=by
  have p0:∀ o,(((w.alloc (.cells #[.int .i64 0,.int .i64 0] 38)).alloc (.cells #[.int .i64 x.id,.int .i64 x.s,.int .i64 x.d] 229)).alloc (.cells #[.int .i64 y.id,.int .i64 y.s,.int .i64 y.d] 229)).cell? ⟨w.heap.size,o,none⟩=(w.alloc (.cells #[.int .i64 0,.int .i64 0] 38)).cell? ⟨w.heap.size,o,none⟩:=fun o=>by
   rw [((Below.refl _ ((w.alloc (.cells #[.int .i64 0,.int .i64 0] 38)).alloc (.cells #[.int .i64 x.id,.int .i64 x.s,.int .i64 x.d] 229))).alloc (Nat.le_refl _) _).cell (p:=⟨w.heap.size,o,none⟩) (by rw [z2];show w.heap.size<_;omega),((Below.refl _ (w.alloc (.cells #[.int .i64 0,.int .i64 0] 38))).alloc (Nat.le_refl _) _).cell (p:=⟨w.heap.size,o,none⟩) (by rw [z1];show w.heap.size<_;omega)]
  have p1:∀ o,(((w.alloc (.cells #[.int .i64 0,.int .i64 0] 38)).alloc (.cells #[.int .i64 x.id,.int .i64 x.s,.int .i64 x.d] 229)).alloc (.cells #[.int .i64 y.id,.int .i64 y.s,.int .i64 y.d] 229)).cell? ⟨w.heap.size+1,o,none⟩=((w.alloc (.cells #[.int .i64 0,.int .i64 0] 38)).alloc (.cells #[.int .i64 x.id,.int .i64 x.s,.int .i64 x.d] 229)).cell? ⟨w.heap.size+1,o,none⟩:=fun o=>by
   rw [((Below.refl _ ((w.alloc (.cells #[.int .i64 0,.int .i64 0] 38)).alloc (.cells #[.int .i64 x.id,.int .i64 x.s,.int .i64 x.d] 229))).alloc (Nat.le_refl _) _).cell (p:=⟨w.heap.size+1,o,none⟩) (by rw [z2];show w.heap.size+1<_;omega)]
  refine ⟨?_,?_,?_,?_,?_,?_,?_,?_,?_,?_⟩
  ·rw [p0];exact World.cell?_alloc_at _ _ _ 0 rfl
  ·rw [p0];exact World.cell?_alloc_at _ _ _ 1 rfl
  ·rw [frozen?_alloc_cells,frozen?_alloc_cells,frozen?_alloc_cells];unfold World.frozen?;rw [Array.getElem?_eq_none (Nat.le_refl _)]
  ·rw [frozen?_alloc_cells,frozen?_alloc_cells,frozen?_alloc_cells];unfold World.frozen?;rw [Array.getElem?_eq_none (Nat.le_refl _)]
  ·rw [p1];exact World.cell?_alloc_at _ _ _ 0 z1.symm
  ·rw [p1];exact World.cell?_alloc_at _ _ _ 1 z1.symm
  ·rw [p1];exact World.cell?_alloc_at _ _ _ 2 z1.symm
  ·exact World.cell?_alloc_at _ _ _ 0 z2.symm
  ·exact World.cell?_alloc_at _ _ _ 1 z2.symm
  ·exact World.cell?_alloc_at _ _ _ 2 z2.symm
 have K0:=Keep.of_below (F:=fun k=>k=b) k3
 have Kb:Keep (fun k=>k=b) _ _:=(Keep.refl (fun k=>k=b) (((w.alloc (.cells #[.int .i64 0,.int .i64 0] 38)).alloc (.cells #[.int .i64 x.id,.int .i64 x.s,.int .i64 x.d] 229)).alloc (.cells #[.int .i64 y.id,.int .i64 y.s,.int .i64 y.d] 229))).setCell (p:=⟨b,0,none⟩) (fun _=>rfl) (.slice (some ⟨g,0,none⟩) m cap)
 refine ⟨_,rfl,K0.trans Kb (fun _ _ h=>h),by simp,World.cell?_setCell_same _ _ _ ((k3.cell (p:=⟨b,0,none⟩) hb).trans c0),?_,?_,F3.keep Kb (by simp) (fun k hk e=>by omega)⟩
 ·rw [World.cell?_setCell_other _ _ _ _ (by intro e;cases e)]
  exact (k3.cell (p:=⟨b,1,none⟩) hb).trans c1
 ·rw [World.frozen?_setCell]
  exact (k3.frozen (p:=⟨b,0,none⟩) hb).trans f0
theorem popCells (W:World)(N:Nat)(s d:Int)(a0:W.cell? ⟨N,0,none⟩=some (.int .i64 0))(a1:W.cell? ⟨N,1,none⟩=some (.int .i64 0)) :
  ((W.setCell ⟨N,0,none⟩ (.int .i64 s)).setCell ⟨N,1,none⟩ (.int .i64 d)).cell? ⟨N,0,none⟩=some (.int .i64 s)/\((W.setCell ⟨N,0,none⟩ (.int .i64 s)).setCell ⟨N,1,none⟩ (.int .i64 d)).cell? ⟨N,1,none⟩=some (.int .i64 d):=by
 constructor
 ·rw [World.cell?_setCell_other _ _ _ _ (by intro e;cases e)];exact World.cell?_setCell_same _ _ _ a0
 ·refine World.cell?_setCell_same _ _ _ (u:=.int .i64 0) ?_
  rw [World.cell?_setCell_other _ _ _ _ (by intro e;cases e)];exact a1
set_option maxHeartbeats 1000000 in
set_option maxRecDepth 1000000 in
theorem pop_one {b mb m:Nat}{v:Value}{H:Int->Option (Int × Int)}(w:World)(h:HeapAt w b mb v (m+1) H) :
  Calls Tryz.prog 115 #[.pointer (some ⟨b,0,none⟩)] w fun e w'=>∃ a s d,e=.returned (.tuple #[.int .i64 a,.agg #[.int .i64 s,.int .i64 d],.bool true])/\H a=some (s,d)/\(∀ a' s' d',H a'=some (s',d')->¬ bef ⟨a',s',d'⟩ ⟨a,s,d⟩)/\(∃ v',HeapAt w' b mb v' m (delH H a)/\v'.ownBlock=v.ownBlock)/\Keep (hb3 b mb v) w w':=by
 obtain ⟨it,f,S,O⟩:=h.ex
 obtain ⟨g,cap,rfl,hcap,hmax,hg⟩:=S.rep.row.pos (by omega)
 obtain ⟨hb,hmb,hbm,hgs⟩:=S.rep.blocks
 obtain ⟨_,hgb,hgm⟩:=hgs g rfl
 obtain ⟨q1,q2,q3⟩:=S.rep.row.cells (show 0<m+1 by omega)
 obtain ⟨p1,p2,p3⟩:=S.rep.row.cells (show m<m+1 by omega)
 have hbd:=S.bd
 have c0:=S.rep.c0
 have c1:=S.rep.c1
 have f0:=S.rep.f0
 have h0:H (it 0).id=some ((it 0).s,(it 0).d):=S.holds.at (by omega)
 have hmin:∀ a' s' d',H a'=some (s',d')->¬ bef ⟨a',s',d'⟩ (it 0):=fun a' s' d' h=>S.holds.least O h
 have hcap':((m:Nat):Int)<=(cap:Int):=by omega
 unfold maxLen at hmax
 simp only [Nat.zero_mul] at q1 q2 q3
 have k3:∀ A B C:Obj,Below w.heap.size w (((w.alloc A).alloc B).alloc C):=fun A B C=>(((Below.refl _ _).alloc (Nat.le_refl _) _).alloc (by simp) _).alloc (by simp;omega) _
 have e3:∀ A B C:Obj,(((w.alloc A).alloc B).alloc C).cell? ⟨b,0,none⟩=some (.slice (some ⟨g,0,none⟩) (m+1) cap):=fun A B C=>((k3 A B C).cell (p:=⟨b,0,none⟩) hb).trans c0
 have e4:∀ A B C:Obj,(((w.alloc A).alloc B).alloc C).frozen? ⟨b,0,none⟩=false:=fun A B C=>((k3 A B C).frozen (p:=⟨b,0,none⟩) hb).trans f0
 clear k3
 have HW:=popWorld (g:=g) (m:=m) (cap:=cap) w (it 0) (it m) hb c0 c1 f0
 obtain ⟨W1,eW,K1,z1,d0,d1,df,fr⟩:=HW
 have row1:Row W1 (.slice (some ⟨g,0,none⟩) m cap) m it:=S.rep.row.shrink.keep K1 (fun q hq=>by simp only [Value.ownBlock,Option.some.injEq] at hq;rw [<- hq];exact hgb)
 have map1:MapF Tryz.prog 3 W1.drew mb f (m+1):=(S.rep.map.keep K1 (fun e=>hbm e.symm)).kept rfl
 have hwf0:=S.wf 0 (by omega)
 have hwfm:=S.wf m (by omega)
 have hf0:=S.atf.at' 0 (by omega)
 obtain ⟨W2,hrun,M2,T2⟩:=map1.drop (t:=173) law3 Tryz.under51 hwf0 0
 have em:(if (f (it 0).id).isSome then m+1 - 1 else m+1)=m:=by rw [hf0];rfl
 rw [em] at M2
 have K2:Keep (fun k=>k=mb) W1 W2:=(Keep.refl (fun k=>k=mb) W1).drew.trans (turned_keep T2) (fun _ _ h=>h)
 have z2:w.heap.size+3<=W2.heap.size:=by have:=K2.size;omega
 have KA:Keep (hb3 b mb (.slice (some ⟨g,0,none⟩) (m+1) cap)) w W2:=(K1.mono (G:=hb3 b mb (.slice (some ⟨g,0,none⟩) (m+1) cap)) (fun _ _ h=>Or.inl h)).trans K2 (fun _ _ h=>Or.inr (Or.inl h))
 have fr2:=fr.keep K2 (by omega) (fun k hk e=>by omega)
 have R2:Rep W2 b mb (.slice (some ⟨g,0,none⟩) m cap) m it (delF f (it 0).id) m:=by
  refine ⟨(K2.cell (p:=⟨b,0,none⟩) (by show b<_;omega) hbm).trans d0,(K2.cell (p:=⟨b,1,none⟩) (by show b<_;omega) hbm).trans d1,(K2.frozen (p:=⟨b,0,none⟩) (by show b<_;omega) hbm).trans df,row1.keep K2 (fun q hq=>?_),M2,S.rep.nb⟩
  simp only [Value.ownBlock,Option.some.injEq] at hq;rw [<- hq];exact hgm
 have b0:=fr.b0
 clear map1 M2 T2 K1 K2 row1 df
 go_enter Tryz.func115,Tryz.ntmps115
 go_wp2
 rw [<- eW]
 clear eW e3 e4 c0 c1 f0 q1 q2 q3 p1 p2 p3
 go_region
 clear hrun b0 d0 d1
 by_cases hm:m=0
 ·subst hm
  obtain ⟨a0,a1,g0,g1,b0,b1,b2,l0,l1,l2⟩:=fr2
  have HF:HeapAt ((W2.setCell ⟨w.heap.size,0,none⟩ (.int .i64 (it 0).s)).setCell ⟨w.heap.size,1,none⟩ (.int .i64 (it 0).d)).drew b mb (.slice (some ⟨g,0,none⟩) 0 cap) 0 (delH H (it 0).id)/\Keep (hb3 b mb (.slice (some ⟨g,0,none⟩) (0+1) cap)) w ((W2.setCell ⟨w.heap.size,0,none⟩ (.int .i64 (it 0).s)).setCell ⟨w.heap.size,1,none⟩ (.int .i64 (it 0).d)).drew:=by
   have kk:Keep (fun k=>k=w.heap.size) W2 ((W2.setCell ⟨w.heap.size,0,none⟩ (.int .i64 (it 0).s)).setCell ⟨w.heap.size,1,none⟩ (.int .i64 (it 0).d)).drew:=(((Keep.refl (fun k=>k=w.heap.size) W2).setCell (p:=⟨w.heap.size,0,none⟩) (fun _=>rfl) _).setCell (p:=⟨w.heap.size,1,none⟩) (fun _=>rfl) _).drew
   refine ⟨⟨it,delF f (it 0).id,⟨R2.keep kk (by omega) (by omega) (fun q hq=>?_),⟨fun i hi=>by omega,fun a v hv=>?_⟩,fun i hi=>by omega,fun i hi=>by omega,fun a s d=>⟨fun hh=>?_,fun ⟨i,hi,_⟩=>by omega⟩,by omega⟩,fun j _ hj=>by omega⟩,KA.trans kk (fun i hi e=>by omega)⟩
   ·simp only [Value.ownBlock,Option.some.injEq] at hq;omega
   ·unfold delF at hv
    split at hv
    ·cases hv
    ·rename_i e
     obtain ⟨i,hi,ea,_⟩:=S.atf.of a v hv
     have:i=0:=by omega
     subst this
     exact absurd ea.symm e
   ·unfold delH at hh
    split at hh
    ·cases hh
    ·rename_i e
     obtain ⟨i,hi,ea⟩:=(S.holds a s d).mp hh
     have:i=0:=by omega
     subst this
     exact absurd (by rw [ea]) (fun q:(it 0).id=a=>e q.symm)
  clear KA R2 S O h hgs
  have r0:=popCells W2 w.heap.size (it 0).s (it 0).d a0 a1
  go_wp2
  go_region
  go_wp2
  exact bodyPost_ret (v:=.tuple #[.int .i64 (it 0).id,.agg #[.int .i64 (it 0).s,.int .i64 (it 0).d],.bool true]) (by simp [results,Tryz.results115,go_sem,r0.1,r0.2]) rfl ⟨_,_,_,rfl,h0,hmin,⟨_,HF.1,rfl⟩,HF.2⟩
 ·have hm0:0<m:=by omega
  have hm1:(0:Int)<(m:Int):=by omega
  have hidne:(it m).id≠(it 0).id:=fun e=>hm (S.atf.apart m 0 (by omega) (by omega) e)
  have em2:(if (delF f (it 0).id (it m).id).isSome then m else m+1)=m:=by rw [delF_other _ hidne,S.atf.at' m (by omega)];rfl
  have P1:=fun w R=>put_any (b:=b) (mb:=mb) (g:=g) (cap:=cap) (n:=m) (m:=m) (it:=it) (f:=delF f (it 0).id) 0 (it m).id (it m).s (it m).d w R hm0 (by omega) hwfm
  rw [em2] at P1
  have HS2:∀ w',Rep w' b mb (.slice (some ⟨g,0,none⟩) m cap) m (updI it 0 (it m)) (putF (delF f (it 0).id) (it m).id (.int .i64 (0:Nat))) m->HS w' b mb (.slice (some ⟨g,0,none⟩) m cap) m (updI it 0 (it m)) (putF (delF f (it 0).id) (it m).id (.int .i64 (0:Nat))) (delH H (it 0).id):=by
   intro w' R
   refine ⟨R,S.atf.pop hm0,fun k hk=>?_,fun k hk=>?_,S.holds.pop S.atf.apart,by omega⟩
   ·by_cases ek:k=0
    ·subst ek;rw [updI_i];exact hwfm
    ·rw [updI_k it _ ek];exact S.wf k (by omega)
   ·by_cases ek:k=0
    ·subst ek;rw [updI_i];exact S.ok m (by omega)
    ·rw [updI_k it _ ek];exact S.ok k (by omega)
  have hsink:Sinking (updI it 0 (it m)) m 0:=Sinking.first O _
  obtain ⟨a0,a1,g0,g1,b0,b1,b2,l0,l1,l2⟩:=fr2
  clear S O h hgs em em2 hf0 fr
  go_wp2_with fail
  refine (P1 _ R2).mono ?_
  rintro e W3 ⟨rfl,R3,K3⟩
  have S3:=HS2 _ R3
  go_wp2_with fail
  refine (sink_any _ S3 hm0 hsink).mono ?_
  rintro e W4 ⟨rfl,⟨it',f',S4,O4⟩,K4⟩
  have K5:Keep (fun k=>k=g\/k=mb) W2 W4:=K3.trans K4 (fun _ _ h=>h)
  obtain ⟨a0,a1,g0,g1,b0,b1,b2,l0,l1,l2⟩:=(Fr.mk a0 a1 g0 g1 b0 b1 b2 l0 l1 l2:Fr W2 w.heap.size (it 0) (it m)).keep K5 z2 (fun k hk e=>by omega)
  have z4:w.heap.size+3<=W4.heap.size:=by have:=K5.size;omega
  have KB:Keep (hb3 b mb (.slice (some ⟨g,0,none⟩) (m+1) cap)) w W4:=KA.trans K5 (fun k _ e=>by
   rcases e with rfl|rfl
   ·exact Or.inr (Or.inr rfl)
   ·exact Or.inr (Or.inl rfl))
  have HF:HeapAt ((W4.setCell ⟨w.heap.size,0,none⟩ (.int .i64 (it 0).s)).setCell ⟨w.heap.size,1,none⟩ (.int .i64 (it 0).d)).drew b mb (.slice (some ⟨g,0,none⟩) m cap) m (delH H (it 0).id)/\Keep (hb3 b mb (.slice (some ⟨g,0,none⟩) (m+1) cap)) w ((W4.setCell ⟨w.heap.size,0,none⟩ (.int .i64 (it 0).s)).setCell ⟨w.heap.size,1,none⟩ (.int .i64 (it 0).d)).drew:=by
   have kk:Keep (fun k=>k=w.heap.size) W4 ((W4.setCell ⟨w.heap.size,0,none⟩ (.int .i64 (it 0).s)).setCell ⟨w.heap.size,1,none⟩ (.int .i64 (it 0).d)).drew:=(((Keep.refl (fun k=>k=w.heap.size) W4).setCell (p:=⟨w.heap.size,0,none⟩) (fun _=>rfl) _).setCell (p:=⟨w.heap.size,1,none⟩) (fun _=>rfl) _).drew
   have hh:HeapAt W4 b mb (.slice (some ⟨g,0,none⟩) m cap) m (delH H (it 0).id):=⟨it',f',S4,O4⟩
   exact ⟨hh.keep kk (by omega) (by omega) (fun q hq=>by simp only [Value.ownBlock,Option.some.injEq] at hq;omega),KB.trans kk (fun i hi e=>by omega)⟩
  have r0:=popCells W4 w.heap.size (it 0).s (it 0).d a0 a1
  clear KA KB K3 K4 K5 R2 R3 S3 S4 P1 HS2
  go_wp2
  go_region
  go_wp2
  exact bodyPost_ret (v:=.tuple #[.int .i64 (it 0).id,.agg #[.int .i64 (it 0).s,.int .i64 (it 0).d],.bool true]) (by simp [results,Tryz.results115,go_sem,r0.1,r0.2]) rfl ⟨_,_,_,rfl,h0,hmin,⟨_,HF.1,rfl⟩,HF.2⟩
end
section
open Go.RowKit
def pushB (H:Int->Option (Int × Int)) (a s d:Int):Bool:=match H a with|none=>true|some c=>decide (val s d<val c.1 c.2)
def pushH (H:Int->Option (Int × Int)) (a s d:Int):Int->Option (Int × Int):=if pushB H a s d then putH H a s d else H
theorem pushed (H:Int->Option (Int × Int))(a s d:Int):Pushed H a s d (pushH H a s d):=by
 unfold Pushed pushH pushB
 cases ha:H a with
 |none=>left;exact ⟨rfl,fun h=>(by cases h)⟩
 |some c =>
  obtain ⟨t,u⟩:=c
  by_cases hv:val s d<val t u
  ·left
   refine ⟨by simp [hv],fun h=>?_⟩
   cases h;exact hv
  ·right
   exact ⟨by simp [hv],t,u,rfl,by omega⟩
def HeapTo (w w':World) (b mb:Nat) (v:Value) (n:Nat) (H:Int->Option (Int × Int)):Prop :=
 ∃ v' n',HeapAt w' b mb v' n' H/\n'<=n+1/\∀ g,v'.ownBlock=some g->v.ownBlock=some g\/w.heap.size<=g
theorem push_all {b mb n:Nat}{v:Value}{H:Int->Option (Int × Int)}(a s d:Int)(w:World)(h:HeapAt w b mb v n H)(hc:okC s d)(hwf:(Lit.int .i64 a).wf=true)(hn:n<1000000) :
  Calls Tryz.prog 179 #[.pointer (some ⟨b,0,none⟩),.int .i64 a,.agg #[.int .i64 s,.int .i64 d]] w fun e w'=>e=.returned (.bool (pushB H a s d))/\HeapTo w w' b mb v n (pushH H a s d)/\Keep (hb3 b mb v) w w':=by
 cases ha:H a with
 |none =>
  have e1:pushB H a s d=true:=by unfold pushB;rw [ha]
  have e2:pushH H a s d=putH H a s d:=by unfold pushH;rw [e1];rfl
  rw [e1,e2]
  exact (push_new a s d w h ha hc hwf hn).mono fun e w' ⟨he,⟨v',h',hl⟩,K⟩=>⟨he,⟨v',n+1,h',Nat.le_refl _,fun g hg=>by
   rcases hl with hl|⟨g',hl,hg'⟩
   ·exact Or.inl (by rw [<- hl];exact hg)
   ·rw [hl] at hg;cases hg;exact Or.inr hg'⟩,K⟩
 |some c =>
  obtain ⟨t,u⟩:=c
  by_cases hv:val s d<val t u
  ·have e1:pushB H a s d=true:=by unfold pushB;rw [ha];exact decide_eq_true hv
   have e2:pushH H a s d=putH H a s d:=by unfold pushH;rw [e1];rfl
   rw [e1,e2]
   exact (push_less a s d t u w h ha hc hv).mono fun e w' ⟨he,h',K⟩=>⟨he,⟨v,n,h',Nat.le_succ _,fun g hg=>Or.inl hg⟩,K⟩
  ·have e1:pushB H a s d=false:=by unfold pushB;rw [ha];exact decide_eq_false hv
   have e2:pushH H a s d=H:=by unfold pushH;rw [e1];rfl
   rw [e1,e2]
   exact (push_no a s d t u w h ha hc hv).mono fun e w' ⟨he,hb⟩=>⟨he,⟨v,n,h.below hb,Nat.le_succ _,fun g hg=>Or.inl hg⟩,Keep.of_below hb⟩
theorem hb3_lt {w:World}{b mb n:Nat}{v:Value}{H:Int->Option (Int × Int)}(h:HeapAt w b mb v n H){k:Nat}(hk:hb3 b mb v k):k<w.heap.size:=by
 obtain ⟨h1,h2,h3⟩:=h.blocks
 rcases hk with rfl|rfl|hk
 ·exact h1
 ·exact h2
 ·exact h3 k hk
end
section
structure Dg (Ed:Int->Int->Int->Int->Prop) (o:Int) (F H:Int->Option (Int × Int)) (D:Int->Int->Prop):Prop where
 sF:∀ {a s d},F a=some (s,d)->Wg Ed o a s d
 sH:∀ {a s d},H a=some (s,d)->Wg Ed o a s d
 off:∀ {a s d},H a=some (s,d)->F a=none
 home:(∃ s d,F o=some (s,d)/\val s d<=0)\/∃ s d,H o=some (s,d)/\val s d<=0
 mono:∀ {a s d b t u},F a=some (s,d)->H b=some (t,u)->val s d<=val t u
 edge:∀ {a b s d t u},F a=some (s,d)->Ed a b t u->D a b->(∃ s' d',F b=some (s',d')/\val s' d'<=val (s+t) (d+u))\/∃ s' d',H b=some (s',d')/\val s' d'<=val (s+t) (d+u)
section
variable {Ed : Int → Int → Int → Int → Prop} {o a b s d t u : Int} {F H H' : Int → Option (Int × Int)} {D D' : Int → Int → Prop}
theorem putH_at (F:Int->Option (Int × Int))(a s d:Int):putH F a s d a=some (s,d):=if_pos rfl
theorem putH_off (F:Int->Option (Int × Int)){a i:Int}(s d:Int)(h:i≠a):putH F a s d i=F i:=if_neg h
theorem delH_at (F:Int->Option (Int × Int))(a:Int):delH F a a=none:=if_pos rfl
theorem delH_off (F:Int->Option (Int × Int)){a i:Int}(h:i≠a):delH F a i=F i:=if_neg h
theorem Dg.start (Ed:Int->Int->Int->Int->Prop)(o:Int):Dg Ed o (fun _=>none) (putH (fun _=>none) o 0 0) (fun _ _=>True):=by
 refine ⟨fun h=>(by cases h),fun {a s d} h=>?_,fun _=>rfl,Or.inr ⟨0,0,putH_at _ _ _ _,by decide⟩,fun h=>(by cases h),fun h=>(by cases h)⟩
 by_cases e:a=o
 ·subst e
  rw [putH_at] at h
  cases h
  exact Wg.nil
 ·rw [putH_off _ _ _ e] at h;cases h
theorem Dg.pop (h:Dg Ed o F H (fun _ _=>True))(ha:H a=some (s,d))(hm:∀ {b t u},H b=some (t,u)->val s d<=val t u):Dg Ed o (putH F a s d) (delH H a) (fun x _=>x≠a)/\F a=none/\∀ {x t u},putH F a s d x=some (t,u)->val t u<=val s d:=by
 have hFa:=h.off ha
 refine ⟨⟨fun {x p q} hx=>?_,fun {x p q} hx=>?_,fun {x p q} hx=>?_,?_,fun {x p q y t u} hx hy=>?_,fun {x y p q t u} hx e hD=>?_⟩,hFa,fun {x t u} hx=>?_⟩
 ·by_cases e:x=a
  ·subst e;rw [putH_at] at hx;cases hx;exact h.sH ha
  ·rw [putH_off _ _ _ e] at hx;exact h.sF hx
 ·by_cases e:x=a
  ·subst e;rw [delH_at] at hx;cases hx
  ·rw [delH_off _ e] at hx;exact h.sH hx
 ·by_cases e:x=a
  ·subst e;rw [delH_at] at hx;cases hx
  ·rw [delH_off _ e] at hx;rw [putH_off _ _ _ e];exact h.off hx
 ·rcases h.home with ⟨p,q,h1,h2⟩|⟨p,q,h1,h2⟩
  ·left
   exact ⟨p,q,by rw [putH_off _ _ _ (fun e=>by rw [e,hFa] at h1;cases h1)];exact h1,h2⟩
  ·by_cases e:o=a
   ·left;subst e
    rw [ha] at h1;cases h1
    exact ⟨s,d,putH_at _ _ _ _,h2⟩
   ·right;exact ⟨p,q,by rw [delH_off _ e];exact h1,h2⟩
 ·have e2:y≠a:=fun e=>by rw [e,delH_at] at hy;cases hy
  rw [delH_off _ e2] at hy
  by_cases e:x=a
  ·subst e;rw [putH_at] at hx;cases hx;exact hm hy
  ·rw [putH_off _ _ _ e] at hx;exact h.mono hx hy
 ·have hxa:x≠a:=hD
  rw [putH_off _ _ _ hxa] at hx
  rcases h.edge hx e trivial with ⟨p',q',h1,h2⟩|⟨p',q',h1,h2⟩
  ·left
   exact ⟨p',q',by rw [putH_off _ _ _ (fun e=>by rw [e,hFa] at h1;cases h1)];exact h1,h2⟩
  ·by_cases e:y=a
   ·left;subst e
    rw [ha] at h1;cases h1
    exact ⟨s,d,putH_at _ _ _ _,h2⟩
   ·right;exact ⟨p',q',by rw [delH_off _ e];exact h1,h2⟩
 ·by_cases e:x=a
  ·subst e;rw [putH_at] at hx;cases hx;exact Int.le_refl _
  ·rw [putH_off _ _ _ e] at hx;exact h.mono hx ha
theorem Pushed.three (hp:Pushed H b s d H'):(∃ p q,H' b=some (p,q)/\val p q<=val s d)/\(∀ x p q,H x=some (p,q)->∃ p' q',H' x=some (p',q')/\val p' q'<=val p q)/\∀ x p q,H' x=some (p,q)->H x=some (p,q)\/(x=b/\p=s/\q=d):=by
 rcases hp with ⟨rfl,h1⟩|⟨rfl,t,u,h1,h2⟩
 ·refine ⟨⟨s,d,putH_at _ _ _ _,Int.le_refl _⟩,fun x p q hx=>?_,fun x p q hx=>?_⟩
  ·by_cases e:x=b
   ·subst e
    have:=h1 hx
    exact ⟨s,d,putH_at _ _ _ _,by omega⟩
   ·exact ⟨p,q,by rw [putH_off _ _ _ e];exact hx,Int.le_refl _⟩
  ·by_cases e:x=b
   ·subst e;rw [putH_at] at hx;cases hx;exact Or.inr ⟨rfl,rfl,rfl⟩
   ·rw [putH_off _ _ _ e] at hx;exact Or.inl hx
 ·exact ⟨⟨t,u,h1,h2⟩,fun x p q hx=>⟨p,q,hx,Int.le_refl _⟩,fun x p q hx=>Or.inl hx⟩
theorem Dg.push (h:Dg Ed o F H D)(ha:F a=some (s,d))(hmx:∀ {x p q},F x=some (p,q)->val p q<=val s d)(e:Ed a b t u)(hv:0<=val t u)(hb:F b=none)(hp:Pushed H b (s+t) (d+u) H')(hu:∀ {t' u'},Ed a b t' u'->t'=t/\u'=u) :
  Dg Ed o F H' (fun x y=>D x y\/(x=a/\y=b)):=by
 have hadd:=val_add s d t u
 have hw:=(h.sF ha).step e
 have hp:=hp.three
 refine ⟨h.sF,fun {x p q} hx=>?_,fun {x p q} hx=>?_,?_,fun {x p q y p' q'} hx hy=>?_,fun {x y p q t' u'} hx e' hD=>?_⟩
 ·rcases hp.2.2 x p q hx with h1|⟨rfl,rfl,rfl⟩
  ·exact h.sH h1
  ·exact hw
 ·rcases hp.2.2 x p q hx with h1|⟨rfl,_,_⟩
  ·exact h.off h1
  ·exact hb
 ·rcases h.home with h1|⟨p,q,h1,h2⟩
  ·exact Or.inl h1
  ·right
   obtain ⟨p',q',h3,h4⟩:=hp.2.1 o p q h1
   exact ⟨p',q',h3,by omega⟩
 ·rcases hp.2.2 y p' q' hy with h1|⟨rfl,rfl,rfl⟩
  ·exact h.mono hx h1
  ·have:=hmx hx;omega
 ·have old:∀ {y t' u'},Ed x y t' u'->D x y->(∃ s' d',F y=some (s',d')/\val s' d'<=val (p+t') (q+u'))\/∃ s' d',H' y=some (s',d')/\val s' d'<=val (p+t') (q+u'):=fun {y t' u'} e' hD=>by
   rcases h.edge hx e' hD with h1|⟨p',q',h1,h2⟩
   ·exact Or.inl h1
   ·right
    obtain ⟨p2,q2,h3,h4⟩:=hp.2.1 y p' q' h1
    exact ⟨p2,q2,h3,by omega⟩
  rcases hD with hD|⟨rfl,rfl⟩
  ·exact old e' hD
  ·right
   obtain ⟨rfl,rfl⟩:=hu e'
   rw [ha] at hx;cases hx
   obtain ⟨p2,q2,h3,h4⟩:=hp.1
   exact ⟨p2,q2,h3,h4⟩
theorem Dg.pass (h:Dg Ed o F H D)(hmx:∀ {x p q},F x=some (p,q)->val p q<=val s d)(ha:F a=some (s,d))(hD:∀ {y t u},Ed a y t u->D' a y->D a y\/(F y≠none/\0<=val t u))(hD2:∀ {x y},x≠a->D' x y->D x y):Dg Ed o F H D':=by
 refine ⟨h.sF,h.sH,h.off,h.home,h.mono,fun {x y p q t' u'} hx e' hd=>?_⟩
 by_cases e:x=a
 ·subst e
  rcases hD e' hd with h1|⟨h1,h2⟩
  ·exact h.edge hx e' h1
  ·left
   rw [ha] at hx;cases hx
   cases hy:F y with
   |none=>exact absurd hy h1
   |some c =>
    have:=hmx (x:=y) (p:=c.1) (q:=c.2) hy
    exact ⟨c.1,c.2,rfl,by rw [val_add];omega⟩
 ·exact h.edge hx e' (hD2 e hd)
theorem Dg.within (h:Dg Ed o F H (fun _ _=>True)){M:Int}(hM:∀ {b t u},H b=some (t,u)->M<val t u)(h0:0<=M)(hn:∀ {a b t u},Ed a b t u->0<=val t u){x y:Int}(hxy:val x y<=M) :
  (∃ p q,Wg Ed o b p q/\val p q<=val x y)↔∃ p q,F b=some (p,q)/\val p q<=val x y:=by
 constructor
 ·rintro ⟨p,q,hw,hv⟩
  have key:val p q<=M->∃ p' q',F b=some (p',q')/\val p' q'<=val p q :=
   (hw (fun b p q=>Wg Ed o b p q/\(val p q<=M->∃ p' q',F b=some (p',q')/\val p' q'<=val p q)) ⟨Wg.nil,fun _=>by
    rcases h.home with h1|⟨p,q,h1,h2⟩
    ·exact h1
    ·have:=hM h1;omega⟩ (fun a s d b t u ⟨hwa,ih⟩ e=>⟨hwa.step e,fun hle=>by
    have hadd:=val_add s d t u
    have hv0:=hn e
    obtain ⟨p',q',h1,h2⟩:=ih (by omega)
    have hadd2:=val_add p' q' t u
    rcases h.edge h1 e trivial with ⟨p2,q2,h3,h4⟩|⟨p2,q2,h3,h4⟩
    ·exact ⟨p2,q2,h3,by omega⟩
    ·have:=hM h3;omega⟩)).2
  obtain ⟨p',q',h1,h2⟩:=key (by omega)
  exact ⟨p',q',h1,by omega⟩
 ·rintro ⟨p,q,h1,h2⟩
  exact ⟨p,q,h.sF h1,h2⟩
def potG (K:Nat) (B:Int->Option (Int × Int)):Nat->Nat
 |0=>0
 |N+1=>potG K B N+match B N with|some c=>(val c.1 c.2).toNat|none=>K
variable {B : Int → Option (Int × Int)} {K : Nat}
theorem potG_same (a s d:Int)(N:Nat)(h:(N:Int)<=a):potG K (putH B a s d) N=potG K B N:=by
 induction N with
 |zero=>rfl
 |succ N ih =>
  unfold potG
  rw [ih (by omega)]
  have:putH B a s d N=B N:=if_neg (by omega)
  rw [this]
theorem potG_put (a s d:Int)(N:Nat)(h0:0<=a)(h:a<N)(hv:0<=val s d)(hn:B a=none->(val s d).toNat<K)(hs:∀ s' d',B a=some (s',d')->val s d<val s' d'):potG K (putH B a s d) N<potG K B N:=by
 induction N with
 |zero=>omega
 |succ N ih =>
  unfold potG
  by_cases e:a=N
  ·rw [potG_same a s d N (by omega)]
   have h1:putH B a s d N=some (s,d):=if_pos e.symm
   rw [h1,<- e]
   cases hB:B a with
   |none =>
    have:=hn hB
    show potG K B N+(val s d).toNat<potG K B N+K
    omega
   |some c =>
    have:=hs c.1 c.2 hB
    show potG K B N+(val s d).toNat<potG K B N+(val c.1 c.2).toNat
    omega
  ·have h1:putH B a s d N=B N:=if_neg (fun q=>e q.symm)
   rw [h1]
   have:=ih (by omega)
   omega
theorem cntG_again (F:Int->Option (Int × Int))(a s d:Int)(N:Nat)(h:(F a).isSome=true):cnt (putH F a s d) N=cnt F N:=by
 induction N with
 |zero=>rfl
 |succ N ih =>
  unfold cnt
  rw [ih]
  by_cases e:(N:Int)=a
  ·have h1:putH F a s d N=some (s,d):=if_pos e
   rw [h1,e,h]
   rfl
  ·have h1:putH F a s d N=F N:=if_neg e
   rw [h1]
end
end
end Go.Proofs.YtipbhlofbpnpjaaGreatDoor
