/-
  Texts laid together: Heap, Push, Push2, Push3.
-/
import Derived.Test.YtipbhlofbpnpjaaGreatDoorQ19
import Derived.Maps.AppendAt
namespace Go.Proofs.YtipbhlofbpnpjaaGreatDoor
section
open Go.RowKit
structure HeapAt (w:World) (b mb:Nat) (v:Value) (n:Nat) (H:Int->Option (Int × Int)):Prop where
 ex:∃ it f,HS w b mb v n it f H/\Ord it n
theorem HeapAt.below {w w':World}{b mb n:Nat}{v:Value}{H:Int->Option (Int × Int)}(h:HeapAt w b mb v n H) (hb:Below w.heap.size w w'):HeapAt w' b mb v n H:=by
 obtain ⟨it,f,S,O⟩:=h.ex
 exact ⟨it,f,S.below hb,O⟩
theorem HeapAt.keep {F:Nat->Prop}{w w':World}{b mb n:Nat}{v:Value}{H:Int->Option (Int × Int)}(h:HeapAt w b mb v n H) (hk:Keep F w w') (h1:¬ F b) (h2:¬ F mb) (h3:∀ g,v.ownBlock=some g->¬ F g):HeapAt w' b mb v n H:=by
 obtain ⟨it,f,S,O⟩:=h.ex
 exact ⟨it,f,⟨S.rep.keep hk h1 h2 h3,S.atf,S.wf,S.ok,S.holds,S.bd⟩,O⟩
theorem HeapAt.blocks {w:World}{b mb n:Nat}{v:Value}{H:Int->Option (Int × Int)}(h:HeapAt w b mb v n H):b < w.heap.size/\mb < w.heap.size/\∀ g,v.ownBlock=some g->g < w.heap.size:=by
 obtain ⟨it,f,S,O⟩:=h.ex
 have:=S.rep.blocks
 exact ⟨this.1,this.2.1,fun g hg=>(this.2.2.2 g hg).1⟩
theorem HeapAt.empty {w:World}{b mb:Nat}{v:Value}{H:Int->Option (Int × Int)}(h:HeapAt w b mb v 0 H) (a:Int):H a=none:=by
 obtain ⟨it,f,S,O⟩:=h.ex
 cases e:H a with
 | none=>rfl
 | some c =>
   obtain ⟨s,d⟩:=c
   obtain ⟨i,hi,_⟩:=(S.holds a s d).mp e
   omega
theorem HeapAt.fits {w:World}{b mb n:Nat}{v:Value}{H:Int->Option (Int × Int)}(h:HeapAt w b mb v n H) {a s d:Int}(ha:H a=some (s,d)):okC s d/\(Lit.int .i64 a).wf=true/\0 < n:=by
 obtain ⟨it,f,S,O⟩:=h.ex
 obtain ⟨i,hi,e⟩:=(S.holds a s d).mp ha
 have h1:=S.ok i hi
 have h2:=S.wf i hi
 rw [e] at h1 h2
 exact ⟨h1,h2,by omega⟩
theorem Row.nil (w:World) (it:Nat->Item):Row w (.slice none 0 0) 0 it:=⟨[],World.ownsRow_nil w 0 229 3,fun i hi=>by omega⟩
set_option maxHeartbeats 400000 in
theorem new_any (w:World):Calls Tryz.prog 148 #[] w fun e w'=>e=.returned (.pointer (some ⟨w.heap.size+1,0,none⟩))/\HeapAt w' (w.heap.size+1) w.heap.size (.slice none 0 0) 0 (fun _=>none)/\Below w.heap.size w w'/\w'.heap.size=w.heap.size+2:=by
 have hmm:=@run_makeMap Tryz.prog
 go_enter Tryz.func148,Tryz.ntmps148
 go_wp2
 go_ret
 have HB:Below w.heap.size w ((w.alloc (.map #[] 0)).alloc (.cells #[.slice none 0 0,.map (some w.heap.size)] 227)):=((Below.refl _ _).alloc (Nat.le_refl _) _).alloc (by simp) _
 refine ⟨rfl,⟨fun _=>⟨0,0,0⟩,fun _=>none,⟨⟨?_,?_,?_,Row.nil _ _,?_,by simp [Value.ownBlock]⟩,⟨fun i hi=>by omega,fun a v h=>(by cases h)⟩,fun i hi=>by omega,fun i hi=>by omega,fun a s d=>⟨fun h=>(by cases h),fun ⟨i,hi,_⟩=>(by omega)⟩,by omega⟩,fun j _ hj=>by omega⟩,HB,by simp⟩
 ·exact World.cell?_alloc_at #[.slice none 0 0,.map (some w.heap.size)] 227 (w.heap.size+1) 0 (by simp)
 ·exact World.cell?_alloc_at #[.slice none 0 0,.map (some w.heap.size)] 227 (w.heap.size+1) 1 (by simp)
 ·rw [frozen?_alloc_cells]
  simp [World.frozen?]
 ·exact (MapF.made w Tryz.prog 3).keep (F:=fun _=>False) ((Keep.refl _ _).alloc _) id
end
section
open Go.RowKit
theorem HS.mem {w:World}{b mb n:Nat}{v:Value}{it:Nat->Item}{f:Int->Option Value}{H:Int->Option (Int × Int)}(S:HS w b mb v n it f H) {a:Int}(ha:H a=none):f a=none:=by
 cases e:f a with
 | none=>rfl
 | some v =>
   obtain ⟨i,hi,ea,_⟩:=S.atf.of a v e
   exact absurd ea (S.holds.gone ha i hi)
theorem AtF.last {it:Nat->Item}{n:Nat}{f:Int->Option Value}(h:AtF it n f) {x:Item}(hx:f x.id=none):AtF (updI it n x) (n+1) (putF f x.id (.int .i64 n)):=by
 refine ⟨fun k hk=>?_,fun a v hv=>?_⟩
 ·by_cases e1:k=n
  ·subst e1;rw [updI_i,putF_same]
  ·rw [updI_k it x e1,putF_other _ _ (fun e=>by rw [<- e,h.at' k (by omega)] at hx;cases hx)]
   exact h.at' k (by omega)
 ·unfold putF at hv
  split at hv
  ·rename_i e;cases hv;exact ⟨n,by omega,by rw [updI_i];exact e.symm,rfl⟩
  ·obtain ⟨k,hk,ea,ev⟩:=h.of a v hv
   exact ⟨k,by omega,by rw [updI_k it x (by omega)];exact ea,ev⟩
theorem AtF.same {it:Nat->Item}{n i:Nat}{f:Int->Option Value}(h:AtF it n f) (hi:i < n) {x:Item}(hx:(it i).id=x.id):AtF (updI it i x) n (putF f x.id (.int .i64 i)):=by
 have hp:=h.apart
 refine ⟨fun k hk=>?_,fun a v hv=>?_⟩
 ·by_cases e1:k=i
  ·subst e1;rw [updI_i,putF_same]
  ·rw [updI_k it x e1,putF_other _ _ (fun e=>e1 (hp k i hk hi (by rw [hx];exact e)))]
   exact h.at' k hk
 ·unfold putF at hv
  split at hv
  ·rename_i e;cases hv;exact ⟨i,hi,by rw [updI_i];exact e.symm,rfl⟩
  ·rename_i e
   obtain ⟨k,hk,ea,ev⟩:=h.of a v hv
   refine ⟨k,hk,?_,ev⟩
   rw [updI_k it x (fun q=>e (by rw [<- ea,q,hx]))]
   exact ea
theorem ltB_val {s d t u:Int}(h:okC s d) (k:okC t u):ltB s d t u=true↔val s d < val t u:=by
 unfold ltB
 rw [cmpC_val' s d t u h k,decide_eq_true_iff]
 exact cmpI_neg _ _
theorem ltB_false {s d t u:Int}(h:okC s d) (k:okC t u) (hn:¬ val s d < val t u):ltB s d t u=false:=by
 cases e:ltB s d t u with
 | false=>rfl
 | true=>exact absurd ((ltB_val h k).mp e) hn
set_option maxHeartbeats 1000000 in
theorem push_no {b mb n:Nat}{v:Value}{H:Int->Option (Int × Int)}(a s d t u:Int) (w:World) (h:HeapAt w b mb v n H) (ha:H a=some (t,u)) (hc:okC s d) (hn:¬ val s d < val t u) :
  Calls Tryz.prog 179 #[.pointer (some ⟨b,0,none⟩),.int .i64 a,.agg #[.int .i64 s,.int .i64 d]] w fun e w'=>e=.returned (.bool false)/\Below w.heap.size w w':=by
 obtain ⟨it,f,S,O⟩:=h.ex
 obtain ⟨i,hi,e⟩:=(S.holds a t u).mp ha
 obtain ⟨g,cap,rfl,_,_,hg⟩:=S.rep.row.pos (by omega)
 obtain ⟨q1,q2,q3⟩:=S.rep.row.cells hi
 have hk:=S.ok i hi
 rw [e] at q1 q2 q3 hk
 have hlt:=ltB_false hc hk hn
 have c0:=S.rep.c0
 have c1:=S.rep.c1
 have hb:=S.rep.blocks.1
 have hwf:=S.wf i hi
 rw [e] at hwf
 have hf:=S.atf.at' i hi
 rw [e] at hf
 have HB0:Below w.heap.size w (w.alloc (.cells #[.int .i64 s,.int .i64 d] 38)):=(Below.refl _ w).alloc (Nat.le_refl _) _
 have hl:=((S.rep.below HB0).map).look_some law3 Tryz.under51 (zero3 _) hwf hf true
 have h1:(i:Int) < (n:Int):=by omega
 have s0:∀ x:Since (w.alloc (.cells #[.int .i64 s,.int .i64 d] 38)),x.u.cell? ⟨w.heap.size,0,none⟩=some (.int .i64 s):=fun x=>(x.cell _ _ (by simp)).trans (World.cell?_alloc_at #[.int .i64 s,.int .i64 d] 38 w.heap.size 0 rfl)
 have s1:∀ x:Since (w.alloc (.cells #[.int .i64 s,.int .i64 d] 38)),x.u.cell? ⟨w.heap.size,1,none⟩=some (.int .i64 d):=fun x=>(x.cell _ _ (by simp)).trans (World.cell?_alloc_at #[.int .i64 s,.int .i64 d] 38 w.heap.size 1 rfl)
 have s2:∀ x:Since (w.alloc (.cells #[.int .i64 s,.int .i64 d] 38)),x.u.cell? ⟨b,0,none⟩=some (.slice (some ⟨g,0,none⟩) n cap):=fun x=>(x.cell _ _ (by simp;omega)).trans ((HB0.cell (p:=⟨b,0,none⟩) hb).trans c0)
 have s3:∀ x:Since (w.alloc (.cells #[.int .i64 s,.int .i64 d] 38)),x.u.cell? ⟨g,i*3+1,none⟩=some (.int .i64 t):=fun x=>(x.cell _ _ (by simp;omega)).trans ((HB0.cell (p:=⟨g,i*3+1,none⟩) hg).trans q2)
 have s4:∀ x:Since (w.alloc (.cells #[.int .i64 s,.int .i64 d] 38)),x.u.cell? ⟨g,i*3+2,none⟩=some (.int .i64 u):=fun x=>(x.cell _ _ (by simp;omega)).trans ((HB0.cell (p:=⟨g,i*3+2,none⟩) hg).trans q3)
 have hne:=since_ne (w.alloc (.cells #[.int .i64 s,.int .i64 d] 38))
 clear S O h e ha q1 q2 q3
 go_enter Tryz.func179,Tryz.ntmps179
 go_wp2
 refine wp_region_since (by kernel_rfl) (by kernel_rfl) ?_
 repeat (go_big_quiet_step ((go_at_call 31;exact Calls.since_of (less_v hlt _ hc hk))))
 refine wpQuiet_nil ?_
 rintro _ ⟨x,rfl⟩
 go_wp2
 go_ret
 exact ⟨rfl,HB0.trans (x.h.mono (by simp))⟩
end
section
open Go.RowKit
def hb3 (b mb:Nat) (v:Value) (k:Nat):Prop:=k=b\/k=mb\/v.ownBlock=some k
set_option maxHeartbeats 1000000 in
theorem push_less {b mb n:Nat}{v:Value}{H:Int->Option (Int × Int)}(a s d t u:Int) (w:World) (h:HeapAt w b mb v n H) (ha:H a=some (t,u)) (hc:okC s d) (hn:val s d < val t u) :
  Calls Tryz.prog 179 #[.pointer (some ⟨b,0,none⟩),.int .i64 a,.agg #[.int .i64 s,.int .i64 d]] w fun e w'=>e=.returned (.bool true)/\HeapAt w' b mb v n (putH H a s d)/\Keep (hb3 b mb v) w w':=by
 obtain ⟨it,f,S,O⟩:=h.ex
 obtain ⟨i,hi,e⟩:=(S.holds a t u).mp ha
 obtain ⟨g,cap,rfl,_,_,hg⟩:=S.rep.row.pos (by omega)
 obtain ⟨q1,q2,q3⟩:=S.rep.row.cells hi
 have hk:=S.ok i hi
 have hrise:Rising (updI it i ⟨a,s,d⟩) n i:=Rising.less O hi ⟨a,s,d⟩ (by rw [e];unfold bef Item.v;simp only;omega)
 rw [e] at q1 q2 q3 hk
 have hlt:=(ltB_val hc hk).mpr hn
 have c0:=S.rep.c0
 have c1:=S.rep.c1
 have hb:=S.rep.blocks.1
 have hwf:=S.wf i hi
 rw [e] at hwf
 have hf:=S.atf.at' i hi
 rw [e] at hf
 have HB0:Below w.heap.size w (w.alloc (.cells #[.int .i64 s,.int .i64 d] 38)):=(Below.refl _ w).alloc (Nat.le_refl _) _
 have hl:=((S.rep.below HB0).map).look_some law3 Tryz.under51 (zero3 _) hwf hf true
 have h1:(i:Int) < (n:Int):=by omega
 have s0:∀ x:Since (w.alloc (.cells #[.int .i64 s,.int .i64 d] 38)),x.u.cell? ⟨w.heap.size,0,none⟩=some (.int .i64 s):=fun x=>(x.cell _ _ (by simp)).trans (World.cell?_alloc_at #[.int .i64 s,.int .i64 d] 38 w.heap.size 0 rfl)
 have s1:∀ x:Since (w.alloc (.cells #[.int .i64 s,.int .i64 d] 38)),x.u.cell? ⟨w.heap.size,1,none⟩=some (.int .i64 d):=fun x=>(x.cell _ _ (by simp)).trans (World.cell?_alloc_at #[.int .i64 s,.int .i64 d] 38 w.heap.size 1 rfl)
 have s2:∀ x:Since (w.alloc (.cells #[.int .i64 s,.int .i64 d] 38)),x.u.cell? ⟨b,0,none⟩=some (.slice (some ⟨g,0,none⟩) n cap):=fun x=>(x.cell _ _ (by simp;omega)).trans ((HB0.cell (p:=⟨b,0,none⟩) hb).trans c0)
 have s3:∀ x:Since (w.alloc (.cells #[.int .i64 s,.int .i64 d] 38)),x.u.cell? ⟨g,i*3+1,none⟩=some (.int .i64 t):=fun x=>(x.cell _ _ (by simp;omega)).trans ((HB0.cell (p:=⟨g,i*3+1,none⟩) hg).trans q2)
 have s4:∀ x:Since (w.alloc (.cells #[.int .i64 s,.int .i64 d] 38)),x.u.cell? ⟨g,i*3+2,none⟩=some (.int .i64 u):=fun x=>(x.cell _ _ (by simp;omega)).trans ((HB0.cell (p:=⟨g,i*3+2,none⟩) hg).trans q3)
 have hne:=since_ne (w.alloc (.cells #[.int .i64 s,.int .i64 d] 38))
 have em:(if (f a).isSome then n else n+1)=n:=by rw [hf];rfl
 have P1:=fun w R=>put_any (b:=b) (mb:=mb) (g:=g) (cap:=cap) (n:=n) (m:=n) (it:=it) (f:=f) i a s d w R hi S.bd hwf
 rw [em] at P1
 have HS2:∀ w',Rep w' b mb (.slice (some ⟨g,0,none⟩) n cap) n (updI it i ⟨a,s,d⟩) (putF f a (.int .i64 i)) n->HS w' b mb (.slice (some ⟨g,0,none⟩) n cap) n (updI it i ⟨a,s,d⟩) (putF f a (.int .i64 i)) (putH H a s d):=by
  intro w' R
  have ea:(it i).id=a:=by rw [e]
  refine ⟨R,S.atf.same hi (x:=⟨a,s,d⟩) ea,fun k hk=>?_,fun k hk=>?_,S.holds.same S.atf.apart hi ea,S.bd⟩
  ·by_cases ek:k=i
   ·subst ek;rw [updI_i];exact hwf
   ·rw [updI_k it _ ek];exact S.wf k hk
  ·by_cases ek:k=i
   ·subst ek;rw [updI_i];exact hc
   ·rw [updI_k it _ ek];exact S.ok k hk
 have RB:∀ w',Below w.heap.size w w'->Rep w' b mb (.slice (some ⟨g,0,none⟩) n cap) n it f n:=fun w' h=>S.rep.below h
 clear S O h e ha q1 q2 q3 hf em
 go_enter Tryz.func179,Tryz.ntmps179
 go_wp2
 refine wp_region_since (by kernel_rfl) (by kernel_rfl) ?_
 repeat (go_big_quiet_step ((go_at_call 31;exact Calls.since_of (less_v hlt _ hc hk))))
 refine wpQuiet_nil ?_
 rintro _ ⟨x,rfl⟩
 have HB1:Below w.heap.size w x.u:=HB0.trans (x.h.mono (by simp))
 have t0:=s0 x
 have t1:=s1 x
 clear s0 s1 s2 s3 s4 hne
 go_wp2_with fail
 refine (P1 _ (RB _ HB1)).mono ?_
 rintro e w1 ⟨rfl,R1,K1⟩
 have S1:=HS2 _ R1
 go_wp2_with fail
 refine (rise_any _ S1 hrise).mono ?_
 rintro e w2 ⟨rfl,⟨it',f',S2,O2⟩,K2⟩
 have KK:Keep (hb3 b mb (.slice (some ⟨g,0,none⟩) n cap)) w w2:=by
  have k1:=(Keep.of_below (F:=fun k=>k=g\/k=mb) HB1).trans K1 (fun _ _ h=>h)
  have k2:=k1.trans K2 (fun _ _ h=>h)
  refine k2.mono (fun i _ h=>?_)
  rcases h with rfl | rfl
  ·exact Or.inr (Or.inr rfl)
  ·exact Or.inr (Or.inl rfl)
 clear K1 K2 R1 S1 HB1 HB0 P1 RB HS2
 go_wp2
 go_ret
 exact ⟨rfl,⟨it',f',S2,O2⟩,KK⟩
end
section
open Go.RowKit
theorem Tryz.info56:(Tryz.prog.info? 229).map (fun i=>(i.zero,i.size,i.bytes))=some (some (.agg #[.int .i64 0,.int .i64 0,.int .i64 0]),3,24):=by kernel_rfl
theorem Tryz.under52:Tryz.prog.underlying 225=some (.slice 229):=by kernel_rfl
theorem cell_three_new (w:World) (x y z:Value) (t:TypeId):∀ j u,[x,y,z][j]? = some u->(w.alloc (.cells #[x,y,z] t)).cell? ((⟨w.heap.size,0,none⟩:Addr).add j)=some u:=by
 intro j u hj
 match j,hj with
 | 0,hj=>simp at hj;subst hj;simp [Addr.add]
 | 1,hj=>simp at hj;subst hj;simp [Addr.add]
 | 2,hj=>simp at hj;subst hj;simp [Addr.add]
theorem row_grown {w w':World}{v v':Value}{n:Nat}{it:Nat->Item}{xs:List Value}(h1:w.ownsRow 0 229 3 v n xs) (hx:∀ i,i < n->xs[i*3]? = some (.int .i64 (it i).id)/\xs[i*3+1]? = some (.int .i64 (it i).s)/\xs[i*3+2]? = some (.int .i64 (it i).d))
  (h2:w'.ownsRow 0 229 3 v' (n+1) (xs++[.int .i64 0,.int .i64 0,.int .i64 0])):Row w' v' (n+1) (updI it n ⟨0,0,0⟩):=by
 have hl:xs.length=n*3:=h1.1
 refine ⟨_,h2,fun i hi=>?_⟩
 by_cases e:i=n
 ·subst e
  rw [updI_i]
  refine ⟨?_,?_,?_⟩
  ·rw [List.getElem?_append_right (by omega)];simp [hl]
  ·rw [List.getElem?_append_right (by omega)];simp [hl]
  ·rw [List.getElem?_append_right (by omega)];simp [hl]
 ·rw [updI_k it _ e]
  obtain ⟨a1,a2,a3⟩:=hx i (by omega)
  refine ⟨?_,?_,?_⟩
  ·rw [List.getElem?_append_left (by omega)];exact a1
  ·rw [List.getElem?_append_left (by omega)];exact a2
  ·rw [List.getElem?_append_left (by omega)];exact a3
theorem updI_twice (it:Nat->Item) (i:Nat) (x y:Item):updI (updI it i x) i y=updI it i y:=by
 funext k;unfold updI;split <;> rfl
set_option maxHeartbeats 1000000 in
theorem push_new {b mb n:Nat}{v:Value}{H:Int->Option (Int × Int)}(a s d:Int) (w:World) (h:HeapAt w b mb v n H) (ha:H a=none) (hc:okC s d) (hwf:(Lit.int .i64 a).wf=true) (hn:n < 1000000) :
  Calls Tryz.prog 179 #[.pointer (some ⟨b,0,none⟩),.int .i64 a,.agg #[.int .i64 s,.int .i64 d]] w fun e w'=>e=.returned (.bool true)/\(∃ v',HeapAt w' b mb v' (n+1) (putH H a s d)/\(v'.ownBlock=v.ownBlock\/∃ g,v'.ownBlock=some g/\w.heap.size<=g))/\Keep (hb3 b mb v) w w':=by
 obtain ⟨i0,hi0,hz0,hz1,hz2⟩:=info_parts Tryz.info56
 obtain ⟨it,f,S,O⟩:=h.ex
 obtain ⟨hb,hmb,hbm,hgs⟩:=S.rep.blocks
 have c0:=S.rep.c0
 have c1:=S.rep.c1
 have f0:=S.rep.f0
 have hf:=S.mem ha
 obtain ⟨xs,hown,hxs⟩:=S.rep.row
 have hv:∃ A cap,v=.slice A n cap:=by
  rcases hown.2 with ⟨rfl,rfl⟩ | ⟨g,cap,cur,rfl,_⟩
  ·exact ⟨_,_,rfl⟩
  ·exact ⟨_,_,rfl⟩
 obtain ⟨A,cap,rfl⟩:=hv
 have HB0:Below w.heap.size w (w.alloc (.cells #[.int .i64 s,.int .i64 d] 38)):=(Below.refl _ w).alloc (Nat.le_refl _) _
 have hl:=((S.rep.below HB0).map).look_none law3 Tryz.under51 (zero3 _) hwf hf true
 have hne:=since_ne (w.alloc (.cells #[.int .i64 s,.int .i64 d] 38))
 go_enter Tryz.func179,Tryz.ntmps179
 go_wp2
 refine wp_region_since (by kernel_rfl) (by kernel_rfl) ?_
 repeat (go_big_quiet_step (fail))
 refine wpQuiet_nil ?_
 rintro _ ⟨x,rfl⟩
 have HB1:Below w.heap.size w x.u:=HB0.trans (x.h.mono (by simp))
 have t0:x.u.cell? ⟨w.heap.size,0,none⟩=some (.int .i64 s):=(x.cell _ _ (by simp)).trans (World.cell?_alloc_at #[.int .i64 s,.int .i64 d] 38 w.heap.size 0 rfl)
 have t1:x.u.cell? ⟨w.heap.size,1,none⟩=some (.int .i64 d):=(x.cell _ _ (by simp)).trans (World.cell?_alloc_at #[.int .i64 s,.int .i64 d] 38 w.heap.size 1 rfl)
 have hx0:w.heap.size < x.u.heap.size:=by have:=x.h.size;simp at this;omega
 have c0':=(HB1.cell (p:=⟨b,0,none⟩) hb).trans c0
 have f0':=(HB1.frozen (p:=⟨b,0,none⟩) hb).trans f0
 have hown1:x.u.ownsRow 0 229 3 (.slice A n cap) n xs:=hown.kept (row:=none) ⟨HB1.os,HB1.tape,HB1.output,HB1.size,fun k hk _=>HB1.block k hk⟩ (by cases hq:(Value.slice A n cap).ownBlock <;> simp)
 go_wp2_with (at_builtin;refine wpList_append_own_at _ rfl _ _ 225 rfl 0 229 i0 (.agg #[.int .i64 0,.int .i64 0,.int .i64 0]) 3 24 Tryz.under52 hi0 hz0 hz1 hz2 rfl (by decide) _ _ _ rfl (hown1.alloc _) ⟨x.u.heap.size,0,none⟩ 1 1 [.int .i64 0,.int .i64 0,.int .i64 0] rfl rfl (cell_three_new _ _ _ _ _) (by intro u hu;simp at hu;subst hu;rfl) (by unfold maxLen;omega) (by omega) (by omega) ?_)
 intro v' w1 ho hgr _ hloc
 have K1:Keep (fun k=>(Value.slice A n cap).ownBlock=some k) w w1:=((Keep.of_below HB1).alloc _).grown hgr (fun k hk _=>hk)
 have hrow1:=row_grown hown1 hxs ho
 obtain ⟨g',cap',rfl,hcap,hmax,hg'⟩:=hrow1.pos (by omega)
 have hnb:∀ k,(Value.slice A n cap).ownBlock=some k->k < w.heap.size/\k≠b/\k≠mb:=hgs
 have hg2:g'≠b/\((Value.slice A n cap).ownBlock=some g'\/w.heap.size<=g'):=by
  rcases hloc with hloc | hloc
  ·have e:(Value.slice A n cap).ownBlock=some g':=hloc.symm
   exact ⟨(hnb g' e).2.1,Or.inl e⟩
  ·simp only [Value.ownBlock,Option.some.injEq] at hloc
   exact ⟨by omega,Or.inr (by omega)⟩
 have c0w:w1.cell? ⟨b,0,none⟩=some (.slice A n cap):=(K1.cell (p:=⟨b,0,none⟩) hb (fun e=>(hnb b e).2.1 rfl)).trans c0
 have c1w:w1.cell? ⟨b,1,none⟩=some (.map (some mb)):=(K1.cell (p:=⟨b,1,none⟩) hb (fun e=>(hnb b e).2.1 rfl)).trans c1
 have f0w:w1.frozen? ⟨b,0,none⟩=false:=(K1.frozen (p:=⟨b,0,none⟩) hb (fun e=>(hnb b e).2.1 rfl)).trans f0
 have mapw:MapF Tryz.prog 3 w1 mb f n:=S.rep.map.keep K1 (fun e=>(hnb mb e).2.2 rfl)
 have KX:Keep (fun k=>(Value.slice A n cap).ownBlock=some k) x.u w1:=((Keep.refl _ x.u).alloc _).grown hgr (fun k hk _=>hk)
 have t0w:w1.cell? ⟨w.heap.size,0,none⟩=some (.int .i64 s):=(KX.cell (p:=⟨w.heap.size,0,none⟩) hx0 (fun e=>Nat.lt_irrefl _ (hnb w.heap.size e).1)).trans t0
 have t1w:w1.cell? ⟨w.heap.size,1,none⟩=some (.int .i64 d):=(KX.cell (p:=⟨w.heap.size,1,none⟩) hx0 (fun e=>Nat.lt_irrefl _ (hnb w.heap.size e).1)).trans t1
 have R2:Rep (w1.setCell ⟨b,0,none⟩ (.slice (some ⟨g',0,none⟩) (n+1) cap')) b mb (.slice (some ⟨g',0,none⟩) (n+1) cap') (n+1) (updI it n ⟨0,0,0⟩) f n:=by
  have kb:Keep (fun k=>k=b) w1 (w1.setCell ⟨b,0,none⟩ (.slice (some ⟨g',0,none⟩) (n+1) cap')):=(Keep.refl (fun k=>k=b) w1).setCell (p:=⟨b,0,none⟩) (fun _=>rfl) _
  refine ⟨World.cell?_setCell_same _ _ _ c0w,?_,?_,hrow1.keep kb (fun q hq=>?_),mapw.keep kb (fun e=>hbm e.symm),fun e=>?_⟩
  ·rw [World.cell?_setCell_other _ _ _ _ (by intro e;cases e)];exact c1w
  ·rw [World.frozen?_setCell];exact f0w
  ·simp only [Value.ownBlock,Option.some.injEq] at hq;rw [<- hq];exact hg2.1
  ·simp only [Value.ownBlock,Option.some.injEq] at e;exact hg2.1 e
 have K2:Keep (hb3 b mb (.slice A n cap)) w (w1.setCell ⟨b,0,none⟩ (.slice (some ⟨g',0,none⟩) (n+1) cap')):=(K1.mono (G:=hb3 b mb (.slice A n cap)) (fun _ _ h=>Or.inr (Or.inr h))).setCell (p:=⟨b,0,none⟩) (fun _=>Or.inl rfl) _
 have em:(if (f a).isSome then n else n+1)=n+1:=by rw [hf];rfl
 have P1:=fun w R=>put_any (b:=b) (mb:=mb) (g:=g') (cap:=cap') (n:=n+1) (m:=n) (it:=updI it n ⟨0,0,0⟩) (f:=f) n a s d w R (by omega) (by omega) hwf
 rw [em,updI_twice] at P1
 have HS2:∀ w',Rep w' b mb (.slice (some ⟨g',0,none⟩) (n+1) cap') (n+1) (updI it n ⟨a,s,d⟩) (putF f a (.int .i64 n)) (n+1)->HS w' b mb (.slice (some ⟨g',0,none⟩) (n+1) cap') (n+1) (updI it n ⟨a,s,d⟩) (putF f a (.int .i64 n)) (putH H a s d):=by
  intro w' R
  refine ⟨R,S.atf.last (x:=⟨a,s,d⟩) hf,fun k hk=>?_,fun k hk=>?_,S.holds.last ha,by omega⟩
  ·by_cases ek:k=n
   ·subst ek;rw [updI_i];exact hwf
   ·rw [updI_k it _ ek];exact S.wf k (by omega)
  ·by_cases ek:k=n
   ·subst ek;rw [updI_i];exact hc
   ·rw [updI_k it _ ek];exact S.ok k (by omega)
 have hrise:Rising (updI it n ⟨a,s,d⟩) (n+1) n:=Rising.last O _
 have hloc2:(Value.slice (some ⟨g',0,none⟩) (n+1) cap').ownBlock=(Value.slice A n cap).ownBlock\/∃ g,(Value.slice (some ⟨g',0,none⟩) (n+1) cap').ownBlock=some g/\w.heap.size<=g:=by
  rcases hg2.2 with e | e
  ·exact Or.inl e.symm
  ·exact Or.inr ⟨g',rfl,e⟩
 clear S O h K1 KX hrow1 mapw hown1 hown hgr ho hxs HB0 HB1 hl hne c0' f0' t0 t1 hgs em hloc
 go_wp2_with fail
 refine (P1 _ R2).mono ?_
 rintro e w3 ⟨rfl,R3,K3⟩
 have S3:=HS2 _ R3
 go_wp2_with fail
 refine (rise_any _ S3 hrise).mono ?_
 rintro e w4 ⟨rfl,⟨it',f',S4,O4⟩,K4⟩
 have KK:Keep (hb3 b mb (.slice A n cap)) w w4:=by
  have hs:∀ k,k < w.heap.size->(k=g'\/k=mb)->hb3 b mb (.slice A n cap) k:=by
   rintro k hk (rfl | rfl)
   ·rcases hg2.2 with e | e
    ·exact Or.inr (Or.inr e)
    ·omega
   ·exact Or.inr (Or.inl rfl)
  exact (K2.trans K3 hs).trans K4 hs
 clear K2 K3 K4 R3 S3 P1 HS2 R2
 go_wp2
 go_ret
 exact ⟨rfl,⟨_,⟨it',f',S4,O4⟩,hloc2⟩,KK⟩
end
end Go.Proofs.YtipbhlofbpnpjaaGreatDoor
