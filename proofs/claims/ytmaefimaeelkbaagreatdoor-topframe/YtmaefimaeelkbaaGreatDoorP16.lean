/-
  Texts laid together: LvB, LvC, LvDist, LvNeed, LvNeed2, LvPlace.
-/
import Derived.Test.YtmaefimaeelkbaaGreatDoorP15
import Derived.Test.YtmaefimaeelkbaaGreatDoorP14
import Derived.Test.YtmaefimaeelkbaaGreatDoorP12
import Derived.Deep.RegionHeld3
namespace Go.Proofs.YtmaefimaeelkbaaGreatDoor
section
open Go.RowKit
theorem Tryz.underV:Tryz.prog.underlying 129=some (.map 3 3):=by kernel_rfl
theorem Tryz.underK:Tryz.prog.underlying 225=some (.map 3 53):=by kernel_rfl
theorem zeroK (w:World):(zeroValue 53).run Tryz.prog w=.ok (.agg #[.int .i64 0,.int .i64 0]) w:=by kernel_rfl
def lvF (L:List Nat) (lev:Nat->Nat):Int->Option Value:=fun i=>if 0<=i/\i.toNat ∈ L then some (.int .i64 (lev i.toNat:Int)) else none
theorem lvF_in {L:List Nat}{lev:Nat->Nat}{n:Nat}(h:n ∈ L):lvF L lev (n:Int)=some (.int .i64 (lev n:Int)):=by
 unfold lvF
 rw [if_pos ⟨by omega,by simpa using h⟩,Int.toNat_natCast]
theorem lvF_put {L:List Nat}{lev:Nat->Nat}{n:Nat}(h:n ∈ L)(t:Nat):putF (lvF L lev) (n:Int) (.int .i64 (t:Int))=lvF L (fun k=>if k=n then t else lev k):=by
 funext i
 unfold putF lvF
 by_cases e:i=(n:Int)
 ·subst e
  rw [if_pos rfl,if_pos ⟨by omega,by simpa using h⟩,Int.toNat_natCast]
  show _=some (Value.int .i64 ((if n=n then t else lev n:Nat):Int))
  rw [if_pos rfl]
 ·rw [if_neg e]
  by_cases hi:0<=i/\i.toNat ∈ L
  ·rw [if_pos hi,if_pos hi]
   show _=some (Value.int .i64 ((if i.toNat=n then t else lev i.toNat:Nat):Int))
   rw [if_neg (by omega)]
  ·rw [if_neg hi,if_neg hi]
structure LvAt (w:World) (N lb vb eb:Nat) (top:Nat) (L:List Nat) (st:LSt) (f:Int->Option Value):Prop where
 c0:w.cell? ⟨lb,0,none⟩=some (.int .i64 (top:Int))
 c1:w.cell? ⟨lb,1,none⟩=some (.map (some vb))
 c2:w.cell? ⟨lb,2,none⟩=some (.map (some eb))
 fz:w.frozen? ⟨lb,0,none⟩=false
 lv:MapF Tryz.prog 3 w vb (lvF L st.lev) L.length
 em:MapF Tryz.prog 3 w eb f L.length
 row:∀ n ∈ L,∃ v,f (n:Int)=some v/\w.ownsRow N 204 4 v (st.es n).length (lesV (st.es n))
 no:∀ i v,f i=some v->0<=i/\i.toNat ∈ L
 apart:∀ n m v v' g,f n=some v->f m=some v'->v.ownBlock=some g->v'.ownBlock=some g->n=m
 off:∀ n v,f n=some v->v.ownBlock≠some lb
 nb:N<=lb/\N<=vb/\N<=eb
 ne:vb≠eb
 bd:∀ n ∈ L,n<256
 len:L.length<=256
def LvB (lb vb eb:Nat) (f:Int->Option Value) (g:Nat):Prop:=g=lb\/g=vb\/g=eb\/∃ i v,f i=some v/\v.ownBlock=some g
section
variable {w w' : World} {N lb vb eb top : Nat} {L : List Nat} {st : LSt} {f : Int → Option Value}
theorem LvAt.lts (V:LvAt w N lb vb eb top L st f):lb<w.heap.size/\vb<w.heap.size/\eb<w.heap.size:=⟨World.block_lt_of_cell? _ _ V.c0,V.lv.lt,V.em.lt⟩
theorem LvAt.nes (V:LvAt w N lb vb eb top L st f):lb≠vb/\lb≠eb:=by
 constructor
 ·intro e
  have h:=V.lv.cell 0
  rw [<- e,V.c0] at h;cases h
 ·intro e
  have h:=V.em.cell 0
  rw [<- e,V.c0] at h;cases h
theorem LvAt.keep {F:Nat->Prop}(V:LvAt w N lb vb eb top L st f)(K:Keep F w w')(h:∀ g,LvB lb vb eb f g->¬ F g):LvAt w' N lb vb eb top L st f:=by
 have h1:=h lb (Or.inl rfl)
 refine ⟨K.cellOf V.c0 h1,K.cellOf V.c1 h1,K.cellOf V.c2 h1,(K.frozen (p:=⟨lb,0,none⟩) V.lts.1 h1).trans V.fz,V.lv.keep K (h vb (Or.inr (Or.inl rfl))),V.em.keep K (h eb (Or.inr (Or.inr (Or.inl rfl)))),fun n hn=>?_,V.no,V.apart,V.off,V.nb,V.ne,V.bd,V.len⟩
 obtain ⟨v,e1,e2⟩:=V.row n hn
 exact ⟨v,e1,own_keep e2 K (fun g hg=>h g (Or.inr (Or.inr (Or.inr ⟨_,v,e1,hg⟩))))⟩
theorem LvAt.below (V:LvAt w N lb vb eb top L st f)(hb:Below w.heap.size w w'):LvAt w' N lb vb eb top L st f:=V.keep (F:=fun _=>False) (Keep.of_below hb) (fun _ _=>id)
theorem LvAt.look (V:LvAt w N lb vb eb top L st f){n:Nat}(hn:n ∈ L):(Instr.lookup 129 (.map (some vb)) (.int .i64 (n:Int)) false).run Tryz.prog w=.ok (.int .i64 (st.lev n:Int)) w :=
 V.lv.look_some law3 Tryz.underV (zero3 w) (wf_small (by omega) (by have:=V.bd n hn;omega)) (lvF_in hn) false
theorem LvAt.edges (V:LvAt w N lb vb eb top L st f){n:Nat}(hn:n ∈ L):∃ A cap,(Instr.lookup 123 (.map (some eb)) (.int .i64 (n:Int)) false).run Tryz.prog w=.ok (.slice A (st.es n).length cap) w/\RowL w A (st.es n)/\f (n:Int)=some (.slice A (st.es n).length cap):=by
 obtain ⟨v,e1,e2⟩:=V.row n hn
 obtain ⟨A,cap,rfl,h1,_⟩:=rowL_of e2
 exact ⟨A,cap,V.em.look_some law3 Tryz.underM (zeroM w) (wf_small (by omega) (by have:=V.bd n hn;omega)) e1 false,h1,e1⟩
end
set_option maxHeartbeats 400000 in
theorem isOpen_any {N lb vb eb top n:Nat}{L:List Nat}{st:LSt}{f:Int->Option Value}(w:World)(V:LvAt w N lb vb eb top L st f)(hn:n ∈ L) :
  Calls Tryz.prog 162 #[.pointer (some ⟨lb,0,none⟩),.int .i64 (n:Int)] w fun e w'=>e=.returned (.bool (st.lev n == 0))/\w'=w:=by
 have h1:=V.look hn
 have c1:=V.c1
 have hr:(st.lev n == 0)=decide ((st.lev n:Int)=0):=by
  by_cases e:st.lev n=0
  ·rw [e];rfl
  ·have e2:¬ (st.lev n:Int)=0:=by omega
   rw [decide_eq_false e2];simpa using e
 rw [hr]
 clear V hr
 generalize (st.lev n:Int)=k at *
 go_enter Tryz.func162,Tryz.ntmps162
 go_wp2
 go_ret
 exact ⟨rfl,rfl⟩
set_option maxHeartbeats 400000 in
theorem clo_open {N lb vb eb top xb:Nat}{L:List Nat}{st:LSt}{f:Int->Option Value}(w:World)(V:LvAt w N lb vb eb top L st f)(hx:w.cell? ⟨xb,0,none⟩=some (.pointer (some ⟨lb,0,none⟩)))(e:LE)(he:e.to ∈ L) :
  Calls Tryz.prog 161 #[.agg #[.int .i64 (e.to:Int),.int .i64 e.s,.int .i64 e.d,.int .i64 e.mid],.pointer (some ⟨xb,0,none⟩)] w fun r w'=>r=.returned (.bool (st.lev e.to == 0))/\Below w.heap.size w w':=by
 have B0:Below w.heap.size w (w.alloc (.cells #[.int .i64 (e.to:Int),.int .i64 e.s,.int .i64 e.d,.int .i64 e.mid] 204)):=(Below.refl _ _).alloc (Nat.le_refl _) _
 have h1:=isOpen_any _ (V.below B0) he
 have hx0:=(B0.cell (World.block_lt_of_cell? _ _ hx)).trans hx
 clear V hx
 generalize (st.lev e.to == 0)=r at *
 generalize (e.to:Int)=et at *
 generalize e.s=es at *
 generalize e.d=ed at *
 generalize e.mid=em at *
 go_enter Tryz.func161,Tryz.ntmps161
 go_wp2_with fail
 refine h1.mono ?_
 rintro r1 w1 ⟨rfl,rfl⟩
 clear h1
 go_wp2
 go_ret
 exact ⟨rfl,B0⟩
set_option maxHeartbeats 800000 in
set_option maxRecDepth 1000000 in
theorem clo_ahead {N lb vb eb top kb nb xb mb k n:Nat}{L:List Nat}{st:LSt}{f:Int->Option Value}{F:Int->Option (Int × Int)}(w:World)(V:LvAt w N lb vb eb top L st f)(hx:w.cell? ⟨xb,0,none⟩=some (.pointer (some ⟨lb,0,none⟩)))
  (hk:w.cell? ⟨kb,0,none⟩=some (.map (some mb))) (hn:w.cell? ⟨nb,0,none⟩=some (.int .i64 (n:Int))) (M:MapF Tryz.prog 3 w mb (fv F) k) (e:LE) (he:e.to ∈ L) :
  Calls Tryz.prog 227 #[.agg #[.int .i64 (e.to:Int),.int .i64 e.s,.int .i64 e.d,.int .i64 e.mid],.pointer (some ⟨kb,0,none⟩),.pointer (some ⟨nb,0,none⟩),.pointer (some ⟨xb,0,none⟩)] w fun r w'=>r=.returned (.bool (!(F (e.to:Int)).isSome&&(decide (e.to≠n)&&(st.lev e.to == 0))))/\Below w.heap.size w w':=by
 have B0:Below w.heap.size w (w.alloc (.cells #[.int .i64 (e.to:Int),.int .i64 e.s,.int .i64 e.d,.int .i64 e.mid] 204)):=(Below.refl _ _).alloc (Nat.le_refl _) _
 have hwf:=wf_small (a:=(e.to:Int)) (by omega) (by have:=V.bd _ he;omega)
 have M0:=M.keep (F:=fun _=>False) (Keep.of_below B0) id
 have hx0:=(B0.cell (World.block_lt_of_cell? _ _ hx)).trans hx
 have hk0:=(B0.cell (World.block_lt_of_cell? _ _ hk)).trans hk
 have hn0:=(B0.cell (World.block_lt_of_cell? _ _ hn)).trans hn
 have V0:=V.below B0
 have x0:(w.alloc (.cells #[.int .i64 (e.to:Int),.int .i64 e.s,.int .i64 e.d,.int .i64 e.mid] 204)).cell? ⟨w.heap.size,0,none⟩=some (.int .i64 (e.to:Int)):=World.cell?_alloc_at _ _ _ 0 rfl
 have hdn:decide (e.to≠n)=decide (¬ (e.to:Int)=(n:Int)):=by
  by_cases q:e.to=n
  ·have q2:(e.to:Int)=(n:Int):=by omega
   rw [decide_eq_false (by simpa using q),decide_eq_false (by simpa using q2)]
  ·have q2:¬ (e.to:Int)=(n:Int):=by omega
   rw [decide_eq_true q,decide_eq_true q2]
 rw [hdn]
 clear hdn M V hx hk hn
 cases hF:F (e.to:Int) with
 |some c =>
  obtain ⟨s,d⟩:=c
  have hl:(Instr.lookup 225 (.map (some mb)) (.int .i64 (e.to:Int)) true).run Tryz.prog (w.alloc (.cells #[.int .i64 (e.to:Int),.int .i64 e.s,.int .i64 e.d,.int .i64 e.mid] 204))=.ok (.tuple #[.agg #[.int .i64 s,.int .i64 d],.bool true]) (w.alloc (.cells #[.int .i64 (e.to:Int),.int .i64 e.s,.int .i64 e.d,.int .i64 e.mid] 204)):=M0.look_some law3 Tryz.underK (zeroK _) hwf (fv_some hF) true
  have er:(!(some (s,d)).isSome&&(decide (¬ (e.to:Int)=(n:Int))&&(st.lev e.to == 0)))=false:=rfl
  rw [er]
  have B1:=B0.alloc B0.size (.cells #[.int .i64 s,.int .i64 d] 53)
  clear er hF M0 V0
  generalize (e.to:Int)=et at *
  generalize e.s=es at *
  generalize e.d=ed at *
  generalize e.mid=em at *
  go_enter Tryz.func227,Tryz.ntmps227
  go_wp2
  go_ret
  exact ⟨rfl,B1⟩
 |none =>
  have hl:(Instr.lookup 225 (.map (some mb)) (.int .i64 (e.to:Int)) true).run Tryz.prog (w.alloc (.cells #[.int .i64 (e.to:Int),.int .i64 e.s,.int .i64 e.d,.int .i64 e.mid] 204))=.ok (.tuple #[.agg #[.int .i64 0,.int .i64 0],.bool false]) (w.alloc (.cells #[.int .i64 (e.to:Int),.int .i64 e.s,.int .i64 e.d,.int .i64 e.mid] 204)):=M0.look_none law3 Tryz.underK (zeroK _) hwf (fv_none hF) true
  have B1:=B0.alloc B0.size (.cells #[.int .i64 0,.int .i64 0] 53)
  have b1:Below (w.alloc (.cells #[.int .i64 (e.to:Int),.int .i64 e.s,.int .i64 e.d,.int .i64 e.mid] 204)).heap.size (w.alloc (.cells #[.int .i64 (e.to:Int),.int .i64 e.s,.int .i64 e.d,.int .i64 e.mid] 204)) ((w.alloc (.cells #[.int .i64 (e.to:Int),.int .i64 e.s,.int .i64 e.d,.int .i64 e.mid] 204)).alloc (.cells #[.int .i64 0,.int .i64 0] 53)):=(Below.refl _ _).alloc (Nat.le_refl _) _
  have h1:=isOpen_any _ (V0.below b1) he
  have hx1:=(b1.cell (World.block_lt_of_cell? _ _ hx0)).trans hx0
  have hn1:=(b1.cell (World.block_lt_of_cell? _ _ hn0)).trans hn0
  have x1:=(b1.cell (World.block_lt_of_cell? _ _ x0)).trans x0
  by_cases q:(e.to:Int)=(n:Int)
  ·have er:(!(none:Option (Int × Int)).isSome&&(decide (¬ (e.to:Int)=(n:Int))&&(st.lev e.to == 0)))=false:=by rw [decide_eq_false (by simpa using q)];rfl
   rw [er]
   rw [<- q] at hn0 hn1
   clear er hF M0 V0 h1 b1 q
   generalize (e.to:Int)=et at *
   generalize e.s=es at *
   generalize e.d=ed at *
   generalize e.mid=em at *
   go_enter Tryz.func227,Tryz.ntmps227
   go_wp2
   go_ret
   exact ⟨rfl,B1⟩
  ·have er:(!(none:Option (Int × Int)).isSome&&(decide (¬ (e.to:Int)=(n:Int))&&(st.lev e.to == 0)))=(st.lev e.to == 0):=by rw [decide_eq_true q];rfl
   rw [er]
   clear er hF M0 V0
   generalize (st.lev e.to == 0)=r at *
   generalize (e.to:Int)=et at *
   generalize e.s=es at *
   generalize e.d=ed at *
   generalize e.mid=em at *
   have q2:(et != (n:Int))=true:=by simpa using q
   go_enter Tryz.func227,Tryz.ntmps227
   go_wp2_with fail
   refine h1.mono ?_
   rintro r1 w1 ⟨rfl,rfl⟩
   clear h1
   go_wp2
   go_ret
   refine ⟨?_,B1⟩
   simp
end
section
open Go.RowKit
structure Okl (L:List Nat) (K:Int) (st:LSt):Prop where
 esy:Esy st.es
 cor:Cor L st
 bd:∀ {a e},e ∈ st.es a->0<=e.s/\0<=e.d/\e.s<=K/\e.d<=K
section
variable {L : List Nat} {K : Int} {st : LSt} {n o : Nat}
theorem Okl.edge (O:Okl L K st){a b t u:Int}(h:EdR st n a b t u):0<=t/\0<=u/\t<=K/\u<=K/\∃ m:Nat,b=(m:Int)/\m ∈ L:=by
 obtain ⟨e,h1,rfl,rfl,rfl,_,_⟩:=h
 obtain ⟨b1,b2,b3,b4⟩:=O.bd h1
 exact ⟨b1,b2,b3,b4,e.to,rfl,(O.cor.ends h1).2⟩
theorem Okl.way (O:Okl L K st)(ho:o ∈ L){a s d:Int}(h:Wg (EdR st n) (o:Int) a s d):0<=s/\0<=d/\∃ m:Nat,a=(m:Int)/\m ∈ L :=
 h (fun a s d=>0<=s/\0<=d/\∃ m:Nat,a=(m:Int)/\m ∈ L) ⟨Int.le_refl _,Int.le_refl _,o,rfl,ho⟩ (fun a s d b t u hx e=>by
  obtain ⟨h1,h2,_,_,h3⟩:=O.edge e
  exact ⟨by omega,by omega,h3⟩)
theorem Okl.one (O:Okl L K st){a b t u t' u':Int}(h:EdR st n a b t u)(h':EdR st n a b t' u'):t'=t/\u'=u:=by
 obtain ⟨e,h1,h2,rfl,rfl,_,_⟩:=h
 obtain ⟨e',h1',h2',rfl,rfl,_,_⟩:=h'
 have:=(O.esy.ord _).one h1' h1 (by omega)
 subst this
 exact ⟨rfl,rfl⟩
theorem Okl.len (O:Okl L K st)(hb:∀ n ∈ L,n<256)(a:Nat):(st.es a).length<=256:=by
 have h1:((st.es a).map (·.to)).Nodup:=by
  unfold List.Nodup
  rw [List.pairwise_map]
  exact (O.esy.ord a).imp (fun h=>Nat.ne_of_lt h)
 have:=nodup_len 256 h1 (fun n hn=>by
  obtain ⟨e,he,rfl⟩:=List.mem_map.1 hn
  exact hb _ (O.cor.ends he).2)
 simpa using this
end
theorem val_le {s d:Int}(h1:0<=s)(h2:0<=d)(h:val s d<=val 1024 1024):s<=2500/\d<=2500:=by
 have e:val 1024 1024=95459694592:=by decide
 rw [e] at h
 unfold val at h
 omega
def Dist (st:LSt) (n a:Nat) (M:Int) (F:Int->Option (Int × Int)):Prop :=
 ∀ (b x y:Int),val x y<=M->((∃ p q,Wg (EdR st n) (a:Int) b p q/\val p q<=val x y)↔∃ p q,F b=some (p,q)/\val p q<=val x y)
structure DMem (w:World) (X lb:Nat) (n ms md:Int) (v:Value) (nh:Nat) (R F:Int->Option (Int × Int)):Prop where
 x:w.cell? ⟨X,0,none⟩=some (.pointer (some ⟨lb,0,none⟩))
 n:w.cell? ⟨X+1,0,none⟩=some (.int .i64 n)
 m:Slot w (X+2) ms md
 k:w.cell? ⟨X+4,0,none⟩=some (.map (some (X+3)))
 mp:MapF Tryz.prog 3 w (X+3) (fv F) (cnt F 256)
 hp:HeapAt w (X+6) (X+5) v nh R
 own:∀ g,v.ownBlock=some g->X+7<=g
 few:nh<=1+256*cnt F 256
section
variable {w w' : World} {X lb : Nat} {n ms md : Int} {v v' : Value} {nh nh' : Nat} {R R' F : Int → Option (Int × Int)}
theorem DMem.below (D:DMem w X lb n ms md v nh R F)(hb:Below w.heap.size w w'):DMem w' X lb n ms md v nh R F :=
 ⟨(hb.cell (World.block_lt_of_cell? _ _ D.x)).trans D.x,(hb.cell (World.block_lt_of_cell? _ _ D.n)).trans D.n,D.m.below hb,(hb.cell (World.block_lt_of_cell? _ _ D.k)).trans D.k,D.mp.keep (F:=fun _=>False) (Keep.of_below hb) id,D.hp.below hb,D.own,D.few⟩
theorem DMem.far (D:DMem w X lb n ms md v nh R F):∀ g,hb3 (X+6) (X+5) v g->X+5<=g:=by
 rintro g (rfl|rfl|h)
 ·omega
 ·omega
 ·have:=D.own g h;omega
theorem DMem.heap (D:DMem w X lb n ms md v nh R F)(K:Keep (hb3 (X+6) (X+5) v) w w')(hp:HeapAt w' (X+6) (X+5) v' nh' R')(hown:∀ g,v'.ownBlock=some g->X+7<=g)(hf:nh'<=1+256*cnt F 256):DMem w' X lb n ms md v' nh' R' F:=by
 have nf:∀ g,g<X+5->¬ hb3 (X+6) (X+5) v g:=fun g hg h=>by have:=D.far g h;omega
 exact ⟨K.cellOf D.x (nf X (by omega)),K.cellOf D.n (nf (X+1) (by omega)),D.m.keep K (nf (X+2) (by omega)),K.cellOf D.k (nf (X+4) (by omega)),D.mp.keep K (nf (X+3) (by omega)),hp,hown,hf⟩
theorem DMem.known (D:DMem w X lb n ms md v nh R F){a s d:Int}(h0:0<=a)(h1:a<256)(hF:F a=none)(hm:MapF Tryz.prog 3 w' (X+3) (putF (fv F) a (.agg #[.int .i64 s,.int .i64 d])) (if (fv F a).isSome then cnt F 256 else cnt F 256+1))(ht:w.mapTurned w' (X+3)):DMem w' X lb n ms md v nh R (putH F a s d):=by
 have K:=turned_keep ht
 have e:cnt (putH F a s d) 256=cnt F 256+1:=cnt_put F a s d 256 h0 h1 hF
 rw [fv_put,fv_none hF] at hm
 have hown:=D.own
 refine ⟨K.cellOf D.x (by show ¬ X=X+3;omega),K.cellOf D.n (by show ¬ X+1=X+3;omega),D.m.keep K (by omega),K.cellOf D.k (by show ¬ X+4=X+3;omega),?_,D.hp.keep K (by omega) (by omega) (fun g hg=>by have:=hown g hg;omega),D.own,?_⟩
 ·rw [e];exact hm
 ·have:=D.few;rw [e];omega
end
end
section
open Go.RowKit
structure DRun (w wr:World) (X lb:Nat) (st:LSt) (n a:Nat) (ms md:Int) (F:Int->Option (Int × Int)) (nv cv mv:Value):Prop where
 ex:∃ (Hh R:Int->Option (Int × Int)) (v:Value) (nh cb:Nat) (s d:Int),cv=.pointer (some ⟨cb,0,none⟩)/\X+7<=cb/\v.ownBlock≠some cb/\Slot wr cb s d/\okC s d/\DMem wr X lb (n:Int) ms md v nh R F/\Dg (EdR st n) (a:Int) F Hh (fun _ _=>True) /\
  ((mv=.bool false/\∀ x,Hh x=none)\/∃ c:Nat,mv=.bool true/\nv=.int .i64 (c:Int)/\Hh (c:Int)=some (s,d)/\(∀ {b t u},Hh b=some (t,u)->val s d<=val t u)/\R=delH Hh (c:Int))
 sm:∀ {x s d},F x=some (s,d)->val s d<=val ms md
 bl:Below w.heap.size w wr
theorem DMem.other {w w':World}{X lb C:Nat}{n ms md:Int}{v:Value}{nh:Nat}{R F:Int->Option (Int × Int)}(D:DMem w X lb n ms md v nh R F)(K:Keep (fun k=>k=C) w w')(hC:X+7<=C)(hv:v.ownBlock≠some C):DMem w' X lb n ms md v nh R F :=
 ⟨K.cellOf D.x (by show ¬ X=C;omega),K.cellOf D.n (by show ¬ X+1=C;omega),D.m.keep K (by omega),K.cellOf D.k (by show ¬ X+4=C;omega),D.mp.keep K (by omega),D.hp.keep K (by omega) (by omega) (fun g hg e=>hv (by rw [hg,e])),D.own,D.few⟩
theorem keepTwo (w:World)(B:Nat)(x y:Value):Keep (fun k=>k=B) w ((w.setCell ⟨B,0,none⟩ x).setCell ⟨B,1,none⟩ y) :=
 ((Keep.refl (fun k=>k=B) w).setCell (p:=⟨B,0,none⟩) (fun _=>rfl) x).setCell (p:=⟨B,1,none⟩) (fun _=>rfl) y
set_option maxHeartbeats 4000000 in
set_option maxRecDepth 1000000 in
theorem dist_levels {N lb vb eb top n a:Nat}{L:List Nat}{st:LSt}{f:Int->Option Value}{ms md:Int}(w:World)(V:LvAt w N lb vb eb top L st f)(O:Okl L 512 st)(ha:a ∈ L)(m1:0<=ms)(m2:ms<=1024)(d1:0<=md)(d2:md<=1024) :
  Calls Tryz.prog 196 #[.pointer (some ⟨lb,0,none⟩),.int .i64 (a:Int),.int .i64 (n:Int),.agg #[.int .i64 ms,.int .i64 md]] w fun e w'=>∃ kb F,e=.returned (.map (some kb))/\MapF Tryz.prog 3 w' kb (fv F) (cnt F 256)/\Dist st n a (val ms md) F/\(∀ {x s d},F x=some (s,d)->okC s d)/\w.heap.size<=kb/\Below w.heap.size w w':=by
 have hmm:=@run_makeMap Tryz.prog
 have haL:=V.bd a ha
 have hwa:=wf_small (a:=(a:Int)) (by omega) (by omega)
 have okM:okC ms md:=by unfold okC;omega
 have ok0:okC 0 0:=by unfold okC;omega
 have hM0:0<=val ms md:=by unfold val;omega
 have hMb:val ms md<=val 1024 1024:=by unfold val;omega
 have HE:Hid (∀ {a b t u},EdR st n a b t u->0<=val t u):=fun {a b t u} e=>by
  obtain ⟨h1,h2,_⟩:=O.edge e
  unfold val;omega
 have HFin:Hid (∀ F Hh,Dg (EdR st n) (a:Int) F Hh (fun _ _=>True)->(∀ {b t u},Hh b=some (t,u)->val ms md<val t u)->(∀ {x s d},F x=some (s,d)->val s d<=val ms md)->Dist st n a (val ms md) F/\∀ {x s d},F x=some (s,d)->okC s d):=fun F Hh D hh sm =>
  ⟨fun b x y hxy=>D.within hh hM0 HE.out hxy,fun {x s d} hx=>by
   obtain ⟨h1,h2,_⟩:=O.way ha (D.sF hx)
   have:=val_le h1 h2 (Int.le_trans (sm hx) hMb)
   unfold okC;omega⟩
 obtain ⟨W0,hW0⟩:∃ W0,W0=(((((w.alloc (.cells #[.pointer (some ⟨lb,0,none⟩)] 89)).alloc (.cells #[.int .i64 (n:Int)] 3)).alloc (.cells #[.int .i64 ms,.int .i64 md] 53)).alloc (.map #[] 0)).alloc (.cells #[.map (some (w.heap.size+1+1+1))] 225)):=⟨_,rfl⟩
 have hz0:W0.heap.size=w.heap.size+5:=by rw [hW0];simp
 have BW:Below w.heap.size w W0:=by
  rw [hW0]
  exact (((((Below.refl _ _).alloc (Nat.le_refl _) _).alloc (by simp) _).alloc (by simp;omega) _).alloc (by simp;omega) _).alloc (by simp;omega) _
 have k0:W0.cell? ⟨w.heap.size,0,none⟩=some (.pointer (some ⟨lb,0,none⟩)):=by
  rw [hW0]
  exact Lib.cell?_alloc_some _ (Lib.cell?_alloc_some _ (Lib.cell?_alloc_some _ (Lib.cell?_alloc_some _ (World.cell?_alloc_at _ _ _ 0 rfl))))
 have k1:W0.cell? ⟨w.heap.size+1,0,none⟩=some (.int .i64 (n:Int)):=by
  rw [hW0]
  exact Lib.cell?_alloc_some _ (Lib.cell?_alloc_some _ (Lib.cell?_alloc_some _ (World.cell?_alloc_at _ _ _ 0 (by simp))))
 have k2:Slot W0 (w.heap.size+2) ms md:=by
  have e2:((w.alloc (.cells #[.pointer (some ⟨lb,0,none⟩)] 89)).alloc (.cells #[.int .i64 (n:Int)] 3)).heap.size=w.heap.size+2:=by simp
  have q:=Slot.new ((w.alloc (.cells #[.pointer (some ⟨lb,0,none⟩)] 89)).alloc (.cells #[.int .i64 (n:Int)] 3)) ms md
  rw [e2] at q
  rw [hW0]
  exact (q.below ((Below.refl _ _).alloc (Nat.le_refl _) _)).below ((Below.refl _ _).alloc (Nat.le_refl _) _)
 have k3:MapF Tryz.prog 3 W0 (w.heap.size+3) (fv fun _=>none) (cnt (fun _=>none) 256):=by
  have e3:(((w.alloc (.cells #[.pointer (some ⟨lb,0,none⟩)] 89)).alloc (.cells #[.int .i64 (n:Int)] 3)).alloc (.cells #[.int .i64 ms,.int .i64 md] 53)).heap.size=w.heap.size+3:=by simp
  have q:=MapF.made (((w.alloc (.cells #[.pointer (some ⟨lb,0,none⟩)] 89)).alloc (.cells #[.int .i64 (n:Int)] 3)).alloc (.cells #[.int .i64 ms,.int .i64 md] 53)) Tryz.prog 3
  rw [e3] at q
  rw [hW0,cnt_none]
  exact q.keep (F:=fun _=>False) ((Keep.refl _ _).alloc _) id
 have k4:W0.cell? ⟨w.heap.size+4,0,none⟩=some (.map (some (w.heap.size+3))):=by
  rw [hW0]
  exact World.cell?_alloc_at _ _ _ 0 (by simp)
 have hnew:=new_any W0
 rw [hz0] at hnew
 go_enter Tryz.func196,Tryz.ntmps196
 go_wp2_with fail
 rw [<- hW0]
 refine hnew.mono ?_
 rintro e w1 ⟨rfl,HA,hb1,hz1⟩
 have b1:Below W0.heap.size W0 w1:=by rw [hz0];exact hb1
 have B1:=BW.trans (b1.mono BW.size)
 have D1:DMem w1 w.heap.size lb (n:Int) ms md (.slice none 0 0) 0 (fun _=>none) (fun _=>none) :=
  ⟨(b1.cell (World.block_lt_of_cell? _ _ k0)).trans k0,(b1.cell (World.block_lt_of_cell? _ _ k1)).trans k1,k2.below b1,(b1.cell (World.block_lt_of_cell? _ _ k4)).trans k4,k3.keep (F:=fun _=>False) (Keep.of_below b1) id,HA,fun g hg=>(by cases hg),by omega⟩
 have S1:w.heap.size+7<=w1.heap.size:=by omega
 clear hnew HA hb1 hz1 b1 BW k0 k1 k2 k3 k4 hz0
 simp only [Nat.add_assoc,Nat.reduceAdd]
 go_wp2_with fail
 refine (push_new (a:Int) 0 0 _ D1.hp rfl ok0 hwa (by omega)).mono ?_
 rintro e w2 ⟨rfl,⟨v2,HB,hob⟩,K2⟩
 have D2:=D1.heap K2 HB (fun g hg=>by
  rcases hob with h|⟨g',h,hg'⟩
  ·rw [h] at hg;cases hg
  ·rw [h] at hg;cases hg;omega) (by omega)
 have B2:Below w.heap.size w w2:=B1.trans (K2.to_below B1.size (fun k hk=>by have:=D1.far k hk;omega))
 have S2:w.heap.size+7<=w2.heap.size:=Nat.le_trans S1 K2.size
 clear D1 HB hob K2 B1
 go_wp2_with fail
 refine (pop_one _ D2.hp).mono ?_
 rintro e w3 ⟨c,s,d,rfl,hHa,hmin,⟨v3,HC,ho3⟩,K3⟩
 have okc:=(D2.hp.fits hHa).1
 have D3:=D2.heap K3 HC (fun g hg=>D2.own g (by rw [<- ho3];exact hg)) (by omega)
 have B3:Below w.heap.size w w3:=B2.trans (K3.to_below B2.size (fun k hk=>by have:=D2.far k hk;omega))
 have S3:w.heap.size+7<=w3.heap.size:=Nat.le_trans S2 K3.size
 have HST:Hid (DRun w (w3.alloc (.cells #[.int .i64 s,.int .i64 d] 53)) w.heap.size lb st n a ms md (fun _=>none) (.int .i64 c) (.pointer (some ⟨w3.heap.size,0,none⟩)) (.bool true)):=by
  have b4:Below w3.heap.size w3 (w3.alloc (.cells #[.int .i64 s,.int .i64 d] 53)):=(Below.refl _ _).alloc (Nat.le_refl _) _
  have DG:=Dg.start (EdR st n) (a:Int)
  obtain ⟨_,_,m,hcm,_⟩:=O.way ha (DG.sH hHa)
  subst hcm
  refine ⟨⟨_,_,v3,_,w3.heap.size,s,d,rfl,S3,fun h=>?_,Slot.new w3 s d,okc,D3.below b4,DG,Or.inr ⟨m,rfl,rfl,hHa,fun {b t u} hb=>?_,rfl⟩⟩,fun h=>(by cases h),B3.trans (b4.mono B3.size)⟩
  ·have:=(D3.hp.blocks).2.2 _ h;omega
  ·have:=hmin b t u hb
   unfold bef Item.v at this
   simp only at this
   omega
 clear D2 HC ho3 K3 B2 hHa hmin D3 B3
 go_wp2
 go_loopg [11,12,13] 257 (fun gk nv cv mv wr=>∃ F:Int->Option (Int × Int),gk=257 - cnt F 256/\DRun w wr w.heap.size lb st n a ms md F nv cv mv)
 case atStart=>exact ⟨_,by rw [cnt_none],HST⟩
 case round =>
  clear HST
  obtain ⟨F,hgk,R⟩:=hrel
  have HG:Hid (gk=257 - cnt F 256):=hgk
  clear hgk
  obtain ⟨Hh,R0,v,nh,cb,s,d,rfl,hcb,hvc,sl,okc,D,DG,hcase⟩:=R.ex
  have hB:=R.bl
  have SMF:Hid (∀ {x s d},F x=some (s,d)->val s d<=val ms md):=fun h=>R.sm h
  clear R
  have q7:=D.m.c0
  have q8:=D.m.c1
  have qk:=D.k
  have s0:=sl.c0
  have s1:=sl.c1
  rcases hcase with ⟨rfl,hno⟩|⟨c,rfl,rfl,hHc,hle,hR⟩
  ·obtain ⟨hD1,hD2⟩:=HFin.out F Hh DG (fun h=>by rw [hno] at h;cases h) SMF.out
   have HD1:Hid _:=hD1
   have HD2:Hid (∀ {x s d},F x=some (s,d)->okC s d):=hD2
   have mp:=D.mp
   clear hD1 hD2 hno DG
   go_wp2
   go_ret
   exact ⟨_,F,rfl,mp,HD1.out,HD2.out,by omega,hB⟩
  ·have hlt:=less_v (r:=ltB ms md s d) rfl wr okM okc
   cases hl:ltB ms md s d with
   |true =>
    have hv:val ms md<val s d:=(ltB_val okM okc).1 hl
    obtain ⟨hD1,hD2⟩:=HFin.out F Hh DG (fun h=>Int.lt_of_lt_of_le hv (hle h)) SMF.out
    have HD1:Hid (Dist st n a (val ms md) F):=hD1
    have HD2:Hid (∀ {x s d},F x=some (s,d)->okC s d):=hD2
    rw [hl] at hlt
    clear hD1 hD2 DG hHc hle hR hv hl
    go_wp2_with fail
    refine hlt.mono ?_
    rintro e w5 ⟨rfl,hb5⟩
    have D5:=D.below hb5
    have qk5:=D5.k
    have mp5:=D5.mp
    have B5:=hB.trans (hb5.mono hB.size)
    clear hlt D hb5 D5 hB
    go_wp2
    go_ret
    exact ⟨_,F,rfl,mp5,HD1.out,HD2.out,by omega,B5⟩
   |false =>
    have hv:val s d<=val ms md:=by
     have h1:¬ val ms md<val s d:=fun h=>by rw [(ltB_val okM okc).2 h] at hl;cases hl
     omega
    rw [hl] at hlt
    clear hl
    go_wp2_with fail
    refine hlt.mono ?_
    rintro e w5 ⟨rfl,hb5⟩
    have hnh:nh<=1+256*cnt F 256:=D.few
    have D5:=D.below hb5
    have sl5:=sl.below hb5
    have B5:=hB.trans (hb5.mono hB.size)
    clear hlt D hb5 hB sl q7 q8 qk s0 s1
    have qk:=D5.k
    have s0:=sl5.c0
    have s1:=sl5.c1
    obtain ⟨DG2,hFc,hmx⟩:=DG.pop hHc hle
    obtain ⟨n1,n2,c',hcc,hcL⟩:=O.way ha (DG.sH hHc)
    have hcc:c=c':=by omega
    subst hcc
    have hcb2:=V.bd c hcL
    have hwc:=wf_small (a:=(c:Int)) (by omega) (by omega)
    have hcnt:=cnt_le F 256
    obtain ⟨w6,hrun6,hm6,ht6⟩:=D5.mp.store law3 Tryz.underK (by unfold maxLen;omega) hwc (.agg #[.int .i64 s,.int .i64 d])
    have D6:=D5.known (by omega) (by omega) hFc hm6 ht6
    have K6:=turned_keep ht6
    have sl6:=sl5.keep K6 (by omega)
    have B6:Below w.heap.size w w6:=B5.trans (K6.to_below B5.size (fun k e=>by omega))
    have V6:=V.below B6
    obtain ⟨A,cap,hl6,row6,_⟩:=V6.edges hcL
    have hfind:=find_ahead (kb:=w.heap.size+4) (nb:=w.heap.size+1) (xb:=w.heap.size) (cap:=cap) (p:=fun e=>!(putH F c s d (e.to:Int)).isSome&&(decide (e.to≠n)&&(st.lev e.to == 0))) w6 row6 (O.len V.bd c) (fun w' e hB' he =>
     clo_ahead w' (V6.below hB') ((hB'.cell (World.block_lt_of_cell? _ _ D6.x)).trans D6.x) ((hB'.cell (World.block_lt_of_cell? _ _ D6.k)).trans D6.k) ((hB'.cell (World.block_lt_of_cell? _ _ D6.n)).trans D6.n) (D6.mp.keep (F:=fun _=>False) (Keep.of_below hB') id) e (O.cor.ends he).2)
    have HL:Hid (∀ e,e ∈ (st.es c).filter (fun e=>!(putH F c s d (e.to:Int)).isSome&&(decide (e.to≠n)&&(st.lev e.to == 0)))↔e ∈ st.es c/\putH F c s d (e.to:Int)=none/\e.to≠n/\st.lev e.to=0):=fun e=>by
     rw [List.mem_filter]
     simp
    have hLL:((st.es c).filter (fun e=>!(putH F c s d (e.to:Int)).isSome&&(decide (e.to≠n)&&(st.lev e.to == 0)))).length<=256:=Nat.le_trans (List.length_filter_le _ _) (O.len V.bd c)
    have c2:=V6.c2
    have x6:=D6.x
    have hFc':putH F c s d c=some (s,d):=putH_at _ _ _ _
    have hcnt':cnt (putH F c s d) 256=cnt F 256+1:=cnt_put F _ s d 256 (by omega) (by omega) hFc
    have SM':Hid (∀ {x s' d'},putH F c s d x=some (s',d')->val s' d'<=val ms md):=fun h=>Int.le_trans (hmx h) hv
    have HMX:Hid (∀ {x t u},putH F c s d x=some (t,u)->val t u<=val s d):=fun h=>hmx h
    have hvl:=val_le n1 n2 (Int.le_trans hv hMb)
    have HDG:Hid (Dg (EdR st n) (a:Int) (putH F c s d) R0 (fun x _=>x≠c)):=by rw [hR];exact DG2
    clear hm6 ht6 K6 D5 sl5 B5 DG DG2 hle hHc hR SMF hmx hFc
    generalize (st.es c).filter (fun e=>!(putH F c s d (e.to:Int)).isSome&&(decide (e.to≠n)&&(st.lev e.to == 0)))=l at *
    generalize putH F c s d=F' at *
    go_wp2_with fail
    refine hfind.mono ?_
    rintro e w7 ⟨v7,rfl,hown7,hb7⟩
    obtain ⟨A7,cap7,rfl,row7,hA7⟩:=rowL_of hown7
    have HA7:Hid (∀ b o,A7=some ⟨b,o,none⟩->w6.heap.size<=b/\b<w7.heap.size):=fun b o h=>by
     rcases hA7 with ⟨h1,_⟩|⟨g,h1,_,h2,h3⟩
     ·rw [h1] at h;cases h
     ·rw [h1] at h;cases h;exact ⟨h2,h3⟩
    have D7:=D6.below hb7
    have sl7:=sl6.below hb7
    have B7:=B6.trans (hb7.mono B6.size)
    have hS7:w.heap.size+7<=w6.heap.size:=by have:=D6.hp.blocks.1;omega
    have hv7:∀ g,v.ownBlock=some g->g<w6.heap.size:=D6.hp.blocks.2.2
    have hS67:=hb7.size
    clear hfind hown7 hb7 D6 sl6 B6 V6 hl6 row6 hrun6 c2 x6 hA7 qk s0 s1
    go_wp2
    go_loopw [55] (fun iv wr=>∃ (k:Nat) (v':Value) (nh':Nat) (H':Int->Option (Int × Int)),k<=l.length/\iv=.int .i64 k/\DMem wr w.heap.size lb (n:Int) ms md v' nh' H' F'/\nh'<=nh+k/\Slot wr cb s d/\v'.ownBlock≠some cb/\Hid (Dg (EdR st n) (a:Int) F' H' (fun x y=>x≠c\/∃ e ∈ l.take k,y=(e.to:Int)))/\RowL wr A7 l/\Hid (∀ g,v'.ownBlock=some g->g<w6.heap.size\/w7.heap.size<=g)/\w7.heap.size<=wr.heap.size/\Below w.heap.size w wr)
     (fun i _=>l.length - (intOf i).toNat)
    case atStart=>exact ⟨0,v,nh,R0,Nat.zero_le _,rfl,D7,by omega,sl7,hvc,HDG.out.pass (s:=s) (d:=d) HMX.out hFc' (fun _ h=>Or.inl (by rcases h with h|⟨e,he,_⟩;exact h;simp at he)) (fun hx _=>hx),row7,fun g hg=>Or.inl (hv7 g hg),Nat.le_refl _,B7⟩
    case round =>
     clear D7 sl7 row7 B7 HDG
     obtain ⟨k,v',nh',H',hk,rfl,D7,hnh',sl7,hvc7,HDG,row7,hvo,hsz,B7⟩:=hrel
     by_cases hlt:k<l.length
     ·obtain ⟨e,he⟩:∃ e,l[k]? = some e:=⟨l[k],by simp [hlt]⟩
      obtain ⟨b,o,rfl,q1,q2,q3,q4⟩:=row7 k e he
      obtain ⟨hb6,hb7⟩:=HA7.out b o rfl
      obtain ⟨hee,hFe,hen,hel⟩:=(HL.out e).1 (List.mem_of_getElem? he)
      obtain ⟨e1,e2,e3,e4⟩:=O.bd hee
      have heL:=V.bd _ (O.cor.ends hee).2
      have hwe:=wf_small (a:=(e.to:Int)) (by omega) (by omega)
      have i1:(0:Int)<=(k:Int):=by omega
      have i2:(k:Int)<(l.length:Int):=by omega
      have HTK:Hid (∀ y:Int,(∃ e' ∈ l.take (k+1),y=(e'.to:Int))->(∃ e' ∈ l.take k,y=(e'.to:Int))\/y=(e.to:Int)):=fun y ⟨e',h1,h2⟩=>by
       rw [List.take_add_one,he,List.mem_append] at h1
       rcases h1 with h1|h1
       ·exact Or.inl ⟨e',h1,h2⟩
       ·simp at h1;rw [h1] at h2;exact Or.inr h2
      have HED:Hid (EdR st n (c:Int) (e.to:Int) e.s e.d):=⟨e,by simpa using hee,rfl,rfl,rfl,hel,hen⟩
      have HPU:Hid (∀ H2,Pushed H' (e.to:Int) (s+e.s) (d+e.d) H2->Dg (EdR st n) (a:Int) F' H2 (fun x y=>x≠c\/∃ e ∈ l.take (k+1),y=(e.to:Int))):=fun H2 hp=>by
       have h1:=HDG.out.push hFc' HMX.out HED.out (by unfold val;omega) hFe hp (fun h=>O.one HED.out h)
       refine h1.pass (s:=s) (d:=d) HMX.out hFc' (fun {y t u} _ h=>Or.inl ?_) (fun {x y} hx _=>Or.inl (Or.inl hx))
       rcases h with h|h
       ·exact absurd rfl h
       ·rcases HTK.out y h with h|h
        ·exact Or.inl (Or.inr h)
        ·exact Or.inr ⟨rfl,h⟩
      have okE:okC e.s e.d:=by unfold okC;omega
      have okS:okC (s+e.s) (d+e.d):=by unfold okC;omega
      have hE:w.heap.size+7<=wr.heap.size:=by omega
      have b8:Below wr.heap.size wr (wr.alloc (.cells #[.int .i64 (e.to:Int),.int .i64 e.s,.int .i64 e.d,.int .i64 e.mid] 204)):=(Below.refl _ _).alloc (Nat.le_refl _) _
      have y0:(wr.alloc (.cells #[.int .i64 (e.to:Int),.int .i64 e.s,.int .i64 e.d,.int .i64 e.mid] 204)).cell? ⟨wr.heap.size,0,none⟩=some (.int .i64 (e.to:Int)):=World.cell?_alloc_at _ _ _ 0 rfl
      have y1:(wr.alloc (.cells #[.int .i64 (e.to:Int),.int .i64 e.s,.int .i64 e.d,.int .i64 e.mid] 204)).cell? ⟨wr.heap.size,1,none⟩=some (.int .i64 e.s):=World.cell?_alloc_at _ _ _ 1 rfl
      have y2:(wr.alloc (.cells #[.int .i64 (e.to:Int),.int .i64 e.s,.int .i64 e.d,.int .i64 e.mid] 204)).cell? ⟨wr.heap.size,2,none⟩=some (.int .i64 e.d):=World.cell?_alloc_at _ _ _ 2 rfl
      have D8:=D7.below b8
      have sl8:=sl7.below b8
      have row8:=row7.below b8
      have B8:=B7.trans (b8.mono B7.size)
      have hz8:wr.heap.size<(wr.alloc (.cells #[.int .i64 (e.to:Int),.int .i64 e.s,.int .i64 e.d,.int .i64 e.mid] 204)).heap.size:=by simp
      have hvE:∀ g,v'.ownBlock=some g->g<wr.heap.size:=D7.hp.blocks.2.2
      clear D7 sl7 row7 B7 b8 HTK HDG hee hel hen he hFe HED
      generalize (e.to:Int)=et at *
      generalize e.s=es at *
      generalize e.d=ed at *
      generalize e.mid=em at *
      go_wp2_with fail
      generalize wr.alloc (.cells #[.int .i64 et,.int .i64 es,.int .i64 ed,.int .i64 em] 204)=w8 at *
      have b9:Below w8.heap.size w8 w8.drew:=(Below.refl _ _).drew
      have D9:=D8.below b9
      have sl9:=sl8.below b9
      have row9:=row8.below b9
      have B9:=B8.trans (b9.mono B8.size)
      have hz9:wr.heap.size<w8.drew.heap.size:=hz8
      have t0:w8.drew.cell? ⟨wr.heap.size,0,none⟩=some (.int .i64 et):=y0
      have t1:w8.drew.cell? ⟨wr.heap.size,1,none⟩=some (.int .i64 es):=y1
      have t2:w8.drew.cell? ⟨wr.heap.size,2,none⟩=some (.int .i64 ed):=y2
      have t3:=sl9.c0
      have t4:=sl9.c1
      have hadd:=add_any s d es ed w8.drew okc okE
      clear D8 sl8 row8 B8 b9 y0 y1 y2 q1 q2 q3 q4 hz8
      generalize wr.heap.size=E at *
      go_region_held3 (fun w'=>w'.cell? ⟨E,0,none⟩=some (.int .i64 et)/\w'.cell? ⟨E,1,none⟩=some (.int .i64 es)/\w'.cell? ⟨E,2,none⟩=some (.int .i64 ed)/\w'.cell? ⟨cb,0,none⟩=some (.int .i64 s)/\w'.cell? ⟨cb,1,none⟩=some (.int .i64 d)) (first|exact ⟨t0,t1,t2,t3,t4⟩|exact ⟨u0,u1,u2,u3,u4⟩|exact ⟨x0,x1,x2,x3,x4⟩)
       (first
        |(go_at_call 177;refine hadd.mono ?_;rintro r w10 ⟨rfl,hb10⟩;have u0:=(hb10.cell (World.block_lt_of_cell? _ _ t0)).trans t0;have u1:=(hb10.cell (World.block_lt_of_cell? _ _ t1)).trans t1;have u2:=(hb10.cell (World.block_lt_of_cell? _ _ t2)).trans t2;have u3:=(hb10.cell (World.block_lt_of_cell? _ _ t3)).trans t3;have u4:=(hb10.cell (World.block_lt_of_cell? _ _ t4)).trans t4;have D10:=D9.below hb10;have sl10:=sl9.below hb10;have row10:=row9.below hb10;have B10:=B9.trans (hb10.mono B9.size);have hz10:=Nat.lt_of_lt_of_le hz9 hb10.size;have hpush:=push_all et (s+es) (d+ed) w10 D10.hp okS hwe (by omega))
        |(go_at_call 202;refine hpush.mono ?_;rintro r w11 ⟨rfl,⟨v11,nh11,HA11,hn11,ho11⟩,K11⟩;have nE:¬ hb3 (w.heap.size+6) (w.heap.size+5) v' E:=(by rintro (h|h|h);omega;omega;have:=hvE _ h;omega);have nC:¬ hb3 (w.heap.size+6) (w.heap.size+5) v' cb:=(by rintro (h|h|h);omega;omega;exact hvc7 h);have x0:=K11.cellOf u0 nE;have x1:=K11.cellOf u1 nE;have x2:=K11.cellOf u2 nE;have x3:=K11.cellOf u3 nC;have x4:=K11.cellOf u4 nC))
      have nB:¬ hb3 (w.heap.size+6) (w.heap.size+5) v' b:=by
       rintro (h|h|h)
       ·omega
       ·omega
       ·rcases hvo.out _ h with h|h <;> omega
      have D11:=D10.heap K11 HA11 (fun g hg=>by
       rcases ho11 g hg with h|h
       ·exact D10.own g h
       ·omega) (by omega)
      have sl11:=sl10.keep K11 nC
      have row11:=row10.keep K11 (fun b' o' h=>by cases h;exact nB)
      have B11:Below w.heap.size w w11:=B10.trans (K11.to_below B10.size (fun k hk=>by have:=D10.far k hk;omega))
      have HDN:=HPU.out _ (pushed H' et (s+es) (d+ed))
      have HDN:Hid (Dg (EdR st n) (a:Int) F' (pushH H' et (s+es) (d+ed)) (fun x y=>x≠c\/∃ e ∈ l.take (k+1),y=(e.to:Int))):=HDN
      have hz11:=Nat.lt_of_lt_of_le hz10 K11.size
      have hv11:v11.ownBlock≠some cb:=fun h=>by
       rcases ho11 cb h with h|h
       ·exact hvc7 h
       ·have:=World.block_lt_of_cell? _ _ u3
        simp only at this
        omega
      have HVO:Hid (∀ g,v11.ownBlock=some g->g<w6.heap.size\/w7.heap.size<=g):=fun g hg=>by
       rcases ho11 g hg with h|h
       ·exact hvo.out g h
       ·right;omega
      clear hadd hpush D10 sl10 row10 B10 K11 HA11 ho11 D9 sl9 row9 B9 t0 t1 t2 t3 t4 u0 u1 u2 u3 u4 x0 x1 x2 x3 x4 HPU hb10
      go_wp2
      go_roundw
      case rel=>exact ⟨k+1,v11,nh11,_,by omega,by go_num,D11,by omega,sl11,hv11,HDN.out,row11,HVO.out,by omega,B11⟩
      case measure=>simp [intOf];omega
     ·have e:k=l.length:=by omega
      subst e
      have HDA:Hid (Dg (EdR st n) (a:Int) F' H' (fun _ _=>True)):=by
       refine HDG.out.pass (s:=s) (d:=d) HMX.out hFc' (fun {y t u} he _=>?_) (fun {x y} hx _=>Or.inl hx)
       obtain ⟨e',h1,rfl,rfl,rfl,h2,h3⟩:=he
       have h1:e' ∈ st.es c:=by simpa using h1
       cases hF:F' (e'.to:Int) with
       |some q =>
        right
        obtain ⟨b1,b2,_⟩:=O.bd h1
        exact ⟨by simp,by unfold val;omega⟩
       |none=>exact Or.inl (Or.inr ⟨e',by rw [List.take_length];exact (HL.out e').2 ⟨h1,hF,h3,h2⟩,rfl⟩)
      have b8:Below wr.heap.size wr (wr.alloc (.cells #[.int .i64 s,.int .i64 d] 53)):=(Below.refl _ _).alloc (Nat.le_refl _) _
      have D8:=D7.below b8
      have sl8:=Slot.new wr s d
      have B8:=B7.trans (b8.mono B7.size)
      have s0:=sl7.c0
      have s1:=sl7.c1
      have hvE:∀ g,v'.ownBlock=some g->g<wr.heap.size:=D7.hp.blocks.2.2
      have hX:w.heap.size+7<=wr.heap.size:=by omega
      clear HDG b8 row7 D7 B7 hvo
      cases nh' with
      |zero =>
       have hpop:=pop_none _ D8.hp
       have hH0:∀ x,H' x=none:=fun x=>D8.hp.empty x
       go_wp2_with fail
       refine hpop.mono ?_
       rintro r w9 ⟨rfl,hb9⟩
       have D9:=D8.below hb9
       have sl9:=sl8.below hb9
       have B9:=B8.trans (hb9.mono B8.size)
       clear hpop D8 sl8 B8 hb9 sl7 s0 s1
       generalize wr.heap.size=C2 at *
       have z0:=sl9.z0
       have z1:=sl9.z1
       have c0:=sl9.c0
       have c1:=sl9.c1
       go_wp2
       go_roundg (257 - cnt F' 256)
       case measure=>have:=HG.out;omega
       case rel =>
        refine ⟨F',rfl,⟨⟨H',H',v',0,C2,0,0,rfl,by omega,fun h=>?_,sl9.set 0 0,ok0,D9.other (keepTwo _ _ _ _) (by omega) (fun h=>?_),HDA.out,Or.inl ⟨rfl,hH0⟩⟩,SM'.out,B9.trans ((keepTwo _ _ _ _).to_below B9.size (fun k e=>by omega))⟩⟩
        ·have:=hvE _ h;omega
        ·have:=hvE _ h;omega
      |succ m =>
       have hpop:=pop_one _ D8.hp
       go_wp2_with fail
       refine hpop.mono ?_
       rintro r w9 ⟨c9,s9,d9,rfl,hHa,hmin,⟨v9,HC,ho9⟩,K9⟩
       have okc9:=(D8.hp.fits hHa).1
       have nC:¬ hb3 (w.heap.size+6) (w.heap.size+5) v' wr.heap.size:=by
        rintro (h|h|h)
        ·omega
        ·omega
        ·have:=hvE _ h;omega
       have D9:=D8.heap K9 HC (fun g hg=>D8.own g (by rw [<- ho9];exact hg)) (by omega)
       have sl9:=sl8.keep K9 nC
       have B9:Below w.heap.size w w9:=B8.trans (K9.to_below B8.size (fun k hk=>by have:=D8.far k hk;omega))
       have HW:Hid (∃ m9:Nat,c9=(m9:Int)):=by
        obtain ⟨_,_,m9,h9,_⟩:=O.way ha (HDA.out.sH hHa)
        exact ⟨m9,h9⟩
       have HMI:Hid (∀ {b t u},H' b=some (t,u)->val s9 d9<=val t u):=fun {b t u} hb=>by
        have:=hmin b t u hb
        unfold bef Item.v at this
        simp only at this
        omega
       have HHA:Hid (H' c9=some (s9,d9)):=hHa
       have HV9:Hid (∀ g,v9.ownBlock=some g->g<wr.heap.size):=fun g hg=>hvE g (by rw [<- ho9];exact hg)
       clear hpop D8 sl8 B8 sl7 s0 s1 hmin hHa ho9 K9 HC nC
       generalize wr.heap.size=C2 at *
       have z0:=sl9.z0
       have z1:=sl9.z1
       have c0:=sl9.c0
       have c1:=sl9.c1
       go_wp2
       go_roundg (257 - cnt F' 256)
       case measure=>have:=HG.out;omega
       case rel =>
        obtain ⟨m9,rfl⟩:=HW.out
        refine ⟨F',rfl,⟨⟨H',_,v9,m,C2,s9,d9,rfl,by omega,fun h=>?_,sl9.set s9 d9,okc9,D9.other (keepTwo _ _ _ _) (by omega) (fun h=>?_),HDA.out,Or.inr ⟨m9,rfl,rfl,HHA.out,HMI.out,rfl⟩⟩,SM'.out,B9.trans ((keepTwo _ _ _ _).to_below B9.size (fun k e=>by omega))⟩⟩
        ·have:=HV9.out _ h;omega
        ·have:=HV9.out _ h;omega
end
section
open Go.RowKit
set_option maxHeartbeats 2000000 in
set_option maxRecDepth 1000000 in
theorem greatest_any {cap:Nat}{A:Option Addr}{l:List LE}(w:World)(hrow:RowL w A l)(hl:l.length<=256)(hb:∀ e ∈ l,0<=e.s/\0<=e.d/\e.s<=512/\e.d<=512) :
  Calls Tryz.prog 197 #[.slice A l.length cap] w fun e w'=>∃ gs gd,e=.returned (.agg #[.int .i64 gs,.int .i64 gd])/\(0<=gs/\0<=gd/\gs<=512/\gd<=512)/\(∀ e ∈ l,val e.s e.d<=val gs gd)/\Below w.heap.size w w':=by
 have ok0:okC 0 0:=by unfold okC;omega
 have B0:Below w.heap.size w ((w.alloc (.cells #[.int .i64 0,.int .i64 0] 53)).alloc (.cells #[.int .i64 0,.int .i64 0] 53)):=((Below.refl _ _).alloc (Nat.le_refl _) _).alloc (by simp) _
 have r0:Slot ((w.alloc (.cells #[.int .i64 0,.int .i64 0] 53)).alloc (.cells #[.int .i64 0,.int .i64 0] 53)) w.heap.size 0 0:=(Slot.new w 0 0).below ((Below.refl _ _).alloc (Nat.le_refl _) _)
 have g0:Slot ((w.alloc (.cells #[.int .i64 0,.int .i64 0] 53)).alloc (.cells #[.int .i64 0,.int .i64 0] 53)) (w.heap.size+1) 0 0:=by
  have q:=Slot.new (w.alloc (.cells #[.int .i64 0,.int .i64 0] 53)) 0 0
  have e:(w.alloc (.cells #[.int .i64 0,.int .i64 0] 53)).heap.size=w.heap.size+1:=by simp
  rw [e] at q
  exact q
 have HB:Hid (∀ e ∈ l,0<=e.s/\0<=e.d/\e.s<=512/\e.d<=512):=hb
 clear hb
 go_enter Tryz.func197,Tryz.ntmps197
 go_wp2
 go_loopw [8] (fun iv wr=>∃ (k:Nat) (gs gd:Int),k<=l.length/\iv=.int .i64 k/\Slot wr w.heap.size 0 0/\Slot wr (w.heap.size+1) gs gd/\Hid (0<=gs/\0<=gd/\gs<=512/\gd<=512)/\Hid (∀ e ∈ l.take k,val e.s e.d<=val gs gd)/\w.heap.size+2<=wr.heap.size/\Below w.heap.size w wr)
  (fun i _=>l.length - (intOf i).toNat)
 case atStart=>exact ⟨0,0,0,Nat.zero_le _,rfl,r0,g0,by unfold Hid;decide,fun e he=>by simp at he,by simp,B0⟩
 case round =>
  clear r0 g0 B0
  obtain ⟨k,gs,gd,hk,rfl,r0,g0,HG,HM,hsz,hB⟩:=hrel
  have g1:=g0.c0
  have g2:=g0.c1
  by_cases hlt:k<l.length
  ·obtain ⟨e,he⟩:∃ e,l[k]? = some e:=⟨l[k],by simp [hlt]⟩
   obtain ⟨b,o,rfl,q1,q2,q3,q4⟩:=(hrow.below hB) k e he
   obtain ⟨e1,e2,e3,e4⟩:=HB.out e (List.mem_of_getElem? he)
   obtain ⟨f1,f2,f3,f4⟩:=HG.out
   have okE:okC e.s e.d:=by unfold okC;omega
   have okG:okC gs gd:=by unfold okC;omega
   have i1:(0:Int)<=(k:Int):=by omega
   have i2:(k:Int)<(l.length:Int):=by omega
   have HT:Hid (∀ x,x ∈ l.take (k+1)->x ∈ l.take k\/x=e):=fun x hx=>by
    rw [List.take_add_one,he,List.mem_append] at hx
    simpa using hx
   have b1:Below wr.heap.size wr (wr.alloc (.cells #[.int .i64 (e.to:Int),.int .i64 e.s,.int .i64 e.d,.int .i64 e.mid] 204)):=(Below.refl _ _).alloc (Nat.le_refl _) _
   have B1:=hB.trans (b1.mono hB.size)
   have r1:=r0.below b1
   have gg1:=g0.below b1
   have y1:(wr.alloc (.cells #[.int .i64 (e.to:Int),.int .i64 e.s,.int .i64 e.d,.int .i64 e.mid] 204)).cell? ⟨wr.heap.size,1,none⟩=some (.int .i64 e.s):=World.cell?_alloc_at _ _ _ 1 rfl
   have y2:(wr.alloc (.cells #[.int .i64 (e.to:Int),.int .i64 e.s,.int .i64 e.d,.int .i64 e.mid] 204)).cell? ⟨wr.heap.size,2,none⟩=some (.int .i64 e.d):=World.cell?_alloc_at _ _ _ 2 rfl
   have h1:=gg1.c0
   have h2:=gg1.c1
   have hlt2:=less_v (r:=ltB gs gd e.s e.d) rfl (wr.alloc (.cells #[.int .i64 (e.to:Int),.int .i64 e.s,.int .i64 e.d,.int .i64 e.mid] 204)) okG okE
   have hs1:w.heap.size+2<=(wr.alloc (.cells #[.int .i64 (e.to:Int),.int .i64 e.s,.int .i64 e.d,.int .i64 e.mid] 204)).heap.size:=by simp;omega
   have HMn:Hid (val e.s e.d<=val gs gd->∀ x ∈ l.take (k+1),val x.s x.d<=val gs gd):=fun h x hx=>by
    rcases HT.out x hx with h1|h1
    ·exact HM.out x h1
    ·rw [h1];exact h
   have HMy:Hid (val gs gd<val e.s e.d->∀ x ∈ l.take (k+1),val x.s x.d<=val e.s e.d):=fun h x hx=>by
    rcases HT.out x hx with h1|h1
    ·have:=HM.out x h1;omega
    ·rw [h1];exact Int.le_refl _
   clear he b1 r0 g0 hB
   generalize (e.to:Int)=et at *
   generalize e.s=es at *
   generalize e.d=ed at *
   generalize e.mid=em at *
   cases hl2:ltB gs gd es ed with
   |true =>
    have hv:=HMy.out ((ltB_val okG okE).1 hl2)
    have HV:Hid (∀ x ∈ l.take (k+1),val x.s x.d<=val es ed):=hv
    rw [hl2] at hlt2
    clear hv hl2 HMy HMn HM HT
    go_wp2_with fail
    generalize wr.alloc (.cells #[.int .i64 et,.int .i64 es,.int .i64 ed,.int .i64 em] 204)=w1 at *
    refine hlt2.mono ?_
    rintro r w2 ⟨rfl,hb2⟩
    have B2:=B1.trans (hb2.mono B1.size)
    have r2:=r1.below hb2
    have gg2:=gg1.below hb2
    have z1:=(hb2.cell (World.block_lt_of_cell? _ _ y1)).trans y1
    have z2:=(hb2.cell (World.block_lt_of_cell? _ _ y2)).trans y2
    have hs2:=Nat.le_trans hs1 hb2.size
    have f0:=gg2.z0
    have f1':=gg2.z1
    have c0:=gg2.c0
    have c1:=gg2.c1
    clear hlt2 hb2 B1 r1 gg1 y1 y2 h1 h2 g1 g2 q1 q2 q3 q4
    go_wp2
    go_roundw
    case rel=>exact ⟨k+1,es,ed,by omega,by go_num,r2.keep (keepTwo _ _ _ _) (by omega),gg2.set es ed,by unfold Hid;exact ⟨e1,e2,e3,e4⟩,HV.out,by simpa using hs2,B2.trans ((keepTwo _ _ _ _).to_below B2.size (fun k e=>by omega))⟩
    case measure=>simp [intOf];omega
   |false =>
    have hv:=HMn.out (by
     have:¬ val gs gd<val es ed:=fun h=>by rw [(ltB_val okG okE).2 h] at hl2;cases hl2
     omega)
    have HV:Hid (∀ x ∈ l.take (k+1),val x.s x.d<=val gs gd):=hv
    rw [hl2] at hlt2
    clear hv hl2 HMy HMn HM HT
    go_wp2_with fail
    generalize wr.alloc (.cells #[.int .i64 et,.int .i64 es,.int .i64 ed,.int .i64 em] 204)=w1 at *
    refine hlt2.mono ?_
    rintro r w2 ⟨rfl,hb2⟩
    have B2:=B1.trans (hb2.mono B1.size)
    have r2:=r1.below hb2
    have gg2:=gg1.below hb2
    have hs2:=Nat.le_trans hs1 hb2.size
    clear hlt2 hb2 B1 r1 gg1 y1 y2 h1 h2 g1 g2 q1 q2 q3 q4
    go_wp2
    go_roundw
    case rel=>exact ⟨k+1,gs,gd,by omega,by go_num,r2,gg2,HG.out,HV.out,hs2,B2⟩
    case measure=>simp [intOf];omega
  ·have e:k=l.length:=by omega
   subst e
   have HM2:Hid (∀ e ∈ l,val e.s e.d<=val gs gd):=fun e he=>HM.out e (by rw [List.take_length];exact he)
   have c0:=r0.c0
   have c1:=r0.c1
   have z0:=r0.z0
   have z1:=r0.z1
   clear HM
   go_wp2
   have q:=setTwo wr w.heap.size gs gd c0 c1
   have hd:=q.1
   have ht:=q.2
   refine bodyPost_ret (v:=.agg #[.int .i64 gs,.int .i64 gd]) (by simp [results,Tryz.results197,go_sem,hd,ht]) rfl ⟨gs,gd,rfl,HG.out,HM2.out,?_⟩
   exact hB.trans ((keepTwo _ _ _ _).to_below hB.size (fun k e=>by omega))
def rowM (p:LE->LE->Bool) (n:Nat) (a:LE) (l:List LE):List (Nat × LE):=(l.filter (p a)).map (fun b=>(a.to,⟨b.to,a.s+b.s,a.d+b.d,(n:Int)⟩))
def mTo (p:LE->LE->Bool) (n:Nat):List LE->Nat->List (Nat × LE)
 |[],_=>[]
 |_::_,0=>[]
 |a::l,i+1=>rowM p n a l++mTo p n l i
theorem mTo_zero (p:LE->LE->Bool)(n:Nat)(l:List LE):mTo p n l 0=[]:=by
 cases l <;> rfl
theorem mTo_step {p:LE->LE->Bool}{n:Nat}:∀ {l:List LE}{i:Nat}{a:LE},l[i]? = some a->mTo p n l (i+1)=mTo p n l i++rowM p n a (l.drop (i+1))
 |[],i,a,h=>by simp at h
 |x::l,0,a,h=>by
  simp at h;subst h
  show rowM p n x l++mTo p n l 0=[]++rowM p n x l
  rw [mTo_zero,List.append_nil,List.nil_append]
 |x::l,i+1,a,h=>by
  show rowM p n x l++mTo p n l (i+1)=(rowM p n x l++mTo p n l i)++rowM p n a (l.drop (i+1))
  rw [mTo_step (l:=l) (i:=i) (a:=a) (by simpa using h),List.append_assoc]
theorem mTo_all (p:LE->LE->Bool)(n:Nat):∀ l:List LE,mTo p n l l.length=moreF p n l
 |[]=>rfl
 |a::l=>by
  show rowM p n a l++mTo p n l l.length=_
  rw [mTo_all p n l]
  rfl
theorem rowM_no {p:LE->LE->Bool}{n:Nat}{a:LE}{l:List LE}{j:Nat}{b:LE}(h:l[j]? = some b)(hp:p a b=false):rowM p n a (l.take (j+1))=rowM p n a (l.take j):=by
 unfold rowM
 rw [List.take_add_one,h,List.filter_append]
 simp [hp]
theorem rowM_yes {p:LE->LE->Bool}{n:Nat}{a:LE}{l:List LE}{j:Nat}{b:LE}(h:l[j]? = some b)(hp:p a b=true):rowM p n a (l.take (j+1))=rowM p n a (l.take j)++[(a.to,⟨b.to,a.s+b.s,a.d+b.d,(n:Int)⟩)]:=by
 unfold rowM
 rw [List.take_add_one,h,List.filter_append]
 simp [hp]
theorem rowM_len (p:LE->LE->Bool)(n:Nat)(a:LE)(l:List LE):(rowM p n a l).length<=l.length:=by
 unfold rowM
 rw [List.length_map]
 exact List.length_filter_le _ _
theorem mTo_len (p:LE->LE->Bool)(n:Nat):∀ (l:List LE) (i:Nat),(mTo p n l i).length<=i*l.length
 |[],_=>Nat.zero_le _
 |_::_,0=>Nat.zero_le _
 |a::l,i+1=>by
  show (rowM p n a l++mTo p n l i).length<=(i+1)*(l.length+1)
  rw [List.length_append]
  have h1:=rowM_len p n a l
  have h2:=mTo_len p n l i
  rw [Nat.mul_succ,Nat.succ_mul]
  omega
end
section
open Go.RowKit
def lkV (x:Nat × LE):List Value:=[.int .i64 (x.1:Int),.int .i64 (x.2.to:Int),.int .i64 x.2.s,.int .i64 x.2.d]
def lksV (l:List (Nat × LE)):List Value:=l.flatMap lkV
theorem lksV_app (l l':List (Nat × LE)):lksV (l++l')=lksV l++lksV l':=by
 unfold lksV
 rw [List.flatMap_append]
theorem lksV_one (x:Nat × LE):lksV [x]=lkV x:=by
 unfold lksV
 rw [List.flatMap_cons,List.flatMap_nil,List.append_nil]
theorem Tryz.infoK:(Tryz.prog.info? 248).map (fun i=>(i.zero,i.size,i.bytes))=some (some (.agg #[.int .i64 0,.int .i64 0,.int .i64 0,.int .i64 0]),4,32):=by kernel_rfl
theorem Tryz.underL:Tryz.prog.underlying 245=some (.slice 248):=by kernel_rfl
theorem need_by {st:LSt}{n:Nat}{a b:LE}{p:LE->LE->Bool}{F:Int->Option (Int × Int)}{M:Int}(hp:∀ a b,p a b=true↔Need st n a b)(hD:Dist st n a.to M F)(hM:val (a.s+b.s) (a.d+b.d)<=M) :
  (F (b.to:Int)=none->p a b=true)/\∀ s d,F (b.to:Int)=some (s,d)->(p a b=true↔val (a.s+b.s) (a.d+b.d)<val s d):=by
 have h:=hD (b.to:Int) (a.s+b.s) (a.d+b.d) hM
 refine ⟨fun hn=>(hp a b).2 (fun hw=>?_),fun s d hs=>⟨fun h1=>?_,fun h1=>(hp a b).2 (fun hw=>?_)⟩⟩
 ·obtain ⟨x,y,h1,_⟩:=h.1 hw
  rw [hn] at h1;cases h1
 ·have h2:=(hp a b).1 h1
  rcases Int.lt_or_le (val (a.s+b.s) (a.d+b.d)) (val s d) with h3|h3
  ·exact h3
  ·exact absurd (h.2 ⟨s,d,hs,h3⟩) h2
 ·obtain ⟨x,y,h2,h3⟩:=h.1 hw
  rw [hs] at h2;cases h2
  omega
set_option maxHeartbeats 4000000 in
set_option maxRecDepth 1000000 in
theorem needed_any {N lb vb eb top n g cap:Nat}{L:List Nat}{st:LSt}{f:Int->Option Value}{l:List LE}{p:LE->LE->Bool}(w:World)(V:LvAt w N lb vb eb top L st f)(O:Okl L 512 st)(hrow:RowL w (some ⟨g,0,none⟩) l)(hl:l.length<=256)(hcap:l.length<=cap)(hcap2:cap<=maxLen)(hin:∀ e ∈ l,e ∈ st.es n)(hp:∀ a b,p a b=true↔Need st n a b) :
  Calls Tryz.prog 163 #[.pointer (some ⟨lb,0,none⟩),.int .i64 (n:Int),.slice (some ⟨g,0,none⟩) l.length cap] w fun e w'=>∃ v,e=.returned v/\w'.ownsRow w.heap.size 248 4 v (moreF p n l).length (lksV (moreF p n l))/\Below w.heap.size w w':=by
 obtain ⟨i0,hi,hz0,hz1,hz2⟩:=info_parts Tryz.infoK
 have HP:Hid (∀ a b,p a b=true↔Need st n a b):=hp
 have HIN:Hid (∀ e ∈ l,e ∈ st.es n):=hin
 have hcap3:cap<=9223372036854775807:=by unfold maxLen at hcap2;omega
 clear hp hin
 go_enter Tryz.func163,Tryz.ntmps163
 go_wp2
 go_loopw [7,19] (fun rv iv wr=>∃ (k:Nat),k<=l.length/\iv=.int .i64 k/\wr.ownsRow w.heap.size 248 4 rv (mTo p n l k).length (lksV (mTo p n l k))/\Below w.heap.size w wr)
  (fun _ i _=>l.length - (intOf i).toNat)
 case atStart=>exact ⟨0,Nat.zero_le _,rfl,by rw [mTo_zero];exact World.ownsRow_nil _ _ _ _,Below.refl _ _⟩
 case round =>
  obtain ⟨k,hk,rfl,hown,hB⟩:=hrel
  by_cases hlt:k<l.length
  ·obtain ⟨a,ha⟩:∃ a,l[k]? = some a:=⟨l[k],by simp [hlt]⟩
   have HST:Hid (mTo p n l (k+1)=mTo p n l k++rowM p n a (l.drop (k+1))):=mTo_step ha
   have rowr:=hrow.below hB
   have rowD:=rowr.drop (k+1)
   obtain ⟨b,o,hbo,q1,q2,q3,q4⟩:=rowr k a ha
   have haM:=HIN.out a (List.mem_of_getElem? ha)
   cases hbo
   rw [Nat.zero_add] at q1 q2 q3 q4 rowD
   have i1:(0:Int)<=(k:Int):=by omega
   have i2:(k:Int)<(l.length:Int):=by omega
   have i3:((k:Int)+1)<=(l.length:Int):=by omega
   obtain ⟨l2,hl2⟩:∃ l2,l2=l.drop (k+1):=⟨_,rfl⟩
   have hlen2:l2.length=l.length - (k+1):=by rw [hl2,List.length_drop]
   have HL2:Hid (∀ e ∈ l2,e ∈ st.es n):=fun e he=>HIN.out e (List.mem_of_mem_drop (by rw [<- hl2];exact he))
   have hgw:g<w.heap.size:=by
    obtain ⟨b',o',h1,h2⟩:=hrow.lt (by omega)
    cases h1;exact h2
   rw [<- hl2] at HST rowD
   have hPl:=mTo_len p n l k
   have hPl2:k*l.length<=256*256:=Nat.mul_le_mul (by omega) hl
   obtain ⟨e1,e2,e3,e4⟩:=O.bd haM
   have haL:=(O.cor.ends haM).2
   have okA:okC a.s a.d:=by unfold okC;omega
   generalize hP:mTo p n l k=P at *
   clear hP
   have rowO:(cap=k+1->RowL wr (some ⟨g,0,none⟩) l2)/\(¬ cap=k+1->RowL wr (some ⟨g,(k+1)*4,none⟩) l2) :=
    ⟨fun h=>by
     have e:l2=[]:=List.length_eq_zero_iff.1 (by omega)
     rw [e];exact RowL.nil _ _,fun _=>rowD⟩
   have b8:Below wr.heap.size wr (wr.alloc (.cells #[.int .i64 (a.to:Int),.int .i64 a.s,.int .i64 a.d,.int .i64 a.mid] 204)):=(Below.refl _ _).alloc (Nat.le_refl _) _
   have y0:(wr.alloc (.cells #[.int .i64 (a.to:Int),.int .i64 a.s,.int .i64 a.d,.int .i64 a.mid] 204)).cell? ⟨wr.heap.size,0,none⟩=some (.int .i64 (a.to:Int)):=World.cell?_alloc_at _ _ _ 0 rfl
   have y1:(wr.alloc (.cells #[.int .i64 (a.to:Int),.int .i64 a.s,.int .i64 a.d,.int .i64 a.mid] 204)).cell? ⟨wr.heap.size,1,none⟩=some (.int .i64 a.s):=World.cell?_alloc_at _ _ _ 1 rfl
   have y2:(wr.alloc (.cells #[.int .i64 (a.to:Int),.int .i64 a.s,.int .i64 a.d,.int .i64 a.mid] 204)).cell? ⟨wr.heap.size,2,none⟩=some (.int .i64 a.d):=World.cell?_alloc_at _ _ _ 2 rfl
   have own8:=own_below hown b8
   have B8:=hB.trans (b8.mono hB.size)
   have hrE:∀ q,u7.ownBlock=some q->q<wr.heap.size:=fun q hq=>(hown.lt q hq).2
   clear hown rowr
   rcases Decidable.em (cap=k+1) with hck|hck
   all_goals
    first
     |(have rowP:=rowO.1 hck;clear rowO rowD)
     |(have rowP:=rowO.2 hck;clear rowO rowD)
    go_wp2_with fail
    rw [<- hlen2]
    have HLN:Hid (l2.length=l.length - (k+1)):=hlen2
    have hl256:l2.length<=256:=by omega
    have HCK:Hid _:=hck
    have HLD:Hid (l2=l.drop (k+1)):=hl2
    clear hck hlen2 hl2
    have rowQ:=rowP.below b8
    have hBs:=hB.size
    clear b8 rowP q1 q2 q3 q4 hB
    generalize wr.alloc (.cells #[.int .i64 (a.to:Int),.int .i64 a.s,.int .i64 a.d,.int .i64 a.mid] 204)=w8 at *
    have hE8:wr.heap.size<w8.heap.size:=World.block_lt_of_cell? _ _ y0
    have hEw:w.heap.size<=wr.heap.size:=hBs
    generalize wr.heap.size=E at *
    have b9:Below w8.heap.size w8 w8.drew:=(Below.refl _ _).drew
    have B9:=B8.trans (b9.mono B8.size)
    have t0:w8.drew.cell? ⟨E,0,none⟩=some (.int .i64 (a.to:Int)):=y0
    have t1:w8.drew.cell? ⟨E,1,none⟩=some (.int .i64 a.s):=y1
    have t2:w8.drew.cell? ⟨E,2,none⟩=some (.int .i64 a.d):=y2
    have row9:=rowQ.below b9
    have own9:w8.drew.ownsRow w.heap.size 248 4 u7 P.length (lksV P):=own_below own8 b9
    have hgr0:=fun cc=>greatest_any (cap:=cc) w8.drew row9 hl256 (fun e he=>O.bd (HL2.out e he))
    have hgr:Hid _:=hgr0
    clear hgr0
    have V9:=V.below B9
    have hadd:Hid (∀ (gs gd:Int) (w10:World),(0<=gs/\0<=gd/\gs<=512/\gd<=512)->Calls Tryz.prog 177 #[.agg #[.int .i64 a.s,.int .i64 a.d],.agg #[.int .i64 gs,.int .i64 gd]] w10 fun e w'=>e=.returned (.agg #[.int .i64 (a.s+gs),.int .i64 (a.d+gd)])/\Below w10.heap.size w10 w'):=fun gs gd w10 hg=>add_any a.s a.d gs gd w10 okA (by obtain ⟨g1,g2,g3,g4⟩:=hg;unfold okC;omega)
    have hdis:Hid (∀ (gs gd:Int) (w11:World),(0<=gs/\0<=gd/\gs<=512/\gd<=512)->Below w8.drew.heap.size w8.drew w11->Calls Tryz.prog 196 #[.pointer (some ⟨lb,0,none⟩),.int .i64 (a.to:Int),.int .i64 (n:Int),.agg #[.int .i64 (a.s+gs),.int .i64 (a.d+gd)]] w11 fun e w'=>∃ kb F,e=.returned (.map (some kb))/\MapF Tryz.prog 3 w' kb (fv F) (cnt F 256)/\Dist st n a.to (val (a.s+gs) (a.d+gd)) F/\(∀ {x s d},F x=some (s,d)->okC s d)/\w11.heap.size<=kb/\Below w11.heap.size w11 w'):=fun gs gd w11 hg hb=>dist_levels (n:=n) (ms:=a.s+gs) (md:=a.d+gd) w11 (V9.below hb) O haL (by omega) (by omega) (by omega) (by omega)
    clear B8 b9 y0 y1 y2 rowQ own8 V9
    generalize hta:(a.to:Int)=ta at *
    generalize hsa:a.s=sa at *
    generalize hda:a.d=da at *
    have HTA:Hid ((a.to:Int)=ta):=hta
    have HSA:Hid (a.s=sa):=hsa
    have HDA:Hid (a.d=da):=hda
    clear hta hsa hda
    go_region_held3 (fun w'=>w'.cell? ⟨E,0,none⟩=some (.int .i64 ta)/\w'.cell? ⟨E,1,none⟩=some (.int .i64 sa)/\w'.cell? ⟨E,2,none⟩=some (.int .i64 da)) (first|exact ⟨t0,t1,t2⟩|exact ⟨u0,u1,u2⟩|exact ⟨x0,x1,x2⟩|exact ⟨z0,z1,z2⟩)
     (first
      |(go_at_call 197;refine (hgr.out _).mono ?_;rintro r w10 ⟨gs,gd,rfl,hgb,hgm',hb10⟩;have hgm:Hid _:=hgm';clear hgm';have u0:=(hb10.cell (World.block_lt_of_cell? _ _ t0)).trans t0;have u1:=(hb10.cell (World.block_lt_of_cell? _ _ t1)).trans t1;have u2:=(hb10.cell (World.block_lt_of_cell? _ _ t2)).trans t2)
      |(go_at_call 177;refine (hadd.out gs gd w10 hgb).mono ?_;rintro r w11 ⟨rfl,hb11⟩;have x0:=(hb11.cell (World.block_lt_of_cell? _ _ u0)).trans u0;have x1:=(hb11.cell (World.block_lt_of_cell? _ _ u1)).trans u1;have x2:=(hb11.cell (World.block_lt_of_cell? _ _ u2)).trans u2;have b11:=hb10.trans (hb11.mono hb10.size))
      |(go_at_call 196;refine (hdis.out gs gd w11 hgb b11).mono ?_;rintro r w12 ⟨kb,F,rfl,hM12,hD12,hok12,hkb12,hb12⟩;have z0:=(hb12.cell (World.block_lt_of_cell? _ _ x0)).trans x0;have z1:=(hb12.cell (World.block_lt_of_cell? _ _ x1)).trans x1;have z2:=(hb12.cell (World.block_lt_of_cell? _ _ x2)).trans x2))
    have b12:=b11.trans (hb12.mono b11.size)
    have own12:=own_below own9 b12
    have B12:=B9.trans (b12.mono B9.size)
    have hEk:kb≠E:=by have:=b11.size;have h:w8.drew.heap.size=w8.heap.size:=rfl;omega
    have HND:Hid (∀ b ∈ l2,(F (b.to:Int)=none->p a b=true)/\∀ s d,F (b.to:Int)=some (s,d)->(p a b=true↔val (sa+b.s) (da+b.d)<val s d)):=fun b hb=>by
     have h1:=hgm.out b hb
     have h2:=val_add sa da gs gd
     have h3:=val_add sa da b.s b.d
     have:=need_by (a:=a) (b:=b) HP.out hD12 (by rw [HSA.out,HDA.out];omega)
     rw [HSA.out,HDA.out] at this
     exact this
    have HOK:Hid (∀ {x s d},F x=some (s,d)->okC s d):=fun h=>hok12 h
    have HQ:Hid (∀ q,u7.ownBlock=some q->q≠E/\q≠kb):=fun q hq=>by
     have h1:=hrE q hq
     have h2:=b11.size
     have h:w8.drew.heap.size=w8.heap.size:=rfl
     exact ⟨by omega,by omega⟩
    clear hgr hadd hdis hgm hD12 hok12 hkb12 hb12 hb11 hb10 b11 b12 own9 B9 t0 t1 t2 u0 u1 u2 x0 x1 x2 row9 hE8 hgb
    go_wp2
   ·have h0:l2.length=0:=by have:=HLN.out;have:=HCK.out;omega
    have HE0:Hid (mTo p n l (k+1)=P):=by
     have e:l2=[]:=List.length_eq_zero_iff.1 h0
     rw [HST.out,e]
     show P++[]=P
     rw [List.append_nil]
    go_loopw [7,40] (fun rv jv wr=>jv=.int .i64 0/\wr.ownsRow w.heap.size 248 4 rv P.length (lksV P)/\Below w.heap.size w wr) (fun _ _ _=>0)
    case atStart=>exact ⟨rfl,own12,B12⟩
    case round =>
     obtain ⟨rfl,ho,hB2⟩:=hrel
     clear own12 B12 hM12 z0 z1 z2
     go_wp2
     go_roundw
     case rel=>exact ⟨k+1,by omega,by go_num,by rw [HE0.out];exact ho,hB2⟩
     case measure=>simp [intOf];omega
   ·go_loopw [7,40] (fun rv jv wr=>∃ j:Nat,j<=l2.length/\jv=.int .i64 j/\wr.ownsRow w.heap.size 248 4 rv (P++rowM p n a (l2.take j)).length (lksV (P++rowM p n a (l2.take j)))/\wr.cell? ⟨E,0,none⟩=some (.int .i64 ta)/\wr.cell? ⟨E,1,none⟩=some (.int .i64 sa)/\wr.cell? ⟨E,2,none⟩=some (.int .i64 da)/\MapF Tryz.prog 3 wr kb (fv F) (cnt F 256)/\Hid (∀ q,rv.ownBlock=some q->q≠E/\q≠kb)/\Below w.heap.size w wr)
     (fun _ i _=>l2.length - (intOf i).toNat)
    case atStart=>exact ⟨0,Nat.zero_le _,rfl,by show World.ownsRow _ _ _ _ _ (P++[]).length (lksV (P++[]));rw [List.append_nil];exact own12,z0,z1,z2,hM12,HQ,B12⟩
    case round =>
     clear own12 z0 z1 z2 hM12 HQ B12
     obtain ⟨j,hj,rfl,ho,z0,z1,z2,hM,HQ,hB2⟩:=hrel
     by_cases hlt2:j<l2.length
     ·obtain ⟨b,hb⟩:∃ b,l2[j]? = some b:=⟨l2[j],by simp [hlt2]⟩
      have rowr:=(hrow.below hB2).drop (k+1)
      rw [<- HLD.out,Nat.zero_add] at rowr
      obtain ⟨b',o',hbo,q1,q2,q3,q4⟩:=rowr j b hb
      cases hbo
      have hbm:=List.mem_of_getElem? hb
      obtain ⟨f1,f2,f3,f4⟩:=O.bd (HL2.out b hbm)
      have hbL:=V.bd _ (O.cor.ends (HL2.out b hbm)).2
      have hwb:=wf_small (a:=(b.to:Int)) (by omega) (by omega)
      obtain ⟨hnd1,hnd2⟩:=HND.out b hbm
      have j1:(0:Int)<=(j:Int):=by omega
      have j2:(j:Int)<(l2.length:Int):=by omega
      have okB:okC b.s b.d:=by unfold okC;omega
      have okS:okC (sa+b.s) (da+b.d):=by unfold okC;omega
      have HNO:Hid (p a b=false->rowM p n a (l2.take (j+1))=rowM p n a (l2.take j)):=fun h=>rowM_no hb h
      have HYS:Hid (p a b=true->lksV (P++rowM p n a (l2.take (j+1)))=lksV (P++rowM p n a (l2.take j))++[.int .i64 ta,.int .i64 (b.to:Int),.int .i64 (sa+b.s),.int .i64 (da+b.d)]/\(P++rowM p n a (l2.take (j+1))).length=(P++rowM p n a (l2.take j)).length+1):=fun h=>by
       rw [rowM_yes hb h,<- List.append_assoc,lksV_app,lksV_one,List.length_append]
       refine ⟨?_,rfl⟩
       show _++[_,_,_,_]=_
       rw [HTA.out,HSA.out,HDA.out]
      have hR2:(P++rowM p n a (l2.take j)).length<=65536+256:=by
       have:=rowM_len p n a (l2.take j)
       rw [List.length_take] at this
       rw [List.length_append]
       omega
      have HRR:Hid (∃ R,R=P++rowM p n a (l2.take j)):=⟨_,rfl⟩
      generalize hRR:P++rowM p n a (l2.take j)=R at *
      have HRJ:Hid (P++rowM p n a (l2.take j)=R):=hRR
      clear hRR HRR
      generalize hpe:p a b=pe at *
      have HPE:Hid (p a b=pe):=hpe
      clear hpe
      have b1:Below wr.heap.size wr (wr.alloc (.cells #[.int .i64 (b.to:Int),.int .i64 b.s,.int .i64 b.d,.int .i64 b.mid] 204)):=(Below.refl _ _).alloc (Nat.le_refl _) _
      have v0:(wr.alloc (.cells #[.int .i64 (b.to:Int),.int .i64 b.s,.int .i64 b.d,.int .i64 b.mid] 204)).cell? ⟨wr.heap.size,0,none⟩=some (.int .i64 (b.to:Int)):=World.cell?_alloc_at _ _ _ 0 rfl
      have v1:(wr.alloc (.cells #[.int .i64 (b.to:Int),.int .i64 b.s,.int .i64 b.d,.int .i64 b.mid] 204)).cell? ⟨wr.heap.size,1,none⟩=some (.int .i64 b.s):=World.cell?_alloc_at _ _ _ 1 rfl
      have v2:(wr.alloc (.cells #[.int .i64 (b.to:Int),.int .i64 b.s,.int .i64 b.d,.int .i64 b.mid] 204)).cell? ⟨wr.heap.size,2,none⟩=some (.int .i64 b.d):=World.cell?_alloc_at _ _ _ 2 rfl
      have ho1:=own_below ho b1
      have x0:=(b1.cell (World.block_lt_of_cell? _ _ z0)).trans z0
      have x1:=(b1.cell (World.block_lt_of_cell? _ _ z1)).trans z1
      have x2:=(b1.cell (World.block_lt_of_cell? _ _ z2)).trans z2
      have hM1:=hM.keep (F:=fun _=>False) (Keep.of_below b1) id
      have B1:=hB2.trans (b1.mono hB2.size)
      have hadd:=add_any sa da b.s b.d (wr.alloc (.cells #[.int .i64 (b.to:Int),.int .i64 b.s,.int .i64 b.d,.int .i64 b.mid] 204)) okA okB
      have hsz1:w.heap.size<=wr.heap.size:=hB2.size
      clear hb hbm rowr b1 ho z0 z1 z2 hM hB2
      generalize (b.to:Int)=tb at *
      generalize b.s=sb at *
      generalize b.d=db at *
      generalize b.mid=mb at *
      go_wp2_with fail
      generalize wr.alloc (.cells #[.int .i64 tb,.int .i64 sb,.int .i64 db,.int .i64 mb] 204)=w1 at *
      generalize wr.heap.size=E1 at *
      refine hadd.mono ?_
      rintro r w2 ⟨rfl,hb2⟩
      have b3:Below w2.heap.size w2 (w2.alloc (.cells #[.int .i64 (sa+sb),.int .i64 (da+db)] 53)):=(Below.refl _ _).alloc (Nat.le_refl _) _
      have b23:=hb2.trans (b3.mono hb2.size)
      have ho3:=own_below ho1 b23
      have y0:=(b23.cell (World.block_lt_of_cell? _ _ x0)).trans x0
      have y1:=(b23.cell (World.block_lt_of_cell? _ _ x1)).trans x1
      have y2:=(b23.cell (World.block_lt_of_cell? _ _ x2)).trans x2
      have r0:=(b23.cell (World.block_lt_of_cell? _ _ v0)).trans v0
      have hM3:=hM1.keep (F:=fun _=>False) (Keep.of_below b23) id
      have B3:=B1.trans (b23.mono B1.size)
      have sl3:=Slot.new w2 (sa+sb) (da+db)
      clear hadd hb2 b3 b23 ho1 x0 x1 x2 v0 v1 v2 hM1 B1 q1 q2 q3 q4
      cases hF:F tb with
      |none =>
       have hlk:(Instr.lookup 225 (.map (some kb)) (.int .i64 tb) true).run Tryz.prog (w2.alloc (.cells #[.int .i64 (sa+sb),.int .i64 (da+db)] 53))=.ok (.tuple #[.agg #[.int .i64 0,.int .i64 0],.bool false]) (w2.alloc (.cells #[.int .i64 (sa+sb),.int .i64 (da+db)] 53)):=hM3.look_none law3 Tryz.underK (zeroK _) hwb (fv_none hF) true
       obtain ⟨hy1,hy2⟩:=HYS.out (hnd1 hF)
       have HY1:Hid _:=hy1
       have HY2:Hid _:=hy2
       have b4:Below (w2.alloc (.cells #[.int .i64 (sa+sb),.int .i64 (da+db)] 53)).heap.size (w2.alloc (.cells #[.int .i64 (sa+sb),.int .i64 (da+db)] 53)) ((w2.alloc (.cells #[.int .i64 (sa+sb),.int .i64 (da+db)] 53)).alloc (.cells #[.int .i64 0,.int .i64 0] 53)):=(Below.refl _ _).alloc (Nat.le_refl _) _
       have ho4:=own_below ho3 b4
       have a0:=(b4.cell (World.block_lt_of_cell? _ _ y0)).trans y0
       have a1:=(b4.cell (World.block_lt_of_cell? _ _ y1)).trans y1
       have a2:=(b4.cell (World.block_lt_of_cell? _ _ y2)).trans y2
       have a3:=(b4.cell (World.block_lt_of_cell? _ _ r0)).trans r0
       have sl4:=sl3.below b4
       have a4:=sl4.c0
       have a5:=sl4.c1
       have sd4:=Slot.new (w2.alloc (.cells #[.int .i64 (sa+sb),.int .i64 (da+db)] 53)) 0 0
       have e4:(w2.alloc (.cells #[.int .i64 (sa+sb),.int .i64 (da+db)] 53)).heap.size=w2.heap.size+1:=by simp
       rw [e4] at sd4
       have a6:=sd4.c0
       have a7:=sd4.c1
       have hM4:=hM3.keep (F:=fun _=>False) (Keep.of_below b4) id
       have B4:=B3.trans (b4.mono B3.size)
       clear b4 e4
       clear hnd1 hnd2 HNO HYS hF hy1 hy2 sl3 sl4 sd4
       obtain ⟨W5,hW5⟩:∃ W5,W5=(w2.alloc (.cells #[.int .i64 (sa+sb),.int .i64 (da+db)] 53)).alloc (.cells #[.int .i64 0,.int .i64 0] 53):=⟨_,rfl⟩
       rw [<- hW5] at ho4 a0 a1 a2 a3 hM4 B4
       have hoW:=ho4
       have d0:=a0
       have d1:=a1
       have d2:=a2
       have d3:=a3
       have hMW:=hM4
       have BW:=B4
       clear ho4 hM4 B4
       have hc5:=cell_four_new W5 (.int .i64 ta) (.int .i64 tb) (.int .i64 (sa+sb)) (.int .i64 (da+db)) 248
       have hz5:W5.heap.size=w2.heap.size+1+1:=by rw [hW5];simp
       rw [hz5] at hc5
       clear hz5
       subst hW5
       go_wp2_with (at_builtin;refine wpList_append_own_at _ rfl _ _ 245 rfl w.heap.size 248 i0 (.agg #[.int .i64 0,.int .i64 0,.int .i64 0,.int .i64 0]) 4 32 Tryz.underL hi hz0 hz1 hz2 rfl (by decide) _ _ _ rfl (hoW.alloc _) ⟨w2.heap.size+1+1,0,none⟩ 1 1 [.int .i64 ta,.int .i64 tb,.int .i64 (sa+sb),.int .i64 (da+db)] rfl rfl hc5 (by intro u hu;simp at hu;rcases hu with rfl|rfl|rfl|rfl <;> rfl) ?c3 ?c4 ?c5 ?_)
       case c3=>unfold maxLen;omega
       case c4=>omega
       case c5=>have h5:=BW.size;first|(simp;omega)|(simp at h5 ⊢;omega)
       intro v' w6 hown' hgrow _ hat
       have K6:Keep (fun q=>u7.ownBlock=some q) _ w6:=((Keep.refl _ _).alloc _).grown hgrow (fun q hq _=>hq)
       have c0':=K6.cellOf d0 (fun h=>(HQ.out E h).1 rfl)
       have c1':=K6.cellOf d1 (fun h=>(HQ.out E h).1 rfl)
       have c2':=K6.cellOf d2 (fun h=>(HQ.out E h).1 rfl)
       have M6:=hMW.keep K6 (fun h=>(HQ.out kb h).2 rfl)
       have B6:Below w.heap.size w w6:=BW.trans (K6.to_below BW.size (fun q hq=>(hoW.lt q hq).1))
       have HQ6:Hid (∀ q,v'.ownBlock=some q->q≠E/\q≠kb):=fun q hq=>by
        rcases hat with h|h
        ·exact HQ.out q (by rw [<- h];exact hq)
        ·rw [h] at hq
         cases hq
         have h1:=World.block_lt_of_cell? _ _ d0
         have h2:=hMW.lt
         simp only at h1
         exact ⟨by first|(simp;omega)|(simp at h1 ⊢;omega),by first|(simp;omega)|(simp at h2 ⊢;omega)⟩
       have O6:w6.ownsRow w.heap.size 248 4 v' (P++rowM p n a (l2.take (j+1))).length (lksV (P++rowM p n a (l2.take (j+1)))):=by
        rw [HY1.out,HY2.out]
        exact hown'
       clear hown' hgrow hat K6 hoW d0 d1 d2 d3 hMW BW
       go_wp2
       go_roundw
       case rel=>exact ⟨j+1,by omega,by go_num,O6,c0',c1',c2',M6,HQ6.out,B6⟩
       case measure=>simp [intOf];omega
      |some cc =>
       obtain ⟨s,d⟩:=cc
       have hlk:(Instr.lookup 225 (.map (some kb)) (.int .i64 tb) true).run Tryz.prog (w2.alloc (.cells #[.int .i64 (sa+sb),.int .i64 (da+db)] 53))=.ok (.tuple #[.agg #[.int .i64 s,.int .i64 d],.bool true]) (w2.alloc (.cells #[.int .i64 (sa+sb),.int .i64 (da+db)] 53)):=hM3.look_some law3 Tryz.underK (zeroK _) hwb (fv_some hF) true
       have okF:=HOK.out hF
       have hiff:=hnd2 s d hF
       have b4:Below (w2.alloc (.cells #[.int .i64 (sa+sb),.int .i64 (da+db)] 53)).heap.size (w2.alloc (.cells #[.int .i64 (sa+sb),.int .i64 (da+db)] 53)) ((w2.alloc (.cells #[.int .i64 (sa+sb),.int .i64 (da+db)] 53)).alloc (.cells #[.int .i64 s,.int .i64 d] 53)):=(Below.refl _ _).alloc (Nat.le_refl _) _
       have ho4:=own_below ho3 b4
       have a0:=(b4.cell (World.block_lt_of_cell? _ _ y0)).trans y0
       have a1:=(b4.cell (World.block_lt_of_cell? _ _ y1)).trans y1
       have a2:=(b4.cell (World.block_lt_of_cell? _ _ y2)).trans y2
       have a3:=(b4.cell (World.block_lt_of_cell? _ _ r0)).trans r0
       have sl4:=sl3.below b4
       have a4:=sl4.c0
       have a5:=sl4.c1
       have sd4:=Slot.new (w2.alloc (.cells #[.int .i64 (sa+sb),.int .i64 (da+db)] 53)) s d
       have e4:(w2.alloc (.cells #[.int .i64 (sa+sb),.int .i64 (da+db)] 53)).heap.size=w2.heap.size+1:=by simp
       rw [e4] at sd4
       have a6:=sd4.c0
       have a7:=sd4.c1
       have hM4:=hM3.keep (F:=fun _=>False) (Keep.of_below b4) id
       have B4:=B3.trans (b4.mono B3.size)
       clear b4 e4
       have hless:=less_v (r:=ltB (sa+sb) (da+db) s d) rfl ((w2.alloc (.cells #[.int .i64 (sa+sb),.int .i64 (da+db)] 53)).alloc (.cells #[.int .i64 s,.int .i64 d] 53)) okS okF
       have hpe2:pe=ltB (sa+sb) (da+db) s d:=by
        cases hq:ltB (sa+sb) (da+db) s d with
        |true=>exact hiff.2 ((ltB_val okS okF).1 hq)
        |false =>
         cases pe with
         |false=>rfl
         |true=>rw [(ltB_val okS okF).2 (hiff.1 rfl)] at hq;cases hq
       rw [<- hpe2] at hless
       clear hnd1 hnd2 hF hiff hpe2 sl3 sl4 sd4 ho3 hM3 B3
       go_wp2_with fail
       generalize (w2.alloc (.cells #[.int .i64 (sa+sb),.int .i64 (da+db)] 53)).alloc (.cells #[.int .i64 s,.int .i64 d] 53)=w4 at *
       refine hless.mono ?_
       rintro r W5 ⟨rfl,hb5⟩
       have hoW:=own_below ho4 hb5
       have d0:=(hb5.cell (World.block_lt_of_cell? _ _ a0)).trans a0
       have d1:=(hb5.cell (World.block_lt_of_cell? _ _ a1)).trans a1
       have d2:=(hb5.cell (World.block_lt_of_cell? _ _ a2)).trans a2
       have d3:=(hb5.cell (World.block_lt_of_cell? _ _ a3)).trans a3
       have d4:=(hb5.cell (World.block_lt_of_cell? _ _ a4)).trans a4
       have d5:=(hb5.cell (World.block_lt_of_cell? _ _ a5)).trans a5
       have hMW:=hM4.keep (F:=fun _=>False) (Keep.of_below hb5) id
       have BW:=B4.trans (hb5.mono B4.size)
       clear hless hb5 ho4 y0 y1 y2 r0 a0 a1 a2 a3 a4 a5 a6 a7 hM4 B4 hlk
       cases pe with
       |false =>
        have HS:Hid (P++rowM p n a (l2.take (j+1))=R):=by rw [HNO.out rfl];exact HRJ.out
        clear HNO HYS
        go_wp2
        go_roundw
        case rel=>exact ⟨j+1,by omega,by go_num,by rw [HS.out];exact hoW,d0,d1,d2,hMW,HQ.out,BW⟩
        case measure=>simp [intOf];omega
       |true =>
        obtain ⟨hy1,hy2⟩:=HYS.out rfl
        have HY1:Hid _:=hy1
        have HY2:Hid _:=hy2
        clear HNO HYS hy1 hy2
        go_wp2_with (at_builtin;refine wpList_append_own_at _ rfl _ _ 245 rfl w.heap.size 248 i0 (.agg #[.int .i64 0,.int .i64 0,.int .i64 0,.int .i64 0]) 4 32 Tryz.underL hi hz0 hz1 hz2 rfl (by decide) _ _ _ rfl (hoW.alloc _) ⟨W5.heap.size,0,none⟩ 1 1 [.int .i64 ta,.int .i64 tb,.int .i64 (sa+sb),.int .i64 (da+db)] rfl rfl (cell_four_new _ _ _ _ _ _) (by intro u hu;simp at hu;rcases hu with rfl|rfl|rfl|rfl <;> rfl) ?c3 ?c4 ?c5 ?_)
        case c3=>unfold maxLen;omega
        case c4=>omega
        case c5=>have h5:=BW.size;first|(simp;omega)|(simp at h5 ⊢;omega)
        intro v' w6 hown' hgrow _ hat
        have K6:Keep (fun q=>u7.ownBlock=some q) W5 w6:=((Keep.refl _ _).alloc _).grown hgrow (fun q hq _=>hq)
        have c0':=K6.cellOf d0 (fun h=>(HQ.out E h).1 rfl)
        have c1':=K6.cellOf d1 (fun h=>(HQ.out E h).1 rfl)
        have c2':=K6.cellOf d2 (fun h=>(HQ.out E h).1 rfl)
        have M6:=hMW.keep K6 (fun h=>(HQ.out kb h).2 rfl)
        have B6:Below w.heap.size w w6:=BW.trans (K6.to_below BW.size (fun q hq=>(hoW.lt q hq).1))
        have HQ6:Hid (∀ q,v'.ownBlock=some q->q≠E/\q≠kb):=fun q hq=>by
         rcases hat with h|h
         ·exact HQ.out q (by rw [<- h];exact hq)
         ·rw [h] at hq
          cases hq
          have h1:=World.block_lt_of_cell? _ _ d0
          have h2:=hMW.lt
          simp only at h1
          exact ⟨by first|(simp;omega)|(simp at h1 ⊢;omega),by first|(simp;omega)|(simp at h2 ⊢;omega)⟩
        have O6:w6.ownsRow w.heap.size 248 4 v' (P++rowM p n a (l2.take (j+1))).length (lksV (P++rowM p n a (l2.take (j+1)))):=by
         rw [HY1.out,HY2.out]
         exact hown'
        clear hown' hgrow hat K6 hoW d0 d1 d2 d3 hMW BW
        go_wp2
        go_roundw
        case rel=>exact ⟨j+1,by omega,by go_num,O6,c0',c1',c2',M6,HQ6.out,B6⟩
        case measure=>simp [intOf];omega
     ·have e:j=l2.length:=by omega
      subst e
      have HE2:Hid (mTo p n l (k+1)=P++rowM p n a (l2.take l2.length)):=by rw [List.take_length];exact HST.out
      clear z0 z1 z2 hM HQ
      go_wp2
      go_roundw
      case rel=>exact ⟨k+1,by omega,by go_num,by rw [HE2.out];exact ho,hB2⟩
      case measure=>simp [intOf];omega
  ·have e:k=l.length:=by omega
   subst e
   rw [mTo_all] at hown
   go_wp2
   go_ret
   exact ⟨_,rfl,hown,hB⟩
end
section
open Go.RowKit
def posL (l:List LE) (t:Nat):Nat:=(l.filter (fun e=>decide (e.to<t))).length
def hasL (l:List LE) (t:Nat):Bool:=match l[posL l t]? with|some e=>decide (e.to=t)|none=>false
theorem posL_cons_lt {x:LE}{l:List LE}{t:Nat}(h:x.to<t):posL (x::l) t=posL l t+1:=by
 unfold posL
 rw [List.filter_cons_of_pos (by simpa using h),List.length_cons]
theorem posL_ge:∀ {l:List LE}{t:Nat},(∀ e ∈ l,t<=e.to)->posL l t=0
 |[],_,_=>rfl
 |x::l,t,h=>by
  have h1:=h x (List.mem_cons_self ..)
  have ih:=posL_ge (l:=l) (t:=t) (fun e he=>h e (List.mem_cons_of_mem _ he))
  unfold posL at *
  rw [List.filter_cons_of_neg (by simpa using h1)]
  exact ih
theorem posL_cons_ge {x:LE}{l:List LE}{t:Nat}(hR:Rsg (x::l))(h:¬ x.to<t):posL (x::l) t=0 :=
 posL_ge (fun e he=>by
  rcases List.mem_cons.1 he with rfl|he
  ·omega
  ·have:=hR.head e he;omega)
theorem posL_le (l:List LE)(t:Nat):posL l t<=l.length:=List.length_filter_le _ _
theorem posL_iff:∀ {l:List LE}{t i:Nat}{e:LE},Rsg l->l[i]? = some e->(e.to<t↔i<posL l t)
 |[],_,_,_,_,h=>by simp at h
 |x::l,t,0,e,hR,h=>by
  simp at h;subst h
  by_cases hx:x.to<t
  ·rw [posL_cons_lt hx];exact ⟨fun _=>by omega,fun _=>hx⟩
  ·rw [posL_cons_ge hR hx];exact ⟨fun h=>absurd h hx,fun h=>absurd h (Nat.lt_irrefl _)⟩
 |x::l,t,i+1,e,hR,h=>by
  have h:l[i]? = some e:=by simpa using h
  have he:=List.mem_of_getElem? h
  have:=hR.head e he
  by_cases hx:x.to<t
  ·rw [posL_cons_lt hx,posL_iff (t:=t) hR.tail h];omega
  ·rw [posL_cons_ge hR hx];exact ⟨fun h=>by omega,fun h=>by omega⟩
theorem layF_at (x:LE):∀ {l:List LE},Rsg l->layF x l=l.take (posL l x.to)++x::l.drop (posL l x.to+if hasL l x.to then 1 else 0)
 |[],_=>by
  show [x]=[].take _++x::[].drop _
  simp
 |y::l,hR=>by
  by_cases h1:y.to<x.to
  ·have ih:=layF_at x hR.tail
   have e1:posL (y::l) x.to=posL l x.to+1:=posL_cons_lt h1
   have e2:hasL (y::l) x.to=hasL l x.to:=by
    unfold hasL
    rw [e1]
    simp
   rw [e1,e2]
   show (if x.to<y.to then _ else if x.to=y.to then _ else y::layF x l)=_
   rw [if_neg (by omega),if_neg (by omega),ih]
   cases hasL l x.to <;> simp
  ·have e1:posL (y::l) x.to=0:=posL_cons_ge hR h1
   have e2:hasL (y::l) x.to=decide (y.to=x.to):=by
    unfold hasL
    rw [e1]
    rfl
   rw [e1,e2]
   show (if x.to<y.to then x::y::l else if x.to=y.to then x::l else y::layF x l)=_
   by_cases h2:y.to=x.to
   ·rw [if_neg (by omega),if_pos h2.symm,decide_eq_true h2]
    rfl
   ·rw [if_pos (by omega),decide_eq_false h2]
    rfl
theorem hasL_iff {l:List LE}{t:Nat}(hR:Rsg l):hasL l t=true↔∃ e ∈ l,e.to=t:=by
 constructor
 ·intro h
  unfold hasL at h
  cases he:l[posL l t]? with
  |none=>rw [he] at h;cases h
  |some e=>rw [he] at h;exact ⟨e,List.mem_of_getElem? he,of_decide_eq_true h⟩
 ·rintro ⟨e,he,ht⟩
  obtain ⟨i,hi,h⟩:=List.getElem_of_mem he
  have hie:l[i]? = some e:=by rw [List.getElem?_eq_getElem hi,h]
  have h1:¬ i<posL l t:=fun h=>by have:=(posL_iff (t:=t) hR hie).2 h;omega
  have hlt:posL l t<l.length:=by omega
  have hpe:l[posL l t]? = some l[posL l t]:=List.getElem?_eq_getElem hlt
  have h2:¬ (l[posL l t]).to<t:=fun h=>absurd ((posL_iff (t:=t) hR hpe).1 h) (Nat.lt_irrefl _)
  unfold hasL
  rw [hpe]
  show decide _=true
  refine decide_eq_true ?_
  by_cases e1:i=posL l t
  ·subst e1;rw [h];exact ht
  ·have:=List.pairwise_iff_getElem.1 hR (posL l t) i hlt hi (by omega)
   rw [h] at this
   omega
set_option maxHeartbeats 400000 in
theorem isnanI_any (n:Int)(w:World):Calls Tryz.prog 248 #[.int .i64 n] w fun e w'=>e=.returned (.bool false)/\w'=w:=by
 go_enter Tryz.func248,Tryz.ntmps248
 go_wp2
 go_ret
 exact ⟨by simp,rfl⟩
set_option maxHeartbeats 400000 in
theorem cmpInt_any (a b:Int)(w:World):Calls Tryz.prog 230 #[.int .i64 a,.int .i64 b] w fun e w'=>e=.returned (.int .i64 (cmpI a b))/\w'=w:=by
 by_cases h:a<b
 ·have e:cmpI a b=-1:=by unfold cmpI;rw [if_pos h]
  rw [e];clear e
  go_enter Tryz.func230,Tryz.ntmps230
  go_wp2_with (go_at_call 248;refine (isnanI_any _ _).mono ?_;rintro e w' ⟨rfl,rfl⟩)
  go_ret
  exact ⟨rfl,rfl⟩
 ·by_cases h2:b<a
  ·have e:cmpI a b=1:=by unfold cmpI;rw [if_neg h,if_pos h2]
   rw [e];clear e
   go_enter Tryz.func230,Tryz.ntmps230
   go_wp2_with (go_at_call 248;refine (isnanI_any _ _).mono ?_;rintro e w' ⟨rfl,rfl⟩)
   go_ret
   exact ⟨rfl,rfl⟩
  ·have e:cmpI a b=0:=by unfold cmpI;rw [if_neg h,if_neg h2]
   rw [e];clear e
   go_enter Tryz.func230,Tryz.ntmps230
   go_wp2_with (go_at_call 248;refine (isnanI_any _ _).mono ?_;rintro e w' ⟨rfl,rfl⟩)
   go_ret
   exact ⟨rfl,rfl⟩
set_option maxHeartbeats 400000 in
theorem clo_place (w:World)(et es ed em t:Int) :
  Calls Tryz.prog 229 #[.agg #[.int .i64 et,.int .i64 es,.int .i64 ed,.int .i64 em],.int .i64 t] w fun e w'=>e=.returned (.int .i64 (cmpI et t))/\Below w.heap.size w w':=by
 have B0:Below w.heap.size w (w.alloc (.cells #[.int .i64 et,.int .i64 es,.int .i64 ed,.int .i64 em] 204)):=(Below.refl _ _).alloc (Nat.le_refl _) _
 have h1:=cmpInt_any et t (w.alloc (.cells #[.int .i64 et,.int .i64 es,.int .i64 ed,.int .i64 em] 204))
 generalize cmpI et t=r at *
 go_enter Tryz.func229,Tryz.ntmps229
 go_wp2_with fail
 refine h1.mono ?_
 rintro r1 w1 ⟨rfl,rfl⟩
 clear h1
 go_wp2
 go_ret
 exact ⟨rfl,B0⟩
set_option maxHeartbeats 2000000 in
set_option maxRecDepth 1000000 in
theorem search_any {cap t:Nat}{A:Option Addr}{l:List LE}(w:World)(hrow:RowL w A l)(hl:l.length<=256)(hR:Rsg l) :
  Calls Tryz.prog 228 #[.slice A l.length cap,.int .i64 (t:Int),.func (.func 229) #[] #[]] w fun e w'=>e=.returned (.tuple #[.int .i64 (posL l t:Int),.bool (hasL l t)])/\Below w.heap.size w w':=by
 have hple:=posL_le l t
 have HPI:Hid (∀ i e,l[i]? = some e->(e.to<t↔i<posL l t)):=fun i e h=>posL_iff hR h
 have HH:Hid (hasL l t=match l[posL l t]? with|some e=>decide (e.to=t)|none=>false):=rfl
 clear hR
 generalize hasL l t=hs at *
 generalize posL l t=ps at *
 go_enter Tryz.func228,Tryz.ntmps228
 go_wp2
 go_loopw [9,10] (fun iv jv wr=>∃ (i j:Nat),i<=ps/\ps<=j/\j<=l.length/\iv=.int .i64 i/\jv=.int .i64 j/\Below w.heap.size w wr)
  (fun i j _=>(intOf j).toNat - (intOf i).toNat)
 case atStart=>exact ⟨0,l.length,Nat.zero_le _,hple,Nat.le_refl _,rfl,rfl,Below.refl _ _⟩
 case round =>
  obtain ⟨i,j,hi,hj,hjl,rfl,rfl,hB⟩:=hrel
  by_cases hlt:i<j
  ·have i1:(0:Int)<=(i:Int):=by omega
   have i2:(i:Int)<(j:Int):=by omega
   have i3:(j:Int)<=256:=by omega
   obtain ⟨m,hm⟩:∃ m:Nat,m=(i+j) / 2:=⟨_,rfl⟩
   have hmi:((i:Int)+(j:Int)) / 2=(m:Int):=by omega
   have hm1:i<=m:=by omega
   have hm2:m<j:=by omega
   obtain ⟨e,he⟩:∃ e,l[m]? = some e:=⟨l[m]'(by omega),List.getElem?_eq_getElem _⟩
   obtain ⟨b,o,rfl,q1,q2,q3,q4⟩:=(hrow.below hB) m e he
   have hpi:=HPI.out m e he
   have m1:(0:Int)<=(m:Int):=by omega
   have m2:(m:Int)<(l.length:Int):=by omega
   have hcl:=clo_place wr (e.to:Int) e.s e.d e.mid (t:Int)
   have HCN:Hid (cmpI (e.to:Int) (t:Int)<0↔m<ps):=by
    rw [cmpI_neg _ _,<- hpi];exact Int.ofNat_lt
   clear hpi hm he
   generalize cmpI (e.to:Int) (t:Int)=r at *
   generalize (e.to:Int)=et at *
   generalize e.s=es at *
   generalize e.d=ed at *
   generalize e.mid=em at *
   go_wp2_with fail
   refine hcl.mono ?_
   rintro r1 w1 ⟨rfl,hb1⟩
   have B1:=hB.trans (hb1.mono hB.size)
   clear hcl hB hb1 q1 q2 q3 q4
   by_cases hr:r<0
   ·have hmp:=HCN.out.1 hr
    go_wp2
    go_roundw
    case rel=>exact ⟨m+1,j,by omega,hj,hjl,by go_num,rfl,B1⟩
    case measure=>simp [intOf];omega
   ·have hmp:ps<=m:=by
     have:¬ m<ps:=fun h=>hr (HCN.out.2 h)
     omega
    go_wp2
    go_roundw
    case rel=>exact ⟨i,m,hi,hmp,by omega,rfl,rfl,B1⟩
    case measure=>simp [intOf];omega
  ·have ei:i=ps:=by omega
   have ej:j=ps:=by omega
   subst ei
   subst ej
   by_cases hin:j<l.length
   ·obtain ⟨e,he⟩:∃ e,l[j]? = some e:=⟨l[j],List.getElem?_eq_getElem hin⟩
    obtain ⟨b,o,rfl,q1,q2,q3,q4⟩:=(hrow.below hB) j e he
    have i1:(0:Int)<=(j:Int):=by omega
    have i2:(j:Int)<(l.length:Int):=by omega
    have hcl:=clo_place wr (e.to:Int) e.s e.d e.mid (t:Int)
    have HHE:Hid (hs=decide (cmpI (e.to:Int) (t:Int)=0)):=by
     have h1:=HH.out
     rw [he] at h1
     rw [h1]
     by_cases q:e.to=t
     ·rw [decide_eq_true ((cmpI_zero _ _).2 (by omega))];exact decide_eq_true q
     ·rw [decide_eq_false (fun h=>q (by have:=(cmpI_zero _ _).1 h;omega))];exact decide_eq_false q
    clear HH he
    generalize cmpI (e.to:Int) (t:Int)=r at *
    generalize (e.to:Int)=et at *
    generalize e.s=es at *
    generalize e.d=ed at *
    generalize e.mid=em at *
    go_wp2_with fail
    refine hcl.mono ?_
    rintro r1 w1 ⟨rfl,hb1⟩
    have B1:=hB.trans (hb1.mono hB.size)
    clear hcl hB hb1 q1 q2 q3 q4
    go_wp2
    go_ret2
    refine ⟨?_,B1⟩
    rw [HHE.out]
    show Ending.returned (Value.tuple #[Value.int .i64 (j:Int),Value.bool (r == 0)])=_
    rw [show (r == 0)=decide (r=0) from rfl]
   ·have HHE:Hid (hs=false):=by
     have h1:=HH.out
     rw [List.getElem?_eq_none (by omega)] at h1
     exact h1
    clear HH
    have hin2:¬ (j:Int)<(l.length:Int):=by omega
    go_wp2
    go_ret2
    refine ⟨?_,hB⟩
    rw [HHE.out]
    rfl
set_option maxHeartbeats 1000000 in
theorem place_any {cap t:Nat}{A:Option Addr}{l:List LE}(w:World)(hrow:RowL w A l)(hl:l.length<=256)(hR:Rsg l) :
  Calls Tryz.prog 198 #[.slice A l.length cap,.int .i64 (t:Int)] w fun e w'=>e=.returned (.tuple #[.int .i64 (posL l t:Int),.bool (hasL l t)])/\Below w.heap.size w w':=by
 have h1:=search_any (cap:=cap) (t:=t) w hrow hl hR
 generalize hasL l t=hs at *
 generalize (posL l t:Int)=ps at *
 go_enter Tryz.func198,Tryz.ntmps198
 go_wp2_with fail
 refine h1.mono ?_
 rintro r1 w1 ⟨rfl,hb1⟩
 clear h1
 go_wp2
 go_ret2
 exact ⟨rfl,hb1⟩
end
end Go.Proofs.YtmaefimaeelkbaaGreatDoor
