/-
  Texts laid together: CostB, Before, Swap, Sift, Sink, Heap.
-/
import Derived.Test.YtipbhlofbpnpjaaGreatDoorP5
import Derived.Test.YtipbhlofbpnpjaaGreatDoorP2
import Derived.Test.YtipbhlofbpnpjaaGreatDoorP1
import Derived.Test.YtipbhlofbpnpjaaGreatDoorP13
import Derived.Maps.AppendAt
namespace Go.Proofs.YtipbhlofbpnpjaaGreatDoor
section
open Go.RowKit
set_option maxHeartbeats 400000 in
theorem sqs_any (n:Int)(w:World)(h1:-8388608<=n)(h2:n<=8388608) :
  Calls Tryz.prog 62 #[.int .i64 n] w fun e w'=>e=.returned (.int .i64 (sqs n))/\w'=w:=by
 obtain ⟨b1,b2⟩:=mul_self_bd n h1 h2
 have e1:-n*n=-(n*n):=Int.neg_mul n n
 have b3:-70368744177664<=-n*n:=by omega
 have b4:-n*n<=0:=by omega
 clear e1
 by_cases h:n<0
 ·have e:sqs n=-n*n:=by unfold sqs;rw [if_pos h]
  rw [e];clear e
  go_enter Tryz.func62,Tryz.ntmps62
  go_wp2
  go_ret
  exact ⟨rfl,rfl⟩
 ·have e:sqs n=n*n:=by unfold sqs;rw [if_neg h]
  rw [e];clear e
  go_enter Tryz.func62,Tryz.ntmps62
  go_wp2
  go_ret
  exact ⟨rfl,rfl⟩
set_option maxHeartbeats 400000 in
theorem isnan_any (n:Int)(w:World) :
  Calls Tryz.prog 103 #[.int .i64 n] w fun e w'=>e=.returned (.bool false)/\w'=w:=by
 go_enter Tryz.func103,Tryz.ntmps103
 go_wp2
 go_ret
 exact ⟨rfl,rfl⟩
set_option maxHeartbeats 400000 in
theorem cmpI_any (a b:Int)(w:World) :
  Calls Tryz.prog 61 #[.int .i64 a,.int .i64 b] w fun e w'=>e=.returned (.int .i64 (cmpI a b))/\w'=w:=by
 by_cases h:a<b
 ·have e:cmpI a b=-1:=by unfold cmpI;rw [if_pos h]
  rw [e];clear e
  go_enter Tryz.func61,Tryz.ntmps61
  go_wp2_with (go_at_call 103;refine (isnan_any _ _).mono ?_;rintro e w' ⟨rfl,rfl⟩)
  go_ret
  exact ⟨rfl,rfl⟩
 ·by_cases h2:b<a
  ·have e:cmpI a b=1:=by unfold cmpI;rw [if_neg h,if_pos h2]
   rw [e];clear e
   go_enter Tryz.func61,Tryz.ntmps61
   go_wp2_with (go_at_call 103;refine (isnan_any _ _).mono ?_;rintro e w' ⟨rfl,rfl⟩)
   go_ret
   exact ⟨rfl,rfl⟩
  ·have e:cmpI a b=0:=by unfold cmpI;rw [if_neg h,if_neg h2]
   rw [e];clear e
   go_enter Tryz.func61,Tryz.ntmps61
   go_wp2_with (go_at_call 103;refine (isnan_any _ _).mono ?_;rintro e w' ⟨rfl,rfl⟩)
   go_ret
   exact ⟨rfl,rfl⟩
set_option maxHeartbeats 400000 in
theorem compare_any (s d t u:Int)(w:World)(h:okC s d)(k:okC t u) :
  Calls Tryz.prog 29 #[.agg #[.int .i64 s,.int .i64 d],.agg #[.int .i64 t,.int .i64 u]] w fun e w'=>e=.returned (.int .i64 (cmpC s d t u))/\Below w.heap.size w w':=by
 obtain ⟨h1,h2,h3,h4⟩:=h
 obtain ⟨k1,k2,k3,k4⟩:=k
 have b:=sqs_bd (u - d) (by omega) (by omega)
 go_enter Tryz.func29,Tryz.ntmps29
 go_wp2_with (first|(go_at_call 62;refine (sqs_any _ _ ?_ ?_).mono ?_;(omega);(omega);rintro e w' ⟨rfl,rfl⟩)|(go_at_call 61;refine (cmpI_any _ _ _).mono ?_;rintro e w' ⟨rfl,rfl⟩))
 go_ret
 exact ⟨rfl,((Below.refl _ _).alloc (Nat.le_refl _) _).alloc (by simp) _⟩
set_option maxHeartbeats 400000 in
theorem less_any (s d t u:Int)(w:World)(h:okC s d)(k:okC t u) :
  Calls Tryz.prog 31 #[.agg #[.int .i64 s,.int .i64 d],.agg #[.int .i64 t,.int .i64 u]] w fun e w'=>e=.returned (.bool (decide (cmpC s d t u<0)))/\Below w.heap.size w w':=by
 go_enter Tryz.func31,Tryz.ntmps31
 go_wp2_with (go_at_call 29;refine (compare_any s d t u _ h k).mono ?_;rintro e w' ⟨rfl,hb⟩)
 go_ret
 exact ⟨rfl,((Below.refl _ _).alloc (Nat.le_refl _) _).alloc (by simp) _ |>.trans (hb.mono (by simp;omega))⟩
theorem less_v {s d t u:Int}{r:Bool}(hr:ltB s d t u=r)(w:World)(h:okC s d)(k:okC t u) :
  Calls Tryz.prog 31 #[.agg #[.int .i64 s,.int .i64 d],.agg #[.int .i64 t,.int .i64 u]] w fun e w'=>e=.returned (.bool r)/\Below w.heap.size w w':=hr ▸ less_any s d t u w h k
theorem compare_v {s d t u r:Int}(hr:cmpC s d t u=r)(w:World)(h:okC s d)(k:okC t u) :
  Calls Tryz.prog 29 #[.agg #[.int .i64 s,.int .i64 d],.agg #[.int .i64 t,.int .i64 u]] w fun e w'=>e=.returned (.int .i64 r)/\Below w.heap.size w w':=hr ▸ compare_any s d t u w h k
end
section
open Go.RowKit
def befB (x y:Item):Bool:=decide (x.v<y.v) || (decide (x.v=y.v)&&decide (x.id<y.id))
theorem befB_iff (x y:Item):befB x y=true↔bef x y:=by
 unfold befB bef
 simp
theorem befB_true {x y:Item}(h:bef x y):befB x y=true:=(befB_iff x y).mpr h
theorem befB_false {x y:Item}(h:¬ bef x y):befB x y=false:=by
 cases e:befB x y with
 |false=>rfl
 |true=>exact absurd ((befB_iff x y).mp e) h
theorem of_befB {x y:Item}(h:befB x y=true):bef x y:=(befB_iff x y).mp h
theorem of_befB_false {x y:Item}(h:befB x y=false):¬ bef x y:=fun k=>by rw [befB_true k] at h;cases h
set_option maxHeartbeats 400000 in
theorem up_any (i:Nat)(w:World)(h:0<i)(h2:i<=1000000):Calls Tryz.prog 234 #[.int .i64 i] w fun e w'=>e=.returned (.int .i64 (upN i))/\w'=w:=by
 have e:((upN i:Nat):Int)=((i:Int) - 1) / 2:=by unfold upN;omega
 have h3:(1:Int)<=(i:Int):=by omega
 have h4:(i:Int)<=1000000:=by omega
 rw [e]
 go_enter Tryz.func234,Tryz.ntmps234
 go_wp2
 go_ret
 exact ⟨rfl,rfl⟩
set_option maxHeartbeats 1000000 in
theorem before_any {b mb g cap n m:Nat}{it:Nat->Item}{f:Int->Option Value}(i j:Nat)(w:World)(R:Rep w b mb (.slice (some ⟨g,0,none⟩) n cap) n it f m)(hi:i<n)(hj:j<n)(ki:okC (it i).s (it i).d)(kj:okC (it j).s (it j).d) :
  Calls Tryz.prog 208 #[.pointer (some ⟨b,0,none⟩),.int .i64 i,.int .i64 j] w fun e w'=>e=.returned (.bool (befB (it i) (it j)))/\Below w.heap.size w w':=by
 obtain ⟨hb,hmb,hbm,hgs⟩:=R.blocks
 obtain ⟨hg,hgb,hgm⟩:=hgs g rfl
 obtain ⟨c0,c1,f0,row,map,nb⟩:=R
 obtain ⟨q1,q2,q3⟩:=row.cells hi
 obtain ⟨p1,p2,p3⟩:=row.cells hj
 have h1:(i:Int)<(n:Int):=by omega
 have h2:(j:Int)<(n:Int):=by omega
 have hc:=cmpC_val' (it i).s (it i).d (it j).s (it j).d ki kj
 have hcase:(cmpC (it i).s (it i).d (it j).s (it j).d=-1/\befB (it i) (it j)=true)\/(cmpC (it i).s (it i).d (it j).s (it j).d=1/\befB (it i) (it j)=false) \/
   (cmpC (it i).s (it i).d (it j).s (it j).d=0/\befB (it i) (it j)=decide ((it i).id<(it j).id)):=by
  have hc2:cmpC (it i).s (it i).d (it j).s (it j).d=if (it i).v<(it j).v then -1 else if (it j).v<(it i).v then 1 else 0:=hc
  rw [hc2]
  by_cases e1:(it i).v<(it j).v
  ·left;exact ⟨if_pos e1,befB_true (Or.inl e1)⟩
  ·by_cases e2:(it j).v<(it i).v
   ·right;left;exact ⟨by rw [if_neg e1,if_pos e2],befB_false (by unfold bef;omega)⟩
   ·right;right
    refine ⟨by rw [if_neg e1,if_neg e2],?_⟩
    have e3:(it i).v=(it j).v:=by omega
    unfold befB
    simp [e3]
 clear map row nb hc hgs
 generalize (it i).id=ia at *
 generalize (it i).s=sa at *
 generalize (it i).d=da at *
 generalize (it j).id=ib at *
 generalize (it j).s=sb at *
 generalize (it j).d=db at *
 rcases hcase with ⟨hr,hB⟩|⟨hr,hB⟩|⟨hr,hB⟩
 all_goals
  rw [hB]
  clear hB
  go_enter Tryz.func208,Tryz.ntmps208
  go_wp2
  go_region
  all_goals
   go_wp2_with (go_at_call 29;refine (compare_v hr _ ki kj).mono ?_;rintro e w' ⟨rfl,hb1⟩;obtain ⟨hq1,hq2⟩:=bcell hb1)
   go_ret
   exact ⟨rfl,Below.trans ((((Below.refl _ _).drew).alloc (Nat.le_refl _) _).alloc (by simp) _) (hb1.mono (by simp;omega))⟩
end
section
open Go.RowKit
set_option maxHeartbeats 1000000 in
theorem swap_any {b mb g cap n m:Nat}{it:Nat->Item}{f:Int->Option Value}(i j:Nat)(w:World)(R:Rep w b mb (.slice (some ⟨g,0,none⟩) n cap) n it f m)(hi:i<n)(hj:j<n)(hm:m<=1000000)
  (ki:(Lit.int .i64 (it i).id).wf=true) (kj:(Lit.int .i64 (it j).id).wf=true) (fi:(f (it i).id).isSome=true) (fj:(f (it j).id).isSome=true) :
  Calls Tryz.prog 181 #[.pointer (some ⟨b,0,none⟩),.int .i64 i,.int .i64 j] w fun e w'=>e=.returned (.tuple #[])/\Rep w' b mb (.slice (some ⟨g,0,none⟩) n cap) n (swI it i j) (putF (putF f (it j).id (.int .i64 i)) (it i).id (.int .i64 j)) m/\Keep (fun k=>k=g\/k=mb) w w':=by
 obtain ⟨hb,hmb,hbm,hgs⟩:=R.blocks
 obtain ⟨hg,hgb,hgm⟩:=hgs g rfl
 have R0:=R
 obtain ⟨c0,c1,f0,row,map,nb⟩:=R
 obtain ⟨q1,q2,q3⟩:=row.cells hi
 obtain ⟨p1,p2,p3⟩:=row.cells hj
 have h1:(i:Int)<(n:Int):=by omega
 have h2:(j:Int)<(n:Int):=by omega
 have hs:=swI_upd it i j
 rw [hs]
 have e1:(if (f (it j).id).isSome then m else m+1)=m:=if_pos fj
 have fi2:(putF f (it j).id (.int .i64 i) (it i).id).isSome=true:=by
  unfold putF;split
  ·rfl
  ·exact fi
 have e2:(if (putF f (it j).id (.int .i64 i) (it i).id).isSome then m else m+1)=m:=if_pos fi2
 have P1:=fun w R=>put_any (b:=b) (mb:=mb) (g:=g) (cap:=cap) (n:=n) (m:=m) (it:=it) (f:=f) i (it j).id (it j).s (it j).d w R hi hm kj
 have P2:=fun w R=>put_any (b:=b) (mb:=mb) (g:=g) (cap:=cap) (n:=n) (m:=m) (it:=updI it i (it j)) (f:=putF f (it j).id (.int .i64 i)) j (it i).id (it i).s (it i).d w R hj hm ki
 rw [e1] at P1
 rw [e2] at P2
 have hR:∀ w',Below w.heap.size w w'->Rep w' b mb (.slice (some ⟨g,0,none⟩) n cap) n it f m:=fun w' h=>R0.below h
 clear map row nb hgs fi fj fi2 e1 e2 hs R0
 have eta1:updI it i ⟨(it j).id,(it j).s,(it j).d⟩=updI it i (it j):=rfl
 have eta2:updI (updI it i (it j)) j ⟨(it i).id,(it i).s,(it i).d⟩=updI (updI it i (it j)) j (it i):=rfl
 rw [eta1] at P1
 rw [eta2] at P2
 generalize updI (updI it i (it j)) j (it i)=it2 at *
 generalize updI it i (it j)=it1 at *
 generalize (it i).id=ia at *
 generalize (it i).s=sa at *
 generalize (it i).d=da at *
 generalize (it j).id=ib at *
 generalize (it j).s=sb at *
 generalize (it j).d=db at *
 generalize putF (putF f ib (.int .i64 i)) ia (.int .i64 j)=f2 at *
 generalize putF f ib (.int .i64 i)=f1 at *
 go_enter Tryz.func181,Tryz.ntmps181
 go_wp2
 go_region
 all_goals
  go_wp2_with (go_at_call 152;fail)
  have HB:Below w.heap.size w (((w.alloc (.cells #[.int .i64 ia,.int .i64 sa,.int .i64 da] 229)).alloc (.cells #[.int .i64 ib,.int .i64 sb,.int .i64 db] 229)).drew):=(((Below.refl _ _).alloc (Nat.le_refl _) _).alloc (by simp) _).drew
  have HB2:Below w.heap.size w (((w.alloc (.cells #[.int .i64 ib,.int .i64 sb,.int .i64 db] 229)).alloc (.cells #[.int .i64 ia,.int .i64 sa,.int .i64 da] 229)).drew):=(((Below.refl _ _).alloc (Nat.le_refl _) _).alloc (by simp) _).drew
  refine (P1 _ (hR _ (by first|exact HB|exact HB2))).mono ?_
  rintro e w1 ⟨rfl,R1,K1⟩
  obtain ⟨k1,k2⟩:=K1.two w.heap.size (by simp) (fun k hk=>by omega)
  have KA:=(Keep.of_below (F:=fun k=>k=g\/k=mb) (show Below w.heap.size w _ by first|exact HB|exact HB2)).trans K1 (fun _ _ h=>h)
  clear K1 HB HB2 hR P1
  go_wp2_with (go_at_call 152;fail)
  refine (P2 _ R1).mono ?_
  rintro e w2 ⟨rfl,R2,K2⟩
  have KB:=KA.trans K2 (fun _ _ h=>h)
  clear KA K2 R1 P2 k1 k2
  go_wp2
  go_end0
  exact ⟨rfl,R2,KB⟩
end
section
open Go.RowKit
structure AtF (it:Nat->Item) (n:Nat) (f:Int->Option Value):Prop where
 at':∀ i,i<n->f (it i).id=some (.int .i64 i)
 of:∀ a v,f a=some v->∃ i,i<n/\(it i).id=a/\v=.int .i64 i
theorem AtF.apart {it:Nat->Item}{n:Nat}{f:Int->Option Value}(h:AtF it n f):Apart it n:=by
 intro i j hi hj e
 have a:=h.at' i hi
 have b:=h.at' j hj
 rw [e,b] at a
 simp only [Option.some.injEq,Value.int.injEq,true_and] at a
 omega
theorem AtF.sw {it:Nat->Item}{n i j:Nat}{f:Int->Option Value}(h:AtF it n f)(hi:i<n)(hj:j<n):AtF (swI it i j) n (putF (putF f (it j).id (.int .i64 i)) (it i).id (.int .i64 j)):=by
 have hp:=h.apart
 refine ⟨fun k hk=>?_,fun a v hv=>?_⟩
 ·by_cases e1:k=j
  ·subst e1;rw [swI_j,putF_same]
  ·by_cases e2:k=i
   ·subst e2
    rw [swI_i,putF_other _ _ (fun e=>e1 (hp k j hk hj e.symm)),putF_same]
   ·rw [swI_k it e2 e1,putF_other _ _ (fun e=>e2 (hp k i hk hi e)),putF_other _ _ (fun e=>e1 (hp k j hk hj e))]
    exact h.at' k hk
 ·unfold putF at hv
  split at hv
  ·rename_i e;cases hv;exact ⟨j,hj,by rw [swI_j];exact e.symm,rfl⟩
  ·rename_i e
   split at hv
   ·rename_i e2;cases hv;exact ⟨i,hi,by rw [swI_i];exact e2.symm,rfl⟩
   ·rename_i e2
    obtain ⟨k,hk,ea,ev⟩:=h.of a v hv
    refine ⟨k,hk,?_,ev⟩
    rw [swI_k it (fun q=>e (by rw [<- ea,q])) (fun q=>e2 (by rw [<- ea,q]))]
    exact ea
structure HS (w:World) (b mb:Nat) (v:Value) (n:Nat) (it:Nat->Item) (f:Int->Option Value) (H:Int->Option (Int × Int)):Prop where
 rep:Rep w b mb v n it f n
 atf:AtF it n f
 wf:∀ i,i<n->(Lit.int .i64 (it i).id).wf=true
 ok:∀ i,i<n->okC (it i).s (it i).d
 holds:Holds it n H
 bd:n<=1000000
theorem HS.sw {w w':World}{b mb n i j:Nat}{v:Value}{it:Nat->Item}{f:Int->Option Value}{H:Int->Option (Int × Int)}(S:HS w b mb v n it f H)(hi:i<n)(hj:j<n)
  (R:Rep w' b mb v n (swI it i j) (putF (putF f (it j).id (.int .i64 i)) (it i).id (.int .i64 j)) n):HS w' b mb v n (swI it i j) (putF (putF f (it j).id (.int .i64 i)) (it i).id (.int .i64 j)) H:=by
 have key:∀ k,k<n->∃ m,m<n/\swI it i j k=it m:=by
  intro k hk
  by_cases e1:k=i
  ·subst e1;exact ⟨j,hj,swI_i it k j⟩
  ·by_cases e2:k=j
   ·subst e2;exact ⟨i,hi,swI_j it i k⟩
   ·exact ⟨k,hk,swI_k it e1 e2⟩
 refine ⟨R,S.atf.sw hi hj,fun k hk=>?_,fun k hk=>?_,S.holds.sw hi hj,S.bd⟩
 ·obtain ⟨m,hm,e⟩:=key k hk;rw [e];exact S.wf m hm
 ·obtain ⟨m,hm,e⟩:=key k hk;rw [e];exact S.ok m hm
theorem HS.below {w w':World}{b mb n:Nat}{v:Value}{it:Nat->Item}{f:Int->Option Value}{H:Int->Option (Int × Int)}(S:HS w b mb v n it f H)(hb:Below w.heap.size w w'):HS w' b mb v n it f H :=
 ⟨S.rep.below hb,S.atf,S.wf,S.ok,S.holds,S.bd⟩
theorem before_v {b mb g cap n m i j:Nat}{it:Nat->Item}{f:Int->Option Value}{r:Bool}(hr:befB (it i) (it j)=r)(w:World)(R:Rep w b mb (.slice (some ⟨g,0,none⟩) n cap) n it f m)(hi:i<n)(hj:j<n)(ki:okC (it i).s (it i).d)(kj:okC (it j).s (it j).d) :
  Calls Tryz.prog 208 #[.pointer (some ⟨b,0,none⟩),.int .i64 i,.int .i64 j] w fun e w'=>e=.returned (.bool r)/\Below w.heap.size w w':=hr ▸ before_any i j w R hi hj ki kj
theorem HS.swap {b mb g cap n i j:Nat}{it:Nat->Item}{f:Int->Option Value}{H:Int->Option (Int × Int)}(w:World)(S:HS w b mb (.slice (some ⟨g,0,none⟩) n cap) n it f H)(hi:i<n)(hj:j<n) :
  Calls Tryz.prog 181 #[.pointer (some ⟨b,0,none⟩),.int .i64 i,.int .i64 j] w fun e w'=>e=.returned (.tuple #[])/\(∃ f',HS w' b mb (.slice (some ⟨g,0,none⟩) n cap) n (swI it i j) f' H)/\Keep (fun k=>k=g\/k=mb) w w' :=
 (swap_any i j w S.rep hi hj S.bd (S.wf i hi) (S.wf j hj) (by rw [S.atf.at' i hi];rfl) (by rw [S.atf.at' j hj];rfl)).mono fun _ _ ⟨he,R,K⟩=>⟨he,⟨_,S.sw hi hj R⟩,K⟩
set_option maxHeartbeats 1000000 in
theorem rise_any {b mb g cap n i:Nat}{it:Nat->Item}{f:Int->Option Value}{H:Int->Option (Int × Int)}(w:World)(S:HS w b mb (.slice (some ⟨g,0,none⟩) n cap) n it f H)(hr:Rising it n i) :
  Calls Tryz.prog 207 #[.pointer (some ⟨b,0,none⟩),.int .i64 i] w fun e w'=>e=.returned (.tuple #[])/\(∃ it' f',HS w' b mb (.slice (some ⟨g,0,none⟩) n cap) n it' f' H/\Ord it' n)/\Keep (fun k=>k=g\/k=mb) w w':=by
 go_enter Tryz.func207,Tryz.ntmps207
 go_wp2
 go_loopw [1] (fun x wr=>∃ (k:Nat) (it':Nat->Item) (f':Int->Option Value),x=.int .i64 k/\HS wr b mb (.slice (some ⟨g,0,none⟩) n cap) n it' f' H/\Rising it' n k/\Keep (fun k=>k=g\/k=mb) w wr) (fun x _=>(intOf x).toNat)
 case atStart=>exact ⟨i,it,f,rfl,S,hr,Keep.refl _ _⟩
 case round =>
  obtain ⟨k,it',f',rfl,S',hr',K⟩:=hrel
  have hk:=hr'.lt
  have hbd:=S'.bd
  by_cases h0:k=0
  ·subst h0
   have hO:=hr'.done (Or.inl rfl)
   go_wp2
   go_end0
   exact ⟨rfl,⟨it',f',S',hO⟩,K⟩
  ·have hu:upN k<n:=by unfold upN;omega
   have huk:upN k<k:=by unfold upN;omega
   have hk1:(1:Int)<=(k:Int):=by omega
   have hk0:0<k:=by omega
   cases hB:befB (it' k) (it' (upN k)) with
   |false =>
    have hO:=hr'.done (Or.inr (of_befB_false hB))
    go_wp2_with (first|(go_at_call 234;refine (up_any k _ hk0 (by omega)).mono ?_;rintro e w' ⟨rfl,rfl⟩)|(go_at_call 208;refine (before_v hB _ S'.rep hk hu (S'.ok k hk) (S'.ok _ hu)).mono ?_;rintro e w1 ⟨rfl,hb1⟩))
    go_end0
    exact ⟨rfl,⟨it',f',S'.below hb1,hO⟩,K.below hb1⟩
   |true =>
    have hr2:=hr'.step hk0 (of_befB hB)
    go_wp2_with (first|(go_at_call 234;refine (up_any k _ hk0 (by omega)).mono ?_;rintro e w' ⟨rfl,rfl⟩)|(go_at_call 208;refine (before_v hB _ S'.rep hk hu (S'.ok k hk) (S'.ok _ hu)).mono ?_;rintro e w1 ⟨rfl,hb1⟩)|(go_at_call 181;refine ((S'.below hb1).swap _ hk hu).mono ?_;rintro e w2 ⟨rfl,⟨f2,S2⟩,K2⟩))
    have KK:=(K.below hb1).trans K2 (fun _ _ h=>h)
    go_roundw
    case rel=>exact ⟨upN k,_,f2,rfl,S2,hr2,KK⟩
    case measure=>simp [intOf];omega
end
section
open Go.RowKit
set_option maxHeartbeats 1000000 in
theorem firstBelow_any {b mb g cap n i:Nat}{it:Nat->Item}{f:Int->Option Value}{H:Int->Option (Int × Int)}(w:World)(S:HS w b mb (.slice (some ⟨g,0,none⟩) n cap) n it f H)(hi:i<n) :
  Calls Tryz.prog 180 #[.pointer (some ⟨b,0,none⟩),.int .i64 i] w fun e w'=>(∃ m,e=.returned (.int .i64 (m:Nat))/\FirstOf it n i m)/\Below w.heap.size w w':=by
 have hbd:=S.bd
 go_enter Tryz.func180,Tryz.ntmps180
 go_wp2
 go_loopw [5,6] (fun x y wr=>∃ m k:Nat,x=.int .i64 m/\y=.int .i64 k/\2*i+1<=k/\k<=2*i+3/\m<n/\(m=i\/(2*i+1<=m/\m<k))/\¬ bef (it i) (it m)/\(∀ j,2*i+1<=j->j<k->j<n->¬ bef (it j) (it m))/\Below w.heap.size w wr) (fun _ y _=>2*i+3 - (intOf y).toNat)
 case atStart=>exact ⟨i,2*i+1,rfl,by go_num,by omega,by omega,hi,Or.inl rfl,bef_irrefl _,fun j _ _ _=>by omega,Below.refl _ _⟩
 case round =>
  obtain ⟨m,k,rfl,rfl,k1,k2,hm,hw,hs,hbl,hb⟩:=hrel
  have S':=S.below hb
  have c0:=S'.rep.c0
  by_cases hk:k<=2*i+2
  ·have hk':(k:Int)<=2*(i:Int)+2:=by omega
   by_cases hn:k<n
   ·have hn':(k:Int)<(n:Int):=by omega
    cases hB:befB (it k) (it m) with
    |false =>
     go_wp2_with (go_at_call 208;refine (before_v hB _ S'.rep hn hm (S'.ok k hn) (S'.ok m hm)).mono ?_;rintro e w1 ⟨rfl,hb1⟩)
     have HB:=hb.trans (hb1.mono hb.size)
     go_roundw
     case rel =>
      refine ⟨m,k+1,rfl,by go_num,by omega,by omega,hm,?_,hs,fun j j1 j2 j3=>?_,HB⟩
      ·omega
      ·by_cases e:j=k
       ·subst e;exact of_befB_false hB
       ·exact hbl j j1 (by omega) j3
     case measure=>simp [intOf];omega
    |true =>
     have hbk:=bef_asymm (of_befB hB)
     go_wp2_with (go_at_call 208;refine (before_v hB _ S'.rep hn hm (S'.ok k hn) (S'.ok m hm)).mono ?_;rintro e w1 ⟨rfl,hb1⟩)
     have HB:=hb.trans (hb1.mono hb.size)
     go_roundw
     case rel =>
      refine ⟨k,k+1,rfl,by go_num,by omega,by omega,hn,Or.inr ⟨k1,by omega⟩,bef_trans hbk hs,fun j j1 j2 j3=>?_,HB⟩
      by_cases e:j=k
      ·subst e;exact bef_irrefl _
      ·exact bef_trans hbk (hbl j j1 (by omega) j3)
     case measure=>simp [intOf];omega
   ·have hn':¬ (k:Int)<(n:Int):=by omega
    have F:FirstOf it n i m:=⟨hm,by omega,hs,fun j j0 jn ju=>hbl j (by unfold upN at ju;omega) (by omega) jn⟩
    go_wp2
    go_ret
    exact ⟨⟨m,rfl,F⟩,hb⟩
  ·have hk':¬ (k:Int)<=2*(i:Int)+2:=by omega
   have F:FirstOf it n i m:=⟨hm,by omega,hs,fun j j0 jn ju=>hbl j (by unfold upN at ju;omega) (by unfold upN at ju;omega) jn⟩
   go_wp2
   go_ret
   exact ⟨⟨m,rfl,F⟩,hb⟩
set_option maxHeartbeats 1000000 in
theorem sink_any {b mb g cap n i:Nat}{it:Nat->Item}{f:Int->Option Value}{H:Int->Option (Int × Int)}(w:World)(S:HS w b mb (.slice (some ⟨g,0,none⟩) n cap) n it f H)(hi:i<n)(hr:Sinking it n i) :
  Calls Tryz.prog 153 #[.pointer (some ⟨b,0,none⟩),.int .i64 i] w fun e w'=>e=.returned (.tuple #[])/\(∃ it' f',HS w' b mb (.slice (some ⟨g,0,none⟩) n cap) n it' f' H/\Ord it' n)/\Keep (fun k=>k=g\/k=mb) w w':=by
 go_enter Tryz.func153,Tryz.ntmps153
 go_wp2
 go_loopw [1] (fun x wr=>∃ (k:Nat) (it':Nat->Item) (f':Int->Option Value),x=.int .i64 k/\k<n/\HS wr b mb (.slice (some ⟨g,0,none⟩) n cap) n it' f' H/\Sinking it' n k/\Keep (fun k=>k=g\/k=mb) w wr) (fun x _=>n - (intOf x).toNat)
 case atStart=>exact ⟨i,it,f,rfl,hi,S,hr,Keep.refl _ _⟩
 case round =>
  obtain ⟨k,it',f',rfl,hk,S',hr',K⟩:=hrel
  go_wp2_with fail
  refine (firstBelow_any _ S' hk).mono ?_
  rintro e w1 ⟨⟨m,rfl,F⟩,hb1⟩
  have hm:=F.lt
  have S1:=S'.below hb1
  have K1:=K.below hb1
  clear S S' K
  by_cases e:m=k
  ·subst e
   have hO:=hr'.done F
   go_wp2
   exact bodyPost_ret (v:=.tuple #[]) (by simp [results,Tryz.results153,go_sem]) rfl ⟨rfl,⟨it',f',S1,hO⟩,K1⟩
  ·have hr2:=hr'.step F e
   have hgt:k<m:=by have:=F.who;omega
   have e':((m:Int) == (k:Int))=false:=by simp;omega
   go_wp2_with (go_at_call 181;refine (S1.swap _ hk hm).mono ?_;rintro e w2 ⟨rfl,⟨f2,S2⟩,K2⟩)
   have KK:=K1.trans K2 (fun _ _ h=>h)
   go_roundw
   case rel=>exact ⟨m,_,f2,rfl,hm,S2,hr2,KK⟩
   case measure=>simp [intOf];omega
end
section
open Go.RowKit
structure HeapAt (w:World) (b mb:Nat) (v:Value) (n:Nat) (H:Int->Option (Int × Int)):Prop where
 ex:∃ it f,HS w b mb v n it f H/\Ord it n
theorem HeapAt.below {w w':World}{b mb n:Nat}{v:Value}{H:Int->Option (Int × Int)}(h:HeapAt w b mb v n H)(hb:Below w.heap.size w w'):HeapAt w' b mb v n H:=by
 obtain ⟨it,f,S,O⟩:=h.ex
 exact ⟨it,f,S.below hb,O⟩
theorem HeapAt.keep {F:Nat->Prop}{w w':World}{b mb n:Nat}{v:Value}{H:Int->Option (Int × Int)}(h:HeapAt w b mb v n H)(hk:Keep F w w')(h1:¬ F b)(h2:¬ F mb)(h3:∀ g,v.ownBlock=some g->¬ F g):HeapAt w' b mb v n H:=by
 obtain ⟨it,f,S,O⟩:=h.ex
 exact ⟨it,f,⟨S.rep.keep hk h1 h2 h3,S.atf,S.wf,S.ok,S.holds,S.bd⟩,O⟩
theorem HeapAt.blocks {w:World}{b mb n:Nat}{v:Value}{H:Int->Option (Int × Int)}(h:HeapAt w b mb v n H):b<w.heap.size/\mb<w.heap.size/\∀ g,v.ownBlock=some g->g<w.heap.size:=by
 obtain ⟨it,f,S,O⟩:=h.ex
 have:=S.rep.blocks
 exact ⟨this.1,this.2.1,fun g hg=>(this.2.2.2 g hg).1⟩
theorem HeapAt.empty {w:World}{b mb:Nat}{v:Value}{H:Int->Option (Int × Int)}(h:HeapAt w b mb v 0 H)(a:Int):H a=none:=by
 obtain ⟨it,f,S,O⟩:=h.ex
 cases e:H a with
 |none=>rfl
 |some c =>
  obtain ⟨s,d⟩:=c
  obtain ⟨i,hi,_⟩:=(S.holds a s d).mp e
  omega
theorem HeapAt.fits {w:World}{b mb n:Nat}{v:Value}{H:Int->Option (Int × Int)}(h:HeapAt w b mb v n H){a s d:Int}(ha:H a=some (s,d)):okC s d/\(Lit.int .i64 a).wf=true/\0<n:=by
 obtain ⟨it,f,S,O⟩:=h.ex
 obtain ⟨i,hi,e⟩:=(S.holds a s d).mp ha
 have h1:=S.ok i hi
 have h2:=S.wf i hi
 rw [e] at h1 h2
 exact ⟨h1,h2,by omega⟩
theorem Row.nil (w:World)(it:Nat->Item):Row w (.slice none 0 0) 0 it:=⟨[],World.ownsRow_nil w 0 229 3,fun i hi=>by omega⟩
set_option maxHeartbeats 400000 in
theorem new_any (w:World):Calls Tryz.prog 148 #[] w fun e w'=>e=.returned (.pointer (some ⟨w.heap.size+1,0,none⟩))/\HeapAt w' (w.heap.size+1) w.heap.size (.slice none 0 0) 0 (fun _=>none)/\Below w.heap.size w w'/\w'.heap.size=w.heap.size+2:=by
 have hmm:=@run_makeMap Tryz.prog
 go_enter Tryz.func148,Tryz.ntmps148
 go_wp2
 go_ret
 have HB:Below w.heap.size w ((w.alloc (.map #[] 0)).alloc (.cells #[.slice none 0 0,.map (some w.heap.size)] 227)):=((Below.refl _ _).alloc (Nat.le_refl _) _).alloc (by simp) _
 refine ⟨rfl,⟨fun _=>⟨0,0,0⟩,fun _=>none,⟨⟨?_,?_,?_,Row.nil _ _,?_,by simp [Value.ownBlock]⟩,⟨fun i hi=>by omega,fun a v h=>(by cases h)⟩,fun i hi=>by omega,fun i hi=>by omega,fun a s d=>⟨fun h=>(by cases h),fun ⟨i,hi,_⟩=>(by omega)⟩,by omega⟩,fun j _ hj=>by omega⟩,HB,by simp⟩
 ·exact World.cell?_alloc_at #[.slice none 0 0,.map (some w.heap.size)] 227 (w.heap.size+1) 0 (by simp)
 ·exact World.cell?_alloc_at #[.slice none 0 0,.map (some w.heap.size)] 227 (w.heap.size+1) 1 (by simp)
 ·rw [frozen?_alloc_cells]
  simp [World.frozen?]
 ·exact (MapF.made w Tryz.prog 3).keep (F:=fun _=>False) ((Keep.refl _ _).alloc _) id
end
end Go.Proofs.YtipbhlofbpnpjaaGreatDoor
