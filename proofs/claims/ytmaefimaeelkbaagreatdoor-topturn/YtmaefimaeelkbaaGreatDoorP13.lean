/-
  Texts laid together: Before, Swap, Sift, Sink, Heap, Push.
-/
import Derived.Test.YtmaefimaeelkbaaGreatDoorP6
import Derived.Test.YtmaefimaeelkbaaGreatDoorP12
import Derived.Test.YtmaefimaeelkbaaGreatDoorP1
import Derived.Maps.AppendAt
namespace Go.Proofs.YtmaefimaeelkbaaGreatDoor
section
open Go.RowKit
def befB (x y:Item):Bool:=decide (x.v<y.v) || (decide (x.v=y.v)&&decide (x.id<y.id))
theorem befB_iff (x y:Item):befB x y=true↔bef x y:=by
 unfold befB bef
 simp
theorem befB_true {x y:Item}(h:bef x y):befB x y=true:=(befB_iff x y).mpr h
theorem befB_false {x y:Item}(h:¬ bef x y):befB x y=false:=by
 cases e:befB x y with
 |false=>rfl
 |true=>exact absurd ((befB_iff x y).mp e) h
theorem of_befB {x y:Item}(h:befB x y=true):bef x y:=(befB_iff x y).mp h
theorem of_befB_false {x y:Item}(h:befB x y=false):¬ bef x y:=fun k=>by rw [befB_true k] at h;cases h
set_option maxHeartbeats 400000 in
theorem up_any (i:Nat)(w:World)(h:0<i)(h2:i<=1000000):Calls Tryz.prog 255 #[.int .i64 i] w fun e w'=>e=.returned (.int .i64 (upN i))/\w'=w:=by
 have e:((upN i:Nat):Int)=((i:Int) - 1) / 2:=by unfold upN;omega
 have h3:(1:Int)<=(i:Int):=by omega
 have h4:(i:Int)<=1000000:=by omega
 rw [e]
 go_enter Tryz.func255,Tryz.ntmps255
 go_wp2
 go_ret
 exact ⟨rfl,rfl⟩
set_option maxHeartbeats 1000000 in
theorem before_any {b mb g cap n m:Nat}{it:Nat->Item}{f:Int->Option Value}(i j:Nat)(w:World)(R:Rep w b mb (.slice (some ⟨g,0,none⟩) n cap) n it f m)(hi:i<n)(hj:j<n)(ki:okC (it i).s (it i).d)(kj:okC (it j).s (it j).d) :
  Calls Tryz.prog 235 #[.pointer (some ⟨b,0,none⟩),.int .i64 i,.int .i64 j] w fun e w'=>e=.returned (.bool (befB (it i) (it j)))/\Below w.heap.size w w':=by
 obtain ⟨hb,hmb,hbm,hgs⟩:=R.blocks
 obtain ⟨hg,hgb,hgm⟩:=hgs g rfl
 obtain ⟨c0,c1,f0,row,map,nb⟩:=R
 obtain ⟨q1,q2,q3⟩:=row.cells hi
 obtain ⟨p1,p2,p3⟩:=row.cells hj
 have h1:(i:Int)<(n:Int):=by omega
 have h2:(j:Int)<(n:Int):=by omega
 have hc:=cmpC_val' (it i).s (it i).d (it j).s (it j).d ki kj
 have hcase:(cmpC (it i).s (it i).d (it j).s (it j).d=-1/\befB (it i) (it j)=true)\/(cmpC (it i).s (it i).d (it j).s (it j).d=1/\befB (it i) (it j)=false) \/
   (cmpC (it i).s (it i).d (it j).s (it j).d=0/\befB (it i) (it j)=decide ((it i).id<(it j).id)):=by
  have hc2:cmpC (it i).s (it i).d (it j).s (it j).d=if (it i).v<(it j).v then -1 else if (it j).v<(it i).v then 1 else 0:=hc
  rw [hc2]
  by_cases e1:(it i).v<(it j).v
  ·left;exact ⟨if_pos e1,befB_true (Or.inl e1)⟩
  ·by_cases e2:(it j).v<(it i).v
   ·right;left;exact ⟨by rw [if_neg e1,if_pos e2],befB_false (by unfold bef;omega)⟩
   ·right;right
    refine ⟨by rw [if_neg e1,if_neg e2],?_⟩
    have e3:(it i).v=(it j).v:=by omega
    unfold befB
    simp [e3]
 clear map row nb hc hgs
 generalize (it i).id=ia at *
 generalize (it i).s=sa at *
 generalize (it i).d=da at *
 generalize (it j).id=ib at *
 generalize (it j).s=sb at *
 generalize (it j).d=db at *
 rcases hcase with ⟨hr,hB⟩|⟨hr,hB⟩|⟨hr,hB⟩
 all_goals
  rw [hB]
  clear hB
  go_enter Tryz.func235,Tryz.ntmps235
  go_wp2
  go_region
  all_goals
   go_wp2_with (go_at_call 205;refine (compare_v hr _ ki kj).mono ?_;rintro e w' ⟨rfl,hb1⟩;obtain ⟨hq1,hq2⟩:=bcell hb1)
   go_ret
   exact ⟨rfl,Below.trans ((((Below.refl _ _).drew).alloc (Nat.le_refl _) _).alloc (by simp) _) (hb1.mono (by simp;omega))⟩
end
section
open Go.RowKit
set_option maxHeartbeats 1000000 in
theorem swap_any {b mb g cap n m:Nat}{it:Nat->Item}{f:Int->Option Value}(i j:Nat)(w:World)(R:Rep w b mb (.slice (some ⟨g,0,none⟩) n cap) n it f m)(hi:i<n)(hj:j<n)(hm:m<=1000000)
  (ki:(Lit.int .i64 (it i).id).wf=true) (kj:(Lit.int .i64 (it j).id).wf=true) (fi:(f (it i).id).isSome=true) (fj:(f (it j).id).isSome=true) :
  Calls Tryz.prog 204 #[.pointer (some ⟨b,0,none⟩),.int .i64 i,.int .i64 j] w fun e w'=>e=.returned (.tuple #[])/\Rep w' b mb (.slice (some ⟨g,0,none⟩) n cap) n (swI it i j) (putF (putF f (it j).id (.int .i64 i)) (it i).id (.int .i64 j)) m/\Keep (fun k=>k=g\/k=mb) w w':=by
 obtain ⟨hb,hmb,hbm,hgs⟩:=R.blocks
 obtain ⟨hg,hgb,hgm⟩:=hgs g rfl
 have R0:=R
 obtain ⟨c0,c1,f0,row,map,nb⟩:=R
 obtain ⟨q1,q2,q3⟩:=row.cells hi
 obtain ⟨p1,p2,p3⟩:=row.cells hj
 have h1:(i:Int)<(n:Int):=by omega
 have h2:(j:Int)<(n:Int):=by omega
 have hs:=swI_upd it i j
 rw [hs]
 have e1:(if (f (it j).id).isSome then m else m+1)=m:=if_pos fj
 have fi2:(putF f (it j).id (.int .i64 i) (it i).id).isSome=true:=by
  unfold putF;split
  ·rfl
  ·exact fi
 have e2:(if (putF f (it j).id (.int .i64 i) (it i).id).isSome then m else m+1)=m:=if_pos fi2
 have P1:=fun w R=>put_any (b:=b) (mb:=mb) (g:=g) (cap:=cap) (n:=n) (m:=m) (it:=it) (f:=f) i (it j).id (it j).s (it j).d w R hi hm kj
 have P2:=fun w R=>put_any (b:=b) (mb:=mb) (g:=g) (cap:=cap) (n:=n) (m:=m) (it:=updI it i (it j)) (f:=putF f (it j).id (.int .i64 i)) j (it i).id (it i).s (it i).d w R hj hm ki
 rw [e1] at P1
 rw [e2] at P2
 have hR:∀ w',Below w.heap.size w w'->Rep w' b mb (.slice (some ⟨g,0,none⟩) n cap) n it f m:=fun w' h=>R0.below h
 clear map row nb hgs fi fj fi2 e1 e2 hs R0
 have eta1:updI it i ⟨(it j).id,(it j).s,(it j).d⟩=updI it i (it j):=rfl
 have eta2:updI (updI it i (it j)) j ⟨(it i).id,(it i).s,(it i).d⟩=updI (updI it i (it j)) j (it i):=rfl
 rw [eta1] at P1
 rw [eta2] at P2
 generalize updI (updI it i (it j)) j (it i)=it2 at *
 generalize updI it i (it j)=it1 at *
 generalize (it i).id=ia at *
 generalize (it i).s=sa at *
 generalize (it i).d=da at *
 generalize (it j).id=ib at *
 generalize (it j).s=sb at *
 generalize (it j).d=db at *
 generalize putF (putF f ib (.int .i64 i)) ia (.int .i64 j)=f2 at *
 generalize putF f ib (.int .i64 i)=f1 at *
 go_enter Tryz.func204,Tryz.ntmps204
 go_wp2
 go_region
 all_goals
  go_wp2_with (go_at_call 174;fail)
  have HB:Below w.heap.size w (((w.alloc (.cells #[.int .i64 ia,.int .i64 sa,.int .i64 da] 263)).alloc (.cells #[.int .i64 ib,.int .i64 sb,.int .i64 db] 263)).drew):=(((Below.refl _ _).alloc (Nat.le_refl _) _).alloc (by simp) _).drew
  have HB2:Below w.heap.size w (((w.alloc (.cells #[.int .i64 ib,.int .i64 sb,.int .i64 db] 263)).alloc (.cells #[.int .i64 ia,.int .i64 sa,.int .i64 da] 263)).drew):=(((Below.refl _ _).alloc (Nat.le_refl _) _).alloc (by simp) _).drew
  refine (P1 _ (hR _ (by first|exact HB|exact HB2))).mono ?_
  rintro e w1 ⟨rfl,R1,K1⟩
  obtain ⟨k1,k2⟩:=K1.two w.heap.size (by simp) (fun k hk=>by omega)
  have KA:=(Keep.of_below (F:=fun k=>k=g\/k=mb) (show Below w.heap.size w _ by first|exact HB|exact HB2)).trans K1 (fun _ _ h=>h)
  clear K1 HB HB2 hR P1
  go_wp2_with (go_at_call 174;fail)
  refine (P2 _ R1).mono ?_
  rintro e w2 ⟨rfl,R2,K2⟩
  have KB:=KA.trans K2 (fun _ _ h=>h)
  clear KA K2 R1 P2 k1 k2
  go_wp2
  go_end0
  exact ⟨rfl,R2,KB⟩
end
section
open Go.RowKit
structure AtF (it:Nat->Item) (n:Nat) (f:Int->Option Value):Prop where
 at':∀ i,i<n->f (it i).id=some (.int .i64 i)
 of:∀ a v,f a=some v->∃ i,i<n/\(it i).id=a/\v=.int .i64 i
theorem AtF.apart {it:Nat->Item}{n:Nat}{f:Int->Option Value}(h:AtF it n f):Apart it n:=by
 intro i j hi hj e
 have a:=h.at' i hi
 have b:=h.at' j hj
 rw [e,b] at a
 simp only [Option.some.injEq,Value.int.injEq,true_and] at a
 omega
theorem AtF.sw {it:Nat->Item}{n i j:Nat}{f:Int->Option Value}(h:AtF it n f)(hi:i<n)(hj:j<n):AtF (swI it i j) n (putF (putF f (it j).id (.int .i64 i)) (it i).id (.int .i64 j)):=by
 have hp:=h.apart
 refine ⟨fun k hk=>?_,fun a v hv=>?_⟩
 ·by_cases e1:k=j
  ·subst e1;rw [swI_j,putF_same]
  ·by_cases e2:k=i
   ·subst e2
    rw [swI_i,putF_other _ _ (fun e=>e1 (hp k j hk hj e.symm)),putF_same]
   ·rw [swI_k it e2 e1,putF_other _ _ (fun e=>e2 (hp k i hk hi e)),putF_other _ _ (fun e=>e1 (hp k j hk hj e))]
    exact h.at' k hk
 ·unfold putF at hv
  split at hv
  ·rename_i e;cases hv;exact ⟨j,hj,by rw [swI_j];exact e.symm,rfl⟩
  ·rename_i e
   split at hv
   ·rename_i e2;cases hv;exact ⟨i,hi,by rw [swI_i];exact e2.symm,rfl⟩
   ·rename_i e2
    obtain ⟨k,hk,ea,ev⟩:=h.of a v hv
    refine ⟨k,hk,?_,ev⟩
    rw [swI_k it (fun q=>e (by rw [<- ea,q])) (fun q=>e2 (by rw [<- ea,q]))]
    exact ea
structure HS (w:World) (b mb:Nat) (v:Value) (n:Nat) (it:Nat->Item) (f:Int->Option Value) (H:Int->Option (Int × Int)):Prop where
 rep:Rep w b mb v n it f n
 atf:AtF it n f
 wf:∀ i,i<n->(Lit.int .i64 (it i).id).wf=true
 ok:∀ i,i<n->okC (it i).s (it i).d
 holds:Holds it n H
 bd:n<=1000000
theorem HS.sw {w w':World}{b mb n i j:Nat}{v:Value}{it:Nat->Item}{f:Int->Option Value}{H:Int->Option (Int × Int)}(S:HS w b mb v n it f H)(hi:i<n)(hj:j<n)
  (R:Rep w' b mb v n (swI it i j) (putF (putF f (it j).id (.int .i64 i)) (it i).id (.int .i64 j)) n):HS w' b mb v n (swI it i j) (putF (putF f (it j).id (.int .i64 i)) (it i).id (.int .i64 j)) H:=by
 have key:∀ k,k<n->∃ m,m<n/\swI it i j k=it m:=by
  intro k hk
  by_cases e1:k=i
  ·subst e1;exact ⟨j,hj,swI_i it k j⟩
  ·by_cases e2:k=j
   ·subst e2;exact ⟨i,hi,swI_j it i k⟩
   ·exact ⟨k,hk,swI_k it e1 e2⟩
 refine ⟨R,S.atf.sw hi hj,fun k hk=>?_,fun k hk=>?_,S.holds.sw hi hj,S.bd⟩
 ·obtain ⟨m,hm,e⟩:=key k hk;rw [e];exact S.wf m hm
 ·obtain ⟨m,hm,e⟩:=key k hk;rw [e];exact S.ok m hm
theorem HS.below {w w':World}{b mb n:Nat}{v:Value}{it:Nat->Item}{f:Int->Option Value}{H:Int->Option (Int × Int)}(S:HS w b mb v n it f H)(hb:Below w.heap.size w w'):HS w' b mb v n it f H :=
 ⟨S.rep.below hb,S.atf,S.wf,S.ok,S.holds,S.bd⟩
theorem before_v {b mb g cap n m i j:Nat}{it:Nat->Item}{f:Int->Option Value}{r:Bool}(hr:befB (it i) (it j)=r)(w:World)(R:Rep w b mb (.slice (some ⟨g,0,none⟩) n cap) n it f m)(hi:i<n)(hj:j<n)(ki:okC (it i).s (it i).d)(kj:okC (it j).s (it j).d) :
  Calls Tryz.prog 235 #[.pointer (some ⟨b,0,none⟩),.int .i64 i,.int .i64 j] w fun e w'=>e=.returned (.bool r)/\Below w.heap.size w w':=hr ▸ before_any i j w R hi hj ki kj
theorem HS.swap {b mb g cap n i j:Nat}{it:Nat->Item}{f:Int->Option Value}{H:Int->Option (Int × Int)}(w:World)(S:HS w b mb (.slice (some ⟨g,0,none⟩) n cap) n it f H)(hi:i<n)(hj:j<n) :
  Calls Tryz.prog 204 #[.pointer (some ⟨b,0,none⟩),.int .i64 i,.int .i64 j] w fun e w'=>e=.returned (.tuple #[])/\(∃ f',HS w' b mb (.slice (some ⟨g,0,none⟩) n cap) n (swI it i j) f' H)/\Keep (fun k=>k=g\/k=mb) w w' :=
 (swap_any i j w S.rep hi hj S.bd (S.wf i hi) (S.wf j hj) (by rw [S.atf.at' i hi];rfl) (by rw [S.atf.at' j hj];rfl)).mono fun _ _ ⟨he,R,K⟩=>⟨he,⟨_,S.sw hi hj R⟩,K⟩
set_option maxHeartbeats 1000000 in
theorem rise_any {b mb g cap n i:Nat}{it:Nat->Item}{f:Int->Option Value}{H:Int->Option (Int × Int)}(w:World)(S:HS w b mb (.slice (some ⟨g,0,none⟩) n cap) n it f H)(hr:Rising it n i) :
  Calls Tryz.prog 234 #[.pointer (some ⟨b,0,none⟩),.int .i64 i] w fun e w'=>e=.returned (.tuple #[])/\(∃ it' f',HS w' b mb (.slice (some ⟨g,0,none⟩) n cap) n it' f' H/\Ord it' n)/\Keep (fun k=>k=g\/k=mb) w w':=by
 go_enter Tryz.func234,Tryz.ntmps234
 go_wp2
 go_loopw [1] (fun x wr=>∃ (k:Nat) (it':Nat->Item) (f':Int->Option Value),x=.int .i64 k/\HS wr b mb (.slice (some ⟨g,0,none⟩) n cap) n it' f' H/\Rising it' n k/\Keep (fun k=>k=g\/k=mb) w wr) (fun x _=>(intOf x).toNat)
 case atStart=>exact ⟨i,it,f,rfl,S,hr,Keep.refl _ _⟩
 case round =>
  obtain ⟨k,it',f',rfl,S',hr',K⟩:=hrel
  have hk:=hr'.lt
  have hbd:=S'.bd
  by_cases h0:k=0
  ·subst h0
   have hO:=hr'.done (Or.inl rfl)
   go_wp2
   go_end0
   exact ⟨rfl,⟨it',f',S',hO⟩,K⟩
  ·have hu:upN k<n:=by unfold upN;omega
   have huk:upN k<k:=by unfold upN;omega
   have hk1:(1:Int)<=(k:Int):=by omega
   have hk0:0<k:=by omega
   cases hB:befB (it' k) (it' (upN k)) with
   |false =>
    have hO:=hr'.done (Or.inr (of_befB_false hB))
    go_wp2_with (first|(go_at_call 255;refine (up_any k _ hk0 (by omega)).mono ?_;rintro e w' ⟨rfl,rfl⟩)|(go_at_call 235;refine (before_v hB _ S'.rep hk hu (S'.ok k hk) (S'.ok _ hu)).mono ?_;rintro e w1 ⟨rfl,hb1⟩))
    go_end0
    exact ⟨rfl,⟨it',f',S'.below hb1,hO⟩,K.below hb1⟩
   |true =>
    have hr2:=hr'.step hk0 (of_befB hB)
    go_wp2_with (first|(go_at_call 255;refine (up_any k _ hk0 (by omega)).mono ?_;rintro e w' ⟨rfl,rfl⟩)|(go_at_call 235;refine (before_v hB _ S'.rep hk hu (S'.ok k hk) (S'.ok _ hu)).mono ?_;rintro e w1 ⟨rfl,hb1⟩)|(go_at_call 204;refine ((S'.below hb1).swap _ hk hu).mono ?_;rintro e w2 ⟨rfl,⟨f2,S2⟩,K2⟩))
    have KK:=(K.below hb1).trans K2 (fun _ _ h=>h)
    go_roundw
    case rel=>exact ⟨upN k,_,f2,rfl,S2,hr2,KK⟩
    case measure=>simp [intOf];omega
end
section
open Go.RowKit
set_option maxHeartbeats 1000000 in
theorem firstBelow_any {b mb g cap n i:Nat}{it:Nat->Item}{f:Int->Option Value}{H:Int->Option (Int × Int)}(w:World)(S:HS w b mb (.slice (some ⟨g,0,none⟩) n cap) n it f H)(hi:i<n) :
  Calls Tryz.prog 203 #[.pointer (some ⟨b,0,none⟩),.int .i64 i] w fun e w'=>(∃ m,e=.returned (.int .i64 (m:Nat))/\FirstOf it n i m)/\Below w.heap.size w w':=by
 have hbd:=S.bd
 go_enter Tryz.func203,Tryz.ntmps203
 go_wp2
 go_loopw [5,6] (fun x y wr=>∃ m k:Nat,x=.int .i64 m/\y=.int .i64 k/\2*i+1<=k/\k<=2*i+3/\m<n/\(m=i\/(2*i+1<=m/\m<k))/\¬ bef (it i) (it m)/\(∀ j,2*i+1<=j->j<k->j<n->¬ bef (it j) (it m))/\Below w.heap.size w wr) (fun _ y _=>2*i+3 - (intOf y).toNat)
 case atStart=>exact ⟨i,2*i+1,rfl,by go_num,by omega,by omega,hi,Or.inl rfl,bef_irrefl _,fun j _ _ _=>by omega,Below.refl _ _⟩
 case round =>
  obtain ⟨m,k,rfl,rfl,k1,k2,hm,hw,hs,hbl,hb⟩:=hrel
  have S':=S.below hb
  have c0:=S'.rep.c0
  by_cases hk:k<=2*i+2
  ·have hk':(k:Int)<=2*(i:Int)+2:=by omega
   by_cases hn:k<n
   ·have hn':(k:Int)<(n:Int):=by omega
    cases hB:befB (it k) (it m) with
    |false =>
     go_wp2_with (go_at_call 235;refine (before_v hB _ S'.rep hn hm (S'.ok k hn) (S'.ok m hm)).mono ?_;rintro e w1 ⟨rfl,hb1⟩)
     have HB:=hb.trans (hb1.mono hb.size)
     go_roundw
     case rel =>
      refine ⟨m,k+1,rfl,by go_num,by omega,by omega,hm,?_,hs,fun j j1 j2 j3=>?_,HB⟩
      ·omega
      ·by_cases e:j=k
       ·subst e;exact of_befB_false hB
       ·exact hbl j j1 (by omega) j3
     case measure=>simp [intOf];omega
    |true =>
     have hbk:=bef_asymm (of_befB hB)
     go_wp2_with (go_at_call 235;refine (before_v hB _ S'.rep hn hm (S'.ok k hn) (S'.ok m hm)).mono ?_;rintro e w1 ⟨rfl,hb1⟩)
     have HB:=hb.trans (hb1.mono hb.size)
     go_roundw
     case rel =>
      refine ⟨k,k+1,rfl,by go_num,by omega,by omega,hn,Or.inr ⟨k1,by omega⟩,bef_trans hbk hs,fun j j1 j2 j3=>?_,HB⟩
      by_cases e:j=k
      ·subst e;exact bef_irrefl _
      ·exact bef_trans hbk (hbl j j1 (by omega) j3)
     case measure=>simp [intOf];omega
   ·have hn':¬ (k:Int)<(n:Int):=by omega
    have F:FirstOf it n i m:=⟨hm,by omega,hs,fun j j0 jn ju=>hbl j (by unfold upN at ju;omega) (by omega) jn⟩
    go_wp2
    go_ret
    exact ⟨⟨m,rfl,F⟩,hb⟩
  ·have hk':¬ (k:Int)<=2*(i:Int)+2:=by omega
   have F:FirstOf it n i m:=⟨hm,by omega,hs,fun j j0 jn ju=>hbl j (by unfold upN at ju;omega) (by unfold upN at ju;omega) jn⟩
   go_wp2
   go_ret
   exact ⟨⟨m,rfl,F⟩,hb⟩
set_option maxHeartbeats 1000000 in
theorem sink_any {b mb g cap n i:Nat}{it:Nat->Item}{f:Int->Option Value}{H:Int->Option (Int × Int)}(w:World)(S:HS w b mb (.slice (some ⟨g,0,none⟩) n cap) n it f H)(hi:i<n)(hr:Sinking it n i) :
  Calls Tryz.prog 175 #[.pointer (some ⟨b,0,none⟩),.int .i64 i] w fun e w'=>e=.returned (.tuple #[])/\(∃ it' f',HS w' b mb (.slice (some ⟨g,0,none⟩) n cap) n it' f' H/\Ord it' n)/\Keep (fun k=>k=g\/k=mb) w w':=by
 go_enter Tryz.func175,Tryz.ntmps175
 go_wp2
 go_loopw [1] (fun x wr=>∃ (k:Nat) (it':Nat->Item) (f':Int->Option Value),x=.int .i64 k/\k<n/\HS wr b mb (.slice (some ⟨g,0,none⟩) n cap) n it' f' H/\Sinking it' n k/\Keep (fun k=>k=g\/k=mb) w wr) (fun x _=>n - (intOf x).toNat)
 case atStart=>exact ⟨i,it,f,rfl,hi,S,hr,Keep.refl _ _⟩
 case round =>
  obtain ⟨k,it',f',rfl,hk,S',hr',K⟩:=hrel
  go_wp2_with fail
  refine (firstBelow_any _ S' hk).mono ?_
  rintro e w1 ⟨⟨m,rfl,F⟩,hb1⟩
  have hm:=F.lt
  have S1:=S'.below hb1
  have K1:=K.below hb1
  clear S S' K
  by_cases e:m=k
  ·subst e
   have hO:=hr'.done F
   go_wp2
   exact bodyPost_ret (v:=.tuple #[]) (by simp [results,Tryz.results175,go_sem]) rfl ⟨rfl,⟨it',f',S1,hO⟩,K1⟩
  ·have hr2:=hr'.step F e
   have hgt:k<m:=by have:=F.who;omega
   have e':((m:Int) == (k:Int))=false:=by simp;omega
   go_wp2_with (go_at_call 204;refine (S1.swap _ hk hm).mono ?_;rintro e w2 ⟨rfl,⟨f2,S2⟩,K2⟩)
   have KK:=K1.trans K2 (fun _ _ h=>h)
   go_roundw
   case rel=>exact ⟨m,_,f2,rfl,hm,S2,hr2,KK⟩
   case measure=>simp [intOf];omega
end
section
open Go.RowKit
structure HeapAt (w:World) (b mb:Nat) (v:Value) (n:Nat) (H:Int->Option (Int × Int)):Prop where
 ex:∃ it f,HS w b mb v n it f H/\Ord it n
theorem HeapAt.below {w w':World}{b mb n:Nat}{v:Value}{H:Int->Option (Int × Int)}(h:HeapAt w b mb v n H)(hb:Below w.heap.size w w'):HeapAt w' b mb v n H:=by
 obtain ⟨it,f,S,O⟩:=h.ex
 exact ⟨it,f,S.below hb,O⟩
theorem HeapAt.keep {F:Nat->Prop}{w w':World}{b mb n:Nat}{v:Value}{H:Int->Option (Int × Int)}(h:HeapAt w b mb v n H)(hk:Keep F w w')(h1:¬ F b)(h2:¬ F mb)(h3:∀ g,v.ownBlock=some g->¬ F g):HeapAt w' b mb v n H:=by
 obtain ⟨it,f,S,O⟩:=h.ex
 exact ⟨it,f,⟨S.rep.keep hk h1 h2 h3,S.atf,S.wf,S.ok,S.holds,S.bd⟩,O⟩
theorem HeapAt.blocks {w:World}{b mb n:Nat}{v:Value}{H:Int->Option (Int × Int)}(h:HeapAt w b mb v n H):b<w.heap.size/\mb<w.heap.size/\∀ g,v.ownBlock=some g->g<w.heap.size:=by
 obtain ⟨it,f,S,O⟩:=h.ex
 have:=S.rep.blocks
 exact ⟨this.1,this.2.1,fun g hg=>(this.2.2.2 g hg).1⟩
theorem HeapAt.empty {w:World}{b mb:Nat}{v:Value}{H:Int->Option (Int × Int)}(h:HeapAt w b mb v 0 H)(a:Int):H a=none:=by
 obtain ⟨it,f,S,O⟩:=h.ex
 cases e:H a with
 |none=>rfl
 |some c =>
  obtain ⟨s,d⟩:=c
  obtain ⟨i,hi,_⟩:=(S.holds a s d).mp e
  omega
theorem HeapAt.fits {w:World}{b mb n:Nat}{v:Value}{H:Int->Option (Int × Int)}(h:HeapAt w b mb v n H){a s d:Int}(ha:H a=some (s,d)):okC s d/\(Lit.int .i64 a).wf=true/\0<n:=by
 obtain ⟨it,f,S,O⟩:=h.ex
 obtain ⟨i,hi,e⟩:=(S.holds a s d).mp ha
 have h1:=S.ok i hi
 have h2:=S.wf i hi
 rw [e] at h1 h2
 exact ⟨h1,h2,by omega⟩
theorem Row.nil (w:World)(it:Nat->Item):Row w (.slice none 0 0) 0 it:=⟨[],World.ownsRow_nil w 0 263 3,fun i hi=>by omega⟩
set_option maxHeartbeats 400000 in
theorem new_any (w:World):Calls Tryz.prog 170 #[] w fun e w'=>e=.returned (.pointer (some ⟨w.heap.size+1,0,none⟩))/\HeapAt w' (w.heap.size+1) w.heap.size (.slice none 0 0) 0 (fun _=>none)/\Below w.heap.size w w'/\w'.heap.size=w.heap.size+2:=by
 have hmm:=@run_makeMap Tryz.prog
 go_enter Tryz.func170,Tryz.ntmps170
 go_wp2
 go_ret
 have HB:Below w.heap.size w ((w.alloc (.map #[] 0)).alloc (.cells #[.slice none 0 0,.map (some w.heap.size)] 261)):=((Below.refl _ _).alloc (Nat.le_refl _) _).alloc (by simp) _
 refine ⟨rfl,⟨fun _=>⟨0,0,0⟩,fun _=>none,⟨⟨?_,?_,?_,Row.nil _ _,?_,by simp [Value.ownBlock]⟩,⟨fun i hi=>by omega,fun a v h=>(by cases h)⟩,fun i hi=>by omega,fun i hi=>by omega,fun a s d=>⟨fun h=>(by cases h),fun ⟨i,hi,_⟩=>(by omega)⟩,by omega⟩,fun j _ hj=>by omega⟩,HB,by simp⟩
 ·exact World.cell?_alloc_at #[.slice none 0 0,.map (some w.heap.size)] 261 (w.heap.size+1) 0 (by simp)
 ·exact World.cell?_alloc_at #[.slice none 0 0,.map (some w.heap.size)] 261 (w.heap.size+1) 1 (by simp)
 ·rw [frozen?_alloc_cells]
  simp [World.frozen?]
 ·exact (MapF.made w Tryz.prog 3).keep (F:=fun _=>False) ((Keep.refl _ _).alloc _) id
end
section
open Go.RowKit
theorem HS.mem {w:World}{b mb n:Nat}{v:Value}{it:Nat->Item}{f:Int->Option Value}{H:Int->Option (Int × Int)}(S:HS w b mb v n it f H){a:Int}(ha:H a=none):f a=none:=by
 cases e:f a with
 |none=>rfl
 |some v =>
  obtain ⟨i,hi,ea,_⟩:=S.atf.of a v e
  exact absurd ea (S.holds.gone ha i hi)
theorem AtF.last {it:Nat->Item}{n:Nat}{f:Int->Option Value}(h:AtF it n f){x:Item}(hx:f x.id=none):AtF (updI it n x) (n+1) (putF f x.id (.int .i64 n)):=by
 refine ⟨fun k hk=>?_,fun a v hv=>?_⟩
 ·by_cases e1:k=n
  ·subst e1;rw [updI_i,putF_same]
  ·rw [updI_k it x e1,putF_other _ _ (fun e=>by rw [<- e,h.at' k (by omega)] at hx;cases hx)]
   exact h.at' k (by omega)
 ·unfold putF at hv
  split at hv
  ·rename_i e;cases hv;exact ⟨n,by omega,by rw [updI_i];exact e.symm,rfl⟩
  ·obtain ⟨k,hk,ea,ev⟩:=h.of a v hv
   exact ⟨k,by omega,by rw [updI_k it x (by omega)];exact ea,ev⟩
theorem AtF.same {it:Nat->Item}{n i:Nat}{f:Int->Option Value}(h:AtF it n f)(hi:i<n){x:Item}(hx:(it i).id=x.id):AtF (updI it i x) n (putF f x.id (.int .i64 i)):=by
 have hp:=h.apart
 refine ⟨fun k hk=>?_,fun a v hv=>?_⟩
 ·by_cases e1:k=i
  ·subst e1;rw [updI_i,putF_same]
  ·rw [updI_k it x e1,putF_other _ _ (fun e=>e1 (hp k i hk hi (by rw [hx];exact e)))]
   exact h.at' k hk
 ·unfold putF at hv
  split at hv
  ·rename_i e;cases hv;exact ⟨i,hi,by rw [updI_i];exact e.symm,rfl⟩
  ·rename_i e
   obtain ⟨k,hk,ea,ev⟩:=h.of a v hv
   refine ⟨k,hk,?_,ev⟩
   rw [updI_k it x (fun q=>e (by rw [<- ea,q,hx]))]
   exact ea
theorem ltB_val {s d t u:Int}(h:okC s d)(k:okC t u):ltB s d t u=true↔val s d<val t u:=by
 unfold ltB
 rw [cmpC_val' s d t u h k,decide_eq_true_iff]
 exact cmpI_neg _ _
theorem ltB_false {s d t u:Int}(h:okC s d)(k:okC t u)(hn:¬ val s d<val t u):ltB s d t u=false:=by
 cases e:ltB s d t u with
 |false=>rfl
 |true=>exact absurd ((ltB_val h k).mp e) hn
set_option maxHeartbeats 1000000 in
theorem push_no {b mb n:Nat}{v:Value}{H:Int->Option (Int × Int)}(a s d t u:Int)(w:World)(h:HeapAt w b mb v n H)(ha:H a=some (t,u))(hc:okC s d)(hn:¬ val s d<val t u) :
  Calls Tryz.prog 202 #[.pointer (some ⟨b,0,none⟩),.int .i64 a,.agg #[.int .i64 s,.int .i64 d]] w fun e w'=>e=.returned (.bool false)/\Below w.heap.size w w':=by
 obtain ⟨it,f,S,O⟩:=h.ex
 obtain ⟨i,hi,e⟩:=(S.holds a t u).mp ha
 obtain ⟨g,cap,rfl,_,_,hg⟩:=S.rep.row.pos (by omega)
 obtain ⟨q1,q2,q3⟩:=S.rep.row.cells hi
 have hk:=S.ok i hi
 rw [e] at q1 q2 q3 hk
 have hlt:=ltB_false hc hk hn
 have c0:=S.rep.c0
 have c1:=S.rep.c1
 have hb:=S.rep.blocks.1
 have hwf:=S.wf i hi
 rw [e] at hwf
 have hf:=S.atf.at' i hi
 rw [e] at hf
 have HB0:Below w.heap.size w (w.alloc (.cells #[.int .i64 s,.int .i64 d] 53)):=(Below.refl _ w).alloc (Nat.le_refl _) _
 have hl:=((S.rep.below HB0).map).look_some law3 Tryz.under51 (zero3 _) hwf hf true
 have h1:(i:Int)<(n:Int):=by omega
 have s0:∀ x:Since (w.alloc (.cells #[.int .i64 s,.int .i64 d] 53)),x.u.cell? ⟨w.heap.size,0,none⟩=some (.int .i64 s):=fun x=>(x.cell _ _ (by simp)).trans (World.cell?_alloc_at #[.int .i64 s,.int .i64 d] 53 w.heap.size 0 rfl)
 have s1:∀ x:Since (w.alloc (.cells #[.int .i64 s,.int .i64 d] 53)),x.u.cell? ⟨w.heap.size,1,none⟩=some (.int .i64 d):=fun x=>(x.cell _ _ (by simp)).trans (World.cell?_alloc_at #[.int .i64 s,.int .i64 d] 53 w.heap.size 1 rfl)
 have s2:∀ x:Since (w.alloc (.cells #[.int .i64 s,.int .i64 d] 53)),x.u.cell? ⟨b,0,none⟩=some (.slice (some ⟨g,0,none⟩) n cap):=fun x=>(x.cell _ _ (by simp;omega)).trans ((HB0.cell (p:=⟨b,0,none⟩) hb).trans c0)
 have s3:∀ x:Since (w.alloc (.cells #[.int .i64 s,.int .i64 d] 53)),x.u.cell? ⟨g,i*3+1,none⟩=some (.int .i64 t):=fun x=>(x.cell _ _ (by simp;omega)).trans ((HB0.cell (p:=⟨g,i*3+1,none⟩) hg).trans q2)
 have s4:∀ x:Since (w.alloc (.cells #[.int .i64 s,.int .i64 d] 53)),x.u.cell? ⟨g,i*3+2,none⟩=some (.int .i64 u):=fun x=>(x.cell _ _ (by simp;omega)).trans ((HB0.cell (p:=⟨g,i*3+2,none⟩) hg).trans q3)
 have hne:=since_ne (w.alloc (.cells #[.int .i64 s,.int .i64 d] 53))
 clear S O h e ha q1 q2 q3
 go_enter Tryz.func202,Tryz.ntmps202
 go_wp2
 refine wp_region_since (by kernel_rfl) (by kernel_rfl) ?_
 repeat (go_big_quiet_step ((go_at_call 178;exact Calls.since_of (less_v hlt _ hc hk))))
 refine wpQuiet_nil ?_
 rintro _ ⟨x,rfl⟩
 go_wp2
 go_ret
 exact ⟨rfl,HB0.trans (x.h.mono (by simp))⟩
end
end Go.Proofs.YtmaefimaeelkbaaGreatDoor
