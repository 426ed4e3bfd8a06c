/-
  Texts laid together: Ne2, Ne3, Ed0, Ed1, Ed2, Rd.
-/
import Derived.Test.YtipbhlofbpnpjaaGreatDoorE30
import Derived.Test.YtipbhlofbpnpjaaGreatDoorE28
import Derived.Test.YtipbhlofbpnpjaaGreatDoorE27
namespace Go.Proofs.YtipbhlofbpnpjaaGreatDoor
section
open Go.RowKit Go.Lib
def edF (bl:Nat->Bool) (cs:Nat->Int) (bs:Nat->Bool):Nat->Nat->Bool
 |0=>bl
 |k+1=>upd (edF bl cs bs k) (cs k).toNat (bs k)
def edC (bl:Nat->Bool) (cs:Nat->Int) (bs:Nat->Bool):Nat->Nat
 |0=>0
 |k+1=>edC bl cs bs k+if edF bl cs bs k (cs k).toNat=bs k then 0 else 1
theorem edC_le (bl:Nat->Bool)(cs:Nat->Int)(bs:Nat->Bool):∀ k,edC bl cs bs k<=k
 |0=>Nat.le_refl _
 |k+1=>by
  have:=edC_le bl cs bs k
  unfold edC
  split <;> omega
theorem edC_zero {bl:Nat->Bool}{cs:Nat->Int}{bs:Nat->Bool}:∀ {k},edC bl cs bs k=0->edF bl cs bs k=bl
 |0,_=>rfl
 |k+1,h=>by
  unfold edC at h
  split at h
  ·next e =>
   have:=edC_zero (k:=k) (by omega)
   unfold edF
   rw [upd_same e,this]
  ·omega
def edE (W H:Int) (cs:Nat->Int) (n:Nat):Int:=if 60<n then 2 else if (List.range n).all (fun i=>inB W H (cs i)) then 0 else 1
theorem edE_cases (W H:Int)(cs:Nat->Int)(n:Nat):(60<n/\edE W H cs n=2)\/(n<=60/\edE W H cs n=0/\∀ i,i<n->inB W H (cs i)=true)\/(n<=60/\edE W H cs n=1/\∃ i,i<n/\inB W H (cs i)=false/\∀ j,j<i->inB W H (cs j)=true):=by
 unfold edE
 by_cases h:60<n
 ·exact Or.inl ⟨h,if_pos h⟩
 ·rw [if_neg h]
  cases ha:(List.range n).all (fun i=>inB W H (cs i)) with
  |true=>exact Or.inr (Or.inl ⟨by omega,rfl,fun i hi=>List.all_eq_true.1 ha i (List.mem_range.2 hi)⟩)
  |false =>
   refine Or.inr (Or.inr ⟨by omega,rfl,?_⟩)
   have hx:∃ i,i<n/\inB W H (cs i)=false:=by
    obtain ⟨i,h1,h2⟩:=List.all_eq_false.1 ha
    exact ⟨i,List.mem_range.1 h1,by simpa using h2⟩
   have key:∀ m,(∃ i,i<m/\i<n/\inB W H (cs i)=false)->∃ i,i<n/\inB W H (cs i)=false/\∀ j,j<i->inB W H (cs j)=true:=by
    intro m
    induction m with
    |zero=>rintro ⟨i,h,_⟩;omega
    |succ m ih =>
     rintro ⟨i,h1,h2,h3⟩
     by_cases hm:∃ i,i<m/\i<n/\inB W H (cs i)=false
     ·exact ih hm
     ·have e:i=m:=by
       by_cases e:i=m
       ·exact e
       ·exact absurd ⟨i,by omega,h2,h3⟩ hm
      subst e
      exact ⟨i,h2,h3,fun j hj=>by
       cases hb:inB W H (cs j) with
       |true=>rfl
       |false=>exact absurd ⟨j,hj,by omega,hb⟩ hm⟩
   obtain ⟨i,h1,h2⟩:=hx
   exact key n ⟨i,h1,h1,h2⟩
def edV (e:Int):Value:=if e=0 then .nilIface else .iface 39 (.int .i64 e)
set_option maxHeartbeats 2000000 in
theorem ncheck_any {rb pb mb sb n cap:Nat}{W H V:Int}{bl:Nat->Bool}{A:Option Addr}{cs:Nat->Int}{bs:Nat->Bool}(w:World)(c1:w.cell? ⟨sb,1,none⟩=some (.pointer (some ⟨rb,0,none⟩)))(G:GraphAt w rb pb mb W H V bl)(hq:OldEd w A n cs bs) :
  Calls Tryz.prog 46 #[.pointer (some ⟨sb,0,none⟩),.slice A n cap] w fun e w'=>e=.returned (edV (edE W H cs n))/\Below w.heap.size w w':=by
 rcases edE_cases W H cs n with ⟨h60,he⟩|hh
 ·rw [he]
  have h60':(60:Int)<(n:Int):=by omega
  unfold edV
  go_enter Tryz.func46,Tryz.ntmps46
  go_wp2
  go_ret
  exact ⟨rfl,Below.refl _ _⟩
 ·have h60:¬ (60:Int)<(n:Int):=by
   rcases hh with h|h
   ·have:=h.1;omega
   ·have:=h.1;omega
  have HH:Hid ((edE W H cs n=0/\∀ i,i<n->inB W H (cs i)=true)\/(edE W H cs n=1/\∃ i,i<n/\inB W H (cs i)=false/\∀ j,j<i->inB W H (cs j)=true)):=hh.elim (fun h=>Or.inl h.2) (fun h=>Or.inr h.2)
  have hgg:=ggrid_any w G
  have HQ:Hid (OldEd w A n cs bs):=hq
  obtain ⟨EV,hEV⟩:∃ EV,edV (edE W H cs n)=EV:=⟨_,rfl⟩
  rw [hEV]
  have HEV:Hid (edV (edE W H cs n)=EV):=hEV
  clear hh G hq hEV
  go_enter Tryz.func46,Tryz.ntmps46
  go_wp2_with fail
  refine hgg.mono ?_
  rintro e wb ⟨rfl,hb1,hz1,g1,_⟩
  have HQ1:Hid (OldEd wb A n cs bs):=HQ.out.below hb1
  clear hgg c1
  go_wp2
  go_loopw [21] (fun iv wr=>∃ i:Nat,i<=n/\iv=.int .i64 i/\(∀ j,j<i->inB W H (cs j)=true)/\Below wb.heap.size wb wr)
   (fun i _=>n - (intOf i).toNat)
  case atStart=>exact ⟨0,Nat.zero_le _,rfl,fun j hj=>absurd hj (Nat.not_lt_zero j),Below.refl _ _⟩
  case round =>
   obtain ⟨i,hi,rfl,hall,hB⟩:=hrel
   have HAL:Hid (∀ j,j<i->inB W H (cs j)=true):=hall
   have BW:=hb1.trans (hB.mono hb1.size)
   clear hall
   by_cases hlt:i<n
   ·obtain ⟨bA,oA,rfl,hbA,f0,t0⟩:=(HQ1.out.below hB) i hlt
    have i1:(i:Int)<(n:Int):=by omega
    have HCI:Hid (∀ b,inB W H (cs i)=b->b=true->∀ j,j<i+1->inB W H (cs j)=true):=fun b h1 h2 j hj=>by
     by_cases e:j=i
     ·rw [e,h1,h2]
     ·exact HAL.out j (by omega)
    have HNO:Hid (inB W H (cs i)=false->edE W H cs n=1):=fun h=>by
     rcases HH.out with ⟨_,h2⟩|⟨h2,_⟩
     ·rw [h2 i hlt] at h;cases h
     ·exact h2
    generalize cs i=ci at *
    generalize bs i=bi at *
    have b3:Below wr.heap.size wr (wr.alloc (.cells #[.int .i64 ci,.bool bi] 62)):=(Below.refl _ _).alloc (Nat.le_refl _) _
    have D3:=hB.trans (b3.mono hB.size)
    have g3:=g1.below D3 hz1
    have q0:(wr.alloc (.cells #[.int .i64 ci,.bool bi] 62)).cell? ⟨wr.heap.size,0,none⟩=some (.int .i64 ci):=World.cell?_alloc_at #[.int .i64 ci,.bool bi] 62 wr.heap.size 0 rfl
    cases hin:inB W H ci with
    |true =>
     obtain ⟨c,rfl⟩:∃ c:Nat,ci=(c:Int):=⟨ci.toNat,by have h:0<=ci/\ci<W*H:=of_decide_eq_true hin;omega⟩
     have hfr:=free_in c _ g3 hin
     have HCJ:Hid (∀ j,j<i+1->inB W H (cs j)=true):=HCI.out _ hin rfl
     clear HNO HCI
     go_wp2_with fail
     refine hfr.mono ?_
     rintro e w5 ⟨rfl,m5,hw5⟩
     have D5:Below wb.heap.size wb w5:=by rw [hw5];exact below_drewN D3 _
     clear hw5 hfr g3 q0
     go_wp2
     go_roundw
     case rel=>exact ⟨i+1,by omega,by go_num,HCJ.out,D5⟩
     case measure=>simp [intOf];omega
    |false =>
     have hfr:=free_out ci _ g3 hin
     have he:=HNO.out hin
     clear HNO HCI
     go_wp2_with fail
     refine hfr.mono ?_
     rintro e w5 ⟨rfl,m5,hw5⟩
     have D5:Below wb.heap.size wb w5:=by rw [hw5];exact below_drewN D3 _
     clear hw5 hfr g3 q0
     have HE:Hid (.iface 39 (.int .i64 1)=EV):=by rw [<- HEV.out,he];rfl
     clear he
     go_wp2
     go_ret
     exact ⟨by rw [<- HE.out];rfl,hb1.trans (D5.mono hb1.size)⟩
   ·have e:i=n:=by omega
    subst e
    have he:edE W H cs i=0:=by
     rcases HH.out with ⟨h,_⟩|⟨_,j,h1,h2,_⟩
     ·exact h
     ·rw [HAL.out j h1] at h2;cases h2
    have HE:Hid (.nilIface=EV):=by rw [<- HEV.out,he];rfl
    clear he
    go_wp2
    go_ret
    exact ⟨by rw [<- HE.out];rfl,BW⟩
theorem Lvd.keep {F:Nat->Prop}{w w':World}{N lb most:Nat}{W H:Int}{bl:Nat->Bool}{es:Nat->List LE}(h:Lvd w N lb most W H bl es)(K:Keep F w w')(hF:∀ g,N<=g->¬ F g):Lvd w' N lb most W H bl es:=by
 obtain ⟨vb,eb,k,st,f,hR,hO,V⟩:=h
 refine ⟨vb,eb,k,st,f,hR,hO,V.keep K (fun g hg=>hF g ?_)⟩
 rcases hg with h|h|h|⟨i,v,h1,h2⟩
 ·rw [h];exact V.nb.1
 ·rw [h];exact V.nb.2.1
 ·rw [h];exact V.nb.2.2
 ·obtain ⟨i0,hi⟩:=V.no i v h1
  obtain ⟨v',e,ho⟩:=V.row _ hi
  rw [Int.toNat_of_nonneg i0,h1] at e
  cases e
  exact (ho.lt g h2).1
def EdP (w w':World) (e:Ending) (lo hi sb:Nat) (W H V:Int) (bl:Nat->Bool) (most n:Nat) (cs:Nat->Int) (bs:Nat->Bool):Prop :=
 (edE W H cs n≠0/\e=.returned (.tuple #[.int .i64 0,.iface 39 (.int .i64 (edE W H cs n))])/\Below w.heap.size w w') \/
 (edE W H cs n=0/\n<=60/\(∀ i,i<n->inB W H (cs i)=true)/\e=.returned (.tuple #[.int .i64 (edC bl cs bs n:Nat),.nilIface])/\Sv w' lo hi sb W H (V+(edC bl cs bs n:Nat)) (edF bl cs bs n) most/\Keep (fun k=>lo<=k/\k<hi) w w')
end
section
open Go.RowKit Go.Lib
theorem set_keep1 (w:World)(B o:Nat)(v:Value):Keep (fun k=>k=B) w (w.setCell ⟨B,o,none⟩ v):=(Keep.refl (fun k=>k=B) w).setCell (p:=⟨B,o,none⟩) (fun _=>rfl) _
theorem Hf.full {w:World}{lo hi sb rb pb mb lb tb gb x N most:Nat}{W H V:Int}{bl:Nat->Bool}(S:Hf w lo hi sb rb pb mb tb gb x W H V bl most)(L:Lvd w N lb most W H bl (esF W H bl))(hN:sb<N)(hlo:2<=lo)(m1:1<=most)(m6:most<=6):Sv (w.setCell ⟨sb,2,none⟩ (.pointer (some ⟨lb,0,none⟩))) lo hi sb W H V bl most:=by
 have K:=set_keep1 w sb 2 (.pointer (some ⟨lb,0,none⟩))
 obtain ⟨a1,a2,a3⟩:=S.l1
 obtain ⟨a4,a5,a6⟩:=S.l2
 obtain ⟨a7,a8,a9,a10⟩:=S.l3
 obtain ⟨u,c2⟩:=S.c2
 have ne:∀ {i:Nat},i≠2->(⟨sb,2,none⟩:Addr)≠⟨sb,i,none⟩:=fun h q=>h (Addr.mk.inj q).2.1.symm
 refine ⟨rb,pb,mb,lb,tb,gb,N,x,V,?_,?_,World.cell?_setCell_same _ _ _ c2,?_,by simpa using S.fz,S.gi.keep K (fun h=>by omega) (fun h=>by omega) (fun h=>by omega) (fun g hg h=>hg.2.2 h),L.keep K (fun g hg h=>by omega),S.ta.keep K (fun h=>by omega) (fun h=>by omega) (fun h=>by omega),⟨a1,a2,a3,by have:=S.l4;omega⟩,S.l2,S.l3,S.l4,m1,m6,rfl⟩
 ·rw [World.cell?_setCell_other _ _ _ _ (ne (by decide))];exact S.c0
 ·rw [World.cell?_setCell_other _ _ _ _ (ne (by decide))];exact S.c1
 ·rw [World.cell?_setCell_other _ _ _ _ (ne (by decide))];exact S.c3
set_option maxHeartbeats 4000000 in
theorem nedit_any {lo hi sb most n cap:Nat}{W H V:Int}{bl:Nat->Bool}{A:Option Addr}{cs:Nat->Int}{bs:Nat->Bool}(w:World)(S:Sv w lo hi sb W H V bl most)(hq:OldEd w A n cs bs)(hA:0<n->∀ b o,A=some ⟨b,o,none⟩->¬ (lo<=b/\b<hi))(hlo:2<=lo)(v1:0<=V)(v2:V<=900000) :
  Calls Tryz.prog 19 #[.pointer (some ⟨sb,0,none⟩),.slice A n cap] w fun e w'=>EdP w w' e lo hi sb W H V bl most n cs bs:=by
 obtain ⟨rb,pb,mb,lb,tb,gb,N,x,V2,S⟩:=S
 have hck:=ncheck_any (cap:=cap) w S.c1 S.gr hq
 by_cases hne:edE W H cs n=0
 ·have hE:edV (edE W H cs n)=.nilIface:=if_pos hne
  obtain ⟨n60,hall⟩:n<=60/\∀ i,i<n->inB W H (cs i)=true:=by
   rcases edE_cases W H cs n with ⟨_,h⟩|⟨h1,_,h2⟩|⟨_,h,_⟩
   ·omega
   ·exact ⟨h1,h2⟩
   ·omega
  have HALL:Hid (edE W H cs n=0/\∀ i,i<n->inB W H (cs i)=true):=⟨hne,hall⟩
  rw [hE] at hck
  clear hE hne hall
  have HA:Hid (0<n->∀ b o,A=some ⟨b,o,none⟩->¬ (lo<=b/\b<hi)):=hA
  have HQ:Hid (OldEd w A n cs bs):=hq
  have HF0:=S.hf
  obtain ⟨a1,a2,a3⟩:=S.l1
  obtain ⟨a4,a5,a6⟩:=S.l2
  obtain ⟨a7,a8,a9,a10⟩:=S.l3
  have a11:=S.l4
  have m1:=S.m1
  have m6:=S.m6
  have hsl:=S.lt
  have HW:Hid (∀ k,Wr pb mb tb gb k->lo<=k/\k<hi):=fun k h=>by
   rcases h with h|h|h|h <;> omega
  have HSV:Hid (SvAt w lo hi sb rb pb mb lb tb gb N x W H V V2 bl most):=S
  clear S hA hq
  go_enter Tryz.func19,Tryz.ntmps19
  go_wp2_with fail
  refine hck.mono ?_
  rintro e w1 ⟨rfl,hb1⟩
  have F1:=HF0.below hb1
  have HQ1:Hid (OldEd w1 A n cs bs):=HQ.out.below hb1
  clear hck HF0
  go_wp2
  go_loopw [7,18] (fun cv iv wr=>∃ (i cn:Nat) (bl':Nat->Bool),i<=n/\iv=.int .i64 i/\cv=.int .i64 (cn:Int)/\cn<=i/\Hid (edC bl cs bs i=cn/\edF bl cs bs i=bl')/\Hf wr lo hi sb rb pb mb tb gb x W H (V+(cn:Int)) bl' most/\Hid (cn=0->Below w1.heap.size w1 wr)/\Keep (Wr pb mb tb gb) w1 wr)
   (fun _ i _=>n - (intOf i).toNat)
  case atStart=>exact ⟨0,0,bl,Nat.zero_le _,rfl,rfl,Nat.le_refl _,⟨rfl,rfl⟩,by simpa using F1,fun _=>Below.refl _ _,Keep.refl _ _⟩
  case round =>
   obtain ⟨i,cn,bl',hi',rfl,rfl,hcn,hE,F,hZ,K⟩:=hrel
   by_cases hlt:i<n
   ·obtain ⟨bA,oA,eA,hbA,f0',t0'⟩:=HQ1.out i hlt
    have hnw:¬ Wr pb mb tb gb bA:=fun h=>HA.out (by omega) bA oA eA (HW.out _ h)
    have f0:=K.cellOf f0' hnw
    have t0:=K.cellOf t0' hnw
    subst eA
    have i1:(i:Int)<(n:Int):=by omega
    have hci:=HALL.out.2 i hlt
    have hcp:0<=cs i:=by
     have h:0<=cs i/\cs i<W*H:=of_decide_eq_true hci
     exact h.1
    obtain ⟨c,hc⟩:∃ c:Nat,cs i=(c:Int):=⟨(cs i).toNat,by omega⟩
    obtain ⟨v,hv⟩:∃ v,bs i=v:=⟨_,rfl⟩
    have HN1:Hid (bl' c=v->edC bl cs bs (i+1)=cn/\edF bl cs bs (i+1)=bl'):=fun h=>by
     have e:edF bl cs bs i (cs i).toNat=bs i:=by rw [hE.out.2,hc,Int.toNat_natCast,hv];exact h
     refine ⟨?_,?_⟩
     ·show edC bl cs bs i+(if _ then 0 else 1)=cn
      rw [if_pos e,hE.out.1];rfl
     ·show upd (edF bl cs bs i) (cs i).toNat (bs i)=bl'
      rw [upd_same e,hE.out.2]
    have HN2:Hid (bl' c=!v->edC bl cs bs (i+1)=cn+1/\edF bl cs bs (i+1)=upd bl' c v):=fun h=>by
     have e:¬ edF bl cs bs i (cs i).toNat=bs i:=by rw [hE.out.2,hc,Int.toNat_natCast,hv,h];cases v <;> simp
     refine ⟨?_,?_⟩
     ·show edC bl cs bs i+(if _ then 0 else 1)=cn+1
      rw [if_neg e,hE.out.1]
     ·show upd (edF bl cs bs i) (cs i).toNat (bs i)=_
      rw [hE.out.2,hc,Int.toNat_natCast,hv]
    rw [hc] at f0 hci
    rw [hv] at t0
    clear hc hv hcp f0' t0' hE
    have b3:Below wr.heap.size wr (wr.alloc (.cells #[.int .i64 (c:Int),.bool v] 62)):=(Below.refl _ _).alloc (Nat.le_refl _) _
    have q0:(wr.alloc (.cells #[.int .i64 (c:Int),.bool v] 62)).cell? ⟨wr.heap.size,0,none⟩=some (.int .i64 (c:Int)):=World.cell?_alloc_at #[.int .i64 (c:Int),.bool v] 62 wr.heap.size 0 rfl
    have q1:(wr.alloc (.cells #[.int .i64 (c:Int),.bool v] 62)).cell? ⟨wr.heap.size,1,none⟩=some (.bool v):=World.cell?_alloc_at #[.int .i64 (c:Int),.bool v] 62 wr.heap.size 1 rfl
    have hst:=nset_any v _ (F.below b3) hci (by omega) (by omega) hlo
    have K3:=K.below b3
    have HZ3:Hid (cn=0->Below w1.heap.size w1 (wr.alloc (.cells #[.int .i64 (c:Int),.bool v] 62))):=fun h=>(hZ.out h).trans (b3.mono (hZ.out h).size)
    have F3:=F.below b3
    clear F K hZ b3 hnw
    go_wp2_with fail
    refine hst.mono ?_
    rintro e w5 hcs
    clear hst q0 q1 f0 t0
    generalize wr.alloc (.cells #[.int .i64 (c:Int),.bool v] 62)=wa at *
    rcases hcs with ⟨hv,rfl,hb5⟩|⟨hv,rfl,F5,K5⟩
    ·have HN:Hid (edC bl cs bs (i+1)=cn/\edF bl cs bs (i+1)=bl'):=HN1.out hv
     have F5:=F3.below hb5
     have K5:=K3.below hb5
     have HZ5:Hid (cn=0->Below w1.heap.size w1 w5):=fun h=>(HZ3.out h).trans (hb5.mono (HZ3.out h).size)
     clear HN1 HN2 hv F3 K3
     go_wp2
     go_roundw
     case rel=>exact ⟨i+1,cn,bl',by omega,by go_num,rfl,by omega,HN.out,F5,HZ5.out,K5⟩
     case measure=>simp [intOf];omega
    ·have HN:Hid (edC bl cs bs (i+1)=cn+1/\edF bl cs bs (i+1)=upd bl' c v):=HN2.out hv
     have K5':=K3.trans K5 (fun _ _ h=>h)
     have e1:V+(cn:Int)+1=V+((cn+1:Nat):Int):=by omega
     rw [e1] at F5
     have HF5:Hid (Hf w5 lo hi sb rb pb mb tb gb x W H (V+((cn+1:Nat):Int)) (upd bl' c v) most):=F5
     clear HN1 HN2 hv F3 K3 e1 F5
     go_wp2
     go_roundw
     case rel=>exact ⟨i+1,cn+1,upd bl' c v,by omega,by go_num,by go_num,by omega,HN.out,HF5.out,fun h=>absurd h (Nat.succ_ne_zero cn),K5'⟩
     case measure=>simp [intOf];omega
   ·have e:i=n:=by omega
    subst e
    have HK:Hid (Keep (fun k=>lo<=k/\k<hi) w wr):=(Keep.of_below hb1).trans K (fun k _ h=>HW.out k h)
    by_cases hz:cn=0
    ·have HB:Hid (Below w.heap.size w wr):=hb1.trans ((hZ.out hz).mono hb1.size)
     subst hz
     clear F K
     go_wp2
     go_ret2
     refine Or.inr ⟨HALL.out.1,n60,HALL.out.2,?_,?_,HK.out⟩
     ·rw [hE.out.1];rfl
     ·rw [edC_zero hE.out.1,hE.out.1]
      rw [show V+((0:Nat):Int)=V by omega]
      exact ⟨rb,pb,mb,lb,tb,gb,N,x,V2,HSV.out.below HB.out⟩
    ·have hz':(0:Int)<(cn:Int):=by omega
     have e0:Below wr.heap.size wr wr.drew:=(Below.refl _ _).drew
     have F1:=F.below e0
     have gw1:=F1.side.1
     have hl:=new_levels wr.drew F1.gi.graph (esF_ok gw1) m1 m6
     have c0:=F1.c0
     have c1:=F1.c1
     obtain ⟨u,c2⟩:=F1.c2
     have z2:=F1.fz
     have hsw:sb<wr.drew.heap.size:=F1.lt
     have HFF:Hid (Hf wr.drew lo hi sb rb pb mb tb gb x W H (V+(cn:Int)) bl' most):=F1
     clear F K hZ F1
     go_wp2_with fail
     go_region_held3 (fun w'=>w'.cell? ⟨sb,1,none⟩=some (.pointer (some ⟨rb,0,none⟩))/\w'.cell? ⟨sb,0,none⟩=some (.int .i64 (most:Int))) (first|with_reducible exact ⟨c1,c0⟩|with_reducible exact ⟨c1',c0'⟩)
      (first|(go_at_call 48;refine hl.mono ?_;rintro r w6 ⟨lb6,rfl,L6,h6⟩;have c0:=(h6.cell (World.block_lt_of_cell? _ _ c0)).trans c0;have c1:=(h6.cell (World.block_lt_of_cell? _ _ c1)).trans c1;have c2:=(h6.cell (World.block_lt_of_cell? _ _ c2)).trans c2;have z2:=(h6.frozen (p:=⟨sb,2,none⟩) hsw).trans z2;have c1':(w6.setCell ⟨sb,2,none⟩ (.pointer (some ⟨lb6,0,none⟩))).cell? ⟨sb,1,none⟩=some (.pointer (some ⟨rb,0,none⟩)):=((World.cell?_setCell_other _ _ _ _ (fun q=>by cases q)).trans c1);have c0':(w6.setCell ⟨sb,2,none⟩ (.pointer (some ⟨lb6,0,none⟩))).cell? ⟨sb,0,none⟩=some (.int .i64 (most:Int)):=((World.cell?_setCell_other _ _ _ _ (fun q=>by cases q)).trans c0)))
     have SV:=(HFF.out.below h6).full L6 hsw hlo m1 m6
     have HK6:Hid (Keep (fun k=>lo<=k/\k<hi) w (w6.setCell ⟨sb,2,none⟩ (.pointer (some ⟨lb6,0,none⟩)))):=((HK.out.below e0).below h6).trans (set_keep1 w6 sb 2 _) (fun k _ h=>by rw [h];exact ⟨by omega,a11⟩)
     have HSV6:Hid (Sv (w6.setCell ⟨sb,2,none⟩ (.pointer (some ⟨lb6,0,none⟩))) lo hi sb W H (V+(cn:Int)) bl' most):=SV
     clear SV L6
     go_wp2
     go_ret2
     refine Or.inr ⟨HALL.out.1,n60,HALL.out.2,?_,?_,HK6.out⟩
     ·rw [hE.out.1];rfl
     ·rw [hE.out.1,hE.out.2];exact HSV6.out
 ·have hE:edV (edE W H cs n)=.iface 39 (.int .i64 (edE W H cs n)):=if_neg hne
  have HNE:Hid (edE W H cs n≠0):=hne
  rw [hE] at hck
  clear hE hne S hq hA
  have HP:Hid (∀ w',Below w.heap.size w w'->EdP w w' (.returned (.tuple #[.int .i64 0,.iface 39 (.int .i64 (edE W H cs n))])) lo hi sb W H V bl most n cs bs):=fun w' h=>Or.inl ⟨HNE.out,rfl,h⟩
  generalize edE W H cs n=ee at hck HP
  go_enter Tryz.func19,Tryz.ntmps19
  go_wp2_with fail
  refine hck.mono ?_
  rintro e w1 ⟨rfl,hb1⟩
  clear hck
  go_wp2
  go_ret2
  exact HP.out _ hb1
end
section
open Go.RowKit Go.Lib
end
section
open Go.RowKit Go.Lib
theorem refAt_setV {w:World}{b:Nat}{W H V:Int}{bl:Nat->Bool}(g:RefAt w b W H V bl)(c:Nat)(hc:c<256)(v:Bool)(V':Int):RefAt ((w.setCell ⟨b,2+c,none⟩ (.bool v)).setCell ⟨b,258,none⟩ (.int .i64 V')) b W H V' (upd bl c v):=by
 have hne:(⟨b,2+c,none⟩:Addr)≠⟨b,258,none⟩:=addr_ne (by omega)
 refine ⟨g.w1,g.w2,g.h1,g.h2,?_,?_,?_,fun i hi=>?_⟩
 ·rw [World.cell?_setCell_other _ _ _ _ (addr_ne (by omega)),World.cell?_setCell_other _ _ _ _ (addr_ne (by omega))];exact g.c0
 ·rw [World.cell?_setCell_other _ _ _ _ (addr_ne (by omega)),World.cell?_setCell_other _ _ _ _ (addr_ne (by omega))];exact g.c1
 ·exact World.cell?_setCell_same _ _ _ (u:=.int .i64 V) (by rw [World.cell?_setCell_other _ _ _ _ hne];exact g.c2)
 ·rw [World.cell?_setCell_other _ _ _ _ (addr_ne (by omega))]
  unfold upd
  by_cases e:i=c
  ·rw [if_pos e,e]
   exact World.cell?_setCell_same _ _ _ (g.cs c hc)
  ·rw [if_neg e,World.cell?_setCell_other _ _ _ _ (addr_ne (by omega))];exact g.cs i hi
set_option maxHeartbeats 400000 in
theorem rset_newV {b:Nat}{W H V:Int}{bl:Nat->Bool}(c:Nat)(v:Bool)(w:World)(g:RefAt w b W H V bl)(f:Free w b)(hr:inB W H c=true)(hv:bl c=!v) :
  Calls Tryz.prog 32 #[.pointer (some ⟨b,0,none⟩),.int .i64 c,.bool v] w fun e w'=>e=.returned (.tuple #[.bool true,.int .i64 0])/\Touch b w w'/\(∃ V',RefAt w' b W H V' (upd bl c v))/\Free w' b:=by
 have hc:0<=(c:Int)/\(c:Int)<W*H:=of_decide_eq_true hr
 obtain ⟨k1,k2⟩:=wh_bd g.w1 g.w2 g.h1 g.h2
 obtain ⟨q1,q2⟩:=hc
 have q3:(c:Int)<256:=by omega
 have h:=g.cs c (by omega)
 have c2:=g.c2
 have f1:=f 258
 have f2:=f (2+c)
 rw [hv] at h
 have hx:((!v) == v)=false:=by cases v <;> rfl
 have hG:=fun m V'=>refAt_setV (g.drewN m) c (by omega) v V'
 have hne:(⟨b,2+c,none⟩:Addr)≠⟨b,258,none⟩:=addr_ne (by omega)
 have c3:(w.setCell ⟨b,2+c,none⟩ (.bool v)).cell? ⟨b,258,none⟩=some (.int .i64 V):=by rw [World.cell?_setCell_other _ _ _ _ hne];exact c2
 go_enter Tryz.func32,Tryz.ntmps32
 go_wp2_with (go_at_call 26;refine (ris_in _ _ g hr).mono ?_;rintro e w' ⟨rfl,m,rfl⟩)
 go_ret2
 exact ⟨rfl,(((Touch.refl b w).drewN m).setCell _ _).setCell _ _,⟨_,hG m _⟩,fun o=>by simpa using f o⟩
theorem Sv.lo_lt {w:World}{lo hi sb most:Nat}{W H V:Int}{bl:Nat->Bool}(S:Sv w lo hi sb W H V bl most):lo<w.heap.size:=by
 obtain ⟨rb,pb,mb,lb,tb,gb,N,x,V2,S⟩:=S
 have h1:=S.l1
 have h2:=S.l2
 have h3:=S.l3
 have h4:=S.lt
 omega
theorem rset_any {b:Nat}{W H V:Int}{bl:Nat->Bool}(c:Nat)(v:Bool)(w:World)(g:RefAt w b W H V bl)(f:Free w b)(hr:inB W H c=true) :
  Calls Tryz.prog 32 #[.pointer (some ⟨b,0,none⟩),.int .i64 c,.bool v] w fun e w'=>e=.returned (.tuple #[.bool (!decide (bl c=v)),.int .i64 0])/\Keep (fun k=>k=b) w w'/\(∃ V',RefAt w' b W H V' (upd bl c v))/\Free w' b:=by
 by_cases hv:bl c=v
 ·refine (rset_same c v w g hr hv).mono ?_
  rintro e w' ⟨rfl,m,rfl⟩
  refine ⟨by rw [decide_eq_true hv];rfl,Keep.of_below (below_drewN (Below.refl _ _) m),⟨V,?_⟩,fun o=>f o⟩
  rw [upd_same hv]
  exact g.drewN m
 ·have hv':bl c=!v:=by cases hb:bl c <;> cases v <;> simp_all
  refine (rset_newV c v w g f hr hv').mono ?_
  rintro e w' ⟨rfl,h1,h2,h3⟩
  exact ⟨by rw [decide_eq_false hv];rfl,h1.keep,h2,h3⟩
section
variable {W H : Int} {bl bl' : Nat → Bool}
end
end
section
open Go.RowKit Go.Lib
theorem edF_nrm {W H:Nat}{bl:Nat->Bool}{cs:Nat->Int}{bs:Nat->Bool}:∀ {n},(∀ i,i<n->inB W H (cs i)=true)->edF (nrm W H bl) cs bs n=nrm W H (edF bl cs bs n)
 |0,_=>rfl
 |n+1,h=>by
  show upd (edF (nrm W H bl) cs bs n) (cs n).toNat (bs n)=_
  rw [edF_nrm (fun i hi=>h i (by omega))]
  have q:0<=cs n/\cs n<(W:Int)*(H:Int):=of_decide_eq_true (h n (Nat.lt_succ_self n))
  have q2:(cs n).toNat<H*W:=by
   rw [<- Int.natCast_mul] at q
   rw [Nat.mul_comm]
   omega
  funext k
  have at_:∀ (b:Nat->Bool) k,nrm W H b k=if k<H*W then b k else false:=fun b k=>by
   unfold nrm cellsF
   rw [List.getD_eq_getElem?_getD,List.getElem?_map]
   split
   ·next hk=>rw [List.getElem?_range hk];rfl
   ·next hk=>rw [List.getElem?_eq_none (by rw [List.length_range];omega)];rfl
  rw [at_]
  show (if k=(cs n).toNat then bs n else nrm W H (edF bl cs bs n) k)=_
  rw [at_]
  show _=if k<H*W then (if k=(cs n).toNat then bs n else edF bl cs bs n k) else false
  by_cases e:k=(cs n).toNat
  ·rw [if_pos e,if_pos (by omega),if_pos e]
  ·rw [if_neg e]
   split <;> rfl
end
section
open Go.RowKit Go.Lib
set_option maxHeartbeats 400000 in
theorem tnum_nil (w:World):Calls Tryz.prog 21 #[.nilIface] w fun e w'=>e=.returned (.int .i64 0)/\w'=w:=by
 go_enter Tryz.func21,Tryz.ntmps21
 go_wp2
 go_ret
 exact ⟨rfl,rfl⟩
set_option maxHeartbeats 400000 in
theorem tnum_err (w:World)(n:Int):Calls Tryz.prog 21 #[.iface 39 (.int .i64 n)] w fun e w'=>e=.returned (.int .i64 n)/\w'=w:=by
 have h:∀ (v:Value) (w:World),(Instr.typeAssert (.iface 39 v) 46 39 true).run Tryz.prog w=.ok (.tuple #[v,.bool true]) w:=fun v w=>by kernel_rfl
 go_enter Tryz.func21,Tryz.ntmps21
 go_wp2
 go_ret
 exact ⟨rfl,rfl⟩
def REdP (w w':World) (e:Ending) (mb:Nat) (W H:Int) (bl:Nat->Bool) (n:Nat) (cs:Nat->Int) (bs:Nat->Bool):Prop :=
 (edE W H cs n≠0/\e=.returned (.tuple #[.int .i64 0,.int .i64 (edE W H cs n)])/\Below w.heap.size w w') \/
 (edE W H cs n=0/\e=.returned (.tuple #[.int .i64 (edC bl cs bs n:Nat),.int .i64 0])/\(∃ V',RefAt w' mb W H V' (edF bl cs bs n))/\Free w' mb/\Keep (fun k=>k=mb) w w')
set_option maxHeartbeats 4000000 in
theorem redit_any {xb mb n cap:Nat}{W H V:Int}{bl:Nat->Bool}{A:Option Addr}{cs:Nat->Int}{bs:Nat->Bool}(w:World)(cx:w.cell? ⟨xb,0,none⟩=some (.pointer (some ⟨mb,0,none⟩)))(g:RefAt w mb W H V bl)(f:Free w mb)(hxm:xb≠mb)(hq:OldEd w A n cs bs)(hA:0<n->∀ b o,A=some ⟨b,o,none⟩->b≠mb) :
  Calls Tryz.prog 20 #[.pointer (some ⟨xb,0,none⟩),.slice A n cap] w fun e w'=>REdP w w' e mb W H bl n cs bs:=by
 have lx:=World.block_lt_of_cell? _ _ cx
 have lm:=World.block_lt_of_cell? _ _ g.c0
 rcases edE_cases W H cs n with ⟨h60,he⟩|hh
 ·have h60':(60:Int)<(n:Int):=by omega
  have HP:Hid (REdP w w (.returned (.tuple #[.int .i64 0,.int .i64 2])) mb W H bl n cs bs):=Or.inl ⟨by rw [he];decide,by rw [he],Below.refl _ _⟩
  clear he
  go_enter Tryz.func20,Tryz.ntmps20
  go_wp2
  go_ret2
  exact HP.out
 ·have h60:¬ (60:Int)<(n:Int):=by
   rcases hh with h|h
   ·have:=h.1;omega
   ·have:=h.1;omega
  have n60:n<=60:=by omega
  have HH:Hid ((edE W H cs n=0/\∀ i,i<n->inB W H (cs i)=true)\/(edE W H cs n=1/\∃ i,i<n/\inB W H (cs i)=false/\∀ j,j<i->inB W H (cs j)=true)):=hh.elim (fun h=>Or.inl h.2) (fun h=>Or.inr h.2)
  have HQ:Hid (OldEd w A n cs bs):=hq
  have HA:Hid (0<n->∀ b o,A=some ⟨b,o,none⟩->b≠mb):=hA
  have HX:Hid (∀ w',Below w.heap.size w w'->w'.cell? ⟨xb,0,none⟩=some (.pointer (some ⟨mb,0,none⟩))/\RefAt w' mb W H V bl):=fun w' hb=>⟨(hb.cell lx).trans cx,g.below hb lm⟩
  have HFM:Hid (Free w mb):=f
  have HGM:Hid (RefAt w mb W H V bl):=g
  have HCX:Hid (w.cell? ⟨xb,0,none⟩=some (.pointer (some ⟨mb,0,none⟩))):=cx
  clear hh hq hA cx g f
  go_enter Tryz.func20,Tryz.ntmps20
  go_wp2
  go_loopw [6] (fun iv wr=>∃ i:Nat,i<=n/\iv=.int .i64 i/\Hid (∀ j,j<i->inB W H (cs j)=true)/\Below w.heap.size w wr)
   (fun i _=>n - (intOf i).toNat)
  case atStart=>exact ⟨0,Nat.zero_le _,rfl,fun j hj=>absurd hj (Nat.not_lt_zero j),Below.refl _ _⟩
  case round =>
   obtain ⟨i,hi,rfl,HAL,hB⟩:=hrel
   by_cases hlt:i<n
   ·obtain ⟨bA,oA,eA,hbA,f0',_⟩:=(HQ.out.below hB) i hlt
    subst eA
    have i1:(i:Int)<(n:Int):=by omega
    have HCI:Hid (inB W H (cs i)=true->∀ j,j<i+1->inB W H (cs j)=true):=fun h j hj=>by
     by_cases e:j=i
     ·rw [e,h]
     ·exact HAL.out j (by omega)
    have HNO:Hid (inB W H (cs i)=false->edE W H cs n=1):=fun h=>by
     rcases HH.out with ⟨_,h2⟩|⟨h2,_⟩
     ·rw [h2 i hlt] at h;cases h
     ·exact h2
    generalize cs i=ci at *
    have e0:Below wr.heap.size wr wr.drew:=(Below.refl _ _).drew
    have E0:=hB.trans (e0.mono hB.size)
    have f0:wr.drew.cell? ⟨bA,oA+i*2,none⟩=some (.int .i64 ci):=f0'
    obtain ⟨c0,g0⟩:=HX.out _ E0
    have CC:Hid (∀ w',Below wr.drew.heap.size wr.drew w'->w'.cell? ⟨xb,0,none⟩=some (.pointer (some ⟨mb,0,none⟩))/\w'.cell? ⟨bA,oA+i*2,none⟩=some (.int .i64 ci)):=fun w' h=>⟨(h.cell (World.block_lt_of_cell? _ _ c0)).trans c0,(h.cell (World.block_lt_of_cell? _ _ f0)).trans f0⟩
    have d0:Below wr.drew.heap.size wr.drew wr.drew:=Below.refl _ _
    cases hin:inB W H ci with
    |true =>
     have his:=ris_in ci wr.drew g0 hin
     have HCJ:Hid (∀ j,j<i+1->inB W H (cs j)=true):=HCI.out hin
     clear HNO HCI hin f0' g0
     go_upto_region 6 with fail
     clear f0 c0
     go_region_held3 (fun w'=>w'.cell? ⟨xb,0,none⟩=some (.pointer (some ⟨mb,0,none⟩))/\w'.cell? ⟨bA,oA+i*2,none⟩=some (.int .i64 ci)) (first|with_reducible exact CC.out _ d0|with_reducible exact CC.out _ d5)
      (first|(go_at_call 26;refine his.mono ?_;rintro r w5 ⟨rfl,m5,hw5⟩;have d5:Below wr.drew.heap.size wr.drew w5:=(by rw [hw5];exact below_drewN (Below.refl _ _) _);clear hw5))
     have D5:=E0.trans (d5.mono E0.size)
     clear his
     go_wp2
     go_roundw
     case rel=>exact ⟨i+1,by omega,by go_num,HCJ.out,D5⟩
     case measure=>simp [intOf];omega
    |false =>
     have his:=ris_out ci wr.drew g0 hin
     have he:=HNO.out hin
     have HP:Hid (∀ w',Below w.heap.size w w'->REdP w w' (.returned (.tuple #[.int .i64 0,.int .i64 1])) mb W H bl n cs bs):=fun w' h=>Or.inl ⟨by rw [he];decide,by rw [he],h⟩
     clear HNO HCI hin f0' g0 he
     go_upto_region 6 with fail
     clear f0 c0
     go_region_held3 (fun w'=>w'.cell? ⟨xb,0,none⟩=some (.pointer (some ⟨mb,0,none⟩))/\w'.cell? ⟨bA,oA+i*2,none⟩=some (.int .i64 ci)) (first|with_reducible exact CC.out _ d0|with_reducible exact CC.out _ d5)
      (first|(go_at_call 26;refine his.mono ?_;rintro r w5 ⟨rfl,m5,hw5⟩;have d5:Below wr.drew.heap.size wr.drew w5:=(by rw [hw5];exact below_drewN (Below.refl _ _) _);clear hw5))
     have D5:=E0.trans (d5.mono E0.size)
     clear his
     go_wp2
     go_ret2
     exact HP.out _ D5
   ·have e:i=n:=by omega
    subst e
    have he:edE W H cs i=0/\∀ j,j<i->inB W H (cs j)=true:=by
     rcases HH.out with h|⟨_,j,h1,h2,_⟩
     ·exact h
     ·rw [HAL.out j h1] at h2;cases h2
    have HE:Hid (edE W H cs i=0/\∀ j,j<i->inB W H (cs j)=true):=he
    obtain ⟨n,hn⟩:∃ n,n=i:=⟨_,rfl⟩
    subst hn
    have GR:∃ V',RefAt wr mb W H V' bl:=⟨V,HGM.out.below hB lm⟩
    have FR:Free wr mb:=fun o=>(hB.frozen (p:=⟨mb,o,none⟩) lm).trans (HFM.out o)
    have KR:Keep (fun k=>k=mb) w wr:=Keep.of_below hB
    clear he HAL HH hB
    obtain ⟨WB,hWB⟩:∃ WB,WB=wr:=⟨_,rfl⟩
    subst hWB
    go_wp2
    go_loopw [8,9] (fun cv iv wr=>∃ (i cn:Nat) (bl':Nat->Bool),i<=n/\iv=.int .i64 i/\cv=.int .i64 (cn:Int)/\cn<=i/\Hid (edC bl cs bs i=cn/\edF bl cs bs i=bl')/\(∃ V',RefAt wr mb W H V' bl')/\Free wr mb/\Keep (fun k=>k=mb) w wr)
     (fun _ i _=>n - (intOf i).toNat)
    case atStart=>exact ⟨0,0,bl,Nat.zero_le _,rfl,rfl,Nat.le_refl _,⟨rfl,rfl⟩,GR,FR,KR⟩
    case round =>
     clear GR FR KR
     obtain ⟨i,cn,bl',hi',rfl,rfl,hcn,hE,⟨V',GR⟩,FR,K⟩:=hrel
     by_cases hlt:i<n
     ·obtain ⟨bA,oA,eA,hbA,f0',t0'⟩:=HQ.out i hlt
      have hnw:=HA.out (by omega) bA oA eA
      have f0:=K.cellOf f0' hnw
      have t0:=K.cellOf t0' hnw
      have c0:=K.cellOf HCX.out hxm
      subst eA
      have i1:(i:Int)<(n:Int):=by omega
      have hci:=HE.out.2 i hlt
      have hcp:0<=cs i:=by
       have h:0<=cs i/\cs i<W*H:=of_decide_eq_true hci
       exact h.1
      obtain ⟨c,hc⟩:∃ c:Nat,cs i=(c:Int):=⟨(cs i).toNat,by omega⟩
      obtain ⟨v,hv⟩:∃ v,bs i=v:=⟨_,rfl⟩
      have HN1:Hid (edC bl cs bs (i+1)=cn+(if bl' c=v then 0 else 1)/\edF bl cs bs (i+1)=upd bl' c v):=by
       refine ⟨?_,?_⟩
       ·show edC bl cs bs i+(if edF bl cs bs i (cs i).toNat=bs i then 0 else 1)=_
        rw [hE.out.1,hE.out.2,hc,Int.toNat_natCast,hv]
       ·show upd (edF bl cs bs i) (cs i).toNat (bs i)=_
        rw [hE.out.2,hc,Int.toNat_natCast,hv]
      rw [hc] at f0 hci
      rw [hv] at t0
      clear hc hv hcp f0' t0' hE
      have e0:Below wr.heap.size wr wr.drew:=(Below.refl _ _).drew
      have hrs:=rset_any c v wr.drew (GR.below e0 (World.block_lt_of_cell? _ _ GR.c0)) (fun o=>FR o) hci
      have f0:wr.drew.cell? ⟨bA,oA+i*2,none⟩=some (.int .i64 (c:Int)):=f0
      have t0:wr.drew.cell? ⟨bA,oA+i*2+1,none⟩=some (.bool v):=t0
      have c0:wr.drew.cell? ⟨xb,0,none⟩=some (.pointer (some ⟨mb,0,none⟩)):=c0
      have K0:=K.below e0
      by_cases hbv:bl' c=v
      ·rw [decide_eq_true hbv] at hrs
       have HN2:Hid (edC bl cs bs (i+1)=cn/\edF bl cs bs (i+1)=upd bl' c v):=⟨by rw [HN1.out.1,if_pos hbv];rfl,HN1.out.2⟩
       clear HN1 hbv GR FR K
       go_upto_region 13 with fail
       go_region_held3 (fun w'=>w'.cell? ⟨xb,0,none⟩=some (.pointer (some ⟨mb,0,none⟩))/\w'.cell? ⟨bA,oA+i*2,none⟩=some (.int .i64 (c:Int))/\w'.cell? ⟨bA,oA+i*2+1,none⟩=some (.bool v)) (first|with_reducible exact ⟨c0,f0,t0⟩)
        (first|(go_at_call 32;refine hrs.mono ?_;rintro r w5 ⟨rfl,K5,G5,F5⟩;have c0:=K5.cellOf c0 hxm;have f0:=K5.cellOf f0 hnw;have t0:=K5.cellOf t0 hnw))
       have K6:=K0.trans K5 (fun _ _ h=>h)
       clear hrs K5 K0
       go_wp2
       go_roundw
       case rel=>exact ⟨i+1,cn,_,by omega,by go_num,rfl,by omega,HN2.out,G5,F5,K6⟩
       case measure=>simp [intOf];omega
      ·rw [decide_eq_false hbv] at hrs
       have HN2:Hid (edC bl cs bs (i+1)=cn+1/\edF bl cs bs (i+1)=upd bl' c v):=⟨by rw [HN1.out.1,if_neg hbv],HN1.out.2⟩
       clear HN1 hbv GR FR K
       go_upto_region 13 with fail
       go_region_held3 (fun w'=>w'.cell? ⟨xb,0,none⟩=some (.pointer (some ⟨mb,0,none⟩))/\w'.cell? ⟨bA,oA+i*2,none⟩=some (.int .i64 (c:Int))/\w'.cell? ⟨bA,oA+i*2+1,none⟩=some (.bool v)) (first|with_reducible exact ⟨c0,f0,t0⟩)
        (first|(go_at_call 32;refine hrs.mono ?_;rintro r w5 ⟨rfl,K5,G5,F5⟩;have c0:=K5.cellOf c0 hxm;have f0:=K5.cellOf f0 hnw;have t0:=K5.cellOf t0 hnw))
       have K6:=K0.trans K5 (fun _ _ h=>h)
       clear hrs K5 K0
       go_wp2
       go_roundw
       case rel=>exact ⟨i+1,cn+1,_,by omega,by go_num,by go_num,by omega,HN2.out,G5,F5,K6⟩
       case measure=>simp [intOf];omega
     ·have e:i=n:=by omega
      subst e
      have HP:Hid (REdP w wr (.returned (.tuple #[.int .i64 (cn:Int),.int .i64 0])) mb W H bl i cs bs):=Or.inr ⟨HE.out.1,by rw [hE.out.1],⟨V',by rw [hE.out.2];exact GR⟩,FR,K⟩
      clear hE GR FR K
      go_wp2
      go_ret2
      exact HP.out
end
end Go.Proofs.YtipbhlofbpnpjaaGreatDoor
