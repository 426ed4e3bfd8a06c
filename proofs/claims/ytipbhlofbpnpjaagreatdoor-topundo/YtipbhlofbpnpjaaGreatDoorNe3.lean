/- -/
import Derived.Test.YtipbhlofbpnpjaaGreatDoorNe2
namespace Go.Proofs.YtipbhlofbpnpjaaGreatDoor
open Go.RowKit Go.Lib
theorem set_keep1 (w:World)(B o:Nat)(v:Value):Keep (fun k=>k=B) w (w.setCell ⟨B,o,none⟩ v):=(Keep.refl (fun k=>k=B) w).setCell (p:=⟨B,o,none⟩) (fun _=>rfl) _
theorem Hf.full {w:World}{lo hi sb rb pb mb lb tb gb x N most:Nat}{W H V:Int}{bl:Nat->Bool}(S:Hf w lo hi sb rb pb mb tb gb x W H V bl most)(L:Lvd w N lb most W H bl (esF W H bl))(hN:sb<N)(hlo:2<=lo)(m1:1<=most)(m6:most<=6):Sv (w.setCell ⟨sb,2,none⟩ (.pointer (some ⟨lb,0,none⟩))) lo hi sb W H V bl most:=by
 have K:=set_keep1 w sb 2 (.pointer (some ⟨lb,0,none⟩))
 obtain ⟨a1,a2,a3⟩:=S.l1
 obtain ⟨a4,a5,a6⟩:=S.l2
 obtain ⟨a7,a8,a9,a10⟩:=S.l3
 obtain ⟨u,c2⟩:=S.c2
 have ne:∀ {i:Nat},i≠2->(⟨sb,2,none⟩:Addr)≠⟨sb,i,none⟩:=fun h q=>h (Addr.mk.inj q).2.1.symm
 refine ⟨rb,pb,mb,lb,tb,gb,N,x,V,?_,?_,World.cell?_setCell_same _ _ _ c2,?_,by simpa using S.fz,S.gi.keep K (fun h=>by omega) (fun h=>by omega) (fun h=>by omega) (fun g hg h=>hg.2.2 h),L.keep K (fun g hg h=>by omega),S.ta.keep K (fun h=>by omega) (fun h=>by omega) (fun h=>by omega),⟨a1,a2,a3,by have:=S.l4;omega⟩,S.l2,S.l3,S.l4,m1,m6,rfl⟩
 ·rw [World.cell?_setCell_other _ _ _ _ (ne (by decide))];exact S.c0
 ·rw [World.cell?_setCell_other _ _ _ _ (ne (by decide))];exact S.c1
 ·rw [World.cell?_setCell_other _ _ _ _ (ne (by decide))];exact S.c3
set_option maxHeartbeats 4000000 in
theorem nedit_any {lo hi sb most n cap:Nat}{W H V:Int}{bl:Nat->Bool}{A:Option Addr}{cs:Nat->Int}{bs:Nat->Bool}(w:World)(S:Sv w lo hi sb W H V bl most)(hq:OldEd w A n cs bs)(hA:0<n->∀ b o,A=some ⟨b,o,none⟩->¬ (lo<=b/\b<hi))(hlo:2<=lo)(v1:0<=V)(v2:V<=900000) :
  Calls Tryz.prog 19 #[.pointer (some ⟨sb,0,none⟩),.slice A n cap] w fun e w'=>EdP w w' e lo hi sb W H V bl most n cs bs:=by
 obtain ⟨rb,pb,mb,lb,tb,gb,N,x,V2,S⟩:=S
 have hck:=ncheck_any (cap:=cap) w S.c1 S.gr hq
 by_cases hne:edE W H cs n=0
 ·have hE:edV (edE W H cs n)=.nilIface:=if_pos hne
  obtain ⟨n60,hall⟩:n<=60/\∀ i,i<n->inB W H (cs i)=true:=by
   rcases edE_cases W H cs n with ⟨_,h⟩|⟨h1,_,h2⟩|⟨_,h,_⟩
   ·omega
   ·exact ⟨h1,h2⟩
   ·omega
  have HALL:Hid (edE W H cs n=0/\∀ i,i<n->inB W H (cs i)=true):=⟨hne,hall⟩
  rw [hE] at hck
  clear hE hne hall
  have HA:Hid (0<n->∀ b o,A=some ⟨b,o,none⟩->¬ (lo<=b/\b<hi)):=hA
  have HQ:Hid (OldEd w A n cs bs):=hq
  have HF0:=S.hf
  obtain ⟨a1,a2,a3⟩:=S.l1
  obtain ⟨a4,a5,a6⟩:=S.l2
  obtain ⟨a7,a8,a9,a10⟩:=S.l3
  have a11:=S.l4
  have m1:=S.m1
  have m6:=S.m6
  have hsl:=S.lt
  have HW:Hid (∀ k,Wr pb mb tb gb k->lo<=k/\k<hi):=fun k h=>by
   rcases h with h|h|h|h <;> omega
  have HSV:Hid (SvAt w lo hi sb rb pb mb lb tb gb N x W H V V2 bl most):=S
  clear S hA hq
  go_enter Tryz.func19,Tryz.ntmps19
  go_wp2_with fail
  refine hck.mono ?_
  rintro e w1 ⟨rfl,hb1⟩
  have F1:=HF0.below hb1
  have HQ1:Hid (OldEd w1 A n cs bs):=HQ.out.below hb1
  clear hck HF0
  go_wp2
  go_loopw [7,18] (fun cv iv wr=>∃ (i cn:Nat) (bl':Nat->Bool),i<=n/\iv=.int .i64 i/\cv=.int .i64 (cn:Int)/\cn<=i/\Hid (edC bl cs bs i=cn/\edF bl cs bs i=bl')/\Hf wr lo hi sb rb pb mb tb gb x W H (V+(cn:Int)) bl' most/\Hid (cn=0->Below w1.heap.size w1 wr)/\Keep (Wr pb mb tb gb) w1 wr)
   (fun _ i _=>n - (intOf i).toNat)
  case atStart=>exact ⟨0,0,bl,Nat.zero_le _,rfl,rfl,Nat.le_refl _,⟨rfl,rfl⟩,by simpa using F1,fun _=>Below.refl _ _,Keep.refl _ _⟩
  case round =>
   obtain ⟨i,cn,bl',hi',rfl,rfl,hcn,hE,F,hZ,K⟩:=hrel
   by_cases hlt:i<n
   ·obtain ⟨bA,oA,eA,hbA,f0',t0'⟩:=HQ1.out i hlt
    have hnw:¬ Wr pb mb tb gb bA:=fun h=>HA.out (by omega) bA oA eA (HW.out _ h)
    have f0:=K.cellOf f0' hnw
    have t0:=K.cellOf t0' hnw
    subst eA
    have i1:(i:Int)<(n:Int):=by omega
    have hci:=HALL.out.2 i hlt
    have hcp:0<=cs i:=by
     have h:0<=cs i/\cs i<W*H:=of_decide_eq_true hci
     exact h.1
    obtain ⟨c,hc⟩:∃ c:Nat,cs i=(c:Int):=⟨(cs i).toNat,by omega⟩
    obtain ⟨v,hv⟩:∃ v,bs i=v:=⟨_,rfl⟩
    have HN1:Hid (bl' c=v->edC bl cs bs (i+1)=cn/\edF bl cs bs (i+1)=bl'):=fun h=>by
     have e:edF bl cs bs i (cs i).toNat=bs i:=by rw [hE.out.2,hc,Int.toNat_natCast,hv];exact h
     refine ⟨?_,?_⟩
     ·show edC bl cs bs i+(if _ then 0 else 1)=cn
      rw [if_pos e,hE.out.1];rfl
     ·show upd (edF bl cs bs i) (cs i).toNat (bs i)=bl'
      rw [upd_same e,hE.out.2]
    have HN2:Hid (bl' c=!v->edC bl cs bs (i+1)=cn+1/\edF bl cs bs (i+1)=upd bl' c v):=fun h=>by
     have e:¬ edF bl cs bs i (cs i).toNat=bs i:=by rw [hE.out.2,hc,Int.toNat_natCast,hv,h];cases v <;> simp
     refine ⟨?_,?_⟩
     ·show edC bl cs bs i+(if _ then 0 else 1)=cn+1
      rw [if_neg e,hE.out.1]
     ·show upd (edF bl cs bs i) (cs i).toNat (bs i)=_
      rw [hE.out.2,hc,Int.toNat_natCast,hv]
    rw [hc] at f0 hci
    rw [hv] at t0
    clear hc hv hcp f0' t0' hE
    have b3:Below wr.heap.size wr (wr.alloc (.cells #[.int .i64 (c:Int),.bool v] 62)):=(Below.refl _ _).alloc (Nat.le_refl _) _
    have q0:(wr.alloc (.cells #[.int .i64 (c:Int),.bool v] 62)).cell? ⟨wr.heap.size,0,none⟩=some (.int .i64 (c:Int)):=World.cell?_alloc_at #[.int .i64 (c:Int),.bool v] 62 wr.heap.size 0 rfl
    have q1:(wr.alloc (.cells #[.int .i64 (c:Int),.bool v] 62)).cell? ⟨wr.heap.size,1,none⟩=some (.bool v):=World.cell?_alloc_at #[.int .i64 (c:Int),.bool v] 62 wr.heap.size 1 rfl
    have hst:=nset_any v _ (F.below b3) hci (by omega) (by omega) hlo
    have K3:=K.below b3
    have HZ3:Hid (cn=0->Below w1.heap.size w1 (wr.alloc (.cells #[.int .i64 (c:Int),.bool v] 62))):=fun h=>(hZ.out h).trans (b3.mono (hZ.out h).size)
    have F3:=F.below b3
    clear F K hZ b3 hnw
    go_wp2_with fail
    refine hst.mono ?_
    rintro e w5 hcs
    clear hst q0 q1 f0 t0
    generalize wr.alloc (.cells #[.int .i64 (c:Int),.bool v] 62)=wa at *
    rcases hcs with ⟨hv,rfl,hb5⟩|⟨hv,rfl,F5,K5⟩
    ·have HN:Hid (edC bl cs bs (i+1)=cn/\edF bl cs bs (i+1)=bl'):=HN1.out hv
     have F5:=F3.below hb5
     have K5:=K3.below hb5
     have HZ5:Hid (cn=0->Below w1.heap.size w1 w5):=fun h=>(HZ3.out h).trans (hb5.mono (HZ3.out h).size)
     clear HN1 HN2 hv F3 K3
     go_wp2
     go_roundw
     case rel=>exact ⟨i+1,cn,bl',by omega,by go_num,rfl,by omega,HN.out,F5,HZ5.out,K5⟩
     case measure=>simp [intOf];omega
    ·have HN:Hid (edC bl cs bs (i+1)=cn+1/\edF bl cs bs (i+1)=upd bl' c v):=HN2.out hv
     have K5':=K3.trans K5 (fun _ _ h=>h)
     have e1:V+(cn:Int)+1=V+((cn+1:Nat):Int):=by omega
     rw [e1] at F5
     have HF5:Hid (Hf w5 lo hi sb rb pb mb tb gb x W H (V+((cn+1:Nat):Int)) (upd bl' c v) most):=F5
     clear HN1 HN2 hv F3 K3 e1 F5
     go_wp2
     go_roundw
     case rel=>exact ⟨i+1,cn+1,upd bl' c v,by omega,by go_num,by go_num,by omega,HN.out,HF5.out,fun h=>absurd h (Nat.succ_ne_zero cn),K5'⟩
     case measure=>simp [intOf];omega
   ·have e:i=n:=by omega
    subst e
    have HK:Hid (Keep (fun k=>lo<=k/\k<hi) w wr):=(Keep.of_below hb1).trans K (fun k _ h=>HW.out k h)
    by_cases hz:cn=0
    ·have HB:Hid (Below w.heap.size w wr):=hb1.trans ((hZ.out hz).mono hb1.size)
     subst hz
     clear F K
     go_wp2
     go_ret2
     refine Or.inr ⟨HALL.out.1,n60,HALL.out.2,?_,?_,HK.out⟩
     ·rw [hE.out.1];rfl
     ·rw [edC_zero hE.out.1,hE.out.1]
      rw [show V+((0:Nat):Int)=V by omega]
      exact ⟨rb,pb,mb,lb,tb,gb,N,x,V2,HSV.out.below HB.out⟩
    ·have hz':(0:Int)<(cn:Int):=by omega
     have e0:Below wr.heap.size wr wr.drew:=(Below.refl _ _).drew
     have F1:=F.below e0
     have gw1:=F1.side.1
     have hl:=new_levels wr.drew F1.gi.graph (esF_ok gw1) m1 m6
     have c0:=F1.c0
     have c1:=F1.c1
     obtain ⟨u,c2⟩:=F1.c2
     have z2:=F1.fz
     have hsw:sb<wr.drew.heap.size:=F1.lt
     have HFF:Hid (Hf wr.drew lo hi sb rb pb mb tb gb x W H (V+(cn:Int)) bl' most):=F1
     clear F K hZ F1
     go_wp2_with fail
     go_region_held3 (fun w'=>w'.cell? ⟨sb,1,none⟩=some (.pointer (some ⟨rb,0,none⟩))/\w'.cell? ⟨sb,0,none⟩=some (.int .i64 (most:Int))) (first|with_reducible exact ⟨c1,c0⟩|with_reducible exact ⟨c1',c0'⟩)
      (first|(go_at_call 48;refine hl.mono ?_;rintro r w6 ⟨lb6,rfl,L6,h6⟩;have c0:=(h6.cell (World.block_lt_of_cell? _ _ c0)).trans c0;have c1:=(h6.cell (World.block_lt_of_cell? _ _ c1)).trans c1;have c2:=(h6.cell (World.block_lt_of_cell? _ _ c2)).trans c2;have z2:=(h6.frozen (p:=⟨sb,2,none⟩) hsw).trans z2;have c1':(w6.setCell ⟨sb,2,none⟩ (.pointer (some ⟨lb6,0,none⟩))).cell? ⟨sb,1,none⟩=some (.pointer (some ⟨rb,0,none⟩)):=((World.cell?_setCell_other _ _ _ _ (fun q=>by cases q)).trans c1);have c0':(w6.setCell ⟨sb,2,none⟩ (.pointer (some ⟨lb6,0,none⟩))).cell? ⟨sb,0,none⟩=some (.int .i64 (most:Int)):=((World.cell?_setCell_other _ _ _ _ (fun q=>by cases q)).trans c0)))
     have SV:=(HFF.out.below h6).full L6 hsw hlo m1 m6
     have HK6:Hid (Keep (fun k=>lo<=k/\k<hi) w (w6.setCell ⟨sb,2,none⟩ (.pointer (some ⟨lb6,0,none⟩)))):=((HK.out.below e0).below h6).trans (set_keep1 w6 sb 2 _) (fun k _ h=>by rw [h];exact ⟨by omega,a11⟩)
     have HSV6:Hid (Sv (w6.setCell ⟨sb,2,none⟩ (.pointer (some ⟨lb6,0,none⟩))) lo hi sb W H (V+(cn:Int)) bl' most):=SV
     clear SV L6
     go_wp2
     go_ret2
     refine Or.inr ⟨HALL.out.1,n60,HALL.out.2,?_,?_,HK6.out⟩
     ·rw [hE.out.1];rfl
     ·rw [hE.out.1,hE.out.2];exact HSV6.out
 ·have hE:edV (edE W H cs n)=.iface 39 (.int .i64 (edE W H cs n)):=if_neg hne
  have HNE:Hid (edE W H cs n≠0):=hne
  rw [hE] at hck
  clear hE hne S hq hA
  have HP:Hid (∀ w',Below w.heap.size w w'->EdP w w' (.returned (.tuple #[.int .i64 0,.iface 39 (.int .i64 (edE W H cs n))])) lo hi sb W H V bl most n cs bs):=fun w' h=>Or.inl ⟨HNE.out,rfl,h⟩
  generalize edE W H cs n=ee at hck HP
  go_enter Tryz.func19,Tryz.ntmps19
  go_wp2_with fail
  refine hck.mono ?_
  rintro e w1 ⟨rfl,hb1⟩
  clear hck
  go_wp2
  go_ret2
  exact HP.out _ hb1
end Go.Proofs.YtipbhlofbpnpjaaGreatDoor
