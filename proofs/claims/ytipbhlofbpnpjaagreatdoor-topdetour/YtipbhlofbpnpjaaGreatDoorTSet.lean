/- -/
import Derived.Test.YtipbhlofbpnpjaaGreatDoorP9
namespace Go.Proofs.YtipbhlofbpnpjaaGreatDoor
open Go.RowKit
theorem Touch.keep {b:Nat}{w w':World}(h:Touch b w w'):Keep (fun k=>k=b) w w':=⟨h.os,h.tape,h.output,by rw [h.size];exact Nat.le_refl _,fun k _ hn=>h.other k hn⟩
set_option maxHeartbeats 400000 in
theorem tset_same {tb pb:Nat}{W H V:Int}{bl:Nat->Bool}(c:Nat)(v:Bool)(w:World)(t:TabOk w tb pb W H V bl)(hr:inB W H c=true)(hv:bl c=v) :
  Calls Tryz.prog 83 #[.pointer (some ⟨tb,0,none⟩),.int .i64 c,.bool v] w fun e w'=>e=.returned (.tuple #[.bool false,.nilIface])/\∃ m,w'=w.drewN m:=by
 obtain ⟨T,t,_⟩:=t.ok
 have p0:=t.p0
 go_enter Tryz.func83,Tryz.ntmps83
 go_wp2_with (go_at_call 70;refine (set_same c v _ t.ga hr hv).mono ?_;rintro e w' ⟨rfl,m,rfl⟩)
 go_ret2
 exact ⟨rfl,_,rfl⟩
theorem through_v {tb pb c:Nat}{W H V:Int}{bl:Nat->Bool}{v:Bool}{T:Nat->Nat->Nat}{x y:Int}(hc:idx W x y=c)(d:Nat)(w:World)(t:TabAt w tb pb W H V (upd bl c v) T)(hp:atB W H x y=true)(hR:Right W H bl T d)(hd:d<8) :
  Calls Tryz.prog 120 #[.pointer (some ⟨tb,0,none⟩),.int .i64 x,.int .i64 y,.int .i64 d] w fun e w'=>ThrPost w w' e tb pb W H V (upd bl c v) d T:=by
 subst hc
 exact through_any x y d w t hp hR hd
set_option maxHeartbeats 1000000 in
theorem tset_new {tb pb:Nat}{W H V:Int}{bl:Nat->Bool}(c:Nat)(v:Bool)(w:World)(t:TabOk w tb pb W H V bl)(hr:inB W H c=true)(hv:bl c=!v)(v1:0<=V)(v2:V<=1000000) :
  Calls Tryz.prog 83 #[.pointer (some ⟨tb,0,none⟩),.int .i64 c,.bool v] w fun e w'=>e=.returned (.tuple #[.bool true,.nilIface])/\TabOk w' tb pb W H (V+1) (upd bl c v)/\Keep (fun k=>k=tb\/k=pb) w w':=by
 obtain ⟨T,t,hR⟩:=t.ok
 have p0:=t.p0
 obtain ⟨x,y,ha,hi,hpl⟩:∃ x y,atB W H x y=true/\idx W x y=c/\∀ w (V:Int) (bl:Nat->Bool),GridAt w pb W H V bl->Calls Tryz.prog 76 #[.pointer (some ⟨pb,0,none⟩),.int .i64 (c:Int)] w fun e w'=>e=.returned (.tuple #[.int .i64 x,.int .i64 y,.nilIface])/\∃ m,w'=w.drewN m:=by
  obtain ⟨ha,hi⟩:=at_place t.ga.w1 hr
  exact ⟨_,_,ha,by omega,fun w V bl g=>place_in (c:Int) w g hr⟩
 have HI:Hid (idx W x y=c):=hi
 clear hi
 have hset:=set_new c v w t.ga t.gf hr hv v1 v2
 go_enter Tryz.func83,Tryz.ntmps83
 go_wp2_with (go_at_call 70;refine hset.mono ?_;rintro e w1 ⟨rfl,T1,G1,F1⟩;have q0:=T1.keep.cellOf p0 t.ne)
 have K1:=T1.keep
 have t1:TabAt w1 tb pb W H (V+1) (upd bl c v) T :=
  ⟨K1.cellOf t.p0 t.ne,fun a d ha hd=>K1.cellOf (t.ts a d ha hd) t.ne,t.fr.keep t.blocks.1 K1 t.ne,G1,F1,t.st.keep K1 t.n1,t.ne,t.n0,t.n1⟩
 have K1':Keep (fun k=>k=tb\/k=pb) w w1:=K1.mono (fun _ _ h=>Or.inr h)
 clear T1 G1 F1 K1 hset t p0 q0
 refine (hpl _ _ _ t1.ga).mono ?_
 rintro e w2 ⟨rfl,m,rfl⟩
 have t2:=t1.drewN m
 have K2:=K1'.drewN m
 clear t1 K1' hpl
 generalize w1.drewN m=w2 at *
 go_wp2
 go_loopg [41] 8 (fun gk iv wr=>∃ (k:Nat) (T':Nat->Nat->Nat),k<=8/\gk=8 - k/\iv=.int .i64 k/\TabAt wr tb pb W H (V+1) (upd bl c v) T'/\(∀ d,d<k->Right W H (upd bl c v) T' d)/\(∀ d,k<=d->d<8->Right W H bl T' d)/\Keep (fun k=>k=tb\/k=pb) w wr)
 case atStart=>exact ⟨0,T,by omega,rfl,rfl,t2,fun d hd=>absurd hd (Nat.not_lt_zero d),fun d _ hd=>hR d hd,K2⟩
 case round =>
  clear t2 K2 hR
  obtain ⟨k,T',hk,hgk,rfl,tr,R1,R2,Kr⟩:=hrel
  have HG:Hid (gk=8 - k):=hgk
  clear hgk
  by_cases hlt:k<8
  ·have hlt':(k:Int)<8:=by omega
   have hth:=through_v HI.out k wr tr ha (R2 k (Nat.le_refl k) hlt) hlt
   go_wp2_with (go_at_call 120;refine hth.mono ?_;rintro e w3 ⟨rfl,T3,t3,Rk,Tu,K3⟩)
   go_roundg (8 - (k+1))
   case measure=>have:=HG.out;omega
   case rel =>
    refine ⟨k+1,T3,by omega,rfl,by go_num,t3,fun d hd=>?_,fun d hd hd8=>?_,Kr.trans K3 (fun _ _ h=>Or.inl h)⟩
    ·by_cases q:d=k
     ·rw [q];exact Rk
     ·exact fun a b hab=>Tu.keep hab (R1 d (by omega) a b hab)
    ·exact fun a b hab=>(Tu.other hab (by omega)).trans (R2 d (by omega) hd8 a b hab)
  ·have:k=8:=by omega
   subst this
   go_wp2
   go_ret2
   exact ⟨rfl,⟨T',tr,R1⟩,Kr⟩
end Go.Proofs.YtipbhlofbpnpjaaGreatDoor
