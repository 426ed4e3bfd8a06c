/-
  Texts laid together: Rd2.
-/
import Derived.Test.YtipbhlofbpnpjaaGreatDoorE31
namespace Go.Proofs.YtipbhlofbpnpjaaGreatDoor
open Go.RowKit Go.Lib
theorem edF_eqv {W H:Int}{nb bl:Nat->Bool}{cs:Nat->Int}{bs:Nat->Bool}(h:Eqv W H nb bl):∀ n,Eqv W H (edF nb cs bs n) (edF bl cs bs n)
 |0=>h
 |n+1=>fun k hk=>by
  show (if k=(cs n).toNat then bs n else edF nb cs bs n k)=(if k=(cs n).toNat then bs n else edF bl cs bs n k)
  rw [edF_eqv h n k hk]
theorem edC_eqv {W H:Int}{nb bl:Nat->Bool}{cs:Nat->Int}{bs:Nat->Bool}(h:Eqv W H nb bl):∀ n,(∀ i,i<n->inB W H (cs i)=true)->edC nb cs bs n=edC bl cs bs n
 |0,_=>rfl
 |n+1,ha=>by
  show edC nb cs bs n+(if edF nb cs bs n (cs n).toNat=bs n then 0 else 1)=edC bl cs bs n+(if edF bl cs bs n (cs n).toNat=bs n then 0 else 1)
  have q:0<=cs n/\cs n<W*H:=of_decide_eq_true (ha n (Nat.lt_succ_self n))
  rw [edC_eqv h n (fun i hi=>ha i (by omega)),edF_eqv h n (cs n).toNat (by omega)]
def edK (W H:Int) (bl:Nat->Bool) (cs:Nat->Int) (bs:Nat->Bool) (n:Nat):Nat:=if edE W H cs n=0 then edC bl cs bs n else 0
def edG (W H:Int) (bl:Nat->Bool) (cs:Nat->Int) (bs:Nat->Bool) (n:Nat):Nat->Bool:=if edE W H cs n=0 then edF bl cs bs n else bl
theorem edE_all {W H:Int}{cs:Nat->Int}{n:Nat}(h:edE W H cs n=0):n<=60/\∀ i,i<n->inB W H (cs i)=true:=by
 rcases edE_cases W H cs n with ⟨_,h2⟩|⟨h1,_,h2⟩|⟨_,h2,_⟩
 ·omega
 ·exact ⟨h1,h2⟩
 ·omega
theorem edK_eqv {W H:Int}{nb bl:Nat->Bool}{cs:Nat->Int}{bs:Nat->Bool}(h:Eqv W H nb bl)(n:Nat):edK W H nb cs bs n=edK W H bl cs bs n:=by
 unfold edK
 by_cases he:edE W H cs n=0
 ·rw [if_pos he,if_pos he,edC_eqv h n (edE_all he).2]
 ·rw [if_neg he,if_neg he]
theorem edG_nrm {W H:Nat}{bl:Nat->Bool}{cs:Nat->Int}{bs:Nat->Bool}(n:Nat):edG W H (nrm W H bl) cs bs n=nrm W H (edG W H bl cs bs n):=by
 unfold edG
 by_cases he:edE W H cs n=0
 ·rw [if_pos he,if_pos he,edF_nrm (edE_all he).2]
 ·rw [if_neg he,if_neg he]
theorem nedit_u {lo hi sb most n cap:Nat}{W H V:Int}{bl:Nat->Bool}{A:Option Addr}{cs:Nat->Int}{bs:Nat->Bool}(w:World)(S:Sv w lo hi sb W H V bl most)(hq:OldEd w A n cs bs)(hA:0<n->∀ b o,A=some ⟨b,o,none⟩->¬ (lo<=b/\b<hi))(hlo:2<=lo)(v1:0<=V)(v2:V<=900000) :
  Calls Tryz.prog 19 #[.pointer (some ⟨sb,0,none⟩),.slice A n cap] w fun e w'=>e=.returned (.tuple #[.int .i64 (edK W H bl cs bs n:Nat),edV (edE W H cs n)])/\(∃ V',Sv w' lo hi sb W H V' (edG W H bl cs bs n) most)/\Keep (fun k=>lo<=k/\k<hi) w w' :=
 (nedit_any w S hq hA hlo v1 v2).mono fun e w' h=>by
  unfold edK edG edV
  rcases h with ⟨h1,h2,h3⟩|⟨h1,_,_,h2,h3,h4⟩
  ·rw [if_neg h1,if_neg h1,if_neg h1]
   exact ⟨h2,⟨V,S.below h3⟩,Keep.of_below h3⟩
  ·rw [if_pos h1,if_pos h1,if_pos h1]
   exact ⟨h2,⟨_,h3⟩,h4⟩
theorem redit_u {xb mb n cap:Nat}{W H V:Int}{bl:Nat->Bool}{A:Option Addr}{cs:Nat->Int}{bs:Nat->Bool}(w:World)(cx:w.cell? ⟨xb,0,none⟩=some (.pointer (some ⟨mb,0,none⟩)))(g:RefAt w mb W H V bl)(f:Free w mb)(hxm:xb≠mb)(hq:OldEd w A n cs bs)(hA:0<n->∀ b o,A=some ⟨b,o,none⟩->b≠mb) :
  Calls Tryz.prog 20 #[.pointer (some ⟨xb,0,none⟩),.slice A n cap] w fun e w'=>e=.returned (.tuple #[.int .i64 (edK W H bl cs bs n:Nat),.int .i64 (edE W H cs n)])/\(∃ V',RefAt w' mb W H V' (edG W H bl cs bs n))/\Free w' mb/\Keep (fun k=>k=mb) w w' :=
 (redit_any w cx g f hxm hq hA).mono fun e w' h=>by
  unfold edK edG
  rcases h with ⟨h1,h2,h3⟩|⟨h1,h2,h3,h4,h5⟩
  ·have lm:mb<w.heap.size:=World.block_lt_of_cell? _ _ g.c0
   rw [if_neg h1,if_neg h1]
   exact ⟨h2,⟨V,g.below h3 lm⟩,fun o=>(h3.frozen (p:=⟨mb,o,none⟩) lm).trans (f o),Keep.of_below h3⟩
  ·rw [if_pos h1,if_pos h1,h1]
   exact ⟨h2,h3,h4,h5⟩
theorem Sv.keepLow {F:Nat->Prop}{w w':World}{lo hi sb most:Nat}{W H V:Int}{bl:Nat->Bool}(S:Sv w lo hi sb W H V bl most)(K:Keep F w w')(hF:∀ k,F k->k<lo/\k≠1):Sv w' lo hi sb W H V bl most:=by
 obtain ⟨rb,pb,mb,lb,tb,gb,N,x,V2,S⟩:=S
 obtain ⟨a1,a2,a3,a3'⟩:=S.l1
 obtain ⟨a4,a5,a6⟩:=S.l2
 obtain ⟨a7,a8,a9,a10⟩:=S.l3
 have nf:∀ k,lo<=k->¬ F k:=fun k hk h=>by have:=(hF k h).1;omega
 have hsb:=nf sb (by omega)
 refine ⟨rb,pb,mb,lb,tb,gb,N,x,V2,K.cellOf S.c0 hsb,K.cellOf S.c1 hsb,K.cellOf S.c2 hsb,K.cellOf S.c3 hsb,(K.frozen (p:=⟨sb,2,none⟩) S.lt hsb).trans S.fz,?_,S.lv.keep K (fun g hg=>nf g (by omega)),S.ta.keep K (nf tb (by omega)) (nf gb (by omega)) (fun h=>(hF 1 h).2 rfl),S.l1,S.l2,S.l3,S.l4,S.m1,S.m6,S.vv⟩
 obtain ⟨f,G,E,I⟩:=S.gi
 exact ⟨f,G.keep K (nf rb a1) (nf pb a2) (nf mb a3),fun c=>(E c).kept K (fun v l g hfc ho hg hp=>nf g (by omega)) rfl,I⟩
theorem tnum_u (w:World)(n:Int):Calls Tryz.prog 21 #[edV n] w fun e w'=>e=.returned (.int .i64 n)/\w'=w:=by
 unfold edV
 by_cases h:n=0
 ·rw [if_pos h,h];exact tnum_nil w
 ·rw [if_neg h];exact tnum_err w n
end Go.Proofs.YtipbhlofbpnpjaaGreatDoor
