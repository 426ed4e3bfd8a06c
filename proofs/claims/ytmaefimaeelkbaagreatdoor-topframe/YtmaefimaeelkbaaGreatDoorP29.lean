/-
  Texts laid together: Iso, Iso2, Iso3, Nv10, EnvOf, Fr.
-/
import Derived.Test.YtmaefimaeelkbaaGreatDoorP28
import Derived.Test.YtmaefimaeelkbaaGreatDoorP27
import Derived.Test.YtmaefimaeelkbaaGreatDoorP24
import Derived.Test.YtmaefimaeelkbaaGreatDoorP6
import Derived.Test.YtmaefimaeelkbaaGreatDoorRows
import Derived.ProofKit
import Derived.LaidMore
import Derived.OpenShut
import Derived.Stop.Joined
import Derived.Stop.LaidErr
import Derived.Lib.LaidTab
import Derived.Test.YtmaefimaeelkbaaGreatDoorTie
import Derived.Test.YtmaefimaeelkbaaGreatDoorCards
import Derived.ChangeMaps5
import Derived.SevenTiedAt
import Derived.Lib.SmallJoins
import Derived.Deep.Slices
namespace Go.Proofs.YtmaefimaeelkbaaGreatDoor
section
open Go.RowKit Go.Lib
def afX (m:Nat) (c x y:Int):Int:=if m<4 then (if m % 2=1 then -x else x)+c else (if m / 2 % 2=1 then -y else y)+c
def afY (m:Nat) (f x y:Int):Int:=if m<4 then (if m / 2 % 2=1 then -y else y)+f else (if m % 2=1 then -x else x)+f
def dl (m k:Nat):Nat:=((List.range 8).find? fun j=>decide (stepX j=afX m 0 (stepX k) (stepY k))&&decide (stepY j=afY m 0 (stepX k) (stepY k))).getD 0
theorem dl_all:∀ m,m<8->∀ k,k<8->(dl m k<8/\stepX (dl m k)=afX m 0 (stepX k) (stepY k)/\stepY (dl m k)=afY m 0 (stepX k) (stepY k)/\dl m k % 2=k % 2):=by decide
theorem dl_sur:∀ m,m<8->∀ j,j<8->((List.range 8).any fun k=>decide (dl m k=j))=true:=by decide
theorem dl_from {m j:Nat}(hm:m<8)(hj:j<8):∃ k,k<8/\dl m k=j:=by
 have h:=dl_sur m hm j hj
 rw [List.any_eq_true] at h
 obtain ⟨k,h1,h2⟩:=h
 exact ⟨k,List.mem_range.1 h1,of_decide_eq_true h2⟩
theorem afX_add (m:Nat)(c x y u v:Int):afX m c (x+u) (y+v)=afX m c x y+afX m 0 u v:=by
 unfold afX
 split <;> split <;> omega
theorem afY_add (m:Nat)(c x y u v:Int):afY m c (x+u) (y+v)=afY m c x y+afY m 0 u v:=by
 unfold afY
 split <;> split <;> omega
theorem st_dl {m k:Nat}(hm:m<8)(hk:k<8):stS (dl m k)=stS k/\stD (dl m k)=stD k:=by
 have h:=(dl_all m hm k hk).2.2.2
 unfold stS stD
 rw [h]
 exact ⟨rfl,rfl⟩
structure GIso (m:Nat) (c f W H:Int) (bl:Nat->Bool) (W' H':Int) (bl':Nat->Bool):Prop where
 m8:m<8
 w1:1<=W
 w1':1<=W'
 op:∀ x y,-1<=x->x<=W->-1<=y->y<=H->openB W' H' bl' (afX m c x y) (afY m f x y)=openB W H bl x y
 at_:∀ x y,0<=x->x<W->0<=y->y<H->atB W' H' (afX m c x y) (afY m f x y)=true
 sur:∀ X Y,openB W' H' bl' X Y=true->∃ x y,0<=x/\x<W/\0<=y/\y<H/\X=afX m c x y/\Y=afY m f x y
def ph (m:Nat) (c f W W':Int) (a:Int):Int:=afY m f (a % W) (a / W)*W'+afX m c (a % W) (a / W)
theorem of_parts {W H x y:Int}(h:atB W H x y=true):(y*W+x) % W=x/\(y*W+x) / W=y/\inB W H (y*W+x)=true:=by
 obtain ⟨e,h1,h2⟩:=idx_parts h
 rw [e] at h1 h2
 refine ⟨h1,h2,?_⟩
 have q:0<=x/\x<W/\0<=y/\y<H:=of_decide_eq_true h
 refine decide_eq_true ⟨?_,?_⟩
 ·have:0<=y*W:=Int.mul_nonneg q.2.2.1 (by omega)
  omega
 ·have h2:(y+1)*W<=H*W:=Int.mul_le_mul_of_nonneg_right (by omega) (by omega)
  rw [Int.add_mul,Int.one_mul,Int.mul_comm H W] at h2
  omega
section
variable {m : Nat} {c f W H W' H' : Int} {bl bl' : Nat → Bool}
theorem GIso.parts (G:GIso m c f W H bl W' H' bl'){a:Int}(ha:inB W H a=true):ph m c f W W' a % W'=afX m c (a % W) (a / W)/\ph m c f W W' a / W'=afY m f (a % W) (a / W)/\inB W' H' (ph m c f W W' a)=true:=by
 obtain ⟨x1,x2,y1,y2⟩:=place_bd G.w1 ha
 exact of_parts (G.at_ _ _ x1 x2 y1 y2)
theorem cell_of {W a b:Int}(h1:a % W=b % W)(h2:a / W=b / W):a=b:=by
 have e1:=Int.emod_add_mul_ediv a W
 have e2:=Int.emod_add_mul_ediv b W
 rw [h1,h2] at e1
 omega
theorem afX_inj {m:Nat}{c f x y u v:Int}(h1:afX m c x y=afX m c u v)(h2:afY m f x y=afY m f u v):x=u/\y=v:=by
 unfold afX at h1
 unfold afY at h2
 by_cases hm:m<4
 ·simp only [if_pos hm] at h1 h2
  split at h1 <;> split at h2 <;> omega
 ·simp only [if_neg hm] at h1 h2
  split at h1 <;> split at h2 <;> omega
theorem GIso.inj (G:GIso m c f W H bl W' H' bl'){a b:Int}(ha:inB W H a=true)(hb:inB W H b=true)(h:ph m c f W W' a=ph m c f W W' b):a=b:=by
 obtain ⟨a1,a2,_⟩:=G.parts ha
 obtain ⟨b1,b2,_⟩:=G.parts hb
 rw [h] at a1 a2
 obtain ⟨e1,e2⟩:=afX_inj (a1.symm.trans b1) (a2.symm.trans b2)
 exact cell_of e1 e2
theorem step_small (k:Nat):-1<=stepX k/\stepX k<=1/\-1<=stepY k/\stepY k<=1:=by
 obtain ⟨s1,s2,s3,s4⟩:=step_bd k
 exact ⟨s1,s2,s3,s4⟩
theorem GIso.four (G:GIso m c f W H bl W' H' bl'){x y:Int}{k:Nat}(hk:k<8)(x1:0<=x)(x2:x<W)(y1:0<=y)(y2:y<H) :
  openB W' H' bl' (afX m c x y) (afY m f x y)=openB W H bl x y/\openB W' H' bl' (afX m c x y+stepX (dl m k)) (afY m f x y+stepY (dl m k))=openB W H bl (x+stepX k) (y+stepY k) /\
  ((openB W' H' bl' (afX m c x y+stepX (dl m k)) (afY m f x y)=openB W H bl (x+stepX k) y/\openB W' H' bl' (afX m c x y) (afY m f x y+stepY (dl m k))=openB W H bl x (y+stepY k)) \/
   (openB W' H' bl' (afX m c x y+stepX (dl m k)) (afY m f x y)=openB W H bl x (y+stepY k)/\openB W' H' bl' (afX m c x y) (afY m f x y+stepY (dl m k))=openB W H bl (x+stepX k) y)):=by
 obtain ⟨s1,s2,s3,s4⟩:=step_small k
 obtain ⟨_,e1,e2,_⟩:=dl_all m G.m8 k hk
 refine ⟨G.op _ _ (by omega) (by omega) (by omega) (by omega),?_,?_⟩
 ·rw [e1,e2,<- afX_add,<- afY_add]
  exact G.op _ _ (by omega) (by omega) (by omega) (by omega)
 ·have h1:=G.op (x+stepX k) y (by omega) (by omega) (by omega) (by omega)
  have h2:=G.op x (y+stepY k) (by omega) (by omega) (by omega) (by omega)
  by_cases hm:m<4
  ·left
   have a1:afX m c (x+stepX k) y=afX m c x y+stepX (dl m k):=by rw [e1];unfold afX;simp only [if_pos hm];split <;> omega
   have a2:afY m f (x+stepX k) y=afY m f x y:=by unfold afY;simp only [if_pos hm]
   have a3:afX m c x (y+stepY k)=afX m c x y:=by unfold afX;simp only [if_pos hm]
   have a4:afY m f x (y+stepY k)=afY m f x y+stepY (dl m k):=by rw [e2];unfold afY;simp only [if_pos hm];split <;> omega
   rw [a1,a2] at h1
   rw [a3,a4] at h2
   exact ⟨h1,h2⟩
  ·right
   have a1:afX m c (x+stepX k) y=afX m c x y:=by unfold afX;simp only [if_neg hm]
   have a2:afY m f (x+stepX k) y=afY m f x y+stepY (dl m k):=by rw [e2];unfold afY;simp only [if_neg hm];split <;> omega
   have a3:afX m c x (y+stepY k)=afX m c x y+stepX (dl m k):=by rw [e1];unfold afX;simp only [if_neg hm];split <;> omega
   have a4:afY m f x (y+stepY k)=afY m f x y:=by unfold afY;simp only [if_neg hm]
   rw [a1,a2] at h1
   rw [a3,a4] at h2
   exact ⟨h2,h1⟩
theorem GIso.may (G:GIso m c f W H bl W' H' bl'){x y:Int}{k:Nat}(hk:k<8)(x1:0<=x)(x2:x<W)(y1:0<=y)(y2:y<H):mayB W' H' bl' (afX m c x y) (afY m f x y) (dl m k)=mayB W H bl x y k:=by
 obtain ⟨h1,h2,h3⟩:=G.four hk x1 x2 y1 y2
 unfold mayB
 rw [h1,h2]
 rcases h3 with ⟨h3,h4⟩|⟨h3,h4⟩
 ·rw [h3,h4]
 ·rw [h3,h4]
  cases openB W H bl x y <;> cases openB W H bl (x+stepX k) (y+stepY k) <;> cases openB W H bl (x+stepX k) y <;> cases openB W H bl x (y+stepY k) <;> rfl
theorem GIso.cr (G:GIso m c f W H bl W' H' bl'){x y:Int}{k:Nat}(hk:k<8)(x1:0<=x)(x2:x<W)(y1:0<=y)(y2:y<H):crB W' H' bl' (afX m c x y) (afY m f x y) (dl m k)=crB W H bl x y k:=by
 obtain ⟨h1,h2,h3⟩:=G.four hk x1 x2 y1 y2
 unfold crB
 rw [h2]
 rcases h3 with ⟨h3,h4⟩|⟨h3,h4⟩
 ·rw [h3,h4]
 ·rw [h3,h4]
  cases openB W H bl (x+stepX k) (y+stepY k) <;> cases openB W H bl (x+stepX k) y <;> cases openB W H bl x (y+stepY k) <;> rfl
theorem turn_iff {x y:Int}:turnB W H bl x y=true↔∃ k,k<8/\k % 2=1/\crB W H bl x y k=true:=by
 unfold turnB
 rw [List.any_eq_true]
 constructor
 ·rintro ⟨j,h1,h2⟩
  have:=List.mem_range.1 h1
  exact ⟨2*j+1,by omega,by omega,h2⟩
 ·rintro ⟨k,h1,h2,h3⟩
  refine ⟨k / 2,List.mem_range.2 (by omega),?_⟩
  rw [show 2*(k / 2)+1=k by omega]
  exact h3
theorem GIso.corn (G:GIso m c f W H bl W' H' bl'){a:Int}(ha:inB W H a=true):cornB W' H' bl' (ph m c f W W' a)=cornB W H bl a:=by
 obtain ⟨p1,p2,_⟩:=G.parts ha
 obtain ⟨x1,x2,y1,y2⟩:=place_bd G.w1 ha
 unfold cornB
 rw [p1,p2,G.op _ _ (by omega) (by omega) (by omega) (by omega)]
 have e:turnB W' H' bl' (afX m c (a % W) (a / W)) (afY m f (a % W) (a / W))=turnB W H bl (a % W) (a / W):=by
  rw [Bool.eq_iff_iff,turn_iff,turn_iff]
  constructor
  ·rintro ⟨j,h1,h2,h3⟩
   obtain ⟨k,hk,e⟩:=dl_from G.m8 h1
   have h4:=(dl_all m G.m8 k hk).2.2.2
   rw [<- e,G.cr hk x1 x2 y1 y2] at h3
   exact ⟨k,hk,by omega,h3⟩
  ·rintro ⟨k,h1,h2,h3⟩
   obtain ⟨h5,_,_,h4⟩:=dl_all m G.m8 k h1
   exact ⟨dl m k,h5,by omega,by rw [G.cr h1 x1 x2 y1 y2];exact h3⟩
 rw [e]
theorem GIso.edge (G:GIso m c f W H bl W' H' bl'){a b:Int}{k:Nat}(e:Edge W H bl a k b):Edge W' H' bl' (ph m c f W W' a) (dl m k) (ph m c f W W' b):=by
 obtain ⟨p1,p2,p3⟩:=G.parts e.2.1
 obtain ⟨x1,x2,y1,y2⟩:=place_bd G.w1 e.2.1
 obtain ⟨d1,d2,d3,_⟩:=dl_all m G.m8 k e.1
 obtain ⟨b1,b2⟩:=e.place G.w1
 refine ⟨d1,p3,?_,?_⟩
 ·rw [p1,p2,G.may e.1 x1 x2 y1 y2];exact e.2.2.1
 ·unfold ph
  rw [b1,b2,afX_add,afY_add,<- d2,<- d3,Int.add_mul]
  omega
theorem GIso.from_ (G:GIso m c f W H bl W' H' bl'){a b':Int}{j:Nat}(ha:inB W H a=true)(e:Edge W' H' bl' (ph m c f W W' a) j b'):∃ k b,j=dl m k/\Edge W H bl a k b/\b'=ph m c f W W' b:=by
 obtain ⟨p1,p2,p3⟩:=G.parts ha
 obtain ⟨x1,x2,y1,y2⟩:=place_bd G.w1 ha
 obtain ⟨k,hk,rfl⟩:=dl_from G.m8 e.1
 have hm:=e.2.2.1
 rw [p1,p2,G.may hk x1 x2 y1 y2] at hm
 have e2:Edge W H bl a k (a+(stepY k*W+stepX k)):=⟨hk,ha,hm,rfl⟩
 refine ⟨k,_,rfl,e2,?_⟩
 exact e.2.2.2.trans (G.edge e2).2.2.2.symm
theorem GIso.wk (G:GIso m c f W H bl W' H' bl'){a t p q:Int}(h:Wk (Edge W H bl) a t p q):Wk (Edge W' H' bl') (ph m c f W W' a) (ph m c f W W' t) p q :=
 h (fun x p q=>Wk (Edge W' H' bl') (ph m c f W W' a) (ph m c f W W' x) p q) Wk.nil (fun _ _ _ k _ hx e=>by
  have h2:=hx.step (G.edge e)
  obtain ⟨s1,s2⟩:=st_dl G.m8 e.1
  rw [s1,s2] at h2
  exact h2)
theorem GIso.wk_from (G:GIso m c f W H bl W' H' bl'){a t' p q:Int}(ha:inB W H a=true)(h:Wk (Edge W' H' bl') (ph m c f W W' a) t' p q):∃ t,inB W H t=true/\t'=ph m c f W W' t/\Wk (Edge W H bl) a t p q :=
 h (fun x p q=>∃ t,inB W H t=true/\x=ph m c f W W' t/\Wk (Edge W H bl) a t p q) ⟨a,ha,rfl,Wk.nil⟩ (fun _ _ _ j _ hx e=>by
  obtain ⟨t,h1,rfl,h2⟩:=hx
  obtain ⟨k,b,rfl,e2,rfl⟩:=G.from_ h1 e
  obtain ⟨s1,s2⟩:=st_dl G.m8 e2.1
  rw [s1,s2]
  exact ⟨b,e2.in' G.w1,rfl,h2.step e2⟩)
theorem GIso.wk_iff (G:GIso m c f W H bl W' H' bl'){a t p q:Int}(ha:inB W H a=true)(ht:inB W H t=true):Wk (Edge W H bl) a t p q↔Wk (Edge W' H' bl') (ph m c f W W' a) (ph m c f W W' t) p q:=by
 refine ⟨G.wk,fun h=>?_⟩
 obtain ⟨t2,h1,h2,h3⟩:=G.wk_from ha h
 rw [G.inj ht h1 h2]
 exact h3
theorem GIso.ffv (G:GIso m c f W H bl W' H' bl'){a:Int}(ha:inB W H a=true):ffv W H bl a=ffv W' H' bl' (ph m c f W W' a):=by
 obtain ⟨p1,p2,p3⟩:=G.parts ha
 obtain ⟨x1,x2,y1,y2⟩:=place_bd G.w1 ha
 have h:=G.op (a % W) (a / W) (by omega) (by omega) (by omega) (by omega)
 have q1:atB W H (a % W) (a / W)=true:=(at_place G.w1 ha).1
 have q2:=G.at_ _ _ x1 x2 y1 y2
 have e1:a / W*W+a % W=a:=by
  have:=Int.emod_add_mul_ediv a W
  rw [Int.mul_comm];omega
 unfold openB at h
 rw [q1,q2,e1] at h
 unfold Go.Proofs.YtmaefimaeelkbaaGreatDoor.ffv
 rw [if_pos ha,if_pos p3]
 have e2:bl a.toNat=bl' (ph m c f W W' a).toNat:=by
  unfold ph
  revert h
  cases bl a.toNat <;> cases bl' (afY m f (a % W) (a / W)*W'+afX m c (a % W) (a / W)).toNat <;> simp
 rw [e2]
theorem GIso.ff2 (G:GIso m c f W H bl W' H' bl'){a t:Int}(ha:inB W H a=true)(ht:inB W H t=true):ff2 W H bl a t=ff2 W' H' bl' (ph m c f W W' a) (ph m c f W W' t):=by
 unfold Go.Proofs.YtmaefimaeelkbaaGreatDoor.ff2
 rw [G.ffv ha,G.ffv ht]
theorem GIso.same (G:GIso m c f W H bl W' H' bl'){a t s d err s' d' err':Int}{way way':List Nat}(ha:inB W H a=true)(ht:inB W H t=true)(h:Rt W H bl a t way s d err)(h':Rt W' H' bl' (ph m c f W W' a) (ph m c f W W' t) way' s' d' err'):s=s'/\d=d'/\err=err' :=
 h.same h' (G.ff2 ha ht) (fun _ _=>G.wk_iff ha ht)
end
end
section
open Go.RowKit Go.Lib
section
variable {m : Nat} {c f W H W' H' : Int} {bl bl' : Nat → Bool}
theorem map_nodup {g:Nat->Nat}{l:List Nat}(h:l.Nodup)(hg:∀ a ∈ l,∀ b ∈ l,g a=g b->a=b):(l.map g).Nodup:=by
 induction l with
 |nil=>exact List.nodup_nil
 |cons x l ih =>
  rw [List.nodup_cons] at h
  rw [List.map_cons,List.nodup_cons]
  refine ⟨fun hx=>?_,ih h.2 (fun a ha b hb=>hg a (List.mem_cons_of_mem _ ha) b (List.mem_cons_of_mem _ hb))⟩
  obtain ⟨y,h1,h2⟩:=List.mem_map.1 hx
  have:=hg y (List.mem_cons_of_mem _ h1) x List.mem_cons_self h2
  rw [this] at h1
  exact h.1 h1
theorem rise_nodup {l:List Nat}(h:l.Pairwise (·<·)):l.Nodup:=h.imp (fun h=>Nat.ne_of_lt h)
def phN (m:Nat) (c f W W':Int) (n:Nat):Nat:=(ph m c f W W' (n:Int)).toNat
theorem GIso.phn (G:GIso m c f W H bl W' H' bl'){n:Nat}(h:inB W H (n:Int)=true):((phN m c f W W' n:Nat):Int)=ph m c f W W' (n:Int):=by
 have q:0<=ph m c f W W' (n:Int)/\ph m c f W W' (n:Int)<W'*H':=of_decide_eq_true (G.parts h).2.2
 unfold Go.Proofs.YtmaefimaeelkbaaGreatDoor.phN
 omega
theorem in_nat {W H:Int}{n:Nat}:inB W H (n:Int)=true↔n<(W*H).toNat:=by
 unfold inB
 rw [decide_eq_true_eq]
 omega
theorem crs_in {W H:Int}{bl:Nat->Bool}{n:Nat}:n ∈ crs W H bl (W*H).toNat↔inB W H (n:Int)=true/\cornB W H bl (n:Int)=true:=by
 rw [crs_mem,in_nat]
theorem GIso.crsP (G:GIso m c f W H bl W' H' bl'):((crs W H bl (W*H).toNat).map (phN m c f W W')).Perm (crs W' H' bl' (W'*H').toNat):=by
 refine (List.perm_ext_iff_of_nodup (map_nodup (rise_nodup (crs_rise W H bl _)) (fun a ha b hb e=>?_)) (rise_nodup (crs_rise W' H' bl' _))).2 (fun n=>?_)
 ·have h1:=(crs_in.1 ha).1
  have h2:=(crs_in.1 hb).1
  have e2:ph m c f W W' (a:Int)=ph m c f W W' (b:Int):=by rw [<- G.phn h1,<- G.phn h2,e]
  have:=G.inj h1 h2 e2
  omega
 ·rw [List.mem_map,crs_in]
  constructor
  ·rintro ⟨a,ha,rfl⟩
   obtain ⟨h1,h2⟩:=crs_in.1 ha
   rw [G.phn h1]
   exact ⟨(G.parts h1).2.2,by rw [G.corn h1];exact h2⟩
  ·rintro ⟨h1,h2⟩
   have ho:openB W' H' bl' ((n:Int) % W') ((n:Int) / W')=true:=by
    unfold cornB at h2
    rw [Bool.and_eq_true] at h2
    exact h2.1
   obtain ⟨x,y,x1,x2,y1,y2,e1,e2⟩:=G.sur _ _ ho
   have hat:atB W H x y=true:=decide_eq_true ⟨x1,x2,y1,y2⟩
   obtain ⟨q1,q2,q3⟩:=of_parts hat
   have e:(n:Int)=ph m c f W W' (y*W+x):=by
    obtain ⟨p1,p2,_⟩:=G.parts q3
    rw [q1,q2] at p1 p2
    exact cell_of (e1.trans p1.symm) (e2.trans p2.symm)
   have q4:0<=y*W+x/\y*W+x<W*H:=of_decide_eq_true q3
   obtain ⟨k,hk⟩:∃ k:Nat,y*W+x=(k:Int):=⟨(y*W+x).toNat,by omega⟩
   rw [hk] at q3 e
   refine ⟨k,crs_in.2 ⟨q3,?_⟩,?_⟩
   ·rw [<- G.corn q3,<- e];exact h2
   ·have:=G.phn q3
    omega
theorem dst_af {m:Nat}{c x y u v:Int}:dst (afX m c x y) (afX m c u v)=(if m<4 then dst x u else dst y v):=by
 unfold afX
 by_cases hm:m<4
 ·simp only [if_pos hm]
  unfold dst
  split <;> (split <;> split <;> omega)
 ·simp only [if_neg hm]
  unfold dst
  split <;> (split <;> split <;> omega)
theorem dst_ag {m:Nat}{f x y u v:Int}:dst (afY m f x y) (afY m f u v)=(if m<4 then dst y v else dst x u):=by
 unfold afY
 by_cases hm:m<4
 ·simp only [if_pos hm]
  unfold dst
  split <;> (split <;> split <;> omega)
 ·simp only [if_neg hm]
  unfold dst
  split <;> (split <;> split <;> omega)
theorem les_comm (a b:Int):les a b=les b a:=by unfold les;split <;> split <;> omega
theorem GIso.good (G:GIso m c f W H bl W' H' bl'){a t:Int}{k:Nat}(hk:k<8)(ha:inB W H a=true)(ht:inB W H t=true):Good (ph m c f W W' a % W') (ph m c f W W' a / W') (ph m c f W W' t % W') (ph m c f W W' t / W') (dl m k)↔Good (a % W) (a / W) (t % W) (t / W) k:=by
 obtain ⟨p1,p2,_⟩:=G.parts ha
 obtain ⟨r1,r2,_⟩:=G.parts ht
 obtain ⟨_,d2,d3,_⟩:=dl_all m G.m8 k hk
 obtain ⟨s1,s2⟩:=st_dl G.m8 hk
 unfold Good
 rw [p1,p2,r1,r2,d2,d3,<- afX_add,<- afY_add,s1,s2,dst_af,dst_af,dst_ag,dst_ag]
 by_cases hm:m<4
 ·simp only [if_pos hm]
 ·simp only [if_neg hm]
  rw [dst_comm (dst (a / W+stepY k) (t / W)),dst_comm (dst (a / W) (t / W)),les_comm (dst (a / W+stepY k) (t / W)),les_comm (dst (a / W) (t / W))]
theorem Tw.inb (w1:1<=W){a t p:Int}(ha:inB W H a=true)(h:Tw W H bl a t p):inB W H p=true:=h (fun p=>inB W H p=true) ha (fun _ _ _ _ e _=>e.in' w1)
theorem GIso.tw (G:GIso m c f W H bl W' H' bl'){a t p:Int}(ha:inB W H a=true)(ht:inB W H t=true)(h:Tw W H bl a t p):Tw W' H' bl' (ph m c f W W' a) (ph m c f W W' t) (ph m c f W W' p):=by
 have h2:=h (fun p=>inB W H p=true/\Tw W' H' bl' (ph m c f W W' a) (ph m c f W W' t) (ph m c f W W' p)) ⟨ha,Tw.nil⟩ (fun p k r hp e g=>⟨e.in' G.w1,hp.2.step (G.edge e) ((G.good e.1 hp.1 ht).2 g)⟩)
 exact h2.2
theorem GIso.tw_from (G:GIso m c f W H bl W' H' bl'){a t p':Int}(ha:inB W H a=true)(ht:inB W H t=true)(h:Tw W' H' bl' (ph m c f W W' a) (ph m c f W W' t) p'):∃ p,inB W H p=true/\p'=ph m c f W W' p/\Tw W H bl a t p :=
 h (fun p'=>∃ p,inB W H p=true/\p'=ph m c f W W' p/\Tw W H bl a t p) ⟨a,ha,rfl,Tw.nil⟩ (fun p' j r' hp e g=>by
  obtain ⟨p,h1,rfl,h2⟩:=hp
  obtain ⟨k,r,rfl,e2,rfl⟩:=G.from_ h1 e
  exact ⟨r,e2.in' G.w1,rfl,h2.step e2 ((G.good e2.1 h1 ht).1 g)⟩)
theorem GIso.on (G:GIso m c f W H bl W' H' bl'){a b z:Int}(ha:inB W H a=true)(hb:inB W H b=true)(h:On W H bl a b z):On W' H' bl' (ph m c f W W' a) (ph m c f W W' b) (ph m c f W W' z):=⟨G.tw ha hb h.1,G.tw hb ha h.2⟩
theorem GIso.on_from (G:GIso m c f W H bl W' H' bl'){a b z':Int}(ha:inB W H a=true)(hb:inB W H b=true)(h:On W' H' bl' (ph m c f W W' a) (ph m c f W W' b) z'):∃ z,inB W H z=true/\z'=ph m c f W W' z/\On W H bl a b z:=by
 obtain ⟨z,h1,h2,h3⟩:=G.tw_from ha hb h.1
 obtain ⟨y,k1,k2,k3⟩:=G.tw_from hb ha h.2
 have e:=G.inj h1 k1 (h2.symm.trans k2)
 subst e
 exact ⟨z,h1,h2,h3,k3⟩
theorem GIso.dir (G:GIso m c f W H bl W' H' bl'){a b:Int}(ha:inB W H a=true)(hb:inB W H b=true):Dir W' H' bl' (ph m c f W W' a) (ph m c f W W' b)↔Dir W H bl a b:=by
 constructor
 ·rintro ⟨⟨z',hz⟩,hk⟩
  obtain ⟨z,_,_,h3⟩:=G.on_from ha hb hz
  refine ⟨⟨z,h3⟩,fun k ho hc=>?_⟩
  have hki:=Tw.inb G.w1 ha ho.1
  have hc':CornC W' H' bl' (ph m c f W W' k):=cornB_iff.1 (by rw [G.corn hki];exact cornB_iff.2 hc)
  rcases hk _ (G.on ha hb ho) hc' with e|e
  ·exact Or.inl (G.inj hki ha e)
  ·exact Or.inr (G.inj hki hb e)
 ·rintro ⟨⟨z,hz⟩,hk⟩
  refine ⟨⟨_,G.on ha hb hz⟩,fun k' ho hc=>?_⟩
  obtain ⟨k,h1,rfl,h3⟩:=G.on_from ha hb ho
  have hc':CornC W H bl k:=cornB_iff.1 (by rw [<- G.corn h1];exact cornB_iff.2 hc)
  rcases hk _ h3 hc' with e|e
  ·exact Or.inl (by rw [e])
  ·exact Or.inr (by rw [e])
theorem GIso.es (G:GIso m c f W H bl W' H' bl'){n:Nat}(hn:n ∈ crs W H bl (W*H).toNat):(esF W' H' bl' (phN m c f W W' n)).length=(esF W H bl n).length:=by
 obtain ⟨h1,h2⟩:=crs_in.1 hn
 have hp:=G.phn h1
 have h2':cornB W' H' bl' ((phN m c f W W' n:Nat):Int)=true:=by rw [hp,G.corn h1];exact h2
 obtain ⟨l,k1,k2⟩:=(esF_ok (H:=H) (bl:=bl) G.w1).1 n h2
 obtain ⟨l',k1',k2'⟩:=(esF_ok (H:=H') (bl:=bl') G.w1').1 _ h2'
 rw [k2,k2',List.length_map,List.length_map]
 have hin:∀ {x:Nat},x ∈ l->inB W H (x:Int)=true:=fun {x} hx=>by
  have q:=((k1.2 x).1 hx).2
  rw [Bool.and_eq_true] at q
  exact cornC_in G.w1 (cornB_iff.1 q.2)
 have hperm:(l.map (phN m c f W W')).Perm l':=by
  refine (List.perm_ext_iff_of_nodup (map_nodup (rise_nodup k1.1) (fun a ha b hb e=>?_)) (rise_nodup k1'.1)).2 (fun x=>?_)
  ·have e2:ph m c f W W' (a:Int)=ph m c f W W' (b:Int):=by rw [<- G.phn (hin ha),<- G.phn (hin hb),e]
   have:=G.inj (hin ha) (hin hb) e2
   omega
  ·rw [List.mem_map,k1'.2]
   rw [hp]
   constructor
   ·rintro ⟨a,ha,rfl⟩
    obtain ⟨q1,q2⟩:=(k1.2 a).1 ha
    rw [Bool.and_eq_true,decide_eq_true_eq] at q2
    rw [G.phn (hin ha)]
    refine ⟨(G.dir h1 (hin ha)).2 q1,?_⟩
    rw [Bool.and_eq_true,decide_eq_true_eq]
    exact ⟨fun e=>q2.1 (G.inj (hin ha) h1 e),by rw [G.corn (hin ha)];exact q2.2⟩
   ·rintro ⟨q1,q2⟩
    rw [Bool.and_eq_true,decide_eq_true_eq] at q2
    have hx:x ∈ crs W' H' bl' (W'*H').toNat:=by
     refine crs_in.2 ⟨?_,q2.2⟩
     have:=cornC_in G.w1' (cornB_iff.1 q2.2)
     exact this
    obtain ⟨a,ha,e⟩:=List.mem_map.1 ((G.crsP.mem_iff).2 hx)
    obtain ⟨r1,r2⟩:=crs_in.1 ha
    have e2:(x:Int)=ph m c f W W' (a:Int):=by rw [<- e,G.phn r1]
    rw [e2] at q1 q2
    refine ⟨a,(k1.2 a).2 ⟨(G.dir h1 r1).1 q1,?_⟩,e⟩
    rw [Bool.and_eq_true,decide_eq_true_eq]
    exact ⟨fun e=>q2.1 (by rw [e]),r2⟩
 rw [<- hperm.length_eq,List.length_map]
theorem GIso.nodes (G:GIso m c f W H bl W' H' bl'):(crs W H bl (W*H).toNat).length=(crs W' H' bl' (W'*H').toNat).length:=by
 rw [<- G.crsP.length_eq,List.length_map]
theorem GIso.edges (G:GIso m c f W H bl W' H' bl'):edN W H bl (crs W H bl (W*H).toNat)=edN W' H' bl' (crs W' H' bl' (W'*H').toNat):=by
 unfold edN
 rw [<- (G.crsP.map (fun n=>(esF W' H' bl' n).length)).sum_nat,List.map_map]
 congr 1
 exact List.map_congr_left (fun n hn=>(G.es hn).symm)
end
end
section
open Go.RowKit Go.Lib
section
variable {W H : Int} {bl bl' : Nat → Bool}
theorem opn_at {W H x y:Int}{bl:Nat->Bool}(h:atB W H x y=true):openB W H bl x y=!bl (y*W+x).toNat:=by unfold openB;rw [h];rfl
theorem opn_no {W H x y:Int}{bl:Nat->Bool}(h:atB W H x y=false):openB W H bl x y=false:=by unfold openB;rw [h];rfl
theorem at_yes {W H x y:Int}(h1:0<=x)(h2:x<W)(h3:0<=y)(h4:y<H):atB W H x y=true:=decide_eq_true ⟨h1,h2,h3,h4⟩
theorem at_no {W H x y:Int}(h:¬ (0<=x/\x<W/\0<=y/\y<H)):atB W H x y=false:=decide_eq_false h
theorem GIso.frame (w1:1<=W)(hb:∀ x y,0<=x->x<W+2->0<=y->y<H+2->bl' (y*(W+2)+x).toNat=(if 1<=x/\x<=W/\1<=y/\y<=H then bl ((y - 1)*W+(x - 1)).toNat else true)):GIso 0 1 1 W H bl (W+2) (H+2) bl':=by
 have eX:∀ x y:Int,afX 0 1 x y=x+1:=fun x y=>rfl
 have eY:∀ x y:Int,afY 0 1 x y=y+1:=fun x y=>rfl
 refine ⟨by decide,w1,by omega,fun x y x1 x2 y1 y2=>?_,fun x y x1 x2 y1 y2=>?_,fun X Y ho=>?_⟩
 ·rw [eX,eY,opn_at (at_yes (by omega) (by omega) (by omega) (by omega)),hb _ _ (by omega) (by omega) (by omega) (by omega)]
  by_cases h:0<=x/\x<W/\0<=y/\y<H
  ·rw [if_pos (by omega),opn_at (decide_eq_true h),show y+1 - 1=y by omega,show x+1 - 1=x by omega]
  ·rw [if_neg (by omega),opn_no (at_no h)];rfl
 ·rw [eX,eY]
  exact at_yes (by omega) (by omega) (by omega) (by omega)
 ·have ha:atB (W+2) (H+2) X Y=true:=by
   cases h:atB (W+2) (H+2) X Y with
   |true=>rfl
   |false=>rw [opn_no h] at ho;cases ho
  have q:0<=X/\X<W+2/\0<=Y/\Y<H+2:=of_decide_eq_true ha
  rw [opn_at ha,hb _ _ q.1 q.2.1 q.2.2.1 q.2.2.2] at ho
  by_cases h:1<=X/\X<=W/\1<=Y/\Y<=H
  ·refine ⟨X - 1,Y - 1,by omega,by omega,by omega,by omega,?_,?_⟩
   ·rw [eX];omega
   ·rw [eY];omega
  ·rw [if_neg h] at ho;cases ho
def tuC (m:Nat) (W H:Int):Int:=if m<4 then (if m % 2=1 then W - 1 else 0) else (if m / 2 % 2=1 then H - 1 else 0)
def tuF (m:Nat) (W H:Int):Int:=if m<4 then (if m / 2 % 2=1 then H - 1 else 0) else (if m % 2=1 then W - 1 else 0)
def tuW (m:Nat) (W H:Int):Int:=if m<4 then W else H
def tuH (m:Nat) (W H:Int):Int:=if m<4 then H else W
theorem tu_at {m:Nat}{W H:Int}(x y:Int):(0<=afX m (tuC m W H) x y/\afX m (tuC m W H) x y<tuW m W H/\0<=afY m (tuF m W H) x y/\afY m (tuF m W H) x y<tuH m W H)↔(0<=x/\x<W/\0<=y/\y<H):=by
 unfold afX afY tuC tuF tuW tuH
 by_cases hm:m<4
 ·simp only [if_pos hm]
  by_cases h1:m % 2=1 <;> by_cases h2:m / 2 % 2=1 <;> simp only [h1,h2,if_true,if_false] <;> omega
 ·simp only [if_neg hm]
  by_cases h1:m % 2=1 <;> by_cases h2:m / 2 % 2=1 <;> simp only [h1,h2,if_true,if_false] <;> omega
theorem tu_from {m:Nat}{W H:Int}(X Y:Int):∃ x y,X=afX m (tuC m W H) x y/\Y=afY m (tuF m W H) x y:=by
 unfold afX afY tuC tuF
 by_cases hm:m<4
 ·simp only [if_pos hm]
  by_cases h1:m % 2=1 <;> by_cases h2:m / 2 % 2=1 <;> simp only [h1,h2,if_true,if_false]
  ·exact ⟨W - 1 - X,H - 1 - Y,by omega,by omega⟩
  ·exact ⟨W - 1 - X,Y,by omega,by omega⟩
  ·exact ⟨X,H - 1 - Y,by omega,by omega⟩
  ·exact ⟨X,Y,by omega,by omega⟩
 ·simp only [if_neg hm]
  by_cases h1:m % 2=1 <;> by_cases h2:m / 2 % 2=1 <;> simp only [h1,h2,if_true,if_false]
  ·exact ⟨W - 1 - Y,H - 1 - X,by omega,by omega⟩
  ·exact ⟨W - 1 - Y,X,by omega,by omega⟩
  ·exact ⟨Y,H - 1 - X,by omega,by omega⟩
  ·exact ⟨Y,X,by omega,by omega⟩
theorem GIso.turn {m:Nat}(m8:m<8)(w1:1<=W)(h1:1<=H)(hb:∀ x y,0<=x->x<W->0<=y->y<H->bl' (afY m (tuF m W H) x y*tuW m W H+afX m (tuC m W H) x y).toNat=bl (y*W+x).toNat):GIso m (tuC m W H) (tuF m W H) W H bl (tuW m W H) (tuH m W H) bl':=by
 refine ⟨m8,w1,by unfold tuW;split <;> omega,fun x y x1 x2 y1 y2=>?_,fun x y x1 x2 y1 y2=>?_,fun X Y ho=>?_⟩
 ·by_cases h:0<=x/\x<W/\0<=y/\y<H
  ·rw [opn_at (decide_eq_true ((tu_at x y).2 h)),opn_at (decide_eq_true h),hb x y h.1 h.2.1 h.2.2.1 h.2.2.2]
  ·rw [opn_no (at_no (fun q=>h ((tu_at x y).1 q))),opn_no (at_no h)]
 ·exact decide_eq_true ((tu_at x y).2 ⟨x1,x2,y1,y2⟩)
 ·obtain ⟨x,y,rfl,rfl⟩:=tu_from (m:=m) (W:=W) (H:=H) X Y
  have ha:atB (tuW m W H) (tuH m W H) (afX m (tuC m W H) x y) (afY m (tuF m W H) x y)=true:=by
   cases h:atB (tuW m W H) (tuH m W H) (afX m (tuC m W H) x y) (afY m (tuF m W H) x y) with
   |true=>rfl
   |false=>rw [opn_no h] at ho;cases ho
  obtain ⟨q1,q2,q3,q4⟩:=(tu_at x y).1 (of_decide_eq_true ha)
  exact ⟨x,y,q1,q2,q3,q4,rfl,rfl⟩
end
end
section
open Go.RowKit Go.Lib
noncomputable def lvK (W H:Int) (bl:Nat->Bool) (most:Nat):Nat × LSt:=@dite _ (∃ p:Nat × LSt,Rds most (crs W H bl (W*H).toNat) ⟨fun _=>0,esF W H bl⟩ p.1 p.2/\Over most (crs W H bl (W*H).toNat) p.1 p.2) (Classical.propDecidable _) (fun h=>Classical.choose h) (fun _=>(0,⟨fun _=>0,fun _=>[]⟩))
theorem lvK_eq {W H:Int}{bl:Nat->Bool}{most k:Nat}{st:LSt}(h:Rds most (crs W H bl (W*H).toNat) ⟨fun _=>0,esF W H bl⟩ k st)(ho:Over most (crs W H bl (W*H).toNat) k st):lvK W H bl most=(k,st):=by
 have hx:∃ p:Nat × LSt,Rds most (crs W H bl (W*H).toNat) ⟨fun _=>0,esF W H bl⟩ p.1 p.2/\Over most (crs W H bl (W*H).toNat) p.1 p.2:=⟨(k,st),h,ho⟩
 unfold lvK
 rw [dif_pos hx]
 obtain ⟨h1,h2⟩:=Classical.choose_spec hx
 obtain ⟨e1,e2⟩:=rounds_one h1 h2 h ho
 exact Prod.ext e1 e2
noncomputable def addN (W H:Int) (bl:Nat->Bool) (most:Nat):Nat:=sumB (addA (lvK W H bl most).2.es) (memS (crs W H bl (W*H).toNat)) 256
noncomputable def stV (W H V:Int) (bl:Nat->Bool) (most:Nat):Array Value:=#[.int .i64 (W*H),.int .i64 (frN bl (W*H).toNat:Nat),.int .i64 ((crs W H bl (W*H).toNat).length:Nat),.int .i64 (edN W H bl (crs W H bl (W*H).toNat) / 2:Nat),.int .i64 ((addN W H bl most:Nat) / 2:Int),.int .i64 ((lvK W H bl most).1+1:Nat),.int .i64 V]
section
variable {w : World} {lo hi sb rb pb mb lb tb gb N x most : Nat} {W H V V2 : Int} {bl : Nat → Bool}
theorem SvAt.added (w:World)(S:SvAt w lo hi sb rb pb mb lb tb gb N x W H V V2 bl most):Calls Tryz.prog 56 #[.pointer (some ⟨lb,0,none⟩)] w fun e w'=>e=.returned (.int .i64 ((addN W H bl most:Nat) / 2:Int))/\Below w.heap.size w w':=by
 obtain ⟨w1,w2,h1,h2⟩:=S.side
 obtain ⟨vb,eb,k,st,f,hR,hO,V⟩:=S.lv
 have hwh:=wh_bd w1 w2 h1 h2
 have B:=Btw.rds (show (0:Int)<=16 by omega) ((esF_ok (W:=W) (H:=H) (bl:=bl) w1).btw w1 w2 h1 h2) hR
 have hl:∀ n,(st.es n).length<=256:=fun n=>LayOk.len (L:=crs W H bl (W*H).toNat) (fun a=>⟨B.lrd.esy.ord a,fun e he=>(B.cor.ends he).2⟩) (fun n hn=>by have:=(crs_mem.1 hn).1;omega) n
 have h:=added_any w V hl
 unfold addN
 rw [lvK_eq hR hO]
 exact h
theorem SvAt.topl (w:World)(S:SvAt w lo hi sb rb pb mb lb tb gb N x W H V V2 bl most):Calls Tryz.prog 57 #[.pointer (some ⟨lb,0,none⟩)] w fun e w'=>e=.returned (.int .i64 ((lvK W H bl most).1+1:Nat))/\Below w.heap.size w w':=by
 obtain ⟨vb,eb,k,st,f,hR,hO,V⟩:=S.lv
 rw [lvK_eq hR hO]
 exact (top_any w V).mono fun e w' ⟨h1,h2⟩=>⟨h1,by rw [h2];exact Below.refl _ _⟩
theorem SvAt.nodes (w:World)(S:SvAt w lo hi sb rb pb mb lb tb gb N x W H V V2 bl most):Calls Tryz.prog 54 #[.pointer (some ⟨rb,0,none⟩)] w fun e w'=>∃ A cap,e=.returned (.slice A (crs W H bl (W*H).toNat).length cap)/\Below w.heap.size w w':=by
 refine (nodes_any w S.gr).mono ?_
 rintro e w' ⟨v,rfl,ho,hb⟩
 obtain ⟨A,cap,rfl,_⟩:=oldRow_of ho
 exact ⟨A,cap,rfl,hb⟩
end
def st7 (w:World) (B:Nat) (a0 a1 a2 a3 a4 a5 a6:Value):World:=((((((w.setCell ⟨B,0,none⟩ a0).setCell ⟨B,1,none⟩ a1).setCell ⟨B,2,none⟩ a2).setCell ⟨B,3,none⟩ a3).setCell ⟨B,4,none⟩ a4).setCell ⟨B,5,none⟩ a5).setCell ⟨B,6,none⟩ a6
theorem st7_keep (w:World)(B:Nat)(a0 a1 a2 a3 a4 a5 a6:Value):Keep (fun k=>k=B) w (st7 w B a0 a1 a2 a3 a4 a5 a6):=by
 unfold st7
 exact ((((((((Keep.refl (fun k=>k=B) w).setCell (p:=⟨B,0,none⟩) (fun _=>rfl) _).setCell (p:=⟨B,1,none⟩) (fun _=>rfl) _).setCell (p:=⟨B,2,none⟩) (fun _=>rfl) _).setCell (p:=⟨B,3,none⟩) (fun _=>rfl) _).setCell (p:=⟨B,4,none⟩) (fun _=>rfl) _).setCell (p:=⟨B,5,none⟩) (fun _=>rfl) _).setCell (p:=⟨B,6,none⟩) (fun _=>rfl) _)
theorem st7_at {w:World}{B:Nat}{u:Value}(h:∀ o,o<7->w.cell? ⟨B,o,none⟩=some u)(a0 a1 a2 a3 a4 a5 a6:Value):(st7 w B a0 a1 a2 a3 a4 a5 a6).cell? ⟨B,0,none⟩=some a0/\(st7 w B a0 a1 a2 a3 a4 a5 a6).cell? ⟨B,1,none⟩=some a1/\(st7 w B a0 a1 a2 a3 a4 a5 a6).cell? ⟨B,2,none⟩=some a2/\(st7 w B a0 a1 a2 a3 a4 a5 a6).cell? ⟨B,3,none⟩=some a3/\(st7 w B a0 a1 a2 a3 a4 a5 a6).cell? ⟨B,4,none⟩=some a4/\(st7 w B a0 a1 a2 a3 a4 a5 a6).cell? ⟨B,5,none⟩=some a5/\(st7 w B a0 a1 a2 a3 a4 a5 a6).cell? ⟨B,6,none⟩=some a6:=by
 have ne:∀ {i j:Nat},i≠j->(⟨B,i,none⟩:Addr)≠⟨B,j,none⟩:=fun h q=>h (Addr.mk.inj q).2.1
 have st:∀ (v:World) (i j:Nat) (a:Value),i≠j->(v.setCell ⟨B,j,none⟩ a).cell? ⟨B,i,none⟩=v.cell? ⟨B,i,none⟩:=fun v i j a hij=>World.cell?_setCell_other _ _ _ _ (ne (Ne.symm hij))
 unfold st7
 refine ⟨?_,?_,?_,?_,?_,?_,?_⟩
 ·rw [st _ 0 6 _ (by decide),st _ 0 5 _ (by decide),st _ 0 4 _ (by decide),st _ 0 3 _ (by decide),st _ 0 2 _ (by decide),st _ 0 1 _ (by decide)]
  exact World.cell?_setCell_same _ _ _ (h 0 (by decide))
 ·rw [st _ 1 6 _ (by decide),st _ 1 5 _ (by decide),st _ 1 4 _ (by decide),st _ 1 3 _ (by decide),st _ 1 2 _ (by decide)]
  exact World.cell?_setCell_same _ _ _ (u:=u) (by rw [st _ 1 0 _ (by decide)];exact h 1 (by decide))
 ·rw [st _ 2 6 _ (by decide),st _ 2 5 _ (by decide),st _ 2 4 _ (by decide),st _ 2 3 _ (by decide)]
  exact World.cell?_setCell_same _ _ _ (u:=u) (by rw [st _ 2 1 _ (by decide),st _ 2 0 _ (by decide)];exact h 2 (by decide))
 ·rw [st _ 3 6 _ (by decide),st _ 3 5 _ (by decide),st _ 3 4 _ (by decide)]
  exact World.cell?_setCell_same _ _ _ (u:=u) (by rw [st _ 3 2 _ (by decide),st _ 3 1 _ (by decide),st _ 3 0 _ (by decide)];exact h 3 (by decide))
 ·rw [st _ 4 6 _ (by decide),st _ 4 5 _ (by decide)]
  exact World.cell?_setCell_same _ _ _ (u:=u) (by rw [st _ 4 3 _ (by decide),st _ 4 2 _ (by decide),st _ 4 1 _ (by decide),st _ 4 0 _ (by decide)];exact h 4 (by decide))
 ·rw [st _ 5 6 _ (by decide)]
  exact World.cell?_setCell_same _ _ _ (u:=u) (by rw [st _ 5 4 _ (by decide),st _ 5 3 _ (by decide),st _ 5 2 _ (by decide),st _ 5 1 _ (by decide),st _ 5 0 _ (by decide)];exact h 5 (by decide))
 ·exact World.cell?_setCell_same _ _ _ (u:=u) (by rw [st _ 6 5 _ (by decide),st _ 6 4 _ (by decide),st _ 6 3 _ (by decide),st _ 6 2 _ (by decide),st _ 6 1 _ (by decide),st _ 6 0 _ (by decide)];exact h 6 (by decide))
set_option maxHeartbeats 4000000 in
set_option maxRecDepth 1000000 in
theorem stats_any {lo hi sb most:Nat}{W H V:Int}{bl:Nat->Bool}(w:World)(S:Sv w lo hi sb W H V bl most) :
  Calls Tryz.prog 23 #[.pointer (some ⟨sb,0,none⟩)] w fun e w'=>e=.returned (.agg (stV W H V bl most))/\Below w.heap.size w w':=by
 obtain ⟨rb,pb,mb,lb,tb,gb,N,x,V2,S⟩:=S
 obtain ⟨w1,w2,h1,h2⟩:=S.side
 have b0:Below w.heap.size w (w.alloc (.cells #[.int .i64 0,.int .i64 0,.int .i64 0,.int .i64 0,.int .i64 0,.int .i64 0,.int .i64 0] 64)):=(Below.refl _ _).alloc (Nat.le_refl _) _
 have k7:∀ o,(w.alloc (.cells #[.int .i64 0,.int .i64 0,.int .i64 0,.int .i64 0,.int .i64 0,.int .i64 0,.int .i64 0] 64)).cell? ⟨w.heap.size,o,none⟩=#[Value.int .i64 0,.int .i64 0,.int .i64 0,.int .i64 0,.int .i64 0,.int .i64 0,.int .i64 0][o]? := fun o=>World.cell?_alloc_new ..
 have f7:=free_alloc w #[.int .i64 0,.int .i64 0,.int .i64 0,.int .i64 0,.int .i64 0,.int .i64 0,.int .i64 0] 64 w.heap.size (Nat.le_refl _)
 have S0:=S.below b0
 have q1:=S0.c1
 have hgg:=ggrid_any _ S0.gr
 unfold stV
 have H53:Hid (∀ (w':World) (M:Nat),GridAt w' M W H V bl->Calls Tryz.prog 52 #[.pointer (some ⟨M,0,none⟩)] w' fun e w''=>e=.returned (.int .i64 (W*H))/\Below w'.heap.size w' w''):=fun w' M g=>(cells_any w' g).mono fun e w'' ⟨h1,m,h2⟩=>⟨h1,by rw [h2];exact below_drewN (Below.refl _ _) _⟩
 have H54:Hid (∀ (w':World) (M:Nat),GridAt w' M W H V bl->_):=fun w' M g=>countFree_any w' g
 have H55:Hid (∀ w',SvAt w' lo hi sb rb pb mb lb tb gb N x W H V V2 bl most->_):=fun w' S=>SvAt.nodes w' S
 have H56:Hid (∀ w',SvAt w' lo hi sb rb pb mb lb tb gb N x W H V V2 bl most->_):=fun w' S=>countEdges_any w' S.gr w1 w2 h1 h2
 have H57:Hid (∀ w',SvAt w' lo hi sb rb pb mb lb tb gb N x W H V V2 bl most->_):=fun w' S=>SvAt.added w' S
 have H58:Hid (∀ w',SvAt w' lo hi sb rb pb mb lb tb gb N x W H V V2 bl most->_):=fun w' S=>SvAt.topl w' S
 have H59:Hid (∀ (w':World) (M:Nat),GridAt w' M W H V bl->Calls Tryz.prog 58 #[.pointer (some ⟨M,0,none⟩)] w' fun e w''=>e=.returned (.int .i64 V)/\Below w'.heap.size w' w''):=fun w' M g=>(version_any w' g).mono fun e w'' ⟨h1,h2⟩=>⟨h1,by rw [h2];exact Below.refl _ _⟩
 generalize ((frN bl (W*H).toNat:Nat):Int)=fr at *
 generalize ((edN W H bl (crs W H bl (W*H).toNat) / 2:Nat):Int)=ed at *
 generalize (crs W H bl (W*H).toNat).length=nd at *
 generalize ((addN W H bl most:Nat) / 2:Int)=ad at *
 generalize (((lvK W H bl most).1+1:Nat):Int)=tp at *
 generalize W*H=wh at *
 go_enter Tryz.func23,Tryz.ntmps23
 go_wp2_with fail
 have hz0:w.heap.size<(w.alloc (.cells #[.int .i64 0,.int .i64 0,.int .i64 0,.int .i64 0,.int .i64 0,.int .i64 0,.int .i64 0] 64)).heap.size:=by simp
 generalize w.alloc (.cells #[.int .i64 0,.int .i64 0,.int .i64 0,.int .i64 0,.int .i64 0,.int .i64 0,.int .i64 0] 64)=wa at *
 refine hgg.mono ?_
 rintro e wb ⟨rfl,hb1,hz1,g1,_⟩
 have S1:=S0.below hb1
 have B1:=b0.trans (hb1.mono b0.size)
 have hzb:w.heap.size<wb.heap.size:=Nat.lt_of_lt_of_le hz0 hb1.size
 have c7:∀ o,wb.cell? ⟨w.heap.size,o,none⟩=#[Value.int .i64 0,.int .i64 0,.int .i64 0,.int .i64 0,.int .i64 0,.int .i64 0,.int .i64 0][o]? := fun o=>(hb1.cell (p:=⟨w.heap.size,o,none⟩) hz0).trans (k7 o)
 have z7:∀ o,wb.frozen? ⟨w.heap.size,o,none⟩=false:=fun o=>(hb1.frozen (p:=⟨w.heap.size,o,none⟩) hz0).trans (f7 o)
 generalize wa.heap.size=M at *
 have HC7:Hid (∀ (w':World),Below wb.heap.size wb w'->∀ o,o<7->w'.cell? ⟨w.heap.size,o,none⟩=some (.int .i64 0)/\w'.frozen? ⟨w.heap.size,o,none⟩=false):=fun w' hb o ho=>by
  have h1:=(hb.cell (p:=⟨w.heap.size,o,none⟩) hzb).trans (c7 o)
  have h2:=(hb.frozen (p:=⟨w.heap.size,o,none⟩) hzb).trans (z7 o)
  refine ⟨?_,h2⟩
  rw [h1]
  have ho':o=0\/o=1\/o=2\/o=3\/o=4\/o=5\/o=6:=by omega
  rcases ho' with rfl|rfl|rfl|rfl|rfl|rfl|rfl <;> rfl
 have hsbl:sb<w.heap.size:=S.lt
 have CC:Hid (∀ w',Below wb.heap.size wb w'->w'.cell? ⟨sb,1,none⟩=some (.pointer (some ⟨rb,0,none⟩))/\w'.cell? ⟨sb,2,none⟩=some (.pointer (some ⟨lb,0,none⟩))):=fun w' h=>⟨(h.cell (World.block_lt_of_cell? wb _ S1.c1)).trans S1.c1,(h.cell (World.block_lt_of_cell? wb _ S1.c2)).trans S1.c2⟩
 have HG1:Hid (∀ w',Below wb.heap.size wb w'->GridAt w' M W H V bl):=fun w' hb=>g1.below hb hz1
 have HS1:Hid (∀ w',Below wb.heap.size wb w'->SvAt w' lo hi sb rb pb mb lb tb gb N x W H V V2 bl most):=fun w' hb=>S1.below hb
 clear hgg S0 S1 k7 f7 g1 q1 hb1 S c7 z7 hz1
 have HST:Hid (∀ w9,Below wb.heap.size wb w9->(((((((w9.setCell ⟨w.heap.size,0,none⟩ (.int .i64 wh)).setCell ⟨w.heap.size,1,none⟩ (.int .i64 fr)).setCell ⟨w.heap.size,2,none⟩ (.int .i64 (nd:Int))).setCell ⟨w.heap.size,3,none⟩ (.int .i64 ed)).setCell ⟨w.heap.size,4,none⟩ (.int .i64 ad)).setCell ⟨w.heap.size,5,none⟩ (.int .i64 tp)).setCell ⟨w.heap.size,6,none⟩ (.int .i64 V)).cell? ⟨sb,1,none⟩=some (.pointer (some ⟨rb,0,none⟩))/\(((((((w9.setCell ⟨w.heap.size,0,none⟩ (.int .i64 wh)).setCell ⟨w.heap.size,1,none⟩ (.int .i64 fr)).setCell ⟨w.heap.size,2,none⟩ (.int .i64 (nd:Int))).setCell ⟨w.heap.size,3,none⟩ (.int .i64 ed)).setCell ⟨w.heap.size,4,none⟩ (.int .i64 ad)).setCell ⟨w.heap.size,5,none⟩ (.int .i64 tp)).setCell ⟨w.heap.size,6,none⟩ (.int .i64 V)).cell? ⟨sb,2,none⟩=some (.pointer (some ⟨lb,0,none⟩))):=fun w9 hb=>⟨(st7_keep w9 w.heap.size (.int .i64 wh) (.int .i64 fr) (.int .i64 (nd:Int)) (.int .i64 ed) (.int .i64 ad) (.int .i64 tp) (.int .i64 V)).cellOf (CC.out _ hb).1 (Nat.ne_of_lt hsbl),(st7_keep w9 w.heap.size (.int .i64 wh) (.int .i64 fr) (.int .i64 (nd:Int)) (.int .i64 ed) (.int .i64 ad) (.int .i64 tp) (.int .i64 V)).cellOf (CC.out _ hb).2 (Nat.ne_of_lt hsbl)⟩
 go_wp2_with fail
 have eC:Below wb.heap.size wb wb.drew:=(Below.refl _ _).drew
 go_region_held3 (fun w'=>w'.cell? ⟨sb,1,none⟩=some (.pointer (some ⟨rb,0,none⟩))/\w'.cell? ⟨sb,2,none⟩=some (.pointer (some ⟨lb,0,none⟩))) (first|with_reducible exact CC.out _ eC|with_reducible exact HST.out _ eC)
  (first
   |(go_at_call 52;refine (H53.out _ _ (HG1.out _ eC)).mono ?_;rintro r w3 ⟨rfl,hb3⟩;have eC:=eC.trans (hb3.mono eC.size))
   |(go_at_call 53;refine (H54.out _ _ (HG1.out _ eC)).mono ?_;rintro r w4 ⟨rfl,hb4⟩;have eC:=eC.trans (hb4.mono eC.size))
   |(go_at_call 54;refine (H55.out _ (HS1.out _ eC)).mono ?_;rintro r w5 ⟨A5,cap5,rfl,hb5⟩;have eC:=eC.trans (hb5.mono eC.size))
   |(go_at_call 55;refine (H56.out _ (HS1.out _ eC)).mono ?_;rintro r w6 ⟨rfl,hb6⟩;have eC:=eC.trans (hb6.mono eC.size))
   |(go_at_call 56;refine (H57.out _ (HS1.out _ eC)).mono ?_;rintro r w7 ⟨rfl,hb7⟩;have eC:=eC.trans (hb7.mono eC.size))
   |(go_at_call 57;refine (H58.out _ (HS1.out _ eC)).mono ?_;rintro r w8 ⟨rfl,hb8⟩;have eC:=eC.trans (hb8.mono eC.size))
   |(go_at_call 58;refine (H59.out _ _ (HG1.out _ eC)).mono ?_;rintro r w9 ⟨rfl,hb9⟩;have eC:=eC.trans (hb9.mono eC.size);have x0:=(HC7.out _ eC 0 (by decide)).1;have y0:=(HC7.out _ eC 0 (by decide)).2;have x1:=(HC7.out _ eC 1 (by decide)).1;have y1:=(HC7.out _ eC 1 (by decide)).2;have x2:=(HC7.out _ eC 2 (by decide)).1;have y2:=(HC7.out _ eC 2 (by decide)).2;have x3:=(HC7.out _ eC 3 (by decide)).1;have y3:=(HC7.out _ eC 3 (by decide)).2;have x4:=(HC7.out _ eC 4 (by decide)).1;have y4:=(HC7.out _ eC 4 (by decide)).2;have x5:=(HC7.out _ eC 5 (by decide)).1;have y5:=(HC7.out _ eC 5 (by decide)).2;have x6:=(HC7.out _ eC 6 (by decide)).1;have y6:=(HC7.out _ eC 6 (by decide)).2))
 go_wp2
 have r:=st7_at (fun o ho=>(HC7.out _ eC o ho).1) (.int .i64 wh) (.int .i64 fr) (.int .i64 (nd:Int)) (.int .i64 ed) (.int .i64 ad) (.int .i64 tp) (.int .i64 V)
 obtain ⟨r0,r1,r2,r3,r4,r5,r6⟩:=r
 unfold st7 at r0 r1 r2 r3 r4 r5 r6
 refine bodyPost_ret (v:=.agg #[.int .i64 wh,.int .i64 fr,.int .i64 (nd:Int),.int .i64 ed,.int .i64 ad,.int .i64 tp,.int .i64 V]) (by simp [results,Tryz.results23,go_sem,r0,r1,r2,r3,r4,r5,r6]) rfl ⟨rfl,?_⟩
 have BF:=B1.trans (eC.mono B1.size)
 exact ((((((BF.setCell (p:=⟨w.heap.size,0,none⟩) (Nat.le_refl _) _).setCell (p:=⟨w.heap.size,1,none⟩) (Nat.le_refl _) _).setCell (p:=⟨w.heap.size,2,none⟩) (Nat.le_refl _) _).setCell (p:=⟨w.heap.size,3,none⟩) (Nat.le_refl _) _).setCell (p:=⟨w.heap.size,4,none⟩) (Nat.le_refl _) _).setCell (p:=⟨w.heap.size,5,none⟩) (Nat.le_refl _) _).setCell (p:=⟨w.heap.size,6,none⟩) (Nat.le_refl _) _
end
section
open Go.ChangeShapes Go.WideShapes Go.ChangeAt Go.RowKit
theorem gSyn : Tryz.prog.globalNamed "strconv.ErrSyntax" = some 3 := by kernel_rfl
theorem gSynT:(Tryz.prog.globals[3]?).map (·.type)=some 27:=by kernel_rfl
theorem gRng : Tryz.prog.globalNamed "strconv.ErrRange" = some 4 := by kernel_rfl
theorem gRngT:(Tryz.prog.globals[4]?).map (·.type)=some 27:=by kernel_rfl
theorem gPowT:(Tryz.prog.globals[5]?).map (·.type)=some 336:=by kernel_rfl
theorem gBru : Tryz.prog.globalNamed "math/bits.deBruijn64tab" = some 7 := by kernel_rfl
theorem star : "*" ++ "errors.errorString" = "*errors.errorString" := by decide
theorem row137 (u : TypeId) (h : Tryz.prog.typeName? 3 u = some "*errors.errorString") : u = 331 :=
 typeName_ptr_named (nm := "errors.errorString") (by rw [star]; kernel_rfl) (by kernel_rfl) (by decide) u (by rw [star]; exact h)
theorem cells139:Tryz.prog.cellsOf 333=1:=by kernel_rfl
theorem cells9':Tryz.prog.cellsOf 9=1:=by kernel_rfl
theorem cells129:Tryz.prog.cellsOf 336=20:=by kernel_rfl
theorem pow_tab:(Rows.laid_internal_strconv_uint64pow10:DataW Unit)=Lib.tabData .u64 Lib.pow10Tab:=by kernel_rfl
theorem lt_of_var {W:World}{n:String}{g:Nat}{cs:Array Value}(hg:Tryz.prog.globalNamed n=some g)(hv:W.var? Tryz.prog n=some cs):g<W.heap.size:=by
 rcases Nat.lt_or_ge g W.heap.size with h|h
 ·exact h
 ·exfalso
  unfold World.var? at hv
  simp [hg,Array.getElem?_eq_none h] at hv
theorem env_of {W : World} {r : List (String × DataW Unit)} (h : laidMet Tryz.prog (("math/bits.deBruijn32tab", Rows.laid_math_bits_deBruijn32tab) :: ("math/bits.deBruijn64tab", Rows.laid_math_bits_deBruijn64tab) :: ("internal/strconv.uint64pow10", Rows.laid_internal_strconv_uint64pow10) :: ("strconv.ErrRange", Rows.laid_strconv_ErrRange) :: ("strconv.ErrSyntax", Rows.laid_strconv_ErrSyntax) :: r) W) : Env W := by
 have h2:=h.tail
 have h3:=h2.tail
 have h4:=h3.tail
 have h5:=h4.tail
 have hz:7<W.heap.size:=by
  obtain ⟨ps,⟨g0,t0,cs0,f0,p0,q0,hg0,ht0,hv0,hd0,_,_⟩,_,_⟩:=h2
  exact lt_of_var gBru hv0
 rw [pow_tab] at h3
 have ht:=Lib.tabIs_of_head gPow gPowT Tryz.underlying336 Tryz.underlying301 (by kernel_rfl) cells129 h3
 obtain ⟨a0,s0,hv0,-,-,-⟩:=laid_sentinel (ti:=27) (tp:=331) (te:=333) (ts:=9) h4 gRng gRngT Tryz.underlying27 row137 Tryz.underlying331 Tryz.underlying333 rfl rfl Tryz.underlying9 cells139 cells9'
 obtain ⟨a1,s1,hv1,-,-,-⟩:=laid_sentinel (ti:=27) (tp:=331) (te:=333) (ts:=9) h5 gSyn gSynT Tryz.underlying27 row137 Tryz.underlying331 Tryz.underlying333 rfl rfl Tryz.underlying9 cells139 cells9'
 exact ⟨⟨_,_,by have h0:=World.var?_cell gSyn hv1 0;simpa using h0⟩,⟨_,_,by have h0:=World.var?_cell gRng hv0 0;simpa using h0⟩,ht,hz⟩
end
section
open Go.ChangeShapes Go.WideShapes Go.ChangeAt Go.RowKit Go.Joins
theorem Tryz.own:ownKnob Tryz.prog.godebug=none:=by kernel_rfl
theorem Tryz.laidOut:laidOutB Tryz.prog=true:=by kernel_rfl
theorem Tryz.cells68:Tryz.prog.cellsOf 68=3:=by kernel_rfl
theorem gSteps : Tryz.prog.globalNamed "fellrunner/grid.steps" = some 1 := by kernel_rfl
theorem tSteps:(Tryz.prog.globals[1]?).map (·.type)=some 276:=by kernel_rfl
theorem c252:Tryz.prog.cellsOf 275=2:=by kernel_rfl
theorem c3':Tryz.prog.cellsOf 3=1:=by kernel_rfl
theorem gDiag : Tryz.prog.globalNamed "fellrunner/reach.diagonalFirst" = some 0 := by kernel_rfl
theorem tDiag:(Tryz.prog.globals[0]?).map (·.type)=some 174:=by kernel_rfl
theorem c179:Tryz.prog.cellsOf 174=8:=by kernel_rfl
theorem lt_of_cell {w:World}{b o:Nat}{v:Value}(h:w.cell? ⟨b,o,none⟩=some v):b<w.heap.size:=World.block_lt_of_cell? w _ h
theorem steps_of {W : World} {r : List (String × DataW Unit)} (h : laidMet Tryz.prog (("fellrunner/grid.steps", Rows.laid_fellrunner_grid_steps) :: r) W) : StepsAt W := by
 obtain ⟨ps,⟨g0,t0,cs0,f0,p0,q0,hg0,ht0,hv0,hd0,_,_⟩,_,_⟩:=h
 obtain rfl:=Option.some.inj (gSteps.symm.trans hg0)
 obtain rfl:=Option.some.inj (tSteps.symm.trans ht0)
 obtain ⟨xs,m,_,hx1,hlen,hn,hel⟩:=DataW.trod_array Tryz.underlying276 hd0
 simp only [Prod.mk.injEq] at hx1
 have hxa:=hx1.1
 have key:∀ i,i<8->cs0.toList[2*i]? = some (.int .i64 (stepX i))/\cs0.toList[2*i+1]? = some (.int .i64 (stepY i)):=by
  intro i hi
  have h1:=hel i hi
  rw [c252] at h1
  have hxi:∃ p,xs[i]? = some (Lib.tabData .i64 [stepX i,stepY i],p):=by
   have hlt:i<xs.length:=by omega
   refine ⟨xs[i].2,?_⟩
   rw [List.getElem?_eq_getElem hlt]
   have e2:(xs.map (·.1))[i]? = some xs[i].1:=by rw [List.getElem?_map,List.getElem?_eq_getElem hlt];rfl
   simp only [Rows.laid_fellrunner_grid_steps,DataW.agg.injEq] at hxa
   rw [<- hxa] at e2
   have hks:i=0\/i=1\/i=2\/i=3\/i=4\/i=5\/i=6\/i=7:=by omega
   rcases hks with rfl|rfl|rfl|rfl|rfl|rfl|rfl|rfl <;>
    (simp at e2;exact congrArg some (Prod.ext e2.symm rfl))
  obtain ⟨p,hp⟩:=hxi
  rw [hp] at h1
  have h2:=Lib.cells_of_tab Tryz.underlying275 Tryz.underlying3 c3' c252 h1
  have a0:((cs0.toList.drop (i*2)).take 2)[0]? = cs0.toList[2*i]? := by
   rw [List.getElem?_take_of_lt (by decide),List.getElem?_drop];congr 1;omega
  have a1:((cs0.toList.drop (i*2)).take 2)[1]? = cs0.toList[2*i+1]? := by
   rw [List.getElem?_take_of_lt (by decide),List.getElem?_drop];congr 1;omega
  rw [h2] at a0 a1
  exact ⟨a0.symm,a1.symm⟩
 have cell:∀ i,W.cell? ⟨1,i,none⟩=cs0.toList[i]? := fun i=>by
  have:=World.var?_cell hg0 hv0 i
  rw [this];simp
 exact fun i hi=>⟨by rw [cell];exact (key i hi).1,by rw [cell];exact (key i hi).2⟩
theorem diag_of {W : World} {r : List (String × DataW Unit)} (h : laidMet Tryz.prog (("fellrunner/reach.diagonalFirst", Rows.laid_fellrunner_reach_diagonalFirst) :: r) W) : DiagAt W := by
 obtain ⟨ps,⟨g0,t0,cs0,f0,p0,q0,hg0,ht0,hv0,hd0,_,_⟩,_,_⟩:=h
 obtain rfl:=Option.some.inj (gDiag.symm.trans hg0)
 obtain rfl:=Option.some.inj (tDiag.symm.trans ht0)
 have hd1:DataW.trod (fun _=>()) Tryz.prog W 0 (fun _=>true) false f0 174 cs0.toList=some (Lib.tabData .i64 [1,3,5,7,0,2,4,6],p0):=hd0
 have h2:=Lib.cells_of_tab Tryz.underlying174 Tryz.underlying3 c3' c179 hd1
 intro i hi
 have:=World.var?_cell hg0 hv0 i
 rw [this]
 have e:cs0[i]? = cs0.toList[i]? := by simp
 rw [e,h2]
 have hks:i=0\/i=1\/i=2\/i=3\/i=4\/i=5\/i=6\/i=7:=by omega
 rcases hks with rfl|rfl|rfl|rfl|rfl|rfl|rfl|rfl <;> rfl
abbrev allLaid : List (String × DataW Unit) := [("math/bits.deBruijn32tab", Rows.laid_math_bits_deBruijn32tab), ("math/bits.deBruijn64tab", Rows.laid_math_bits_deBruijn64tab), ("internal/strconv.uint64pow10", Rows.laid_internal_strconv_uint64pow10), ("strconv.ErrRange", Rows.laid_strconv_ErrRange), ("strconv.ErrSyntax", Rows.laid_strconv_ErrSyntax), ("fellrunner/grid.steps", Rows.laid_fellrunner_grid_steps), ("fellrunner/reach.diagonalFirst", Rows.laid_fellrunner_reach_diagonalFirst)]
theorem all_of {W:World}(h:laidMetH Tryz.prog allLaid W):Env W/\StepsAt W/\DiagAt W:=by
 rw [MakeChecks.laidMetH_plain _ _ _ (by kernel_rfl)] at h
 have h5:=h.tail.tail.tail.tail.tail
 exact ⟨env_of h,steps_of h5,diag_of h5.tail⟩
theorem law_met (os:Os)(args:Array Value):laidMetH Tryz.prog allLaid ((World.doorLaid Tryz.prog 80 os).forCall (fun _ _=>0) ⟨#[],args,[]⟩).memory :=
 laidMetH_of_parts3 (fuel:=8) (laidMet_of_run' 8 (by kernel_rfl) (by kernel_rfl)) (by kernel_rfl) (by kernel_rfl)
theorem row_in {H:Type}{enc:TypeId × Value->H}{W:World}{sp:Nat->Bool}{held:Bool}{fuel:Nat}{c:Value}{x:DataW H × List MemPlace}(h:DataW.trod enc Tryz.prog W 0 sp held fuel 51 [c]=some x) :
  ∃ A n cap xs,c=.slice A n cap/\n<=maxLen/\OldRow W A n xs:=by
 rcases open_ints Tryz.underlying51 Tryz.underlying3 (by kernel_rfl) h with ⟨hcs,_⟩|⟨a,l,cap,zs,hcs,_,hl,hm,hz,_,hcell,_⟩
 ·simp at hcs
  exact ⟨none,0,0,fun _=>0,hcs,by unfold maxLen;omega,fun i hi=>absurd hi (Nat.not_lt_zero i)⟩
 ·simp at hcs
  refine ⟨some a,l,cap,fun i=>zs.getD i 0,hcs,Nat.le_trans hl hm,fun i hi=>?_⟩
  have hzl:i<zs.length:=by rw [hz];split <;> omega
  obtain ⟨b,off,rfl,hc⟩:=ints_at hcell (by omega)
  exact ⟨b,off,rfl,lt_of_cell (hc i hzl),hc i hzl⟩
section
variable {H : Type} {enc : TypeId × Value → H} {W : World} {sp : Nat → Bool} {held : Bool}
end
end
end Go.Proofs.YtmaefimaeelkbaaGreatDoor
