/-
  Texts laid together: WayM, Corner, Towards, KeepM, Sets, Outward.
-/
import Derived.Test.YtipbhlofbpnpjaaGreatDoorP4
import Derived.Test.YtipbhlofbpnpjaaGreatDoorP2
import Derived.Test.YtipbhlofbpnpjaaGreatDoorP1
import Derived.Deep.LoopGhost
namespace Go.Proofs.YtipbhlofbpnpjaaGreatDoor
section
def Good (x y u v:Int) (k:Nat):Prop :=
 dst (dst (x+stepX k) u) (dst (y+stepY k) v)+stS k=dst (dst x u) (dst y v)/\les (dst (x+stepX k) u) (dst (y+stepY k) v)+stD k=les (dst x u) (dst y v)
theorem dst_step (x u s:Int)(h:s=-1\/s=0\/s=1):(s=0->dst (x+s) u=dst x u)/\dst x u - 1<=dst (x+s) u/\(dst (x+s) u=dst x u - 1->(s=1/\x<u)\/(s=-1/\u<x)):=by
 unfold dst
 rcases h with rfl|rfl|rfl <;> refine ⟨fun _=>?_,?_,fun _=>?_⟩ <;> (repeat' split at *) <;> omega
theorem two_less {X Y P Q:Int}(h1:dst P Q+0=dst X Y)(h2:les P Q+1=les X Y):P+Q=X+Y - 2:=by
 unfold dst les at *
 (repeat' split at *) <;> omega
theorem one_less {X Y P Q:Int}(h1:dst P Q+1=dst X Y)(h2:les P Q+0=les X Y):P+Q=X+Y - 1/\(P=X - 1->Y<X)/\(Q=Y - 1->X<Y):=by
 unfold dst les at *
 (repeat' split at *) <;> omega
theorem step_unit (k:Nat)(h:k<8):(stepX k=-1\/stepX k=0\/stepX k=1)/\(stepY k=-1\/stepY k=0\/stepY k=1)/\(k % 2=0->(stepX k=0/\stepY k≠0)\/(stepY k=0/\stepX k≠0))/\(k % 2=0->stS k=1/\stD k=0)/\(k % 2=1->stS k=0/\stD k=1):=by
 rcases k8 h with rfl|rfl|rfl|rfl|rfl|rfl|rfl|rfl <;> decide
theorem good_dir {x y u v:Int}{k:Nat}(hk:k<8)(g:Good x y u v k) :
  (k % 2=1->((stepX k=1/\x<u)\/(stepX k=-1/\u<x))/\((stepY k=1/\y<v)\/(stepY k=-1/\v<y))) /\
  (k % 2=0->(stepY k=0/\((stepX k=1/\x<u)\/(stepX k=-1/\u<x))/\dst y v<dst x u)\/(stepX k=0/\((stepY k=1/\y<v)\/(stepY k=-1/\v<y))/\dst x u<dst y v)):=by
 obtain ⟨g1,g2⟩:=g
 obtain ⟨u1,u2,u3,u4,u5⟩:=step_unit k hk
 obtain ⟨a1,a2,a3⟩:=dst_step x u (stepX k) u1
 obtain ⟨b1,b2,b3⟩:=dst_step y v (stepY k) u2
 constructor
 ·intro hp
  rw [(u5 hp).1] at g1
  rw [(u5 hp).2] at g2
  have:=two_less g1 g2
  exact ⟨a3 (by omega),b3 (by omega)⟩
 ·intro hp
  rw [(u4 hp).1] at g1
  rw [(u4 hp).2] at g2
  obtain ⟨c1,c2,c3⟩:=one_less g1 g2
  rcases u3 hp with ⟨z,_⟩|⟨z,_⟩
  ·have:=a1 z
   exact Or.inr ⟨z,b3 (by omega),c3 (by omega)⟩
  ·have:=b1 z
   exact Or.inl ⟨z,a3 (by omega),c2 (by omega)⟩
theorem good_one {x y u v:Int}{k j:Nat}(hk:k<8)(hj:j<8)(hp:k % 2=j % 2)(g:Good x y u v k)(h:Good x y u v j):k=j:=by
 obtain ⟨a1,a2⟩:=good_dir hk g
 obtain ⟨b1,b2⟩:=good_dir hj h
 by_cases q:k % 2=1
 ·obtain ⟨p1,p2⟩:=a1 q
  obtain ⟨q1,q2⟩:=b1 (by omega)
  have ex:stepX k=stepX j:=by omega
  have ey:stepY k=stepY j:=by omega
  rcases k8 hk with rfl|rfl|rfl|rfl|rfl|rfl|rfl|rfl <;> rcases k8 hj with rfl|rfl|rfl|rfl|rfl|rfl|rfl|rfl <;> first|rfl|(exfalso;revert ex ey;decide)
 ·have p:=a2 (by omega)
  have r:=b2 (by omega)
  have ex:stepX k=stepX j:=by omega
  have ey:stepY k=stepY j:=by omega
  rcases k8 hk with rfl|rfl|rfl|rfl|rfl|rfl|rfl|rfl <;> rcases k8 hj with rfl|rfl|rfl|rfl|rfl|rfl|rfl|rfl <;> first|rfl|(exfalso;revert ex ey;decide)
end
section
open Go.RowKit
def crB (W H:Int) (bl:Nat->Bool) (x y:Int) (k:Nat):Bool:=openB W H bl (x+stepX k) y&&openB W H bl x (y+stepY k)&&!openB W H bl (x+stepX k) (y+stepY k)
def turnB (W H:Int) (bl:Nat->Bool) (x y:Int):Bool:=(List.range 4).any fun j=>crB W H bl x y (2*j+1)
def cornB (W H:Int) (bl:Nat->Bool) (c:Int):Bool:=openB W H bl (c % W) (c / W)&&turnB W H bl (c % W) (c / W)
theorem turnB_false {W H x y:Int}{bl:Nat->Bool}(h:∀ j,j<4->crB W H bl x y (2*j+1)=false):turnB W H bl x y=false:=by
 unfold turnB
 rw [List.any_eq_false]
 intro j hj
 rw [h j (List.mem_range.1 hj)]
 simp
theorem turnB_true {W H x y:Int}{bl:Nat->Bool}{j:Nat}(hj:j<4)(h:crB W H bl x y (2*j+1)=true):turnB W H bl x y=true :=
 List.any_eq_true.2 ⟨j,List.mem_range.2 hj,h⟩
set_option maxHeartbeats 1600000 in
theorem turns_any {b:Nat}{W H V:Int}{bl:Nat->Bool}(x y:Int)(w:World)(g:GridAt w b W H V bl)(s:StepsAt w)(x1:-100<=x)(x2:x<=100)(y1:-100<=y)(y2:y<=100) :
  Calls Tryz.prog 177 #[.pointer (some ⟨b,0,none⟩),.int .i64 x,.int .i64 y] w fun e w'=>e=.returned (.bool (turnB W H bl x y))/\∃ m,w'=w.drewN m:=by
 go_enter Tryz.func177,Tryz.ntmps177
 go_wp2
 go_loopg [7] (4:Nat) (fun gk dv wr=>∃ i:Nat,i<=4/\gk=4 - i/\dv=.int .i64 ((2*i+1:Nat):Int)/\(∀ j,j<i->crB W H bl x y (2*j+1)=false)/\∃ m,wr=w.drewN m)
 case atStart=>exact ⟨0,Nat.zero_le _,rfl,rfl,fun j hj=>absurd hj (by omega),0,rfl⟩
 case round =>
  obtain ⟨i,hi,hgk,rfl,hall,m,rfl⟩:=hrel
  by_cases hlt:i<4
  ·have hd:2*i+1<8:=by omega
   obtain ⟨s1,s2,s3,s4⟩:=step_bd (2*i+1)
   have hs:=fun w h=>step_any (2*i+1) w h hd
   have hcr:crB W H bl x y (2*i+1)=(openB W H bl (x+stepX (2*i+1)) y&&openB W H bl x (y+stepY (2*i+1))&&!openB W H bl (x+stepX (2*i+1)) (y+stepY (2*i+1))):=rfl
   generalize stepX (2*i+1)=dx at *
   generalize stepY (2*i+1)=dy at *
   have go_on:crB W H bl x y (2*i+1)=false->Hid (∀ j,j<i+1->crB W H bl x y (2*j+1)=false):=fun h j hj=>by
    by_cases e:j=i
    ·rw [e];exact h
    ·exact hall j (by omega)
   clear hall
   cases hA:openB W H bl (x+dx) y with
   |false =>
    rw [hA] at hcr
    have HN:=go_on (by rw [hcr];rfl)
    clear hcr go_on
    go_wp2_with (first|(go_at_call 158;refine (hs _ (s.drewN _)).mono ?_;rintro e w' ⟨rfl,m,rfl⟩)|(go_at_call 97;refine (open_v (by assumption) _ (g.drewN _)).mono ?_;rintro e w' ⟨rfl,m,rfl⟩))
    go_roundg (4 - (i+1))
    case measure=>omega
    case rel=>exact ⟨i+1,by omega,rfl,by go_num,HN.out,_,rfl⟩
   |true =>
    cases hB:openB W H bl x (y+dy) with
    |false =>
     rw [hA,hB] at hcr
     have HN:=go_on (by rw [hcr];rfl)
     clear hcr go_on
     go_wp2_with (first|(go_at_call 158;refine (hs _ (s.drewN _)).mono ?_;rintro e w' ⟨rfl,m,rfl⟩)|(go_at_call 97;refine (open_v (by assumption) _ (g.drewN _)).mono ?_;rintro e w' ⟨rfl,m,rfl⟩))
     go_roundg (4 - (i+1))
     case measure=>omega
     case rel=>exact ⟨i+1,by omega,rfl,by go_num,HN.out,_,rfl⟩
    |true =>
     cases hC:openB W H bl (x+dx) (y+dy) with
     |true =>
      rw [hA,hB,hC] at hcr
      have HN:=go_on (by rw [hcr];rfl)
      clear hcr go_on
      go_wp2_with (first|(go_at_call 158;refine (hs _ (s.drewN _)).mono ?_;rintro e w' ⟨rfl,m,rfl⟩)|(go_at_call 97;refine (open_v (by assumption) _ (g.drewN _)).mono ?_;rintro e w' ⟨rfl,m,rfl⟩))
      go_roundg (4 - (i+1))
      case measure=>omega
      case rel=>exact ⟨i+1,by omega,rfl,by go_num,HN.out,_,rfl⟩
     |false =>
      rw [hA,hB,hC] at hcr
      have HT:Hid (turnB W H bl x y=true):=turnB_true hlt hcr
      clear hcr go_on
      go_wp2_with (first|(go_at_call 158;refine (hs _ (s.drewN _)).mono ?_;rintro e w' ⟨rfl,m,rfl⟩)|(go_at_call 97;refine (open_v (by assumption) _ (g.drewN _)).mono ?_;rintro e w' ⟨rfl,m,rfl⟩))
      go_ret
      exact ⟨by rw [HT.out];rfl,_,rfl⟩
  ·have:i=4:=by omega
   subst this
   have HT:Hid (turnB W H bl x y=false):=turnB_false hall
   clear hall
   go_wp2
   go_ret
   exact ⟨by rw [HT.out];rfl,_,rfl⟩
theorem turns_v {b:Nat}{W H V:Int}{bl:Nat->Bool}{x y:Int}{r:Bool}(hr:turnB W H bl x y=r)(w:World)(g:GridAt w b W H V bl)(s:StepsAt w)(x1:-100<=x)(x2:x<=100)(y1:-100<=y)(y2:y<=100) :
  Calls Tryz.prog 177 #[.pointer (some ⟨b,0,none⟩),.int .i64 x,.int .i64 y] w fun e w'=>e=.returned (.bool r)/\∃ m,w'=w.drewN m:=hr ▸ turns_any x y w g s x1 x2 y1 y2
theorem place_bd {W H c:Int}(w1:1<=W)(hr:inB W H c=true):0<=c % W/\c % W<W/\0<=c / W/\c / W<H:=by
 have hc:0<=c/\c<W*H:=of_decide_eq_true hr
 exact ⟨Int.emod_nonneg _ (by omega),Int.emod_lt_of_pos _ (by omega),Int.ediv_nonneg hc.1 (by omega),Int.ediv_lt_of_lt_mul (by omega) (by rw [Int.mul_comm];exact hc.2)⟩
set_option maxHeartbeats 1000000 in
theorem is_in {b:Nat}{W H V:Int}{bl:Nat->Bool}(c:Int)(w:World)(g:GridAt w b W H V bl)(s:StepsAt w)(hr:inB W H c=true) :
  Calls Tryz.prog 147 #[.pointer (some ⟨b,0,none⟩),.int .i64 c] w fun e w'=>e=.returned (.tuple #[.bool (cornB W H bl c),.nilIface])/\∃ m,w'=w.drewN m:=by
 obtain ⟨x1,x2,y1,y2⟩:=place_bd g.w1 hr
 have gw:=g.w2
 have gh:=g.h2
 have hP:=fun w g=>place_in (b:=b) (W:=W) (H:=H) (V:=V) (bl:=bl) c w g hr
 have hm:cornB W H bl c=(openB W H bl (c % W) (c / W)&&turnB W H bl (c % W) (c / W)):=rfl
 rw [hm]
 clear hm
 generalize c % W=x at *
 generalize c / W=y at *
 cases hA:openB W H bl x y with
 |false =>
  simp only [Bool.false_and]
  go_enter Tryz.func147,Tryz.ntmps147
  go_wp2_with (first|(go_at_call 76;refine (hP _ g).mono ?_;rintro e w' ⟨rfl,m,rfl⟩)|(go_at_call 97;refine (open_v (by assumption) _ (g.drewN _)).mono ?_;rintro e w' ⟨rfl,m,rfl⟩))
  go_ret2
  exact ⟨rfl,_,rfl⟩
 |true =>
  cases hB:turnB W H bl x y with
  |false =>
   simp only [Bool.and_false]
   go_enter Tryz.func147,Tryz.ntmps147
   go_wp2_with (first|(go_at_call 76;refine (hP _ g).mono ?_;rintro e w' ⟨rfl,m,rfl⟩)|(go_at_call 97;refine (open_v (by assumption) _ (g.drewN _)).mono ?_;rintro e w' ⟨rfl,m,rfl⟩)|(go_at_call 177;refine (turns_v (by assumption) _ (g.drewN _) (s.drewN _) (by omega) (by omega) (by omega) (by omega)).mono ?_;rintro e w' ⟨rfl,m,rfl⟩))
   go_ret2
   exact ⟨rfl,_,rfl⟩
  |true =>
   simp only [Bool.and_true]
   go_enter Tryz.func147,Tryz.ntmps147
   go_wp2_with (first|(go_at_call 76;refine (hP _ g).mono ?_;rintro e w' ⟨rfl,m,rfl⟩)|(go_at_call 97;refine (open_v (by assumption) _ (g.drewN _)).mono ?_;rintro e w' ⟨rfl,m,rfl⟩)|(go_at_call 177;refine (turns_v (by assumption) _ (g.drewN _) (s.drewN _) (by omega) (by omega) (by omega) (by omega)).mono ?_;rintro e w' ⟨rfl,m,rfl⟩))
   go_ret2
   exact ⟨rfl,_,rfl⟩
theorem is_v {b:Nat}{W H V:Int}{bl:Nat->Bool}{c:Int}{r:Bool}(hc:cornB W H bl c=r)(w:World)(g:GridAt w b W H V bl)(s:StepsAt w)(hr:inB W H c=true) :
  Calls Tryz.prog 147 #[.pointer (some ⟨b,0,none⟩),.int .i64 c] w fun e w'=>e=.returned (.tuple #[.bool r,.nilIface])/\∃ m,w'=w.drewN m:=hc ▸ is_in c w g s hr
def crs (W H:Int) (bl:Nat->Bool) (k:Nat):List Nat:=(List.range k).filter fun c=>cornB W H bl (c:Nat)
theorem crs_succ (W H:Int)(bl:Nat->Bool)(k:Nat):crs W H bl (k+1)=crs W H bl k++(if cornB W H bl (k:Nat) then [k] else []):=by
 unfold crs
 rw [List.range_succ,List.filter_append]
 cases h:cornB W H bl (k:Nat) <;> simp [h]
theorem crs_len (W H:Int)(bl:Nat->Bool)(k:Nat):(crs W H bl k).length<=k:=by
 unfold crs
 have:=List.length_filter_le (fun c:Nat=>cornB W H bl (c:Nat)) (List.range k)
 simpa using this
set_option maxHeartbeats 1600000 in
set_option maxRecDepth 1000000 in
theorem all_any {b:Nat}{W H V:Int}{bl:Nat->Bool}(w:World)(g:GridAt w b W H V bl)(s:StepsAt w)(hb:b<w.heap.size) :
  Calls Tryz.prog 130 #[.pointer (some ⟨b,0,none⟩)] w fun e w'=>∃ v,e=.returned v /\
   w'.ownsRow w.heap.size 3 1 v (crs W H bl (W*H).toNat).length (vals (crs W H bl (W*H).toNat))/\Below w.heap.size w w':=by
 obtain ⟨i0,hi,hz0,hz1,hz2⟩:=info_parts Tryz.info3
 obtain ⟨k1,k2⟩:=wh_bd g.w1 g.w2 g.h1 g.h2
 go_enter Tryz.func130,Tryz.ntmps130
 go_wp2_with (go_at_call 53;refine (cells_any _ g).mono ?_;rintro e w' ⟨rfl,m,rfl⟩)
 go_loopw [3,9] (fun v i wr=>∃ k:Nat,(k:Int)<=W*H/\i=.int .i64 k/\wr.ownsRow w.heap.size 3 1 v (crs W H bl k).length (vals (crs W H bl k))/\Below w.heap.size w wr)
  (fun _ i _=>1000 - (intOf i).toNat)
 case atStart=>exact ⟨0,by omega,rfl,World.ownsRow_nil _ _ _ _,below_drewN (Below.refl _ _) _⟩
 case round =>
  obtain ⟨k,hk,rfl,hown,hnx⟩:=hrel
  have hl:=crs_len W H bl k
  have gr:=g.below hnx hb
  have sr:=s.below hnx (by omega)
  have hsz:=hnx.size
  by_cases hlt:(k:Int)<W*H
  ·have hms:=crs_succ W H bl k
   have hin:inB W H (k:Nat)=true:=decide_eq_true ⟨by omega,hlt⟩
   cases hM:cornB W H bl (k:Nat) with
   |false =>
    rw [hM] at hms
    have h0:crs W H bl (k+1)=crs W H bl k:=by simpa using hms
    have HS:Hid (crs W H bl (k+1)=crs W H bl k):=h0
    clear h0
    clear hms
    go_wp2_with (go_at_call 147;refine (is_v hM _ gr sr hin).mono ?_;rintro e w' ⟨rfl,m,rfl⟩)
    go_roundw
    case rel=>exact ⟨k+1,by omega,by go_num,by rw [HS.out];exact hown,below_drewN hnx _⟩
    case measure=>simp [intOf];omega
   |true =>
    rw [hM] at hms
    have h0:crs W H bl (k+1)=crs W H bl k++[k]:=by simpa using hms
    have HS:Hid (crs W H bl (k+1)=crs W H bl k++[k]):=h0
    clear h0
    clear hms
    go_wp2_with (first|(go_at_call 147;refine (is_v hM _ gr sr hin).mono ?_;rintro e w' ⟨rfl,m,rfl⟩)|(at_builtin;refine wpList_append_own _ rfl _ _ 22 rfl w.heap.size 3 i0 (.int .i64 0) 1 8 Tryz.underlying22 hi hz0 hz1 hz2 rfl (by decide) _ _ _ rfl (World.ownsRow.alloc hown _) ⟨wr.heap.size,0,none⟩ 1 1 [.int .i64 k] rfl rfl ?c1 ?c2 ?c3 ?c4 ?c5 ?_))
    case c1 =>
     intro j u hj
     match j,hj with
     |0,hj =>
      simp at hj;subst hj;simp only [Addr.add]
      exact World.cell?_alloc_at (w:=wr.drewN m) #[.int .i64 k] 3 wr.heap.size 0 rfl
    case c2=>intro u hu;simp at hu;subst hu;rfl
    case c3=>unfold maxLen;omega
    case c4=>omega
    case c5=>simp;omega
    intro v' w1 hown' hgrow _
    have hbase:=fun q hq=>(hown.lt q hq).1
    have B1:Below w.heap.size w w1:=((below_drewN hnx m).alloc hsz _).grown hgrow (by simp;omega) hbase
    have O1:w1.ownsRow w.heap.size 3 1 v' (crs W H bl (k+1)).length (vals (crs W H bl (k+1))):=by
     rw [HS.out]
     simpa [vals] using hown'
    clear hown' hgrow hown hnx gr sr
    go_wp2
    go_roundw
    case rel=>exact ⟨k+1,by omega,by go_num,O1,B1⟩
    case measure=>simp [intOf];omega
  ·have e:(W*H).toNat=k:=by omega
   have HE:Hid ((W*H).toNat=k):=e
   clear e
   go_wp2
   go_ret
   exact ⟨_,rfl,by rw [HE.out];exact hown,hnx⟩
end
section
open Go.RowKit
def goodB (x y u v:Int) (k:Nat):Bool:=decide (dst (dst (x+stepX k) u) (dst (y+stepY k) v)+stS k=dst (dst x u) (dst y v))&&decide (les (dst (x+stepX k) u) (dst (y+stepY k) v)+stD k=les (dst x u) (dst y v))
theorem goodB_iff {x y u v:Int}{k:Nat}:goodB x y u v k=true↔Good x y u v k:=by
 unfold goodB Good
 rw [Bool.and_eq_true,decide_eq_true_eq,decide_eq_true_eq]
theorem oct_step (k:Nat)(h:k<8):dst (dst 0 (stepX k)) (dst 0 (stepY k))=stS k/\les (dst 0 (stepX k)) (dst 0 (stepY k))=stD k:=by
 rcases k8 h with rfl|rfl|rfl|rfl|rfl|rfl|rfl|rfl <;> decide
set_option maxHeartbeats 2000000 in
set_option maxRecDepth 1000000 in
theorem isTowards' {x y u v dx dy s1 d1 s2 d2 s3 d3:Int}{k:Nat}{r:Bool}(w:World)
  (x1:-100<=x) (x2:x<=100) (y1:-100<=y) (y2:y<=100) (e1:-1<=dx) (e2:dx<=1) (e3:-1<=dy) (e4:dy<=1)
  (hs:Calls Tryz.prog 158 #[.int .i64 k] w fun e w'=>e=.returned (.tuple #[.int .i64 dx,.int .i64 dy])/\∃ m,w'=w.drewN m)
  (ho1:∀ w,Calls Tryz.prog 78 #[.int .i64 0,.int .i64 0,.int .i64 dx,.int .i64 dy] w fun e w'=>e=.returned (.agg #[.int .i64 s1,.int .i64 d1])/\Below w.heap.size w w')
  (ho2:∀ w,Calls Tryz.prog 78 #[.int .i64 (x+dx),.int .i64 (y+dy),.int .i64 u,.int .i64 v] w fun e w'=>e=.returned (.agg #[.int .i64 s2,.int .i64 d2])/\Below w.heap.size w w')
  (ho3:∀ w,Calls Tryz.prog 78 #[.int .i64 x,.int .i64 y,.int .i64 u,.int .i64 v] w fun e w'=>e=.returned (.agg #[.int .i64 s3,.int .i64 d3])/\Below w.heap.size w w')
  (ha:∀ w,Calls Tryz.prog 30 #[.agg #[.int .i64 s1,.int .i64 d1],.agg #[.int .i64 s2,.int .i64 d2]] w fun e w'=>e=.returned (.agg #[.int .i64 (s1+s2),.int .i64 (d1+d2)])/\Below w.heap.size w w')
  (hr:(decide (s1+s2=s3)&&decide (d1+d2=d3))=r) :
  Calls Tryz.prog 143 #[.int .i64 x,.int .i64 y,.int .i64 k,.int .i64 u,.int .i64 v] w fun e w'=>e=.returned (.bool r)/\Below w.heap.size w w':=by
 go_enter Tryz.func143,Tryz.ntmps143
 go_wp2_with (go_at_call 158;refine hs.mono ?_;rintro e w' ⟨rfl,m,rfl⟩)
 refine (ho1 _).mono ?_
 rintro e w1 ⟨rfl,hb1⟩
 have B1:Below w.heap.size w w1:=(below_drewN (Below.refl _ _) m).trans hb1
 clear hb1 ho1 hs
 go_wp2_with fail
 refine (ho2 _).mono ?_
 rintro e w2 ⟨rfl,hb2⟩
 have B2:Below w.heap.size w w2:=B1.trans (hb2.mono B1.size)
 clear hb2 ho2 B1
 go_wp2_with fail
 refine (ha _).mono ?_
 rintro e w3 ⟨rfl,hb3⟩
 have B2':Below w.heap.size w ((w2.alloc (.cells #[.int .i64 s1,.int .i64 d1] 38)).alloc (.cells #[.int .i64 s2,.int .i64 d2] 38)):=(B2.alloc B2.size _).alloc (by have:=B2.size;simp;omega) _
 have B3:Below w.heap.size w w3:=B2'.trans (hb3.mono B2'.size)
 clear hb3 ha B2 B2'
 go_wp2_with fail
 refine (ho3 _).mono ?_
 rintro e w4 ⟨rfl,hb4⟩
 have B4:Below w.heap.size w w4:=B3.trans (hb4.mono B3.size)
 clear hb4 ho3 B3
 by_cases q1:s1+s2=s3
 ·by_cases q2:d1+d2=d3
  ·rw [decide_eq_true q1,decide_eq_true q2] at hr
   subst hr q1 q2
   go_wp2
   go_ret
   exact ⟨rfl,B4⟩
  ·rw [decide_eq_true q1,decide_eq_false q2] at hr
   subst hr q1
   go_wp2
   go_ret
   exact ⟨rfl,B4⟩
 ·rw [decide_eq_false q1] at hr
  subst hr
  go_wp2
  go_ret
  exact ⟨rfl,B4⟩
theorem near_place {a:Int}(h:-100<=a)(k:a<=100):nearB a:=by unfold nearB;omega
theorem okC_oct {x y u v:Int}(x1:-100<=x)(x2:x<=100)(y1:-100<=y)(y2:y<=100)(u1:-100<=u)(u2:u<=100)(v1:-100<=v)(v2:v<=100):okC (dst (dst x u) (dst y v)) (les (dst x u) (dst y v)):=by
 unfold okC
 have a:0<=dst x u/\dst x u<=200:=by unfold dst;split <;> omega
 have b:0<=dst y v/\dst y v<=200:=by unfold dst;split <;> omega
 generalize dst x u=X at *
 generalize dst y v=Y at *
 unfold dst les
 split <;> omega
theorem okC_st (k:Nat):okC (stS k) (stD k):=by
 have:=st_bd k
 unfold okC
 omega
theorem isTowards_v {x y u v:Int}{k:Nat}{r:Bool}(hr:goodB x y u v k=r)(w:World)(s:StepsAt w)(hk:k<8)(x1:0<=x)(x2:x<=50)(y1:0<=y)(y2:y<=50)(u1:0<=u)(u2:u<=50)(v1:0<=v)(v2:v<=50) :
  Calls Tryz.prog 143 #[.int .i64 x,.int .i64 y,.int .i64 k,.int .i64 u,.int .i64 v] w fun e w'=>e=.returned (.bool r)/\Below w.heap.size w w':=by
 obtain ⟨e1,e2,e3,e4⟩:=step_bd k
 obtain ⟨o1,o2⟩:=oct_step k hk
 have n1:=near_place (show -100<=stepX k by omega) (by omega)
 have n2:=near_place (show -100<=stepY k by omega) (by omega)
 have n0:=near_place (show -100<=(0:Int) by omega) (by omega)
 have nx:=near_place (show -100<=x by omega) (by omega)
 have ny:=near_place (show -100<=y by omega) (by omega)
 have nu:=near_place (show -100<=u by omega) (by omega)
 have nv:=near_place (show -100<=v by omega) (by omega)
 have nx':=near_place (show -100<=x+stepX k by omega) (by omega)
 have ny':=near_place (show -100<=y+stepY k by omega) (by omega)
 refine isTowards' (s1:=stS k) (d1:=stD k) w (by omega) (by omega) (by omega) (by omega) e1 e2 e3 e4 (step_any k w s hk) (fun w=>?_) (fun w=>oct_any _ _ _ _ w nx' ny' nu nv) (fun w=>oct_any _ _ _ _ w nx ny nu nv) (fun w=>add_any _ _ _ _ w (okC_st k) (okC_oct (by omega) (by omega) (by omega) (by omega) (by omega) (by omega) (by omega) (by omega))) ?_
 ·have:=oct_any 0 0 (stepX k) (stepY k) w n0 n0 n1 n2
  rw [o1,o2] at this
  exact this
 ·rw [<- hr]
  unfold goodB
  rw [Int.add_comm (stS k),Int.add_comm (stD k)]
end
section
open Go.RowKit
theorem Keep.two {F:Nat->Prop}{w w':World}(h:Keep F w w')(n:Nat)(hn:n+1+1<=w.heap.size)(hF:∀ k,n<=k->¬ F k) :
  (∀ o,w'.cell? ⟨n,o,none⟩=w.cell? ⟨n,o,none⟩)/\(∀ o,w'.cell? ⟨n+1,o,none⟩=w.cell? ⟨n+1,o,none⟩) :=
 ⟨fun o=>h.cell (p:=⟨n,o,none⟩) (by show n<_;omega) (hF n (by omega)),fun o=>h.cell (p:=⟨n+1,o,none⟩) (by show n+1<_;omega) (hF (n+1) (by omega))⟩
theorem own_below {w w':World}{base k n:Nat}{e:TypeId}{v:Value}{xs:List Value}(h:w.ownsRow base e k v n xs)(hb:Below w.heap.size w w'):w'.ownsRow base e k v n xs:=by
 refine ⟨h.1,?_⟩
 rcases h.2 with h2|⟨g,cap,cur,hv,hbase,hg,h3⟩
 ·exact Or.inl h2
 ·exact Or.inr ⟨g,cap,cur,hv,hbase,(hb.block g (Array.getElem?_eq_some_iff.1 hg).1).trans hg,h3⟩
structure Slot (w:World) (B:Nat) (s d:Int):Prop where
 c0:w.cell? ⟨B,0,none⟩=some (.int .i64 s)
 c1:w.cell? ⟨B,1,none⟩=some (.int .i64 d)
 z0:w.frozen? ⟨B,0,none⟩=false
 z1:w.frozen? ⟨B,1,none⟩=false
theorem Slot.keep {F:Nat->Prop}{w w':World}{B:Nat}{s d:Int}(h:Slot w B s d)(K:Keep F w w')(hn:¬ F B):Slot w' B s d:=by
 have hB:=World.block_lt_of_cell? w _ h.c0
 exact ⟨K.cellOf h.c0 hn,K.cellOf h.c1 hn,(K.frozen (p:=⟨B,0,none⟩) hB hn).trans h.z0,(K.frozen (p:=⟨B,1,none⟩) hB hn).trans h.z1⟩
theorem Slot.below {w w':World}{B:Nat}{s d:Int}(h:Slot w B s d)(hb:Below w.heap.size w w'):Slot w' B s d:=h.keep (F:=fun _=>False) (Keep.of_below hb) id
theorem Slot.new (w:World)(s d:Int):Slot (w.alloc (.cells #[.int .i64 s,.int .i64 d] 38)) w.heap.size s d :=
 ⟨World.cell?_alloc_at #[.int .i64 s,.int .i64 d] 38 w.heap.size 0 rfl,World.cell?_alloc_at #[.int .i64 s,.int .i64 d] 38 w.heap.size 1 rfl,free_alloc w #[.int .i64 s,.int .i64 d] 38 w.heap.size (Nat.le_refl _) 0,free_alloc w #[.int .i64 s,.int .i64 d] 38 w.heap.size (Nat.le_refl _) 1⟩
theorem setTwo (w:World)(B:Nat)(s d:Int){x y:Value}(h0:w.cell? ⟨B,0,none⟩=some x)(h1:w.cell? ⟨B,1,none⟩=some y) :
  ((w.setCell ⟨B,0,none⟩ (.int .i64 s)).setCell ⟨B,1,none⟩ (.int .i64 d)).cell? ⟨B,0,none⟩=some (.int .i64 s)/\((w.setCell ⟨B,0,none⟩ (.int .i64 s)).setCell ⟨B,1,none⟩ (.int .i64 d)).cell? ⟨B,1,none⟩=some (.int .i64 d):=by
 constructor
 ·rw [World.cell?_setCell_other _ _ _ _ (by intro e;cases e)];exact World.cell?_setCell_same _ _ _ h0
 ·refine World.cell?_setCell_same _ _ _ (u:=y) ?_
  rw [World.cell?_setCell_other _ _ _ _ (by intro e;cases e)];exact h1
theorem Slot.set {w:World}{B:Nat}{x y:Int}(S:Slot w B x y)(s d:Int):Slot ((w.setCell ⟨B,0,none⟩ (.int .i64 s)).setCell ⟨B,1,none⟩ (.int .i64 d)) B s d:=by
 have r:=setTwo w B s d S.c0 S.c1
 exact ⟨r.1,r.2,by simpa using S.z0,by simpa using S.z1⟩
theorem set_keep (w:World)(B:Nat)(s d:Int):Keep (fun k=>k=B) w ((w.setCell ⟨B,0,none⟩ (.int .i64 s)).setCell ⟨B,1,none⟩ (.int .i64 d)) :=
 ((Keep.refl (fun k=>k=B) w).setCell (p:=⟨B,0,none⟩) (fun _=>rfl) _).setCell (p:=⟨B,1,none⟩) (fun _=>rfl) _
theorem turned_keep {w w':World}{b:Nat}(h:w.mapTurned w' b):Keep (fun k=>k=b) w w' :=
 (Keep.refl _ w).grown h.grown (fun k hk _=>by cases hk;rfl)
theorem GridAt.keep {D:Nat->Prop}{w w':World}{b:Nat}{W H V:Int}{bl:Nat->Bool}(g:GridAt w b W H V bl)(K:Keep D w w')(h:¬ D b):GridAt w' b W H V bl:=by
 have hb:b<w.heap.size:=World.block_lt_of_cell? w _ g.c0
 exact ⟨g.w1,g.w2,g.h1,g.h2,(K.cell (p:=⟨b,0,none⟩) hb h).trans g.c0,(K.cell (p:=⟨b,1,none⟩) hb h).trans g.c1,(K.cell (p:=⟨b,2,none⟩) hb h).trans g.c2,fun i hi=>(K.cell (p:=⟨b,3+i,none⟩) hb h).trans (g.cs i hi)⟩
theorem StepsAt.pos {w:World}(s:StepsAt w):1<w.heap.size:=World.block_lt_of_cell? w _ (s 0 (by decide)).1
theorem StepsAt.keep {D:Nat->Prop}{w w':World}(s:StepsAt w)(K:Keep D w w')(h:¬ D 1):StepsAt w' :=
 fun i hi=>⟨(K.cell (p:=⟨1,2*i,none⟩) s.pos h).trans (s i hi).1,(K.cell (p:=⟨1,2*i+1,none⟩) s.pos h).trans (s i hi).2⟩
def fv (F:Int->Option (Int × Int)):Int->Option Value:=fun a=>(F a).map fun c=>.agg #[.int .i64 c.1,.int .i64 c.2]
theorem fv_some {F:Int->Option (Int × Int)}{a s d:Int}(h:F a=some (s,d)):fv F a=some (.agg #[.int .i64 s,.int .i64 d]):=by unfold fv;rw [h];rfl
theorem fv_none {F:Int->Option (Int × Int)}{a:Int}(h:F a=none):fv F a=none:=by unfold fv;rw [h];rfl
theorem fv_put (F:Int->Option (Int × Int))(a s d:Int):putF (fv F) a (.agg #[.int .i64 s,.int .i64 d])=fv (putH F a s d):=by
 funext i
 unfold putF fv putH
 by_cases h:i=a
 ·rw [if_pos h,if_pos h];rfl
 ·rw [if_neg h,if_neg h]
theorem getD_app (l:List Nat)(x i:Nat):(l++[x]).getD i 0=if i<l.length then l.getD i 0 else if i=l.length then x else 0:=by
 simp only [List.getD_eq_getElem?_getD]
 by_cases h:i<l.length
 ·rw [if_pos h,List.getElem?_append_left h]
 ·rw [if_neg h,List.getElem?_append_right (by omega)]
  by_cases e:i=l.length
  ·subst e;simp
  ·rw [if_neg e,List.getElem?_eq_none (by simp;omega)];rfl
theorem own_int {w:World}{base g cap:Nat}{l:List Nat}(h:w.ownsRow base 3 1 (.slice (some ⟨g,0,none⟩) l.length cap) l.length (vals l))(i:Nat)(hi:i<l.length):w.cell? ⟨g,i,none⟩=some (.int .i64 ((l.getD i 0:Nat):Int)):=by
 rw [h.cellAt i (by omega),getD_at _ _ hi]
 unfold vals
 rw [List.getElem?_map,List.getElem?_eq_getElem hi]
 rfl
end
section
open Go.RowKit
theorem law3:Tryz.prog.underlying 3=some (.int .i64):=Tryz.underlying3
def setF (S:Int->Bool):Int->Option Value:=fun i=>if S i then some (.agg #[]) else none
theorem setF_some {S:Int->Bool}{i:Int}(h:S i=true):setF S i=some (.agg #[]):=if_pos h
theorem setF_none {S:Int->Bool}{i:Int}(h:S i=false):setF S i=none:=by unfold setF;rw [h];rfl
theorem setF_isSome (S:Int->Bool)(i:Int):(setF S i).isSome=S i:=by
 unfold setF;cases S i <;> rfl
theorem setF_val {S:Int->Bool}{i:Int}{v:Value}(h:setF S i=some v):S i=true/\v=.agg #[]:=by
 unfold setF at h
 cases hs:S i with
 |false=>rw [hs] at h;cases h
 |true=>rw [hs] at h;cases h;exact ⟨rfl,rfl⟩
def insS (S:Int->Bool) (a:Int):Int->Bool:=fun i=>decide (i=a) || S i
theorem insS_iff (S:Int->Bool)(a i:Int):insS S a i=true↔i=a\/S i=true:=by unfold insS;rw [Bool.or_eq_true,decide_eq_true_eq]
theorem setF_put (S:Int->Bool)(a:Int):putF (setF S) a (.agg #[])=setF (insS S a):=by
 funext i
 unfold putF setF insS
 by_cases e:i=a
 ·rw [if_pos e,decide_eq_true e];rfl
 ·rw [if_neg e,decide_eq_false e];rfl
theorem insS_same {S:Int->Bool}{a:Int}(h:S a=true):insS S a=S:=by
 funext i
 unfold insS
 by_cases e:i=a
 ·rw [decide_eq_true e,e,h];rfl
 ·rw [decide_eq_false e];rfl
def cntS (S:Int->Bool):Nat->Nat
 |0=>0
 |N+1=>cntS S N+if S N then 1 else 0
theorem cntS_le (S:Int->Bool)(N:Nat):cntS S N<=N:=by
 induction N with
 |zero=>exact Nat.le_refl _
 |succ N ih=>unfold cntS;split <;> omega
theorem cntS_same (S:Int->Bool)(a:Int)(N:Nat)(h:(N:Int)<=a):cntS (insS S a) N=cntS S N:=by
 induction N with
 |zero=>rfl
 |succ N ih =>
  unfold cntS
  rw [ih (by omega)]
  have:insS S a N=S N:=by unfold insS;rw [decide_eq_false (by omega)];rfl
  rw [this]
theorem cntS_put (S:Int->Bool)(a:Int)(N:Nat)(h0:0<=a)(h:a<N)(hn:S a=false):cntS (insS S a) N=cntS S N+1:=by
 induction N with
 |zero=>omega
 |succ N ih =>
  unfold cntS
  by_cases e:a=N
  ·rw [cntS_same S a N (by omega)]
   have:insS S a N=true:=(insS_iff _ _ _).2 (Or.inl e.symm)
   rw [this,<- e,hn]
   simp
  ·rw [ih (by omega)]
   have:insS S a N=S N:=by unfold insS;rw [decide_eq_false (fun q=>e q.symm)];rfl
   rw [this]
   omega
theorem cntS_pos {S:Int->Bool}{N:Nat}:0<cntS S N↔∃ i:Int,0<=i/\i<N/\S i=true:=by
 induction N with
 |zero=>exact ⟨fun h=>absurd h (Nat.lt_irrefl _),fun ⟨i,h1,h2,_⟩=>by omega⟩
 |succ N ih =>
  unfold cntS
  cases hs:S N with
  |true=>exact ⟨fun _=>⟨N,by omega,by omega,hs⟩,fun _=>by simp⟩
  |false =>
   simp only [Bool.false_eq_true,if_false,Nat.add_zero]
   rw [ih]
   constructor
   ·rintro ⟨i,h1,h2,h3⟩;exact ⟨i,h1,by omega,h3⟩
   ·rintro ⟨i,h1,h2,h3⟩
    refine ⟨i,h1,?_,h3⟩
    by_cases e:i=N
    ·rw [e,hs] at h3;cases h3
    ·omega
theorem cntS_none (N:Nat):cntS (fun _=>false) N=0:=by
 induction N with
 |zero=>rfl
 |succ N ih=>unfold cntS;rw [ih];rfl
structure SetAt (w:World) (b:Nat) (S:Int->Bool):Prop where
 mp:MapF Tryz.prog 3 w b (setF S) (cntS S 256)
 bd:∀ i,S i=true->0<=i/\i<256
theorem SetAt.lt {w:World}{b:Nat}{S:Int->Bool}(h:SetAt w b S):b<w.heap.size:=h.mp.lt
theorem SetAt.below {w w':World}{b:Nat}{S:Int->Bool}(h:SetAt w b S)(hb:Below w.heap.size w w'):SetAt w' b S:=⟨h.mp.kept (hb.block b h.lt),h.bd⟩
theorem SetAt.kept {w w':World}{b:Nat}{S:Int->Bool}(h:SetAt w b S)(hb:w'.heap[b]? = w.heap[b]?):SetAt w' b S:=⟨h.mp.kept hb,h.bd⟩
theorem SetAt.grown {w w':World}{b:Nat}{S:Int->Bool}{row:Option Nat}(h:SetAt w b S)(hg:w.grownBy w' row)(hn:some b≠row):SetAt w' b S:=h.kept (hg.block b h.lt hn)
theorem SetAt.made (w:World):SetAt (w.alloc (.map #[] 0)) w.heap.size (fun _=>false) :=
 ⟨by rw [cntS_none];exact MapF.made w Tryz.prog 3,fun i h=>by cases h⟩
theorem SetAt.put {w w':World}{b:Nat}{S:Int->Bool}{a:Int}(h:SetAt w b S)(h0:0<=a)(h1:a<256)(hm:MapF Tryz.prog 3 w' b (putF (setF S) a (.agg #[])) (if (setF S a).isSome then cntS S 256 else cntS S 256+1)):SetAt w' b (insS S a):=by
 refine ⟨?_,fun i hi=>?_⟩
 ·rw [setF_put,setF_isSome] at hm
  cases hs:S a with
  |true=>rw [hs,insS_same hs] at hm;rw [insS_same hs];exact hm
  |false=>rw [hs] at hm;rw [cntS_put S a 256 h0 h1 hs];exact hm
 ·rcases (insS_iff _ _ _).1 hi with rfl|hi
  ·exact ⟨h0,h1⟩
  ·exact h.bd i hi
theorem SetAt.room {w:World}{b:Nat}{S:Int->Bool}(_h:SetAt w b S):cntS S 256<maxLen:=by
 have:=cntS_le S 256
 unfold maxLen
 omega
theorem SetAt.ne_nil {w:World}{b:Nat}{S:Int->Bool}(h:SetAt w b S):0<cntS S 256↔∃ i,S i=true:=by
 rw [cntS_pos]
 exact ⟨fun ⟨i,_,_,h3⟩=>⟨i,h3⟩,fun ⟨i,hi⟩=>⟨i,(h.bd i hi).1,(h.bd i hi).2,hi⟩⟩
theorem wf_small {a:Int}(h0:0<=a)(h1:a<256):(Lit.int .i64 a).wf=true:=WalkArith.wf_i64 (by omega)
theorem Tryz.underS:Tryz.prog.underlying 134=some (.map 3 185):=by kernel_rfl
theorem zeroS (w:World):(zeroValue 185).run Tryz.prog w=.ok (.agg #[]) w:=by kernel_rfl
abbrev RngS (w:World) (b r:Nat) (S left:Int->Bool) (cnt:Nat):Prop:=RngF Tryz.prog 3 w b r (setF S) (cntS S 256) left cnt
theorem RngF.below {P:Program}{k:TypeId}{w w':World}{b r n cnt:Nat}{f:Int->Option Value}{left:Int->Bool}(h:RngF P k w b r f n left cnt)(hb:Below w.heap.size w w'):RngF P k w' b r f n left cnt :=
 h.kept (hb.block b h.map.lt) (hb.block r h.lt)
theorem RngF.grown {P:Program}{k:TypeId}{w w':World}{b r n cnt:Nat}{f:Int->Option Value}{left:Int->Bool}{row:Option Nat}(h:RngF P k w b r f n left cnt)(hg:w.grownBy w' row)(h1:some b≠row)(h2:some r≠row):RngF P k w' b r f n left cnt :=
 h.kept (hg.block b h.map.lt h1) (hg.block r h.lt h2)
section
variable {P : Program} {w : World} {ops : Array Oper} {rest : List Oper} {o : Oper} {a : Act} {Q : Exit → Act → World → Prop}
theorem wpList_ins (hg:o.guard=none)(m x v:Operand)(t:TypeId)(hop:o.op=Op.insert t m x v)(k e:TypeId)(hk:P.underlying k=some (.int .i64))(ht:P.underlying t=some (.map k e))(b n:Nat)(f:Int->Option Value)
  (hm:a.eval m=.map (some b)) (h:MapF P k w b f n) (hn:n<maxLen) (i:Int) (val:Value) (hx:a.eval x=.int .i64 i) (hv:a.eval v=val) (hi:(Lit.int .i64 i).wf=true)
  (hK:∀ w',MapF P k w' b (putF f i val) (if (f i).isSome then n else n+1)->w.mapTurned w' b->wpList P ops Q rest (a.put o.dst undef) w') :
  wpList P ops Q (o::rest) a w:=by
 refine wpList_plain hg fun K' hK'=>?_
 obtain ⟨w',hrun,r1,r2⟩:=h.store hk ht hn hi val
 unfold Oper.wp
 simp [execOp,hop,hm,hx,hv,hrun,Result.andThen]
 exact hK' _ _ (hK w' r1 r2)
end
end
section
open Go.RowKit
theorem rback_any (k:Nat)(hk:k<8)(w:World):Calls Tryz.prog 233 #[.int .i64 k] w fun e w'=>e=.returned (.int .i64 ((opp k:Nat):Int))/\w'=w:=by
 rcases k8 hk with rfl|rfl|rfl|rfl|rfl|rfl|rfl|rfl <;> (go_enter Tryz.func233,Tryz.ntmps233;go_wp2;go_ret;exact ⟨rfl,rfl⟩)
def outB (W H:Int) (bl:Nat->Bool) (c t:Int) (k:Nat):Bool:=mayB W H bl (c % W) (c / W) k&&goodB (c % W+stepX k) (c / W+stepY k) (t % W) (t / W) (opp k)
def tgt (W c:Int) (k:Nat):Nat:=(c+(stepY k*W+stepX k)).toNat
def outw (W H:Int) (bl:Nat->Bool) (c t:Int) (n:Nat):List Nat:=((List.range n).filter fun i=>outB W H bl c t i).map fun i=>tgt W c i
theorem outw_succ (W H:Int)(bl:Nat->Bool)(c t:Int)(n:Nat):outw W H bl c t (n+1)=outw W H bl c t n++(if outB W H bl c t n then [tgt W c n] else []):=by
 unfold outw
 rw [List.range_succ,List.filter_append,List.map_append]
 cases h:outB W H bl c t n <;> simp [h]
theorem outw_len (W H:Int)(bl:Nat->Bool)(c t:Int)(n:Nat):(outw W H bl c t n).length<=n:=by
 unfold outw
 rw [List.length_map]
 have:=List.length_filter_le (fun i=>outB W H bl c t i) (List.range n)
 simpa using this
theorem tgt_eq {W H c:Int}{bl:Nat->Bool}{k:Nat}(w1:1<=W)(h:mayB W H bl (c % W) (c / W) k=true):(tgt W c k:Int)=c+(stepY k*W+stepX k):=by
 unfold tgt
 obtain ⟨_,o2,_,_⟩:=may_parts h
 obtain ⟨a1,a2,a3,a4⟩:=open_in o2
 have e:c+(stepY k*W+stepX k)=(c / W+stepY k)*W+(c % W+stepX k):=by
  have:=cell_eq W c
  rw [Int.add_mul]
  omega
 have:=Int.mul_nonneg a3 (show 0<=W by omega)
 omega
def Og (W H:Int) (bl:Nat->Bool) (t c:Int) (k:Nat) (r:Int):Prop:=Edge W H bl c k r/\Good (r % W) (r / W) (t % W) (t / W) (opp k)
theorem outw_mem {W H c t:Int}{bl:Nat->Bool}{z:Nat}(w1:1<=W)(hc:inB W H c=true):z ∈ outw W H bl c t 8↔∃ k,Og W H bl t c k z:=by
 unfold outw
 rw [List.mem_map]
 constructor
 ·rintro ⟨i,hi,rfl⟩
  rw [List.mem_filter,List.mem_range] at hi
  have h:=hi.2
  unfold outB at h
  rw [Bool.and_eq_true] at h
  have e:Edge W H bl c i (tgt W c i:Int):=⟨hi.1,hc,h.1,tgt_eq w1 h.1⟩
  obtain ⟨p1,p2⟩:=e.place w1
  exact ⟨i,e,by rw [p1,p2];exact goodB_iff.1 h.2⟩
 ·rintro ⟨k,e,hg⟩
  obtain ⟨p1,p2⟩:=e.place w1
  rw [p1,p2] at hg
  obtain ⟨h1,_,h3,h4⟩:=e
  refine ⟨k,List.mem_filter.2 ⟨List.mem_range.2 h1,?_⟩,?_⟩
  ·unfold outB
   rw [Bool.and_eq_true]
   exact ⟨h3,goodB_iff.2 hg⟩
  ·have:=tgt_eq (H:=H) w1 h3
   omega
theorem outw_row {W H c t z:Int}{bl:Nat->Bool}{l:List Nat}(w1:1<=W)(hc:inB W H c=true)(hl:outw W H bl c t 8=l) :
  (∃ i,i<l.length/\z=((l.getD i 0:Nat):Int))↔∃ k,Og W H bl t c k z:=by
 constructor
 ·rintro ⟨i,hi,rfl⟩
  have hm:l.getD i 0 ∈ l:=by rw [getD_at _ _ hi];exact List.getElem_mem hi
  generalize l.getD i 0=n at *
  rw [<- hl] at hm
  exact (outw_mem w1 hc).1 hm
 ·rintro ⟨k,e,hg⟩
  have hz:0<=z/\z<W*H:=of_decide_eq_true (e.in' w1)
  have hm:z.toNat ∈ outw W H bl c t 8:=(outw_mem w1 hc).2 ⟨k,by rw [Int.toNat_of_nonneg hz.1];exact ⟨e,hg⟩⟩
  rw [hl] at hm
  obtain ⟨i,hi,h⟩:=List.getElem_of_mem hm
  refine ⟨i,hi,?_⟩
  rw [getD_at _ _ hi,h]
  omega
set_option maxHeartbeats 1600000 in
set_option maxRecDepth 1000000 in
theorem outward' {b:Nat}{W H V c t x y u v:Int}{bl:Nat->Bool}(w:World)(g:GridAt w b W H V bl)(s:StepsAt w)(hb:b<w.heap.size)
  (hx:c % W=x) (hy:c / W=y) (hu:t % W=u) (hv:t / W=v)
  (hP:∀ w,GridAt w b W H V bl->Calls Tryz.prog 76 #[.pointer (some ⟨b,0,none⟩),.int .i64 c] w fun e w'=>e=.returned (.tuple #[.int .i64 x,.int .i64 y,.nilIface])/\∃ m,w'=w.drewN m)
  (hQ:∀ w,GridAt w b W H V bl->Calls Tryz.prog 76 #[.pointer (some ⟨b,0,none⟩),.int .i64 t] w fun e w'=>e=.returned (.tuple #[.int .i64 u,.int .i64 v,.nilIface])/\∃ m,w'=w.drewN m)
  (x1:0<=x) (x2:x<=50) (y1:0<=y) (y2:y<=50) (u1:0<=u) (u2:u<=50) (v1:0<=v) (v2:v<=50) (c1:0<=c) (c2:c<=300) :
  Calls Tryz.prog 206 #[.pointer (some ⟨b,0,none⟩),.int .i64 c,.int .i64 t] w fun e w'=>∃ v,e=.returned v /\
   w'.ownsRow w.heap.size 3 1 v (outw W H bl c t 8).length (vals (outw W H bl c t 8))/\Below w.heap.size w w':=by
 obtain ⟨i0,hi,hz0,hz1,hz2⟩:=info_parts Tryz.info3
 go_enter Tryz.func206,Tryz.ntmps206
 go_wp2_with fail
 refine (hP _ g).mono ?_
 rintro e w1 ⟨rfl,m1,rfl⟩
 go_wp2_with fail
 refine (hQ _ (g.drewN _)).mono ?_
 rintro e w2 ⟨rfl,m2,rfl⟩
 clear hP hQ
 go_wp2
 go_loopw [13,31] (fun v i wr=>∃ k:Nat,k<=8/\i=.int .i64 k/\wr.ownsRow w.heap.size 3 1 v (outw W H bl c t k).length (vals (outw W H bl c t k))/\Below w.heap.size w wr)
  (fun _ i _=>8 - (intOf i).toNat)
 case atStart=>exact ⟨0,Nat.zero_le _,rfl,World.ownsRow_nil _ _ _ _,below_drewN (Below.refl _ _) _⟩
 case round =>
  obtain ⟨k,hk,rfl,hown,hnx⟩:=hrel
  have hl:=outw_len W H bl c t k
  have gr:=g.below hnx hb
  have sr:=s.below hnx (by omega)
  have hsz:=hnx.size
  by_cases hlt:k<8
  ·have hms:=outw_succ W H bl c t k
   have hon:outB W H bl c t k=(mayB W H bl x y k&&goodB (x+stepX k) (y+stepY k) u v (opp k)):=by unfold outB;rw [hx,hy,hu,hv]
   obtain ⟨s1,s2,s3,s4⟩:=step_bd k
   have hst:=fun w h=>step_any k w h hlt
   have htg:c+(stepY k*W+stepX k)=(tgt W c k:Int)\/mayB W H bl x y k=false:=by
    cases hM:mayB W H bl x y k with
    |false=>exact Or.inr rfl
    |true =>
     left
     rw [<- hx,<- hy] at hM
     exact (tgt_eq g.w1 hM).symm
   have hto:=fun (z:Int) (htz:c+(stepY k*W+stepX k)=z) w g s=>to_v (b:=b) (H:=H) (V:=V) (bl:=bl) htz w g s hlt (by omega) (by omega)
   have hpl:mayB W H bl x y k=true->(0<=x+stepX k/\x+stepX k<=50)/\(0<=y+stepY k/\y+stepY k<=50):=fun hM=>by
    obtain ⟨_,o2,_,_⟩:=may_parts hM
    obtain ⟨a1,a2,a3,a4⟩:=open_in o2
    have:=g.w2
    have:=g.h2
    omega
   have hop:=opp_lt k
   have hit:=fun (r:Bool) (hr:goodB (x+stepX k) (y+stepY k) u v (opp k)=r) w s p1 p2 p3 p4=>isTowards_v hr w s hop p1 p2 p3 p4 u1 u2 v1 v2
   have hbk:=rback_any k hlt
   have hmay:=fun (r:Bool) (hM:mayB W H bl x y k=r) w g s=>may_v (b:=b) (V:=V) hM w g s hlt (by omega) (by omega) (by omega) (by omega)
   have hrw:=fun (hM:mayB W H bl x y k=true)=>hto (tgt W c k:Int) (htg.resolve_right (by rw [hM];decide))
   generalize stepX k=dx at *
   generalize stepY k=dy at *
   generalize opp k=ok at *
   generalize tgt W c k=z at *
   clear hx hy hu hv hto htg
   cases hM:mayB W H bl x y k with
   |false =>
    have HS:Hid (outw W H bl c t (k+1)=outw W H bl c t k):=by rw [hms,hon,hM];simp [Hid]
    have hmay:=hmay false hM
    clear hms hon hrw hit hpl
    go_wp2_with fail
    refine (hst _ sr).mono ?_
    rintro e w3 ⟨rfl,m3,rfl⟩
    clear hst
    go_wp2_with fail
    refine (hmay _ (gr.drewN _) (sr.drewN _)).mono ?_
    rintro e w4 ⟨rfl,m4,rfl⟩
    clear hmay
    go_wp2
    go_roundw
    case rel=>exact ⟨k+1,by omega,by go_num,by rw [HS.out];exact hown,below_drewN hnx _⟩
    case measure=>simp [intOf];omega
   |true =>
    obtain ⟨⟨p1,p2⟩,p3,p4⟩:=hpl hM
    have hto:=hrw hM
    have hmay:=hmay true hM
    cases hG:goodB (x+dx) (y+dy) u v ok with
    |false =>
     have HS:Hid (outw W H bl c t (k+1)=outw W H bl c t k):=by rw [hms,hon,hM,hG];simp [Hid]
     have hit:=fun w s=>hit false hG w s p1 p2 p3 p4
     clear hms hon hto hpl hrw hG hM
     go_wp2_with fail
     refine (hst _ sr).mono ?_
     rintro e w3 ⟨rfl,m3,rfl⟩
     clear hst
     go_wp2_with fail
     refine (hmay _ (gr.drewN _) (sr.drewN _)).mono ?_
     rintro e w4 ⟨rfl,m4,rfl⟩
     clear hmay
     go_wp2_with fail
     refine (hbk _).mono ?_
     rintro e w5 ⟨rfl,rfl⟩
     clear hbk
     go_wp2_with fail
     refine (hit _ (sr.drewN _)).mono ?_
     rintro e w6 ⟨rfl,hb6⟩
     have hb4':Below wr.heap.size wr w6:=(below_drewN (Below.refl _ _) (m3+m4)).trans hb6
     clear hit
     go_wp2
     go_roundw
     case rel=>exact ⟨k+1,by omega,by go_num,by rw [HS.out];exact own_below hown hb4',hnx.trans (hb4'.mono hsz)⟩
     case measure=>simp [intOf];omega
    |true =>
     have HS:Hid (outw W H bl c t (k+1)=outw W H bl c t k++[z]):=by rw [hms,hon,hM,hG];simp [Hid]
     have hit:=fun w s=>hit true hG w s p1 p2 p3 p4
     clear hms hon hpl hrw hG hM
     go_wp2_with fail
     refine (hst _ sr).mono ?_
     rintro e w3 ⟨rfl,m3,rfl⟩
     clear hst
     go_wp2_with fail
     refine (hmay _ (gr.drewN _) (sr.drewN _)).mono ?_
     rintro e w4 ⟨rfl,m4,rfl⟩
     clear hmay
     go_wp2_with fail
     refine (hbk _).mono ?_
     rintro e w5 ⟨rfl,rfl⟩
     clear hbk
     go_wp2_with fail
     refine (hit _ (sr.drewN _)).mono ?_
     rintro e w6 ⟨rfl,hb6⟩
     have hb4':Below wr.heap.size wr w6:=(below_drewN (Below.refl _ _) (m3+m4)).trans hb6
     clear hit
     have g4:=gr.below hb4' (by omega)
     have s4:=sr.below hb4' (by omega)
     have o4:=own_below hown hb4'
     have n4:=hnx.trans (hb4'.mono hsz)
     clear hb6 hb4' hown hnx gr sr
     go_wp2_with fail
     refine (hto _ g4 s4).mono ?_
     rintro e w7 ⟨rfl,m5,rfl⟩
     clear hto g4 s4
     have hz4:=n4.size
     go_wp2_with (at_builtin;refine wpList_append_own _ rfl _ _ 22 rfl w.heap.size 3 i0 (.int .i64 0) 1 8 Tryz.underlying22 hi hz0 hz1 hz2 rfl (by decide) _ _ _ rfl (World.ownsRow.alloc (show (w6.drewN m5).ownsRow w.heap.size 3 1 _ _ _ from o4) _) ⟨w6.heap.size,0,none⟩ 1 1 [.int .i64 z] rfl rfl ?c1 ?c2 ?c3 ?c4 ?c5 ?_)
     case c1 =>
      intro j u hj
      match j,hj with
      |0,hj =>
       simp at hj;subst hj;simp only [Addr.add]
       exact World.cell?_alloc_at (w:=w6.drewN m5) #[.int .i64 z] 3 w6.heap.size 0 rfl
     case c2=>intro u hu;simp at hu;subst hu;rfl
     case c3=>unfold maxLen;omega
     case c4=>omega
     case c5=>simp;omega
     intro v' w8 hown' hgrow _
     have hbase:=fun q hq=>(o4.lt q hq).1
     have B1:Below w.heap.size w w8:=((below_drewN n4 m5).alloc hz4 _).grown hgrow (by simp;omega) hbase
     have O1:w8.ownsRow w.heap.size 3 1 v' (outw W H bl c t (k+1)).length (vals (outw W H bl c t (k+1))):=by
      rw [HS.out]
      simpa [vals] using hown'
     clear hown' hgrow o4 n4
     go_wp2
     go_roundw
     case rel=>exact ⟨k+1,by omega,by go_num,O1,B1⟩
     case measure=>simp [intOf];omega
  ·have:k=8:=by omega
   subst this
   go_wp2
   go_ret
   exact ⟨_,rfl,hown,hnx⟩
theorem outward_v {b:Nat}{W H V c t:Int}{bl:Nat->Bool}{l:List Nat}(hl:outw W H bl c t 8=l)(w:World)(g:GridAt w b W H V bl)(s:StepsAt w)(hb:b<w.heap.size)(hc:inB W H c=true)(ht:inB W H t=true) :
  Calls Tryz.prog 206 #[.pointer (some ⟨b,0,none⟩),.int .i64 c,.int .i64 t] w fun e w'=>∃ A cap,e=.returned (.slice A l.length cap)/\OldRow w' A l.length (fun i=>(l.getD i 0:Nat))/\Below w.heap.size w w':=by
 obtain ⟨x1,x2,y1,y2⟩:=place_bd g.w1 hc
 obtain ⟨u1,u2,v1,v2⟩:=place_bd g.w1 ht
 have gw:=g.w2
 have gh:=g.h2
 have hq:0<=c/\c<W*H:=of_decide_eq_true hc
 have hk:=wh_bd g.w1 g.w2 g.h1 g.h2
 refine (outward' w g s hb rfl rfl rfl rfl (fun w g=>place_in c w g hc) (fun w g=>place_in t w g ht) x1 (by omega) y1 (by omega) u1 (by omega) v1 (by omega) hq.1 (by omega)).mono ?_
 rintro e w' ⟨v,he,hown,hbl⟩
 rw [hl] at hown
 obtain ⟨A,cap,rfl,hrow⟩:=row_of hown
 exact ⟨A,cap,he,hrow,hbl⟩
end
end Go.Proofs.YtipbhlofbpnpjaaGreatDoor
