/- -/
import Derived.Test.YtipbhlofbpnpjaaGreatDoorP8
import Derived.Test.YtipbhlofbpnpjaaGreatDoorFindT
namespace Go.Proofs.YtipbhlofbpnpjaaGreatDoor
open Go.RowKit
theorem Tryz.underT:Tryz.prog.underlying 133=some (.map 3 185):=by kernel_rfl
set_option maxHeartbeats 400000 in
theorem clo_touch {xb pb:Nat}{W H V:Int}{bl:Nat->Bool}(w:World)(n:Int)(q2:w.cell? ⟨xb,0,none⟩=some (.pointer (some ⟨pb,0,none⟩)))(g:GridAt w pb W H V bl)(s:StepsAt w)(hn:inB W H n=true) :
  Calls Tryz.prog 160 #[.int .i64 n,.pointer (some ⟨xb,0,none⟩)] w fun e w'=>e=.returned (.bool (cornB W H bl n))/\Below w.heap.size w w':=by
 have h1:=isc_any n w g s hn
 generalize cornB W H bl n=r at *
 go_enter Tryz.func160,Tryz.ntmps160
 go_wp2_with fail
 refine h1.mono ?_
 rintro e1 w1 ⟨rfl,m,rfl⟩
 clear h1
 go_wp2
 go_ret
 exact ⟨rfl,below_drewN (Below.refl _ _) _⟩
theorem edgesV_at (W a:Int):∀ (l:List Nat) (i:Nat),i<l.length->(edgesV W a l)[i*4]? = some (.int .i64 ((l.getD i 0:Nat):Int))/\(edgesV W a l)[i*4+1]? = some (.int .i64 (octS W a ((l.getD i 0:Nat):Int)))/\(edgesV W a l)[i*4+2]? = some (.int .i64 (octD W a ((l.getD i 0:Nat):Int)))/\(edgesV W a l)[i*4+3]? = some (.int .i64 (-1))
 |[],i,h=>absurd h (Nat.not_lt_zero i)
 |n::l,0,_=>⟨rfl,rfl,rfl,rfl⟩
 |n::l,i+1,h=>by
  have ih:=edgesV_at W a l i (by simpa using h)
  have e:edgesV W a (n::l)=edgeV W a n++edgesV W a l:=by unfold edgesV;rw [List.flatMap_cons]
  have hl:(edgeV W a n).length=4:=rfl
  have e2:(n::l).getD (i+1) 0=l.getD i 0:=rfl
  rw [e,e2]
  refine ⟨?_,?_,?_,?_⟩
  ·rw [List.getElem?_append_right (by omega),hl,show (i+1)*4 - 4=i*4 by omega];exact ih.1
  ·rw [List.getElem?_append_right (by omega),hl,show (i+1)*4+1 - 4=i*4+1 by omega];exact ih.2.1
  ·rw [List.getElem?_append_right (by omega),hl,show (i+1)*4+2 - 4=i*4+2 by omega];exact ih.2.2.1
  ·rw [List.getElem?_append_right (by omega),hl,show (i+1)*4+3 - 4=i*4+3 by omega];exact ih.2.2.2
def Tch (W H:Int) (bl:Nat->Bool) (x y ny nx z:Int):Prop:=cornB W H bl z=true/\∃ p,(inB W H p=true/\bl p.toNat=false/\Dir W H bl p z)/\(x - 1<=p % W/\p % W<=x+1/\y - 1<=p / W/\p / W<=y+1)/\(p / W<ny\/(p / W=ny/\p % W<nx))
section
variable {W H x y ny nx z : Int} {bl : Nat → Bool}
theorem Tch.none:¬ Tch W H bl x y (y - 1) (x - 1) z:=by
 rintro ⟨_,p,_,h1,h2⟩
 omega
theorem Tch.row:Tch W H bl x y ny (x+1+1) z↔Tch W H bl x y (ny+1) (x - 1) z:=by
 unfold Tch
 refine and_congr Iff.rfl (exists_congr fun p=>and_congr Iff.rfl ?_)
 constructor
 ·rintro ⟨h1,h2⟩;exact ⟨h1,by omega⟩
 ·rintro ⟨h1,h2⟩;exact ⟨h1,by omega⟩
theorem Tch.all:Tch W H bl x y (y+1+1) (x - 1) z↔cornB W H bl z=true/\∃ p,(inB W H p=true/\bl p.toNat=false/\Dir W H bl p z)/\(x - 1<=p % W/\p % W<=x+1/\y - 1<=p / W/\p / W<=y+1):=by
 unfold Tch
 refine and_congr Iff.rfl (exists_congr fun p=>?_)
 constructor
 ·rintro ⟨h0,h1,h2⟩;exact ⟨h0,h1⟩
 ·rintro ⟨h0,h1⟩;exact ⟨h0,h1,by omega⟩
theorem Tch.skip (h:∀ p,inB W H p=true->bl p.toNat=false->¬ (p / W=ny/\p % W=nx)):Tch W H bl x y ny (nx+1) z↔Tch W H bl x y ny nx z:=by
 unfold Tch
 refine and_congr Iff.rfl (exists_congr fun p=>and_congr_right fun h0=>and_congr_right fun h1=>?_)
 have:=h p h0.1 h0.2.1
 omega
theorem Tch.cell {c:Int}(hx:nx=c % W)(hy:ny=c / W)(hc:inB W H c=true)(hf:bl c.toNat=false)(h1:x - 1<=nx)(h2:nx<=x+1)(h3:y - 1<=ny)(h4:ny<=y+1) :
  Tch W H bl x y ny (nx+1) z↔Tch W H bl x y ny nx z\/(Dir W H bl c z/\cornB W H bl z=true):=by
 unfold Tch
 constructor
 ·rintro ⟨hz,p,h5,h6,h7⟩
  by_cases e:p / W=ny/\p % W=nx
  ·right
   have:p=c:=by
    have e1:=cell_eq W p
    have e2:=cell_eq W c
    rw [<- e1,<- e2,e.1,e.2,hx,hy]
   rw [this] at h5
   exact ⟨h5.2.2,hz⟩
  ·exact Or.inl ⟨hz,p,h5,h6,by omega⟩
 ·rintro (⟨hz,p,h5,h6,h7⟩|⟨hd,hz⟩)
  ·exact ⟨hz,p,h5,h6,by omega⟩
  ·exact ⟨hz,c,⟨hc,hf,hd⟩,by omega,by omega⟩
end
set_option maxHeartbeats 4000000 in
set_option maxRecDepth 1000000 in
theorem touched_any {b tb:Nat}{W H V c x y:Int}{bl:Nat->Bool}{T:Int->Bool}(w:World)(g:GridAt w b W H V bl)(s:StepsAt w)(hb:b<w.heap.size)(hT:SetAt w tb T)(hbt:b≠tb)(h0:1≠tb)(hc:inB W H c=true)(hx:c % W=x)(hy:c / W=y) :
  Calls Tryz.prog 121 #[.map (some tb),.pointer (some ⟨b,0,none⟩),.int .i64 c] w fun e w'=>e=.returned (.tuple #[])/\(∃ T',SetAt w' tb T'/\∀ z,T' z=true↔T z=true\/Tch W H bl x y (y+1+1) (x - 1) z)/\Keep (fun k=>k=tb) w w':=by
 have gw1:=g.w1
 have gw2:=g.w2
 have gh2:=g.h2
 have hwh:=wh_bd g.w1 g.w2 g.h1 g.h2
 obtain ⟨x1,x2,y1,y2⟩:=place_bd g.w1 hc
 rw [hx] at x1 x2
 rw [hy] at y1 y2
 have hpl:=fun w g=>place_in (b:=b) (V:=V) (bl:=bl) c w g hc
 rw [hx,hy] at hpl
 have B0:Below w.heap.size w (w.alloc (.cells #[.pointer (some ⟨b,0,none⟩)] 85)):=(Below.refl _ _).alloc (Nat.le_refl _) _
 have q0:(w.alloc (.cells #[.pointer (some ⟨b,0,none⟩)] 85)).cell? ⟨w.heap.size,0,none⟩=some (.pointer (some ⟨b,0,none⟩)):=World.cell?_alloc_at #[.pointer (some ⟨b,0,none⟩)] 85 w.heap.size 0 rfl
 have htl:=hT.lt
 clear hx hy
 go_enter Tryz.func121,Tryz.ntmps121
 go_wp2_with fail
 refine (hpl _ (g.below B0 hb)).mono ?_
 rintro e w1 ⟨rfl,m1,hw1⟩
 have B1:Below w.heap.size w w1:=by rw [hw1];exact below_drewN B0 _
 have q1:w1.cell? ⟨w.heap.size,0,none⟩=some (.pointer (some ⟨b,0,none⟩)):=by rw [hw1];exact q0
 clear hw1 hpl B0 q0
 have hT1:=hT.below B1
 have K1:Keep (fun k=>k=tb) w w1:=Keep.of_below B1
 clear B1 hT
 go_wp2
 go_loopw [9] (fun iv wr=>∃ (ny:Int) (T':Int->Bool),iv=.int .i64 ny/\y - 1<=ny/\ny<=y+1+1/\SetAt wr tb T'/\Hid (∀ z,T' z=true↔T z=true\/Tch W H bl x y ny (x - 1) z)/\wr.cell? ⟨w.heap.size,0,none⟩=some (.pointer (some ⟨b,0,none⟩))/\Keep (fun k=>k=tb) w wr)
  (fun i _=>(y+1+1 - intOf i).toNat)
 case atStart=>exact ⟨y - 1,T,rfl,by omega,by omega,hT1,fun z=>⟨Or.inl,fun h=>h.resolve_right Tch.none⟩,q1,K1⟩
 case round =>
  obtain ⟨ny,T1,rfl,n1,n2,hT1,hTi,q1,K1⟩:=hrel
  by_cases hlt:ny<=y+1
  ·go_wp2
   go_loopw [10] (fun iv wr=>∃ (nx:Int) (T':Int->Bool),iv=.int .i64 nx/\x - 1<=nx/\nx<=x+1+1/\SetAt wr tb T'/\Hid (∀ z,T' z=true↔T z=true\/Tch W H bl x y ny nx z)/\wr.cell? ⟨w.heap.size,0,none⟩=some (.pointer (some ⟨b,0,none⟩))/\Keep (fun k=>k=tb) w wr)
    (fun i _=>(x+1+1 - intOf i).toNat)
   case atStart=>exact ⟨x - 1,T1,rfl,by omega,by omega,hT1,hTi,q1,K1⟩
   case round =>
    obtain ⟨nx,T2,rfl,m1,m2,hT2,hT2i,q2,K2⟩:=hrel
    by_cases hlx:nx<=x+1
    ·have g2:=g.keep K2 hbt
     have s2:=s.keep K2 h0
     have hz2:=K2.size
     cases hat:atB W H nx ny with
     |false =>
      have hce:=cell_out nx ny wr g2 hat
      have HS:Hid (∀ z,T2 z=true↔T z=true\/Tch W H bl x y ny (nx+1) z):=fun z=>(hT2i.out z).trans (or_congr Iff.rfl (Tch.skip (fun p hp _ he=>by
       obtain ⟨a1,a2,a3,a4⟩:=place_bd gw1 hp
       have:atB W H nx ny=true:=decide_eq_true (by omega)
       rw [hat] at this;cases this)).symm)
      clear hat
      go_wp2_with fail
      refine hce.mono ?_
      rintro e w3 ⟨rfl,rfl⟩
      clear hce
      go_wp2
      go_roundw
      case rel=>exact ⟨nx+1,T2,by go_num,by omega,by omega,hT2,HS,q2,K2⟩
      case measure=>simp [intOf];omega
     |true =>
      have hce:=cell_in nx ny wr g2 hat
      obtain ⟨a1,a2,a3,a4⟩:0<=nx/\nx<W/\0<=ny/\ny<H:=of_decide_eq_true hat
      have hm0:0<=ny*W:=Int.mul_nonneg a3 (by omega)
      have hpx:nx=(ny*W+nx) % W:=by rw [Int.add_comm,Int.add_mul_emod_self_right];exact (Int.emod_eq_of_lt a1 a2).symm
      have hpy:ny=(ny*W+nx) / W:=by rw [Int.add_comm,Int.add_mul_ediv_right _ _ (by omega),Int.ediv_eq_zero_of_lt a1 a2];omega
      have hpin:inB W H (ny*W+nx)=true:=by
       have h2:ny*W+W<=H*W:=by
        have:=Int.mul_le_mul_of_nonneg_right (show ny+1<=H by omega) (show 0<=W by omega)
        rw [Int.add_mul] at this
        omega
       have h3:H*W=W*H:=Int.mul_comm H W
       exact decide_eq_true ⟨by omega,by omega⟩
      have hfree:bl (ny*W+nx).toNat=false\/bl (ny*W+nx).toNat=true:=by cases bl (ny*W+nx).toNat <;> simp
      have HPX:Hid (nx=(ny*W+nx) % W):=hpx
      have HPY:Hid (ny=(ny*W+nx) / W):=hpy
      have hpb:0<=ny*W+nx/\ny*W+nx<W*H:=of_decide_eq_true hpin
      clear hat hpx hpy hm0
      generalize ny*W+nx=p at *
      have hw2:b<wr.heap.size:=Nat.lt_of_lt_of_le hb hz2
      go_wp2_with fail
      refine hce.mono ?_
      rintro e w3 ⟨rfl,rfl⟩
      clear hce
      rcases hfree with hfree|hfree
      ·have hfind:=find_touch (rb:=w.heap.size) (p:=fun n=>cornB W H bl n) w3 g2 s2 hw2 hpin hfree (fun w' n hB' hn=>by
        have kk:∀ {a:Addr}{v:Value},w3.cell? a=some v->w'.cell? a=some v:=fun {a v} h=>(hB'.cell (World.block_lt_of_cell? w3 a h)).trans h
        exact clo_touch w' n (kk q2) (g2.below hB' hw2) (s2.below hB' (by omega)) hn)
       go_wp2_with fail
       refine hfind.mono ?_
       rintro e w4 ⟨v,l,rfl,hown,⟨hrise,hmem⟩,hb4⟩
       have HM:Hid (∀ n:Nat,n ∈ l↔Dir W H bl p n/\cornB W H bl n=true):=hmem
       have hin:∀ n ∈ l,n<256:=fun n hn=>by
        have h2:0<=(n:Int)/\(n:Int)<W*H:=of_decide_eq_true (cornC_in gw1 (cornB_iff.1 ((hmem n).1 hn).2))
        omega
       have hLL:l.length<=256:=nodup_len 256 (hrise.imp (fun h e=>by omega)) hin
       have HIN:Hid (∀ n ∈ l,n<256):=hin
       have HS:Hid (∀ T4:Int->Bool,(∀ z,T4 z=true↔T2 z=true\/∃ i,i<l.length/\z=((l.getD i 0:Nat):Int))->∀ z,T4 z=true↔T z=true\/Tch W H bl x y ny (nx+1) z):=fun T4 h4 z=>by
        rw [h4 z,hT2i.out z,Tch.cell HPX.out HPY.out hpin hfree m1 hlx n1 hlt,or_assoc]
        refine or_congr Iff.rfl (or_congr Iff.rfl ?_)
        constructor
        ·rintro ⟨i,hi,rfl⟩
         exact (HM.out _).1 (by rw [getD_at _ _ hi];exact List.getElem_mem hi)
        ·rintro ⟨hd,hz⟩
         have hzi:0<=z/\z<W*H:=of_decide_eq_true (cornC_in gw1 (cornB_iff.1 hz))
         have hm:z.toNat ∈ l:=(HM.out z.toNat).2 (by rw [Int.toNat_of_nonneg hzi.1];exact ⟨hd,hz⟩)
         obtain ⟨i,hi,h⟩:=List.getElem_of_mem hm
         exact ⟨i,hi,by rw [getD_at _ _ hi,h];omega⟩
       obtain ⟨A,cap,rfl⟩:∃ A cap,v=.slice A l.length cap:=by
        rcases hown.2 with ⟨rfl,h0⟩|⟨g',cap,cur,rfl,_⟩
        ·exact ⟨none,0,by rw [h0]⟩
        ·exact ⟨_,_,rfl⟩
       have hT4:=hT2.below hb4
       have q4:=(hb4.cell (World.block_lt_of_cell? _ _ q2)).trans q2
       have K4:=K2.below hb4
       clear hfind hmem hrise hin hb4 g2 s2
       go_wp2
       go_loopw [52] (fun iv wr=>∃ (j:Nat) (T4:Int->Bool),j<=l.length/\iv=.int .i64 j/\SetAt wr tb T4/\Hid (∀ z,T4 z=true↔T2 z=true\/∃ i,i<j/\z=((l.getD i 0:Nat):Int))/\wr.ownsRow w3.heap.size 207 4 (.slice A l.length cap) l.length (edgesV W p l)/\wr.cell? ⟨w.heap.size,0,none⟩=some (.pointer (some ⟨b,0,none⟩))/\Keep (fun k=>k=tb) w wr)
        (fun i _=>l.length - (intOf i).toNat)
       case atStart=>exact ⟨0,T2,Nat.zero_le _,rfl,hT4,fun z=>⟨Or.inl,fun h=>h.resolve_right (fun ⟨i,hi,_⟩=>by omega)⟩,hown,q4,K4⟩
       case round =>
        obtain ⟨j,T4,hj,rfl,hT4,hT4i,hrow,q4,K4⟩:=hrel
        by_cases hlj:j<l.length
        ·obtain ⟨ba,hA⟩:∃ ba,A=some ⟨ba,0,none⟩:=by
          rcases hrow.2 with ⟨_,h0⟩|⟨ba,_,_,hv,_⟩
          ·omega
          ·exact ⟨ba,by cases hv;rfl⟩
         subst hA
         obtain ⟨e0,e1,e2,e3⟩:=edgesV_at W p l j hlj
         have hnm:l.getD j 0 ∈ l:=by rw [getD_at _ _ hlj];exact List.getElem_mem hlj
         have hn2:=HIN.out _ hnm
         have c0:wr.cell? ⟨ba,j*4,none⟩=some (.int .i64 ((l.getD j 0:Nat):Int)):=(hrow.cellAt (j*4) (by omega)).trans e0
         have c1:wr.cell? ⟨ba,j*4+1,none⟩=_:=(hrow.cellAt (j*4+1) (by omega)).trans e1
         have c2:wr.cell? ⟨ba,j*4+2,none⟩=_:=(hrow.cellAt (j*4+2) (by omega)).trans e2
         have c3:wr.cell? ⟨ba,j*4+3,none⟩=_:=(hrow.cellAt (j*4+3) (by omega)).trans e3
         have HJ:Hid (∀ z:Int,(∃ i,i<j+1/\z=((l.getD i 0:Nat):Int))↔(∃ i,i<j/\z=((l.getD i 0:Nat):Int))\/z=((l.getD j 0:Nat):Int)):=fun z=>by
          constructor
          ·rintro ⟨i,hi,h⟩
           by_cases e:i=j
           ·subst e;exact Or.inr h
           ·exact Or.inl ⟨i,by omega,h⟩
          ·rintro (⟨i,hi,h⟩|h)
           ·exact ⟨i,by omega,h⟩
           ·exact ⟨j,by omega,h⟩
         clear e0 e1 e2 e3 hnm
         generalize octS W p ((l.getD j 0:Nat):Int)=es at *
         generalize octD W p ((l.getD j 0:Nat):Int)=ed at *
         have z0:(0:Int)<=((l.getD j 0:Nat):Int):=by omega
         have z1:((l.getD j 0:Nat):Int)<256:=by omega
         generalize ((l.getD j 0:Nat):Int)=zz at *
         have i1:(0:Int)<=(j:Int):=by omega
         have i2:(j:Int)<(l.length:Int):=by omega
         have hT5:=hT4.grown (World.grownBy_alloc wr (.cells #[.int .i64 zz,.int .i64 es,.int .i64 ed,.int .i64 (-1)] 207) none) (by simp)
         go_wp2_with (first|(at_mapUpdate;refine wpList_put rfl _ _ _ 133 rfl 3 185 law3 Tryz.underT tb _ _ rfl hT5.mp hT5.room zz (.agg #[]) rfl rfl (wf_small z0 z1) ?_;intro w5 hm5 ht5;go_frame)|go_in)
         have hT6:=hT5.put z0 z1 hm5
         have hg5:=ht5.grown
         have K6:Keep (fun k=>k=tb) w w5:=(K4.alloc _).grown hg5 (fun k e h=>by cases e;rfl)
         have R6:=own_grown (hrow.alloc _) hg5 (fun g' hg' e=>own_map hrow hT4.mp g' hg' (Option.some.inj e))
         have q6:w5.cell? ⟨w.heap.size,0,none⟩=some (.pointer (some ⟨b,0,none⟩)):=(turned_keep ht5).cellOf ((World.cell?_alloc_old _ _ _ (Nat.ne_of_lt (World.block_lt_of_cell? _ _ q4))).trans q4) (show w.heap.size≠tb by omega)
         clear hm5 ht5 hg5 hT5 hT4 hrow K4 c0 c1 c2 c3
         go_roundw
         case rel =>
          refine ⟨j+1,_,by omega,by go_num,hT6,fun z=>?_,R6,q6,K6⟩
          rw [insS_iff,hT4i.out z,HJ.out z]
          exact ⟨fun h=>h.elim (fun e=>Or.inr (Or.inr e)) (fun h=>h.imp id Or.inl),fun h=>h.elim (fun e=>Or.inr (Or.inl e)) (fun h=>h.elim (fun e=>Or.inr (Or.inr e)) Or.inl)⟩
         case measure=>simp [intOf];omega
        ·have e:j=l.length:=by omega
         subst e
         have HS2:=HS.out T4 hT4i.out
         go_wp2
         go_roundw
         case rel=>exact ⟨nx+1,T4,by go_num,by omega,by omega,hT4,HS2,q4,K4⟩
         case measure=>simp [intOf];omega
      ·have hff:ffv W H bl p≠0:=by unfold ffv;rw [hpin,hfree];decide
       have hfind:=find_touch_err (rb:=w.heap.size) w3 g2 hff
       have HS:Hid (∀ z,T2 z=true↔T z=true\/Tch W H bl x y ny (nx+1) z):=fun z=>(hT2i.out z).trans (or_congr Iff.rfl (Tch.skip (fun q hq hqf he=>by
        have e1:=cell_eq W q
        have e2:=cell_eq W p
        have:q=p:=by rw [<- e1,<- e2,he.1,he.2,<- HPX.out,<- HPY.out]
        rw [this,hfree] at hqf;cases hqf)).symm)
       go_wp2_with fail
       refine hfind.mono ?_
       rintro e w4 ⟨rfl,hb4⟩
       have hT4:=hT2.below hb4
       have q4:=(hb4.cell (World.block_lt_of_cell? _ _ q2)).trans q2
       have K4:=K2.below hb4
       clear hfind g2 s2 hb4
       go_wp2
       go_loopw [52] (fun iv wr=>iv=.int .i64 0/\SetAt wr tb T2/\wr.cell? ⟨w.heap.size,0,none⟩=some (.pointer (some ⟨b,0,none⟩))/\Keep (fun k=>k=tb) w wr) (fun _ _=>0)
       case atStart=>exact ⟨rfl,hT4,q4,K4⟩
       case round =>
        obtain ⟨rfl,hT4,q4,K4⟩:=hrel
        go_wp2
        go_roundw
        case rel=>exact ⟨nx+1,T2,by go_num,by omega,by omega,hT4,HS,q4,K4⟩
        case measure=>simp [intOf];omega
    ·have e:nx=x+1+1:=by omega
     subst e
     go_wp2
     go_roundw
     case rel=>exact ⟨ny+1,T2,by go_num,by omega,by omega,hT2,fun z=>(hT2i.out z).trans (or_congr Iff.rfl Tch.row),q2,K2⟩
     case measure=>simp [intOf];omega
  ·have e:ny=y+1+1:=by omega
   subst e
   go_wp2
   go_end0
   exact ⟨rfl,⟨T1,hT1,hTi.out⟩,K1⟩
end Go.Proofs.YtipbhlofbpnpjaaGreatDoor
