/-
  Texts laid together: Thr, TNew, TNew2, GGrid.
-/
import Derived.Test.YtipbhlofbpnpjaaGreatDoorQ33
import Derived.Test.YtipbhlofbpnpjaaGreatDoorQ22
namespace Go.Proofs.YtipbhlofbpnpjaaGreatDoor
section
open Go.RowKit
def ThrPost (w w':World) (e:Ending) (tb pb:Nat) (W H V:Int) (bl:Nat->Bool) (d:Nat) (T:Nat->Nat->Nat):Prop :=
 e=.returned (.tuple #[])/\∃ T',TabAt w' tb pb W H V bl T'/\Right W H bl T' d/\CTurn W H bl d T T'/\Keep (fun k=>k=tb) w w'
set_option maxHeartbeats 1000000 in
theorem through_any {tb pb:Nat}{W H V:Int}{bl:Nat->Bool}{v:Bool}{T:Nat->Nat->Nat}(x y:Int) (d:Nat) (w:World) (t:TabAt w tb pb W H V (upd bl (idx W x y) v) T) (hp:atB W H x y=true) (hR:Right W H bl T d) (hd:d < 8) :
  Calls Tryz.prog 120 #[.pointer (some ⟨tb,0,none⟩),.int .i64 x,.int .i64 y,.int .i64 d] w fun e w'=>ThrPost w w' e tb pb W H V (upd bl (idx W x y) v) d T:=by
 obtain ⟨s1,s2,s3,s4⟩:=step_bd d
 have hs:=fun w h=>step_any d w h hd
 have w2':=t.ga.w2
 have h2':=t.ga.h2
 obtain ⟨i1,i2,i3,i4⟩:=at_iff.1 hp
 have c1:=count_any x y d w t hd (by omega) (by omega) (by omega) (by omega) (thr_a hd hp hR)
 by_cases hx:stepX d=0
 ·go_enter Tryz.func120,Tryz.ntmps120
  go_wp2_with (first | (go_at_call 132;refine c1.mono ?_;rintro e w1 ⟨rfl,T1,t1,C1,K1⟩) | (go_at_call 158;refine (hs _ t1.st).mono ?_;rintro e w2 ⟨rfl,m,rfl⟩))
  exact bodyPost_ret (v:=.tuple #[]) (by simp [results,Tryz.results120,go_sem]) rfl ⟨rfl,T1,t1.drewN m,thr_straight hd hp hR C1 (Or.inl hx),C1.turn,K1.drewN m⟩
 ·by_cases hy:stepY d=0
  ·go_enter Tryz.func120,Tryz.ntmps120
   go_wp2_with (first | (go_at_call 132;refine c1.mono ?_;rintro e w1 ⟨rfl,T1,t1,C1,K1⟩) | (go_at_call 158;refine (hs _ t1.st).mono ?_;rintro e w2 ⟨rfl,m,rfl⟩))
   exact bodyPost_ret (v:=.tuple #[]) (by simp [results,Tryz.results120,go_sem]) rfl ⟨rfl,T1,t1.drewN m,thr_straight hd hp hR C1 (Or.inr hy),C1.turn,K1.drewN m⟩
  ·have ex:(stepX d == 0)=false:=by simpa using hx
   have ey:(stepY d == 0)=false:=by simpa using hy
   go_enter Tryz.func120,Tryz.ntmps120
   go_wp2_with (first | (go_at_call 132;refine c1.mono ?_;rintro e w1 ⟨rfl,T1,t1,C1,K1⟩))
   refine (hs _ t1.st).mono ?_
   rintro e w2 ⟨rfl,m,rfl⟩
   have t2:=t1.drewN m
   have K2:=K1.drewN m
   clear t1 K1 c1
   generalize w1.drewN m=w2 at *
   have c2:=count_any (x - stepX d) y d w2 t2 hd (by omega) (by omega) (by omega) (by omega) (thr_b hd hp hR C1.turn hx hy)
   go_wp2_with fail
   refine c2.mono ?_
   rintro e w3 ⟨rfl,T2,t3,C2,K3⟩
   have c3:=count_any x (y - stepY d) d w3 t3 hd (by omega) (by omega) (by omega) (by omega) (thr_c hd hp hR (C1.turn.trans C2.turn) hx hy)
   clear c2
   go_wp2_with fail
   refine c3.mono ?_
   rintro e w4 ⟨rfl,T3,t4,C3,K4⟩
   clear c3
   go_wp2
   go_end0
   exact ⟨rfl,T3,t4,thr_diag hd hp hR C1 C2 C3 hx hy,(C1.turn.trans C2.turn).trans C3.turn,(K2.trans K3 (fun _ _ h=>h)).trans K4 (fun _ _ h=>h)⟩
structure TabOk (w:World) (tb pb:Nat) (W H V:Int) (bl:Nat->Bool):Prop where
 ok:∃ T,TabAt w tb pb W H V bl T/\∀ d,d < 8->Right W H bl T d
theorem TabOk.keep {D:Nat->Prop}{w w':World}{tb pb:Nat}{W H V:Int}{bl:Nat->Bool}(t:TabOk w tb pb W H V bl) (K:Keep D w w') (h1:¬ D tb) (h2:¬ D pb) (h3:¬ D 1):TabOk w' tb pb W H V bl:=by
 obtain ⟨T,a,b⟩:=t.ok
 exact ⟨T,a.keep K h1 h2 h3,b⟩
theorem TabOk.below {w w':World}{tb pb:Nat}{W H V:Int}{bl:Nat->Bool}(t:TabOk w tb pb W H V bl) (hb:Below w.heap.size w w'):TabOk w' tb pb W H V bl :=
 t.keep (Keep.of_below (F:=fun _=>False) hb) id id id
end
section
open Go.RowKit
def tabC (p:Value):Array Value:=(p::List.replicate 2048 (.int .i64 0)).toArray
set_option maxRecDepth 1000000 in
theorem built58 (p:Option Addr):Tryz.prog.built 182 [(0,.pointer p)]=some (tabC (.pointer p)):=by kernel_rfl
theorem wpList_build58 {ops:Array Oper}{rest:List Oper}{o:Oper}{a:Act}{w:World}{Q:Exit->Act->World->Prop}(hgd:o.guard=none) (x:Operand) (ho:o.op=.build 182 #[(0,x)]) (p:Option Addr)
  (hx:a.eval x=.pointer p) (h:wpList Tryz.prog ops Q rest (a.put o.dst (.agg (tabC (.pointer p)))) w):wpList Tryz.prog ops Q (o::rest) a w :=
 wpList_plain hgd fun _ hK=>wp_build 182 _ ho (by simp [hx,built58]) (by simp [hx,built58];exact hK _ _ h)
theorem tabC_at (p:Value) (i:Nat) (hi:i < 2048):(tabC p)[1+i]? = some (.int .i64 0):=by
 unfold tabC
 rw [List.getElem?_toArray,Nat.add_comm,List.getElem?_cons_succ,List.getElem?_replicate,if_pos hi]
theorem tabAt_new {w:World}{pb:Nat}{W H V:Int}{bl:Nat->Bool}(g:GridAt w pb W H V bl) (f:Free w pb) (s:StepsAt w) (n1:1≠pb):TabAt (w.alloc (.cells (tabC (.pointer (some ⟨pb,0,none⟩))) 182)) w.heap.size pb W H V bl (fun _ _=>0):=by
 have hp:pb < w.heap.size:=World.block_lt_of_cell? w _ g.c0
 have hB:Below w.heap.size w (w.alloc (.cells (tabC (.pointer (some ⟨pb,0,none⟩))) 182)):=(Below.refl _ _).alloc (Nat.le_refl _) _
 refine ⟨?_,fun c d hc hd=>?_,free_alloc w _ _ _ (Nat.le_refl _),g.below hB hp,fun o=>(hB.frozen (p:=⟨pb,o,none⟩) hp).trans (f o),s.below hB (by have:=s.pos;omega),by omega,by have:=s.pos;omega,n1⟩
 ·rw [World.cell?_alloc_new];unfold tabC;rw [List.getElem?_toArray,List.getElem?_cons_zero]
 ·rw [World.cell?_alloc_new,Nat.add_assoc];exact tabC_at _ (c*8+d) (by omega)
def Tabled (w w':World) (e:Ending) (W H V:Int) (bl:Nat->Bool):Prop :=
 ∃ tb pb,e=.returned (.pointer (some ⟨tb,0,none⟩))/\TabOk w' tb pb W H V bl/\w.heap.size<=tb/\w.heap.size<=pb/\Below w.heap.size w w'
end
section
open Go.RowKit
set_option maxHeartbeats 2000000 in
set_option maxRecDepth 1000000 in
theorem tnew_any {b:Nat}{W H V:Int}{bl:Nat->Bool}(w:World) (g:GridAt w b W H V bl) (s:StepsAt w) :
  Calls Tryz.prog 91 #[.pointer (some ⟨b,0,none⟩)] w fun e w'=>Tabled w w' e W H V bl:=by
 have w1':=g.w1
 have w2':=g.w2
 have h1':=g.h1
 have h2':=g.h2
 obtain ⟨k1,k2⟩:=wh_bd g.w1 g.w2 g.h1 g.h2
 have s0:=s.pos
 have hcp:=copy_any w g
 go_enter Tryz.func91,Tryz.ntmps91
 go_wp2_with (first | (go_at_call 72;refine hcp.mono ?_;rintro e wa ⟨rfl,hba,hza,ga,gf⟩;have t0:=tabAt_new ga gf (s.below hba (by omega)) (by omega);have HB0:Below w.heap.size w (wa.alloc (.cells (tabC (.pointer (some ⟨w.heap.size,0,none⟩))) 182)):=hba.alloc hba.size _;have p0:=t0.p0) | refine wpList_build58 rfl _ rfl (some ⟨w.heap.size,0,none⟩) rfl ?_)
 have hz:w.heap.size<=wa.heap.size:=by omega
 clear hcp hba ga gf hza
 refine (cells_any _ t0.ga).mono ?_
 rintro e wb ⟨rfl,m,rfl⟩
 have t1:=t0.drewN m
 have HB1:=below_drewN HB0 m
 have hz1:((wa.alloc (.cells (tabC (.pointer (some ⟨w.heap.size,0,none⟩))) 182)).drewN m).heap.size=wa.heap.size+1:=by simp
 clear t0 HB0 p0
 generalize (wa.alloc (.cells (tabC (.pointer (some ⟨w.heap.size,0,none⟩))) 182)).drewN m=wb at *
 obtain ⟨N,hN⟩:∃ N:Nat,W*H=N:=⟨(W*H).toNat,by omega⟩
 have HN:Hid (W*H=N):=hN
 rw [hN] at k1 k2 ⊢
 clear hN
 go_wp2
 go_loopg [18] N (fun gk iv wr=>∃ (k:Nat) (T:Nat->Nat->Nat),k<=N/\gk=N - k/\iv=.int .i64 k/\TabAt wr wa.heap.size w.heap.size W H V bl T/\Ends W H bl T k 0/\Below w.heap.size w wr)
 case atStart=>exact ⟨0,_,by omega,rfl,rfl,t1,Ends.start W H bl _,HB1⟩
 case round =>
  clear t1 HB1
  obtain ⟨k,T,hk,hgk,rfl,tr,E,HB⟩:=hrel
  have HG:Hid (gk=N - k):=hgk
  clear hgk
  by_cases hlt:k < N
  ·have hlt':(k:Int) < (N:Int):=by omega
   have hin:inB W H k=true:=decide_eq_true ⟨by omega,by rw [HN.out];exact hlt'⟩
   obtain ⟨x,y,ha,hi,hpl⟩:∃ x y,atB W H x y=true/\idx W x y=k/\Calls Tryz.prog 76 #[.pointer (some ⟨w.heap.size,0,none⟩),.int .i64 (k:Int)] wr fun e w'=>e=.returned (.tuple #[.int .i64 x,.int .i64 y,.nilIface])/\∃ m,w'=wr.drewN m:=by
    obtain ⟨ha,hi⟩:=at_place w1' hin
    exact ⟨_,_,ha,by omega,place_in (k:Int) wr tr.ga hin⟩
   have HI:Hid (idx W x y=k):=hi
   clear hi
   obtain ⟨i1,i2,i3,i4⟩:=at_iff.1 ha
   have p0:=tr.p0
   go_wp2_with (go_at_call 76;refine hpl.mono ?_;rintro e w2 ⟨rfl,m2,rfl⟩)
   have t2:=tr.drewN m2
   have HB2:=below_drewN HB m2
   clear tr HB hpl p0
   generalize wr.drewN m2=w2 at *
   go_loopg [31] 8 (fun gk iv wr=>∃ (d:Nat) (T:Nat->Nat->Nat),d<=8/\gk=8 - d/\iv=.int .i64 d/\TabAt wr wa.heap.size w.heap.size W H V bl T/\Ends W H bl T k d/\Below w.heap.size w wr)
   case atStart=>exact ⟨0,T,by omega,rfl,rfl,t2,E,HB2⟩
   case round =>
    clear t2 HB2 E
    obtain ⟨d,T,hd,hgd,rfl,tr,E,HB⟩:=hrel
    have HD:Hid (gk=8 - d):=hgd
    clear hgd
    by_cases hd8:d < 8
    ·have hd8':(d:Int) < 8:=by omega
     have hie:=isEnd_any x y d wr tr hd8 (by omega) (by omega) (by omega) (by omega)
     cases hat:atB W H (x+stepX d) (y+stepY d) with
     | true =>
       rw [hat] at hie
       have E1:=E.pass ha HI.out hat
       go_wp2_with (go_at_call 131;refine hie.mono ?_;rintro e w3 ⟨rfl,m3,rfl⟩)
       go_roundg (8 - (d+1))
       case measure=>have:=HD.out;omega
       case rel=>exact ⟨d+1,T,by omega,rfl,by go_num,tr.drewN m3,E1,below_drewN HB m3⟩
     | false =>
       rw [hat] at hie
       have hct:=fun m=>count_any x y d (wr.drewN m) (tr.drewN m) hd8 (by omega) (by omega) (by omega) (by omega) (fun hm=>by rw [end_not hat] at hm;cases hm)
       go_wp2_with (first | (go_at_call 131;refine hie.mono ?_;rintro e w3 ⟨rfl,m3,rfl⟩) | (go_at_call 132;refine (hct _).mono ?_;rintro e w4 ⟨rfl,T4,t4,C4,K4⟩))
       go_roundg (8 - (d+1))
       case measure=>have:=HD.out;omega
       case rel=>exact ⟨d+1,T4,by omega,rfl,by go_num,t4,E.count ha HI.out C4,(below_drewN HB m3).trans (K4.to_below HB.size (fun q hq=>by rw [hq];exact hz))⟩
    ·have:d=8:=by omega
     subst this
     go_wp2
     go_roundg (N - (k+1))
     case measure=>have:=HG.out;omega
     case rel=>exact ⟨k+1,T,by omega,rfl,by go_num,tr,E.next,HB⟩
  ·have:k=N:=by omega
   subst this
   go_wp2
   go_ret
   exact ⟨_,_,rfl,⟨T,tr,fun d hd=>E.all w1' w2' h1' h2' (by rw [HN.out];exact Int.le_refl _) hd⟩,hz,Nat.le_refl _,HB⟩
end
section
open Go.RowKit Go.Maps Go.Sort Go.Shelf
set_option maxHeartbeats 400000 in
theorem ggrid_any {rb pb mb:Nat}{W H V:Int}{bl:Nat->Bool}(w:World) (G:GraphAt w rb pb mb W H V bl) :
  Calls Tryz.prog 41 #[.pointer (some ⟨rb,0,none⟩)] w fun e w'=>e=.returned (.pointer (some ⟨w.heap.size,0,none⟩))/\Below w.heap.size w w'/\w.heap.size < w'.heap.size/\GridAt w' w.heap.size W H V bl/\Free w' w.heap.size:=by
 obtain ⟨f,G,E⟩:=G
 have p0:=G.p0
 have hcp:=copy_any w G.ga
 clear G E
 go_enter Tryz.func41,Tryz.ntmps41
 go_wp2_with fail
 refine hcp.mono ?_
 rintro e w1 ⟨rfl,hb1,hs1,g1,fr1⟩
 clear hcp
 go_wp2
 go_ret
 exact ⟨rfl,hb1,hs1,g1,fr1⟩
end
end Go.Proofs.YtipbhlofbpnpjaaGreatDoor
