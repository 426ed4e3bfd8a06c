/-
  Texts laid together: Nv5, NavM, LaidT, Dec.
-/
import Derived.Test.YtipbhlofbpnpjaaGreatDoorQ35
import Derived.Test.YtipbhlofbpnpjaaGreatDoorQ38
import Derived.Test.YtipbhlofbpnpjaaGreatDoorQ31
import Derived.Test.YtipbhlofbpnpjaaGreatDoorQ4
import Derived.Test.YtipbhlofbpnpjaaGreatDoorQ36
import Derived.Deep.RegionHeld3
import Derived.Laws.IdiomStrings
import Derived.Laws.BitsAllLaws
import Derived.IntWalk
namespace Go.Proofs.YtipbhlofbpnpjaaGreatDoor
section
open Go.RowKit Go.Lib
set_option maxHeartbeats 400000 in
theorem nov_err {b:Nat}{W H V most:Int}{bl:Nat->Bool}(w:World) (g:GridAt w b W H V bl) (s:StepsAt w) (hm:most < 1\/6 < most) :
  Calls Tryz.prog 50 #[.pointer (some ⟨b,0,none⟩),.int .i64 most] w fun e w'=>e=.returned (.tuple #[.pointer none,.iface 39 (.int .i64 1)])/\Below w.heap.size w w':=by
 have hb:=World.block_lt_of_cell? _ _ g.c0
 have hg:=new_graph w g s hb
 go_enter Tryz.func50,Tryz.ntmps50
 go_wp2_with fail
 refine hg.mono ?_
 rintro e w1 ⟨rb,pb,mb,rfl,G1,_,_,_,hb1⟩
 have hl:=new_err (rb:=rb) w1 hm
 clear hg
 go_wp2_with fail
 refine hl.mono ?_
 rintro e w2 ⟨rfl,rfl⟩
 go_wp2
 go_ret2
 exact ⟨rfl,hb1⟩
set_option maxHeartbeats 1000000 in
theorem nov_any {b most:Nat}{W H V:Int}{bl:Nat->Bool}(w:World) (g:GridAt w b W H V bl) (s:StepsAt w) (m1:1<=most) (m6:most<=6) :
  Calls Tryz.prog 50 #[.pointer (some ⟨b,0,none⟩),.int .i64 (most:Int)] w fun e w'=>∃ sb,e=.returned (.tuple #[.pointer (some ⟨sb,0,none⟩),.nilIface])/\Sv w' w.heap.size w'.heap.size sb W H V bl most/\w.heap.size<=sb/\Below w.heap.size w w':=by
 have hb:=World.block_lt_of_cell? _ _ g.c0
 have gw1:=g.w1
 have hsp:=s.pos
 have hg:=new_graph_in w g s hb
 go_enter Tryz.func50,Tryz.ntmps50
 go_wp2_with fail
 refine hg.mono ?_
 rintro e w1 ⟨rb,pb,mb,rfl,I1,r1,r2,r3,hb1⟩
 have G1:=I1.graph
 have hl:=new_levels w1 G1 (esF_ok gw1) m1 m6
 obtain ⟨l1,l2,l3⟩:rb < w1.heap.size/\pb < w1.heap.size/\mb < w1.heap.size:=by
  obtain ⟨f,G,_⟩:=G1
  exact G.lts
 clear hg
 go_wp2_with fail
 refine hl.mono ?_
 rintro e w2 ⟨lb,rfl,L2,hb2⟩
 have B2:=hb1.trans (hb2.mono hb1.size)
 have G2:=I1.lt.below hb2
 have ht:=tnew_any w2 (g.below B2 hb) (s.below B2 (by omega))
 have z2:=hb2.size
 clear hl G1 I1
 go_wp2_with fail
 refine ht.mono ?_
 rintro e w3 ⟨tb,gb,rfl,T3,t1,t2,hb3⟩
 have B3:=B2.trans (hb3.mono B2.size)
 have z1:=hb1.size
 obtain ⟨t3,t4⟩:tb < w3.heap.size/\gb < w3.heap.size:=by
  obtain ⟨T,t,_⟩:=T3.ok
  exact t.blocks
 have b4:Below w3.heap.size w3 (w3.alloc (.cells #[.int .i64 (most:Int),.pointer (some ⟨rb,0,none⟩),.pointer (some ⟨lb,0,none⟩),.pointer (some ⟨tb,0,none⟩)] 95)):=(Below.refl _ _).alloc (Nat.le_refl _) _
 have G4:=((G2.below hb3).below b4).mono (Q':=fun g=>g≠tb/\g≠gb/\g≠w3.heap.size) (fun g h=>⟨by omega,by omega,by have:=hb3.size;omega⟩)
 have L4:=(L2.below hb3).below b4
 have T4:=T3.below b4
 have k:∀ o,(w3.alloc (.cells #[.int .i64 (most:Int),.pointer (some ⟨rb,0,none⟩),.pointer (some ⟨lb,0,none⟩),.pointer (some ⟨tb,0,none⟩)] 95)).cell? ⟨w3.heap.size,o,none⟩=#[Value.int .i64 (most:Int),.pointer (some ⟨rb,0,none⟩),.pointer (some ⟨lb,0,none⟩),.pointer (some ⟨tb,0,none⟩)][o]? := fun o=>World.cell?_alloc_new ..
 have f:=free_alloc w3 #[.int .i64 (most:Int),.pointer (some ⟨rb,0,none⟩),.pointer (some ⟨lb,0,none⟩),.pointer (some ⟨tb,0,none⟩)] 95 w3.heap.size (Nat.le_refl _)
 have SV:Sv (w3.alloc (.cells #[.int .i64 (most:Int),.pointer (some ⟨rb,0,none⟩),.pointer (some ⟨lb,0,none⟩),.pointer (some ⟨tb,0,none⟩)] 95)) w.heap.size (w3.heap.size+1) w3.heap.size W H V bl most :=
  ⟨rb,pb,mb,lb,tb,gb,w1.heap.size,w2.heap.size,V,k 0,k 1,k 2,k 3,f 2,G4,L4,T4,⟨r1,r2,r3,z1⟩,⟨by omega,by omega,by omega⟩,⟨t1,t2,t3,t4⟩,Nat.lt_succ_self _,m1,m6,rfl⟩
 clear ht G2 L2 T3 G4 L4 T4 k f
 go_wp2
 go_ret2
 exact ⟨w3.heap.size,rfl,by simpa using SV,by omega,B3.trans (b4.mono B3.size)⟩
set_option maxHeartbeats 400000 in
theorem nnew_any {W H:Int}{most:Nat}(w:World) (s:StepsAt w) (hW:sideB W=true) (hH:sideB H=true) (m1:1<=most) (m6:most<=6) :
  Calls Tryz.prog 38 #[.int .i64 W,.int .i64 H,.int .i64 (most:Int)] w fun e w'=>∃ sb,e=.returned (.tuple #[.pointer (some ⟨sb,0,none⟩),.nilIface])/\Sv w' w.heap.size w'.heap.size sb W H 0 (fun _=>false) most/\Below w.heap.size w w':=by
 have hn:=new_ok W H w hW hH
 have g0:=gridAt_new W H w hW hH
 have b0:Below w.heap.size w (w.alloc (.cells (gridC W H) 168)):=(Below.refl _ _).alloc (Nat.le_refl _) _
 have ho:=nov_any _ g0 (s.below b0 (by have:=s.pos;omega)) m1 m6
 go_enter Tryz.func38,Tryz.ntmps38
 go_wp2_with fail
 refine hn.mono ?_
 rintro e w1 ⟨rfl,rfl⟩
 clear hn g0
 go_wp2_with fail
 refine ho.mono ?_
 rintro e w2 ⟨sb,rfl,S2,hsb,hb2⟩
 go_wp2
 go_ret2
 obtain ⟨rb,pb,mb,lb,tb,gb,N,x,V2,S2⟩:=S2
 have l1:=S2.l1
 simp only [World.size_alloc] at l1
 exact ⟨sb,rfl,⟨rb,pb,mb,lb,tb,gb,N,x,V2,S2.c0,S2.c1,S2.c2,S2.c3,S2.fz,S2.gi,S2.lv,S2.ta,⟨by omega,by omega,by omega,by omega⟩,S2.l2,S2.l3,S2.l4,S2.m1,S2.m6,S2.vv⟩,b0.trans (hb2.mono b0.size)⟩
theorem Sv.low {w:World}{lo lo' hi sb most:Nat}{W H V:Int}{bl:Nat->Bool}(S:Sv w lo hi sb W H V bl most) (h:lo'<=lo):Sv w lo' hi sb W H V bl most:=by
 obtain ⟨rb,pb,mb,lb,tb,gb,N,x,V2,S⟩:=S
 have l1:=S.l1
 exact ⟨rb,pb,mb,lb,tb,gb,N,x,V2,S.c0,S.c1,S.c2,S.c3,S.fz,S.gi,S.lv,S.ta,⟨by omega,by omega,by omega,by omega⟩,S.l2,S.l3,S.l4,S.m1,S.m6,S.vv⟩
theorem nload_any {W H most:Nat}{t:List UInt8}{cs:List Bool}(w:World) (E:Env w) (s:StepsAt w) (hr:readOf t=.good W H cs) (m1:1<=most) (m6:most<=6) :
  Calls Tryz.prog 22 #[.string (str t),.int .i64 (most:Int)] w fun e w'=>∃ sb,e=.returned (.tuple #[.pointer (some ⟨sb,0,none⟩),.nilIface])/\Sv w' w.heap.size w'.heap.size sb W H (blocks cs) (cellsF cs) most/\Below w.heap.size w w':=by
 have hn:=parse_good hr w E
 have hsp:=s.pos
 go_enter Tryz.func22,Tryz.ntmps22
 go_wp2_with fail
 refine hn.mono ?_
 rintro e w1 ⟨B,q1,q2,rfl,C1,hb1⟩
 have ho:=nov_any w1 C1.1 (s.below hb1 (by omega)) m1 m6
 clear hn
 go_wp2_with fail
 refine ho.mono ?_
 rintro e w2 ⟨sb,rfl,S2,hsb,hb2⟩
 clear ho
 go_wp2
 go_ret2
 exact ⟨sb,rfl,S2.low hb1.size,hb1.trans (hb2.mono hb1.size)⟩
theorem nload_err {W H:Nat}{most:Int}{t:List UInt8}{cs:List Bool}(w:World) (E:Env w) (s:StepsAt w) (hr:readOf t=.good W H cs) (hm:most < 1\/6 < most) :
  Calls Tryz.prog 22 #[.string (str t),.int .i64 most] w fun e w'=>e=.returned (.tuple #[.pointer none,.iface 39 (.int .i64 1)])/\Below w.heap.size w w':=by
 have hn:=parse_good hr w E
 have hsp:=s.pos
 go_enter Tryz.func22,Tryz.ntmps22
 go_wp2_with fail
 refine hn.mono ?_
 rintro e w1 ⟨B,q1,q2,rfl,C1,hb1⟩
 have ho:=nov_err w1 C1.1 (s.below hb1 (by omega)) hm
 clear hn
 go_wp2_with fail
 refine ho.mono ?_
 rintro e w2 ⟨rfl,hb2⟩
 clear ho
 go_wp2
 go_ret2
 exact ⟨rfl,hb1.trans (hb2.mono hb1.size)⟩
end
section
open Go.RowKit
section
variable {W H W' H' : Int} {bl bl' : Nat → Bool} {a t c a' t' : Int} {way way' way2 : List Nat} {s d err s' d' err' p q e2 : Int}
theorem Rt.ok (h:Rt W H bl a t way s d err) (h0:err=0):ff2 W H bl a t=0/\Wk (Edge W H bl) a t s d:=by
 by_cases hf:ff2 W H bl a t=0
 ·obtain ⟨l,_,h1,_⟩:=h.path hf h0
  exact ⟨hf,h1.walk⟩
 ·have:=(h.bad hf).1
  exact absurd (this.symm.trans h0) hf
theorem Rt.err_no (h:Rt W H bl a t way s d err) (h0:err≠0):s=0/\d=0/\way=[]:=by
 by_cases hf:ff2 W H bl a t=0
 ·by_cases hw:∃ p q,Wk (Edge W H bl) a t p q
  ·obtain ⟨p,q,hw⟩:=hw
   exact absurd (h.yes hf hw).1 h0
  ·obtain ⟨_,h1,h2,h3⟩:=h.no hf (fun p q k=>hw ⟨p,q,k⟩)
   exact ⟨h2,h3,h1⟩
 ·obtain ⟨_,h1,h2,h3⟩:=h.bad hf
  exact ⟨h2,h3,h1⟩
theorem Rt.bd (h:Rt W H bl a t way s d err):0<=s/\0<=d/\s<=400/\d<=256:=by
 by_cases h0:err=0
 ·obtain ⟨l,_,_,h1⟩:=h.path (h.ok h0).1 h0
  exact h1
 ·obtain ⟨h1,h2,_⟩:=h.err_no h0
  omega
theorem Rt.reach (h:Rt W H bl a t way s d err):err=0↔ff2 W H bl a t=0/\∃ p q,Wk (Edge W H bl) a t p q :=
 ⟨fun h0=>⟨(h.ok h0).1,_,_,(h.ok h0).2⟩,fun ⟨h1,_,_,h2⟩=>(h.yes h1 h2).1⟩
theorem two_same (h1:0<=d) (h2:d<=256) (h3:0<=d') (h4:d'<=256) (e1:val s d<=val s' d') (e2:val s' d'<=val s d):s=s'/\d=d' :=
 val_inj s d s' d' (by omega) (by omega) (Int.le_antisymm e1 e2)
theorem may_more (hb:∀ n,bl n=true->bl' n=true) {x y:Int}{k:Nat}(h:mayB W H bl' x y k=true):mayB W H bl x y k=true:=by
 have ho:∀ x y,openB W H bl' x y=true->openB W H bl x y=true:=fun x y h=>by
  unfold openB at h ⊢
  rw [Bool.and_eq_true] at h ⊢
  refine ⟨h.1,?_⟩
  cases hq:bl (y*W+x).toNat with
  | false=>rfl
  | true =>
    have h2:=h.2
    rw [hb _ hq] at h2
    cases h2
 unfold mayB at h ⊢
 simp only [Bool.and_eq_true] at h ⊢
 exact ⟨⟨⟨ho _ _ h.1.1.1,ho _ _ h.1.1.2⟩,ho _ _ h.1.2⟩,ho _ _ h.2⟩
theorem wk_more (hb:∀ n,bl n=true->bl' n=true) (h:Wk (Edge W H bl') a t p q):Wk (Edge W H bl) a t p q :=
 h (fun x p q=>Wk (Edge W H bl) a x p q) Wk.nil (fun _ _ _ _ _ hx e=>hx.step ⟨e.1,e.2.1,may_more hb e.2.2.1,e.2.2.2⟩)
end
end
section
open Go.RowKit
theorem laid_any (W H:Int) (A:Option Addr) (n cap:Nat) (xs:Nat->Int) (w:World) (hm:n<=maxLen) (hx:OldRow w A n xs) :
  Calls Tryz.prog 39 #[.agg #[.int .i64 W,.int .i64 H,.slice A n cap]] w fun e w'=>Below w.heap.size w w'/\(e=.returned (.tuple #[.pointer none,.pointer none,.bool false]) \/
   (e=.returned (.tuple #[.pointer (some ⟨w.heap.size+1,0,none⟩),.pointer (some ⟨w.heap.size+1+1,0,none⟩),.bool true])/\w'.heap.size=w.heap.size+3/\∃ V bl,V<=300/\Both w' (w.heap.size+1) (w.heap.size+1+1) W H V bl)):=by
 by_cases hn:300 < (n:Int)
 ·exact (laid_many W H A n cap w hn hm).mono fun e w' ⟨h1,h2⟩=>⟨h2,Or.inl h1⟩
 ·cases hW:sideB W with
  | false=>exact (laid_bad W H A n cap w hn (.inl hW)).mono fun e w' ⟨h1,h2⟩=>⟨h2,Or.inl h1⟩
  | true =>
    cases hH:sideB H with
    | false=>exact (laid_bad W H A n cap w hn (.inr ⟨hW,hH⟩)).mono fun e w' ⟨h1,h2⟩=>⟨h2,Or.inl h1⟩
    | true=>exact (laid_ok W H A n cap xs w hn hW hH hx).mono fun e w' ⟨h1,h2,h3,h4⟩=>⟨h2,Or.inr ⟨h1,h3,h4⟩⟩
theorem Both.below' {w w':World}{g m:Nat}{W H V:Int}{bl:Nat->Bool}(h:Both w g m W H V bl) (hb:Below w.heap.size w w'):Both w' g m W H V bl:=by
 have hg:g < w.heap.size:=World.block_lt_of_cell? w _ h.ga.c0
 have hm:m < w.heap.size:=World.block_lt_of_cell? w _ h.ra.c0
 exact ⟨h.ga.below hb hg,fun o=>(hb.frozen (p:=⟨g,o,none⟩) hg).trans (h.gf o),h.ra.below hb hm,fun o=>(hb.frozen (p:=⟨m,o,none⟩) hm).trans (h.rf o),h.v1,h.ne⟩
end
section
open Go.RowKit
theorem conv_one (b:Nat) (c:UInt8) (x:Int) (hx:x=c.toNat) (w:World) (h:w.cell? ⟨b,0,none⟩=some (.int .u8 x)):(convert 158 9 (.slice (some ⟨b,0,none⟩) 1 1)).run Tryz.prog w=.ok (.string (str [c])) w:=by
 subst hx
 refine run_convert_bytes_back w 158 9 5 ⟨b,0,none⟩ 1 [c] Tryz.underlying158 Tryz.underlying5 Tryz.underlying9 ?_
 intro j hj
 match j,hj with
 | 0,_=>simpa [Addr.add] using h
set_option maxHeartbeats 2000000 in
set_option maxRecDepth 100000 in
theorem dec_small (n:Nat) (h:n < 10) (w:World) :
  Calls Tryz.prog 51 #[.int .i64 n] w fun e w'=>e=.returned (.string (str (Lib.decDigits n)))/\Below w.heap.size w w':=by
 rw [Lib.decDigits_one h]
 have hd:=ofNat_dig h
 have h1:(n:Int) < 10:=by omega
 have h0:¬ (n:Int) < 0:=by omega
 have hc:=conv_one w.heap.size (UInt8.ofNat (48+n)) (48+(n:Int)) (by rw [hd];omega) (w.alloc (.cells #[.int .u8 (48+(n:Int))] 5)) (by rw [World.cell?_alloc_new];rfl)
 clear hd
 go_enter Tryz.func51,Tryz.ntmps51
 go_wp2_with fail
 go_ret
 exact ⟨rfl,(Below.refl _ _).alloc (Nat.le_refl _) _⟩
set_option maxHeartbeats 2000000 in
set_option maxRecDepth 100000 in
theorem dec_any:∀ (k n:Nat),n<=k->n < 1000000000000000000->∀ w:World,
  Calls Tryz.prog 51 #[.int .i64 n] w fun e w'=>e=.returned (.string (str (Lib.decDigits n)))/\Below w.heap.size w w':=by
 intro k
 induction k with
 | zero=>exact fun n hn _ w=>dec_small n (by omega) w
 | succ k ih =>
   intro n hn hm w
   by_cases h:n < 10
   ·exact dec_small n h w
   ·rw [dec_big h]
    have hd:=ofNat_dig (show n % 10 < 10 by omega)
    have h1:¬ (n:Int) < 10:=by omega
    have h0:¬ (n:Int) < 0:=by omega
    have q1:(n:Int).tdiv 10=((n / 10:Nat):Int):=by rw [Int.ofNat_tdiv];rfl
    have q2:(n:Int).tmod 10=((n % 10:Nat):Int):=by rw [Int.ofNat_tmod];rfl
    have hih:=fun w=>ih (n / 10) (by omega) (by omega) w
    have hl:(Lib.decDigits (n / 10)).length<=20:=by
     have:=itoa_len20 ((n / 10:Nat):Int) (by omega) (by omega)
     unfold Lib.itoa at this
     rw [if_neg (by omega),Int.toNat_natCast] at this
     exact this
    have hcv:=fun b w h=>conv_one b (UInt8.ofNat (48+n % 10)) (48+((n % 10:Nat):Int)) (by rw [hd];omega) w h
    generalize Lib.decDigits (n / 10)=L at *
    generalize UInt8.ofNat (48+n % 10)=c at *
    have hr9:n % 10 < 10:=by omega
    have hq9:n / 10 < 1000000000000000000:=by omega
    generalize n % 10=r at *
    generalize n / 10=q at *
    clear hd
    have wq:IntKind.i64.wrap (q:Int)=q:=IntWalk.i64_in _ (by omega)
    have wr:IntKind.i64.wrap (r:Int)=r:=IntWalk.i64_in _ (by omega)
    have wr2:IntKind.i64.wrap (48+(r:Int))=48+r:=IntWalk.i64_in _ (by omega)
    have wr3:IntKind.u8.wrap (48+(r:Int))=48+r:=by rw [IntKind.wrap_u8'];omega
    rw [<- str_append]
    have sL:(str L).size<=20:=by rw [str_size];exact hl
    have sC:(str [c]).size=1:=by rw [str_size];rfl
    generalize str L=SL at *
    generalize str [c]=SC at *
    have cvA:∀ W':World,(convert 158 9 (.slice (some ⟨W'.heap.size,0,none⟩) 1 1)).run Tryz.prog (W'.alloc (.cells #[.int .u8 (48+(r:Int))] 5))=.ok (.string SC) (W'.alloc (.cells #[.int .u8 (48+(r:Int))] 5)):=fun W'=>hcv _ _ (by rw [World.cell?_alloc_new];rfl)
    have cvA':∀ W':World,(convert 158 9 (.slice (some ⟨W'.heap.size,0,none⟩) 1 1)).run Tryz.prog (W'.alloc (.cells #[.int .u8 (48+(r:Int))] 5)).drew=.ok (.string SC) (W'.alloc (.cells #[.int .u8 (48+(r:Int))] 5)).drew:=fun W'=>hcv _ _ (by rw [show ∀ (X:World) p,X.drew.cell? p=X.cell? p from fun _ _=>rfl,World.cell?_alloc_new];rfl)
    have cvB:∀ {W' w1:World},Below (W'.alloc (.cells #[.int .u8 (48+(r:Int))] 5)).drew.heap.size (W'.alloc (.cells #[.int .u8 (48+(r:Int))] 5)).drew w1->(convert 158 9 (.slice (some ⟨W'.heap.size,0,none⟩) 1 1)).run Tryz.prog w1=.ok (.string SC) w1:=fun {W' w1} hb=>hcv _ _ ((hb.cell (p:=⟨W'.heap.size,0,none⟩) (by simp)).trans (by rw [show ∀ (X:World) p,X.drew.cell? p=X.cell? p from fun _ _=>rfl,World.cell?_alloc_new];rfl))
    have HB:Hid (∀ {W' w1:World},Below (W'.alloc (.cells #[.int .u8 (48+(r:Int))] 5)).drew.heap.size (W'.alloc (.cells #[.int .u8 (48+(r:Int))] 5)).drew w1->(convert 158 9 (.slice (some ⟨W'.heap.size,0,none⟩) 1 1)).run Tryz.prog w1=.ok (.string SC) w1):=cvB
    clear hcv cvB ih hn hm hl
    go_enter Tryz.func51,Tryz.ntmps51
    go_wp2_with fail
    go_region_held (fun _=>True) (trivial) ((go_at_call 51;refine (hih _).mono ?_;rintro e w1 ⟨rfl,hb1⟩;first | (have hk:=HB.out hb1) | skip))
    all_goals
     go_wp2_with fail
     go_ret
     first | exact ⟨rfl,(((Below.refl w.heap.size w).drew).trans hb1).alloc hb1.size _⟩ | exact ⟨rfl,(((Below.refl w.heap.size w).alloc (Nat.le_refl _) _).drew).trans (hb1.mono (Nat.le_trans (Nat.le_succ _) (Nat.le_of_eq (World.size_alloc _ _).symm)))⟩
theorem dec_v {n:Nat}{l:List UInt8}(hl:Lib.decDigits n=l) (hn:n < 1000000000000000000) (w:World) :
  Calls Tryz.prog 51 #[.int .i64 n] w fun e w'=>e=.returned (.string (str l))/\Below w.heap.size w w':=hl ▸ dec_any n n (Nat.le_refl _) hn w
end
end Go.Proofs.YtipbhlofbpnpjaaGreatDoor
