/-
  Texts laid together: Nv5, NavM, LaidT, Dec, RPrint, Nv6.
-/
import Derived.Test.YtmaefimaeelkbaaGreatDoorP24
import Derived.Test.YtmaefimaeelkbaaGreatDoorP26
import Derived.Test.YtmaefimaeelkbaaGreatDoorP21
import Derived.Test.YtmaefimaeelkbaaGreatDoorP3
import Derived.Test.YtmaefimaeelkbaaGreatDoorP25
import Derived.Deep.RegionHeld3
import Derived.Laws.IdiomStrings
import Derived.Laws.BitsAllLaws
import Derived.IntWalk
namespace Go.Proofs.YtmaefimaeelkbaaGreatDoor
section
open Go.RowKit Go.Lib
set_option maxHeartbeats 400000 in
theorem nov_err {b:Nat}{W H V most:Int}{bl:Nat->Bool}(w:World)(g:GridAt w b W H V bl)(s:StepsAt w)(hm:most<1\/6<most) :
  Calls Tryz.prog 32 #[.pointer (some ⟨b,0,none⟩),.int .i64 most] w fun e w'=>e=.returned (.tuple #[.pointer none,.iface 54 (.int .i64 1)])/\Below w.heap.size w w':=by
 have hb:=World.block_lt_of_cell? _ _ g.c0
 have hg:=new_graph w g s hb
 go_enter Tryz.func32,Tryz.ntmps32
 go_wp2_with fail
 refine hg.mono ?_
 rintro e w1 ⟨rb,pb,mb,rfl,G1,_,_,_,hb1⟩
 have hl:=new_err (rb:=rb) w1 hm
 clear hg
 go_wp2_with fail
 refine hl.mono ?_
 rintro e w2 ⟨rfl,rfl⟩
 go_wp2
 go_ret2
 exact ⟨rfl,hb1⟩
set_option maxHeartbeats 1000000 in
theorem nov_any {b most:Nat}{W H V:Int}{bl:Nat->Bool}(w:World)(g:GridAt w b W H V bl)(s:StepsAt w)(m1:1<=most)(m6:most<=6) :
  Calls Tryz.prog 32 #[.pointer (some ⟨b,0,none⟩),.int .i64 (most:Int)] w fun e w'=>∃ sb,e=.returned (.tuple #[.pointer (some ⟨sb,0,none⟩),.nilIface])/\Sv w' w.heap.size w'.heap.size sb W H V bl most/\w.heap.size<=sb/\Below w.heap.size w w':=by
 have hb:=World.block_lt_of_cell? _ _ g.c0
 have gw1:=g.w1
 have hsp:=s.pos
 have hg:=new_graph_in w g s hb
 go_enter Tryz.func32,Tryz.ntmps32
 go_wp2_with fail
 refine hg.mono ?_
 rintro e w1 ⟨rb,pb,mb,rfl,I1,r1,r2,r3,hb1⟩
 have G1:=I1.graph
 have hl:=new_levels w1 G1 (esF_ok gw1) m1 m6
 obtain ⟨l1,l2,l3⟩:rb<w1.heap.size/\pb<w1.heap.size/\mb<w1.heap.size:=by
  obtain ⟨f,G,_⟩:=G1
  exact G.lts
 clear hg
 go_wp2_with fail
 refine hl.mono ?_
 rintro e w2 ⟨lb,rfl,L2,hb2⟩
 have B2:=hb1.trans (hb2.mono hb1.size)
 have G2:=I1.lt.below hb2
 have ht:=tnew_any w2 (g.below B2 hb) (s.below B2 (by omega))
 have z2:=hb2.size
 clear hl G1 I1
 go_wp2_with fail
 refine ht.mono ?_
 rintro e w3 ⟨tb,gb,rfl,T3,t1,t2,hb3⟩
 have B3:=B2.trans (hb3.mono B2.size)
 have z1:=hb1.size
 obtain ⟨t3,t4⟩:tb<w3.heap.size/\gb<w3.heap.size:=by
  obtain ⟨T,t,_⟩:=T3.ok
  exact t.blocks
 have b4:Below w3.heap.size w3 (w3.alloc (.cells #[.int .i64 (most:Int),.pointer (some ⟨rb,0,none⟩),.pointer (some ⟨lb,0,none⟩),.pointer (some ⟨tb,0,none⟩)] 95)):=(Below.refl _ _).alloc (Nat.le_refl _) _
 have G4:=((G2.below hb3).below b4).mono (Q':=fun g=>g≠tb/\g≠gb/\g≠w3.heap.size) (fun g h=>⟨by omega,by omega,by have:=hb3.size;omega⟩)
 have L4:=(L2.below hb3).below b4
 have T4:=T3.below b4
 have k:∀ o,(w3.alloc (.cells #[.int .i64 (most:Int),.pointer (some ⟨rb,0,none⟩),.pointer (some ⟨lb,0,none⟩),.pointer (some ⟨tb,0,none⟩)] 95)).cell? ⟨w3.heap.size,o,none⟩=#[Value.int .i64 (most:Int),.pointer (some ⟨rb,0,none⟩),.pointer (some ⟨lb,0,none⟩),.pointer (some ⟨tb,0,none⟩)][o]? := fun o=>World.cell?_alloc_new ..
 have f:=free_alloc w3 #[.int .i64 (most:Int),.pointer (some ⟨rb,0,none⟩),.pointer (some ⟨lb,0,none⟩),.pointer (some ⟨tb,0,none⟩)] 95 w3.heap.size (Nat.le_refl _)
 have SV:Sv (w3.alloc (.cells #[.int .i64 (most:Int),.pointer (some ⟨rb,0,none⟩),.pointer (some ⟨lb,0,none⟩),.pointer (some ⟨tb,0,none⟩)] 95)) w.heap.size (w3.heap.size+1) w3.heap.size W H V bl most :=
  ⟨rb,pb,mb,lb,tb,gb,w1.heap.size,w2.heap.size,V,k 0,k 1,k 2,k 3,f 2,G4,L4,T4,⟨r1,r2,r3,z1⟩,⟨by omega,by omega,by omega⟩,⟨t1,t2,t3,t4⟩,Nat.lt_succ_self _,m1,m6,rfl⟩
 clear ht G2 L2 T3 G4 L4 T4 k f
 go_wp2
 go_ret2
 exact ⟨w3.heap.size,rfl,by simpa using SV,by omega,B3.trans (b4.mono B3.size)⟩
set_option maxHeartbeats 400000 in
theorem nnew_any {W H:Int}{most:Nat}(w:World)(s:StepsAt w)(hW:sideB W=true)(hH:sideB H=true)(m1:1<=most)(m6:most<=6) :
  Calls Tryz.prog 8 #[.int .i64 W,.int .i64 H,.int .i64 (most:Int)] w fun e w'=>∃ sb,e=.returned (.tuple #[.pointer (some ⟨sb,0,none⟩),.nilIface])/\Sv w' w.heap.size w'.heap.size sb W H 0 (fun _=>false) most/\Below w.heap.size w w':=by
 have hn:=new_ok W H w hW hH
 have g0:=gridAt_new W H w hW hH
 have b0:Below w.heap.size w (w.alloc (.cells (gridC W H) 136)):=(Below.refl _ _).alloc (Nat.le_refl _) _
 have ho:=nov_any _ g0 (s.below b0 (by have:=s.pos;omega)) m1 m6
 go_enter Tryz.func8,Tryz.ntmps8
 go_wp2_with fail
 refine hn.mono ?_
 rintro e w1 ⟨rfl,rfl⟩
 clear hn g0
 go_wp2_with fail
 refine ho.mono ?_
 rintro e w2 ⟨sb,rfl,S2,hsb,hb2⟩
 go_wp2
 go_ret2
 obtain ⟨rb,pb,mb,lb,tb,gb,N,x,V2,S2⟩:=S2
 have l1:=S2.l1
 simp only [World.size_alloc] at l1
 exact ⟨sb,rfl,⟨rb,pb,mb,lb,tb,gb,N,x,V2,S2.c0,S2.c1,S2.c2,S2.c3,S2.fz,S2.gi,S2.lv,S2.ta,⟨by omega,by omega,by omega,by omega⟩,S2.l2,S2.l3,S2.l4,S2.m1,S2.m6,S2.vv⟩,b0.trans (hb2.mono b0.size)⟩
theorem Sv.low {w:World}{lo lo' hi sb most:Nat}{W H V:Int}{bl:Nat->Bool}(S:Sv w lo hi sb W H V bl most)(h:lo'<=lo):Sv w lo' hi sb W H V bl most:=by
 obtain ⟨rb,pb,mb,lb,tb,gb,N,x,V2,S⟩:=S
 have l1:=S.l1
 exact ⟨rb,pb,mb,lb,tb,gb,N,x,V2,S.c0,S.c1,S.c2,S.c3,S.fz,S.gi,S.lv,S.ta,⟨by omega,by omega,by omega,by omega⟩,S.l2,S.l3,S.l4,S.m1,S.m6,S.vv⟩
theorem nload_any {W H most:Nat}{t:List UInt8}{cs:List Bool}(w:World)(E:Env w)(s:StepsAt w)(hr:readOf t=.good W H cs)(m1:1<=most)(m6:most<=6) :
  Calls Tryz.prog 11 #[.string (str t),.int .i64 (most:Int)] w fun e w'=>∃ sb,e=.returned (.tuple #[.pointer (some ⟨sb,0,none⟩),.nilIface])/\Sv w' w.heap.size w'.heap.size sb W H (blocks cs) (cellsF cs) most/\Below w.heap.size w w':=by
 have hn:=parse_good hr w E
 have hsp:=s.pos
 go_enter Tryz.func11,Tryz.ntmps11
 go_wp2_with fail
 refine hn.mono ?_
 rintro e w1 ⟨B,q1,q2,rfl,C1,hb1⟩
 have ho:=nov_any w1 C1.1 (s.below hb1 (by omega)) m1 m6
 clear hn
 go_wp2_with fail
 refine ho.mono ?_
 rintro e w2 ⟨sb,rfl,S2,hsb,hb2⟩
 clear ho
 go_wp2
 go_ret2
 exact ⟨sb,rfl,S2.low hb1.size,hb1.trans (hb2.mono hb1.size)⟩
theorem nload_err {W H:Nat}{most:Int}{t:List UInt8}{cs:List Bool}(w:World)(E:Env w)(s:StepsAt w)(hr:readOf t=.good W H cs)(hm:most<1\/6<most) :
  Calls Tryz.prog 11 #[.string (str t),.int .i64 most] w fun e w'=>e=.returned (.tuple #[.pointer none,.iface 54 (.int .i64 1)])/\Below w.heap.size w w':=by
 have hn:=parse_good hr w E
 have hsp:=s.pos
 go_enter Tryz.func11,Tryz.ntmps11
 go_wp2_with fail
 refine hn.mono ?_
 rintro e w1 ⟨B,q1,q2,rfl,C1,hb1⟩
 have ho:=nov_err w1 C1.1 (s.below hb1 (by omega)) hm
 clear hn
 go_wp2_with fail
 refine ho.mono ?_
 rintro e w2 ⟨rfl,hb2⟩
 clear ho
 go_wp2
 go_ret2
 exact ⟨rfl,hb1.trans (hb2.mono hb1.size)⟩
end
section
open Go.RowKit
section
variable {W H W' H' : Int} {bl bl' : Nat → Bool} {a t c a' t' : Int} {way way' way2 : List Nat} {s d err s' d' err' p q e2 : Int}
theorem Rt.ok (h:Rt W H bl a t way s d err)(h0:err=0):ff2 W H bl a t=0/\Wk (Edge W H bl) a t s d:=by
 by_cases hf:ff2 W H bl a t=0
 ·obtain ⟨l,_,h1,_⟩:=h.path hf h0
  exact ⟨hf,h1.walk⟩
 ·have:=(h.bad hf).1
  exact absurd (this.symm.trans h0) hf
theorem Rt.err_no (h:Rt W H bl a t way s d err)(h0:err≠0):s=0/\d=0/\way=[]:=by
 by_cases hf:ff2 W H bl a t=0
 ·by_cases hw:∃ p q,Wk (Edge W H bl) a t p q
  ·obtain ⟨p,q,hw⟩:=hw
   exact absurd (h.yes hf hw).1 h0
  ·obtain ⟨_,h1,h2,h3⟩:=h.no hf (fun p q k=>hw ⟨p,q,k⟩)
   exact ⟨h2,h3,h1⟩
 ·obtain ⟨_,h1,h2,h3⟩:=h.bad hf
  exact ⟨h2,h3,h1⟩
theorem Rt.bd (h:Rt W H bl a t way s d err):0<=s/\0<=d/\s<=400/\d<=256:=by
 by_cases h0:err=0
 ·obtain ⟨l,_,_,h1⟩:=h.path (h.ok h0).1 h0
  exact h1
 ·obtain ⟨h1,h2,_⟩:=h.err_no h0
  omega
theorem Rt.reach (h:Rt W H bl a t way s d err):err=0↔ff2 W H bl a t=0/\∃ p q,Wk (Edge W H bl) a t p q :=
 ⟨fun h0=>⟨(h.ok h0).1,_,_,(h.ok h0).2⟩,fun ⟨h1,_,_,h2⟩=>(h.yes h1 h2).1⟩
theorem two_same (h1:0<=d)(h2:d<=256)(h3:0<=d')(h4:d'<=256)(e1:val s d<=val s' d')(e2:val s' d'<=val s d):s=s'/\d=d' :=
 val_inj s d s' d' (by omega) (by omega) (Int.le_antisymm e1 e2)
theorem Rt.alike (h:Rt W H bl a t way s d err)(h':Rt W' H' bl' a' t' way' s' d' err')(hf:ff2 W H bl a t=0↔ff2 W' H' bl' a' t'=0)(hw:∀ p q,Wk (Edge W H bl) a t p q↔Wk (Edge W' H' bl') a' t' p q):s=s'/\d=d'/\(err=0↔err'=0):=by
 have he:err=0↔err'=0:=by
  rw [h.reach,h'.reach,hf]
  constructor
  ·rintro ⟨h1,p,q,h2⟩
   exact ⟨h1,p,q,(hw p q).1 h2⟩
  ·rintro ⟨h1,p,q,h2⟩
   exact ⟨h1,p,q,(hw p q).2 h2⟩
 by_cases h0:err=0
 ·obtain ⟨k1,k2⟩:=h.ok h0
  obtain ⟨k3,k4⟩:=h'.ok (he.1 h0)
  have b1:=h.bd
  have b2:=h'.bd
  obtain ⟨e1,e2⟩:=two_same b1.2.1 b1.2.2.2 b2.2.1 b2.2.2.2 (h.yes k1 ((hw _ _).2 k4)).2 (h'.yes k3 ((hw _ _).1 k2)).2
  exact ⟨e1,e2,he⟩
 ·obtain ⟨e1,e2,_⟩:=h.err_no h0
  obtain ⟨e3,e4,_⟩:=h'.err_no (fun q=>h0 (he.2 q))
  exact ⟨e1.trans e3.symm,e2.trans e4.symm,he⟩
theorem Rt.same (h:Rt W H bl a t way s d err)(h':Rt W' H' bl' a' t' way' s' d' err')(hf:ff2 W H bl a t=ff2 W' H' bl' a' t')(hw:∀ p q,Wk (Edge W H bl) a t p q↔Wk (Edge W' H' bl') a' t' p q):s=s'/\d=d'/\err=err':=by
 obtain ⟨e1,e2,he⟩:=h.alike h' (by rw [hf]) hw
 refine ⟨e1,e2,?_⟩
 by_cases h0:err=0
 ·rw [h0,he.1 h0]
 ·by_cases k0:ff2 W H bl a t=0
  ·have n1:∀ p q,¬ Wk (Edge W H bl) a t p q:=fun p q k=>h0 (h.yes k0 k).1
   rw [(h.no k0 n1).1,(h'.no (hf.symm.trans k0) (fun p q k=>n1 p q ((hw p q).2 k))).1]
  ·rw [(h.bad k0).1,(h'.bad (fun q=>k0 (hf.trans q))).1,hf]
end
end
section
open Go.RowKit
theorem laid_any (W H:Int)(A:Option Addr)(n cap:Nat)(xs:Nat->Int)(w:World)(hm:n<=maxLen)(hx:OldRow w A n xs) :
  Calls Tryz.prog 62 #[.agg #[.int .i64 W,.int .i64 H,.slice A n cap]] w fun e w'=>Below w.heap.size w w'/\(e=.returned (.tuple #[.pointer none,.pointer none,.bool false]) \/
   (e=.returned (.tuple #[.pointer (some ⟨w.heap.size+1,0,none⟩),.pointer (some ⟨w.heap.size+1+1,0,none⟩),.bool true])/\w'.heap.size=w.heap.size+3/\∃ V bl,V<=300/\Both w' (w.heap.size+1) (w.heap.size+1+1) W H V bl)):=by
 by_cases hn:300<(n:Int)
 ·exact (laid_many W H A n cap w hn hm).mono fun e w' ⟨h1,h2⟩=>⟨h2,Or.inl h1⟩
 ·cases hW:sideB W with
  |false=>exact (laid_bad W H A n cap w hn (.inl hW)).mono fun e w' ⟨h1,h2⟩=>⟨h2,Or.inl h1⟩
  |true =>
   cases hH:sideB H with
   |false=>exact (laid_bad W H A n cap w hn (.inr ⟨hW,hH⟩)).mono fun e w' ⟨h1,h2⟩=>⟨h2,Or.inl h1⟩
   |true=>exact (laid_ok W H A n cap xs w hn hW hH hx).mono fun e w' ⟨h1,h2,h3,h4⟩=>⟨h2,Or.inr ⟨h1,h3,h4⟩⟩
theorem Both.below' {w w':World}{g m:Nat}{W H V:Int}{bl:Nat->Bool}(h:Both w g m W H V bl)(hb:Below w.heap.size w w'):Both w' g m W H V bl:=by
 have hg:g<w.heap.size:=World.block_lt_of_cell? w _ h.ga.c0
 have hm:m<w.heap.size:=World.block_lt_of_cell? w _ h.ra.c0
 exact ⟨h.ga.below hb hg,fun o=>(hb.frozen (p:=⟨g,o,none⟩) hg).trans (h.gf o),h.ra.below hb hm,fun o=>(hb.frozen (p:=⟨m,o,none⟩) hm).trans (h.rf o),h.v1,h.ne⟩
end
section
open Go.RowKit
theorem conv_one (b:Nat)(c:UInt8)(x:Int)(hx:x=c.toNat)(w:World)(h:w.cell? ⟨b,0,none⟩=some (.int .u8 x)):(convert 182 9 (.slice (some ⟨b,0,none⟩) 1 1)).run Tryz.prog w=.ok (.string (str [c])) w:=by
 subst hx
 refine run_convert_bytes_back w 182 9 5 ⟨b,0,none⟩ 1 [c] Tryz.underlying182 Tryz.underlying5 Tryz.underlying9 ?_
 intro j hj
 match j,hj with
 |0,_=>simpa [Addr.add] using h
set_option maxHeartbeats 2000000 in
set_option maxRecDepth 100000 in
theorem dec_small (n:Nat)(h:n<10)(w:World) :
  Calls Tryz.prog 51 #[.int .i64 n] w fun e w'=>e=.returned (.string (str (Lib.decDigits n)))/\Below w.heap.size w w':=by
 rw [Lib.decDigits_one h]
 have hd:=ofNat_dig h
 have h1:(n:Int)<10:=by omega
 have h0:¬ (n:Int)<0:=by omega
 have hc:=conv_one w.heap.size (UInt8.ofNat (48+n)) (48+(n:Int)) (by rw [hd];omega) (w.alloc (.cells #[.int .u8 (48+(n:Int))] 5)) (by rw [World.cell?_alloc_new];rfl)
 clear hd
 go_enter Tryz.func51,Tryz.ntmps51
 go_wp2_with fail
 go_ret
 exact ⟨rfl,(Below.refl _ _).alloc (Nat.le_refl _) _⟩
set_option maxHeartbeats 2000000 in
set_option maxRecDepth 100000 in
theorem dec_any:∀ (k n:Nat),n<=k->n<1000000000000000000->∀ w:World,
  Calls Tryz.prog 51 #[.int .i64 n] w fun e w'=>e=.returned (.string (str (Lib.decDigits n)))/\Below w.heap.size w w':=by
 intro k
 induction k with
 |zero=>exact fun n hn _ w=>dec_small n (by omega) w
 |succ k ih =>
  intro n hn hm w
  by_cases h:n<10
  ·exact dec_small n h w
  ·rw [dec_big h]
   have hd:=ofNat_dig (show n % 10<10 by omega)
   have h1:¬ (n:Int)<10:=by omega
   have h0:¬ (n:Int)<0:=by omega
   have q1:(n:Int).tdiv 10=((n / 10:Nat):Int):=by rw [Int.ofNat_tdiv];rfl
   have q2:(n:Int).tmod 10=((n % 10:Nat):Int):=by rw [Int.ofNat_tmod];rfl
   have hih:=fun w=>ih (n / 10) (by omega) (by omega) w
   have hl:(Lib.decDigits (n / 10)).length<=20:=by
    have:=itoa_len20 ((n / 10:Nat):Int) (by omega) (by omega)
    unfold Lib.itoa at this
    rw [if_neg (by omega),Int.toNat_natCast] at this
    exact this
   have hcv:=fun b w h=>conv_one b (UInt8.ofNat (48+n % 10)) (48+((n % 10:Nat):Int)) (by rw [hd];omega) w h
   generalize Lib.decDigits (n / 10)=L at *
   generalize UInt8.ofNat (48+n % 10)=c at *
   have hr9:n % 10<10:=by omega
   have hq9:n / 10<1000000000000000000:=by omega
   generalize n % 10=r at *
   generalize n / 10=q at *
   clear hd
   have wq:IntKind.i64.wrap (q:Int)=q:=IntWalk.i64_in _ (by omega)
   have wr:IntKind.i64.wrap (r:Int)=r:=IntWalk.i64_in _ (by omega)
   have wr2:IntKind.i64.wrap (48+(r:Int))=48+r:=IntWalk.i64_in _ (by omega)
   have wr3:IntKind.u8.wrap (48+(r:Int))=48+r:=by rw [IntKind.wrap_u8'];omega
   rw [<- str_append]
   have sL:(str L).size<=20:=by rw [str_size];exact hl
   have sC:(str [c]).size=1:=by rw [str_size];rfl
   generalize str L=SL at *
   generalize str [c]=SC at *
   have cvA:∀ W':World,(convert 182 9 (.slice (some ⟨W'.heap.size,0,none⟩) 1 1)).run Tryz.prog (W'.alloc (.cells #[.int .u8 (48+(r:Int))] 5))=.ok (.string SC) (W'.alloc (.cells #[.int .u8 (48+(r:Int))] 5)):=fun W'=>hcv _ _ (by rw [World.cell?_alloc_new];rfl)
   have cvA':∀ W':World,(convert 182 9 (.slice (some ⟨W'.heap.size,0,none⟩) 1 1)).run Tryz.prog (W'.alloc (.cells #[.int .u8 (48+(r:Int))] 5)).drew=.ok (.string SC) (W'.alloc (.cells #[.int .u8 (48+(r:Int))] 5)).drew:=fun W'=>hcv _ _ (by rw [show ∀ (X:World) p,X.drew.cell? p=X.cell? p from fun _ _=>rfl,World.cell?_alloc_new];rfl)
   have cvB:∀ {W' w1:World},Below (W'.alloc (.cells #[.int .u8 (48+(r:Int))] 5)).drew.heap.size (W'.alloc (.cells #[.int .u8 (48+(r:Int))] 5)).drew w1->(convert 182 9 (.slice (some ⟨W'.heap.size,0,none⟩) 1 1)).run Tryz.prog w1=.ok (.string SC) w1:=fun {W' w1} hb=>hcv _ _ ((hb.cell (p:=⟨W'.heap.size,0,none⟩) (by simp)).trans (by rw [show ∀ (X:World) p,X.drew.cell? p=X.cell? p from fun _ _=>rfl,World.cell?_alloc_new];rfl))
   have HB:Hid (∀ {W' w1:World},Below (W'.alloc (.cells #[.int .u8 (48+(r:Int))] 5)).drew.heap.size (W'.alloc (.cells #[.int .u8 (48+(r:Int))] 5)).drew w1->(convert 182 9 (.slice (some ⟨W'.heap.size,0,none⟩) 1 1)).run Tryz.prog w1=.ok (.string SC) w1):=cvB
   clear hcv cvB ih hn hm hl
   go_enter Tryz.func51,Tryz.ntmps51
   go_wp2_with fail
   go_region_held (fun _=>True) (trivial) ((go_at_call 51;refine (hih _).mono ?_;rintro e w1 ⟨rfl,hb1⟩;first|(have hk:=HB.out hb1)|skip))
   all_goals
    go_wp2_with fail
    go_ret
    first|exact ⟨rfl,(((Below.refl w.heap.size w).drew).trans hb1).alloc hb1.size _⟩|exact ⟨rfl,(((Below.refl w.heap.size w).alloc (Nat.le_refl _) _).drew).trans (hb1.mono (Nat.le_trans (Nat.le_succ _) (Nat.le_of_eq (World.size_alloc _ _).symm)))⟩
theorem dec_v {n:Nat}{l:List UInt8}(hl:Lib.decDigits n=l)(hn:n<1000000000000000000)(w:World) :
  Calls Tryz.prog 51 #[.int .i64 n] w fun e w'=>e=.returned (.string (str l))/\Below w.heap.size w w':=hl ▸ dec_any n n (Nat.le_refl _) hn w
end
section
open Go.RowKit
def prL (bl:Nat->Bool) (W:Nat):Nat->List UInt8
 |0=>[]
 |c+1=>prL bl W c++([byteL (bl c)]++if c % W=W - 1 then [10] else [])
theorem prL_len (bl:Nat->Bool)(W:Nat):∀ c,(prL bl W c).length<=2*c
 |0=>by simp [prL]
 |c+1=>by
  have:=prL_len bl W c
  unfold prL
  rw [List.length_append,List.length_append]
  split <;> simp <;> omega
theorem prL_mid (bl:Nat->Bool){W y:Nat}(h:prL bl W (y*W)=rowsL bl W y):∀ x,x<W->prL bl W (y*W+x)=rowsL bl W y++rowL bl (y*W) x
 |0,_=>by simp [h,rowL]
 |x+1,hx=>by
  rw [show y*W+(x+1)=(y*W+x)+1 by omega]
  unfold prL
  rw [prL_mid bl h x (by omega)]
  have e:(y*W+x) % W=x:=by rw [Nat.mul_comm,Nat.mul_add_mod,Nat.mod_eq_of_lt (by omega)]
  rw [e,if_neg (by omega),rowL_snoc]
  simp
theorem prL_rows (bl:Nat->Bool){W:Nat}(hW:1<=W):∀ y,prL bl W (y*W)=rowsL bl W y
 |0=>by simp [prL,rowsL]
 |y+1=>by
  have ih:=prL_rows bl hW y
  have hm:=prL_mid bl ih (W - 1) (by omega)
  rw [Nat.succ_mul,show y*W+W=(y*W+(W - 1))+1 by omega]
  unfold prL rowsL
  rw [hm]
  have e:(y*W+(W - 1)) % W=W - 1:=by rw [Nat.mul_comm,Nat.mul_add_mod,Nat.mod_eq_of_lt (by omega)]
  rw [e,if_pos rfl]
  have e2:rowL bl (y*W) W=rowL bl (y*W) (W - 1)++[byteL (bl (y*W+(W - 1)))]:=by
   conv=>lhs;rw [show W=(W - 1)+1 by omega]
   rw [rowL_snoc,show W - 1+1=W by omega]
  rw [e2]
  simp
theorem head_str (W H:Nat):str [116,121,112,101,32,111,99,116,105,108,101,10,104,101,105,103,104,116,32]++str (Lib.decDigits H)++str [10,119,105,100,116,104,32]++str (Lib.decDigits W)++str [10,109,97,112,10]=str (headL W H):=by
 rw [str_append,str_append,str_append,str_append]
 congr 1
 unfold headL Lib.itoa
 rw [if_neg (by omega),if_neg (by omega),Int.toNat_natCast,Int.toNat_natCast]
 simp [typeW,heightW,widthW,mapW]
theorem dec_len {n:Nat}(h:n<=16):(str (Lib.decDigits n)).size<=20:=by
 rw [str_size]
 have:=itoa_len20 (n:Int) (by omega) (by omega)
 unfold Lib.itoa at this
 rw [if_neg (by omega),Int.toNat_natCast] at this
 exact this
set_option maxHeartbeats 4000000 in
set_option maxRecDepth 1000000 in
theorem rprint_any {b:Nat}{W H:Nat}{V:Int}{bl:Nat->Bool}(w:World)(g:RefAt w b W H V bl)(hbw:b<w.heap.size) :
  Calls Tryz.prog 22 #[.pointer (some ⟨b,0,none⟩)] w fun e w'=>e=.returned (.string (str (printL bl W H)))/\Below w.heap.size w w':=by
 have w1:=g.w1
 have w2:=g.w2
 have h1:=g.h1
 have h2:=g.h2
 have hrow:=prL_rows bl (W:=W) (by omega) H
 unfold printL
 rw [<- hrow]
 have hst:=head_str W H
 have s1:=dec_len (n:=H) (by omega)
 have s2:=dec_len (n:=W) (by omega)
 have HST:Hid (str [116,121,112,101,32,111,99,116,105,108,101,10,104,101,105,103,104,116,32]++str (Lib.decDigits H)++str [10,119,105,100,116,104,32]++str (Lib.decDigits W)++str [10,109,97,112,10]=str (headL W H)):=hst
 have S0:∀ x:Since w,x.u.cell? ⟨b,0,none⟩=some (.int .i64 W):=fun x=>(x.cell _ _ hbw).trans g.c0
 have S1:∀ x:Since w,x.u.cell? ⟨b,1,none⟩=some (.int .i64 H):=fun x=>(x.cell _ _ hbw).trans g.c1
 have hne:Nonempty (Since w):=⟨⟨w,Below.refl _ _⟩⟩
 clear hst hrow
 have HG:Hid (RefAt w b W H V bl):=g
 clear g
 go_enter Tryz.func22,Tryz.ntmps22
 go_wp2
 refine wp_region_since (by kernel_rfl) (by kernel_rfl) ?_
 repeat (go_big_quiet_step (first|(go_at_call 51;exact Calls.since_of (dec_v rfl (by omega) _))))
 refine wpQuiet_nil ?_
 rintro _ ⟨x,rfl⟩
 have gx:=HG.out.below x.h hbw
 have HB:Below w.heap.size w x.u:=x.h
 clear S0 S1 hne
 generalize x.u=y at *
 have c0:=gx.c0
 have c1:=gx.c1
 have k2:W*H<=16*16:=Nat.mul_le_mul (by omega) (by omega)
 obtain ⟨N,hN⟩:∃ N,W*H=N:=⟨_,rfl⟩
 have hN2:(W:Int)*(H:Int)=(N:Int):=by rw [<- hN,Int.natCast_mul]
 have HN:Hid (W*H=N):=hN
 rw [hN] at k2
 clear hN
 have hhl:(headL W H).length<=100:=by
  have i1:=itoa_len W (by omega) (by omega)
  have i2:=itoa_len H (by omega) (by omega)
  unfold headL
  simp [typeW,heightW,widthW,mapW]
  omega
 go_wp2
 go_loopw [3,4] (fun s c wr=>∃ (j:Nat),j<=N/\c=.int .i64 j/\s=.string (str (headL W H++prL bl W j))/\∃ m,wr=y.drewN m)
  (fun _ c _=>N - (intOf c).toNat)
 case atStart=>exact ⟨0,by omega,rfl,by rw [prL,List.append_nil,<- HST.out];rfl,0,rfl⟩
 case round =>
  obtain ⟨j,hj,rfl,rfl,m,rfl⟩:=hrel
  have hpl:=prL_len bl W j
  have sx:(str (headL W H++prL bl W j)).size<=2000:=by rw [str_size,List.length_append];omega
  by_cases hlt:j<N
  ·have j1:(0:Int)<=(j:Int)/\(j:Int)<(N:Int)/\(j:Int)<256:=by omega
   have cj:=gx.cs j (by omega)
   have tm:(j:Int).tmod (W:Int)=((j % W:Nat):Int):=by rw [Int.ofNat_tmod]
   have hstep:str (headL W H++prL bl W (j+1))=str (headL W H++prL bl W j)++str [byteL (bl j)]++str (if j % W=W - 1 then [10] else []):=by
    rw [str_append,str_append,prL]
    simp
   have HS:Hid (str (headL W H++prL bl W (j+1))=str (headL W H++prL bl W j)++str [byteL (bl j)]++str (if j % W=W - 1 then [10] else [])):=hstep
   clear hstep
   have hw0:((W:Int) == 0)=false:=by rw [beq_eq_false_iff_ne];omega
   have hmw:j % W<16:=Nat.lt_of_lt_of_le (Nat.mod_lt j (by omega)) (by omega)
   generalize hSX:str (headL W H++prL bl W j)=SX at *
   clear hSX
   by_cases hq:j % W=W - 1
   ·have hqe:(((j % W:Nat):Int) == (W:Int) - 1)=true:=by rw [beq_iff_eq];omega
    have HQ:Hid (j % W=W - 1):=hq
    clear hq
    generalize j % W=z at *
    cases hb:bl j with
    |true =>
     rw [hb] at cj
     go_wp2
     go_quiet (fail)
     go_wp2
     go_quiet (fail)
     go_wp2
     go_roundw
     case rel=>exact ⟨j+1,by omega,by go_num,by rw [HS.out,if_pos HQ.out,hb];rfl,_,rfl⟩
     case measure=>simp [intOf];omega
    |false =>
     rw [hb] at cj
     go_wp2
     go_quiet (fail)
     go_wp2
     go_quiet (fail)
     go_wp2
     go_roundw
     case rel=>exact ⟨j+1,by omega,by go_num,by rw [HS.out,if_pos HQ.out,hb];rfl,_,rfl⟩
     case measure=>simp [intOf];omega
   ·have hqe:(((j % W:Nat):Int) == (W:Int) - 1)=false:=by rw [beq_eq_false_iff_ne];omega
    have HQ:Hid (¬ j % W=W - 1):=hq
    clear hq
    generalize j % W=z at *
    have he:∀ S:ByteArray,S++str []=S:=fun S=>by
     apply ByteArray.ext
     rw [ByteArray.data_append]
     simp [str]
    have HE:Hid (∀ S:ByteArray,S++str []=S):=he
    clear he
    cases hb:bl j with
    |true =>
     rw [hb] at cj
     go_wp2
     go_quiet (fail)
     go_wp2
     go_quiet (fail)
     go_wp2
     go_roundw
     case rel=>exact ⟨j+1,by omega,by go_num,by rw [HS.out,if_neg HQ.out,hb,HE.out];rfl,_,rfl⟩
     case measure=>simp [intOf];omega
    |false =>
     rw [hb] at cj
     go_wp2
     go_quiet (fail)
     go_wp2
     go_quiet (fail)
     go_wp2
     go_roundw
     case rel=>exact ⟨j+1,by omega,by go_num,by rw [HS.out,if_neg HQ.out,hb,HE.out];rfl,_,rfl⟩
     case measure=>simp [intOf];omega
  ·have hjn:j=N:=by omega
   subst hjn
   have HM:Hid (H*W=j):=by show H*W=j;rw [Nat.mul_comm];exact HN.out
   have j2:¬ (j:Int)<(j:Int):=by omega
   go_wp2
   go_quiet (fail)
   go_wp2
   go_ret
   exact ⟨by rw [HM.out];rfl,below_drewN (below_drewN HB _) _⟩
end
section
open Go.RowKit Go.Lib
theorem four_way {way:List Nat}{s d err:Int}(h:Rt 2 2 (fun _=>false) 0 3 way s d err):s=0/\d=1/\err=0/\way.length=2:=by
 have hf:ff2 2 2 (fun _=>false) 0 3=0:=by decide
 have e:Edge 2 2 (fun _=>false) 0 3 3:=by unfold Edge;decide
 have hw:=wk_edge e
 obtain ⟨z,hv⟩:=h.yes hf hw
 obtain ⟨l,e1,hc,b1,b2,b3,b4⟩:=h.path hf z
 have hlow:=oct_low' (by decide) hc.walk
 have hq:octV 2 0 3=val 0 1:=by decide
 have hs:val (stS 3) (stD 3)=val 0 1:=by decide
 rw [hq] at hlow
 rw [hs] at hv
 obtain ⟨e2,e3⟩:=two_same b2 b4 (by decide) (by decide) hv hlow
 have hl:=hc.len
 refine ⟨e2,e3,z,?_⟩
 rw [e1,List.length_cons]
 omega
set_option maxHeartbeats 1000000 in
set_option maxRecDepth 1000000 in
theorem works_any (w:World)(s:StepsAt w)(dg:DiagAt w):Calls Tryz.prog 25 #[] w fun e w'=>e=.returned (.bool true)/\Below w.heap.size w w':=by
 have hn:=nnew_any (W:=2) (H:=2) (most:=1) w s (by decide) (by decide) (by decide) (by decide)
 go_enter Tryz.func25,Tryz.ntmps25
 go_wp2_with fail
 refine hn.mono ?_
 rintro e w1 ⟨sb,rfl,S1,hb1⟩
 have ha:=ask_any 0 3 w1 S1 (dg.below hb1)
 clear hn
 go_wp2_with fail
 refine ha.mono ?_
 rintro e w2 ⟨v,way,sx,dx,er,rfl,hown,hA,hb2⟩
 obtain ⟨rfl,rfl,rfl,hl⟩:=four_way (hA.right w1 (by decide) (by decide) (by decide) (by decide) (by decide) (by decide))
 obtain ⟨g,cap,rfl,_⟩:=rowN_of hown (by omega)
 have B2:=hb1.trans (hb2.mono hb1.size)
 have B3:Below w.heap.size w (w2.alloc (.cells #[.slice (some ⟨g,0,none⟩) way.length cap,.int .i64 0,.int .i64 1,.int .i64 0] 56)):=B2.alloc B2.size _
 clear ha hA hown S1
 rw [hl] at B3
 rw [hl]
 go_wp2
 go_ret
 exact ⟨rfl,B3⟩
def Eqv (W H:Int) (bl bl':Nat->Bool):Prop:=∀ n:Nat,(n:Int)<W*H->bl n=bl' n
section
variable {W H : Int} {bl bl' : Nat → Bool}
def nrm (W H:Nat) (bl:Nat->Bool):Nat->Bool:=cellsF ((List.range (H*W)).map bl)
theorem nrm_eqv {W H:Nat}(bl:Nat->Bool):Eqv W H (nrm W H bl) bl:=fun n hn=>by
 have hn':n<H*W:=by rw [Nat.mul_comm];exact Int.ofNat_lt.1 (by rw [Int.natCast_mul];exact hn)
 unfold nrm cellsF
 rw [List.getD_eq_getElem?_getD,List.getElem?_map,List.getElem?_range hn']
 rfl
end
structure Srv (w':World) (lo hi sb mb:Nat) (W H:Nat) (V:Int) (bl:Nat->Bool) (most:Nat):Prop where
 sv:Sv w' lo hi sb W H (blocks ((List.range (H*W)).map bl)) (nrm W H bl) most
 ra:RefAt w' mb W H V bl
 rf:∀ o,w'.frozen? ⟨mb,o,none⟩=false
 lt:mb<lo
 hs:hi<=w'.heap.size
 wh:(W:Int)*(H:Int)<=120
set_option maxHeartbeats 4000000 in
set_option maxRecDepth 1000000 in
theorem serve_any (W H most:Int)(A:Option Addr)(n cap:Nat)(xs:Nat->Int)(w:World)(E:Env w)(s:StepsAt w)(hm:n<=maxLen)(hx:OldRow w A n xs) :
  Calls Tryz.prog 26 #[.agg #[.int .i64 W,.int .i64 H,.slice A n cap],.int .i64 most] w fun e w'=>Below w.heap.size w w'/\((∃ p:Option Addr,e=.returned (.tuple #[.pointer none,.pointer p,.bool false])) \/
   (∃ (sb mb lo Wn Hn mN:Nat) (V:Int) (bl:Nat->Bool),e=.returned (.tuple #[.pointer (some ⟨sb,0,none⟩),.pointer (some ⟨mb,0,none⟩),.bool true])/\W=Wn/\H=Hn/\most=mN/\w.heap.size<=mb/\Srv w' lo w'.heap.size sb mb Wn Hn V bl mN)):=by
 have b0:Below w.heap.size w (w.alloc (.cells #[.int .i64 W,.int .i64 H,.slice A n cap] 68)):=(Below.refl _ _).alloc (Nat.le_refl _) _
 have q:∀ o,(w.alloc (.cells #[.int .i64 W,.int .i64 H,.slice A n cap] 68)).cell? ⟨w.heap.size,o,none⟩=#[Value.int .i64 W,.int .i64 H,.slice A n cap][o]? := fun o=>World.cell?_alloc_new ..
 have c0:=q 0
 have c1:=q 1
 have c2:=q 2
 have hLd:=laid_any W H A n cap xs _ hm (hx.below b0)
 have hsp:=s.pos
 clear q
 go_enter Tryz.func26,Tryz.ntmps26
 go_wp2_with fail
 generalize hwa:w.alloc (.cells #[.int .i64 W,.int .i64 H,.slice A n cap] 68)=wa at *
 have hza:wa.heap.size=w.heap.size+1:=by rw [<- hwa];simp
 clear hwa c0 c1 c2
 refine hLd.mono ?_
 rintro e w7 ⟨hb7,hcs⟩
 have B7:=b0.trans (hb7.mono b0.size)
 rcases hcs with rfl|⟨rfl,hsz7,V,bl,hV,hB⟩
 ·clear hLd
  go_wp2
  go_quiet (fail)
  go_wp2
  go_ret3
  exact ⟨below_drewN B7 _,Or.inl ⟨_,rfl⟩⟩
 ·have hmlow:w.heap.size<=wa.heap.size+1+1:=by omega
  generalize wa.heap.size+1+1=mb at *
  generalize wa.heap.size+1=gb at *
  have hra:=hB.ra
  have ra0:=hra.c0
  have ra1:=hra.c1
  obtain ⟨Wn,rfl⟩:∃ Wn:Nat,W=(Wn:Int):=⟨W.toNat,by have:=hra.w1;omega⟩
  obtain ⟨Hn,rfl⟩:∃ Hn:Nat,H=(Hn:Int):=⟨H.toNat,by have:=hra.h1;omega⟩
  have hwh:=wh_bd hra.w1 hra.w2 hra.h1 hra.h2
  have hwr:IntKind.i64.wrap ((Wn:Int)*(Hn:Int))=(Wn:Int)*(Hn:Int):=wrap_small (by omega) (by omega)
  have hml:mb<w7.heap.size:=World.block_lt_of_cell? _ _ ra0
  clear hLd b0
  by_cases h120:120<(Wn:Int)*(Hn:Int)
  ·clear hB hra
   go_wp2_with fail
   go_quiet (fail)
   go_wp2
   go_ret3
   exact ⟨below_drewN B7 _,Or.inl ⟨_,rfl⟩⟩
  ·go_upto_region 2 with fail
   go_cut [31] from 18 to 31 (fun b wd=>b=.bool false/\Below w7.heap.size w7 wd)
   case first =>
    have d1:decide (120<(Wn:Int)*(Hn:Int))=false:=decide_eq_false (by omega)
    clear hB hra
    go_quiet (fail)
    go_wp2_with fail
    go_meet
    exact ⟨rfl,below_drewN (Below.refl _ _) _⟩
   case rest =>
    obtain ⟨rfl,hb8⟩:=hcut
    have B8:=B7.trans (hb8.mono B7.size)
    have hB8:=hB.below' hb8
    have hml8:=Nat.lt_of_lt_of_le hml hb8.size
    have hpr:=rprint_any wc hB8.ra hml8
    clear ra0 ra1 hB hra hb8
    go_wp2_with fail
    refine hpr.mono ?_
    rintro e w9 ⟨rfl,hb9⟩
    have B9:=B8.trans (hb9.mono B8.size)
    have hB9:=hB8.below' hb9
    have hml9:=Nat.lt_of_lt_of_le hml8 hb9.size
    have w1':=hB8.ra.w1
    have w2':=hB8.ra.w2
    have h1':=hB8.ra.h1
    have h2':=hB8.ra.h2
    have hrd:=read_print bl Wn Hn (by omega) (by omega) (by omega) (by omega)
    generalize printL bl Wn Hn=tx at *
    clear hpr hB8 hb9
    by_cases hm1:most<1\/6<most
    ·have hld:=nload_err w9 (E.grown B9) (s.below B9 (by omega)) hrd hm1
     clear hrd
     go_wp2_with fail
     refine hld.mono ?_
     rintro e w10 ⟨rfl,hb10⟩
     clear hld hB9
     go_wp2
     go_ret3
     exact ⟨B9.trans (hb10.mono B9.size),Or.inl ⟨_,rfl⟩⟩
    ·obtain ⟨mN,rfl⟩:∃ mN:Nat,most=(mN:Int):=⟨most.toNat,by omega⟩
     have hld:=nload_any w9 (E.grown B9) (s.below B9 (by omega)) hrd (show 1<=mN by omega) (show mN<=6 by omega)
     clear hrd
     go_wp2_with fail
     refine hld.mono ?_
     rintro e w10 ⟨sb,rfl,S10,hb10⟩
     have hB10:=hB9.below' hb10
     clear hld hB9
     go_wp2
     go_ret3
     exact ⟨B9.trans (hb10.mono B9.size),Or.inr ⟨sb,mb,w9.heap.size,Wn,Hn,mN,V,bl,rfl,rfl,rfl,rfl,hmlow,S10,hB10.ra,hB10.rf,hml9,Nat.le_refl _,by omega⟩⟩
end
end Go.Proofs.YtmaefimaeelkbaaGreatDoor
