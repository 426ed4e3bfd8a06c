/-
  Texts laid together: SdI, Gs, SrU, AnsM, Nv1, Nv2.
-/
import Derived.Test.YtmaefimaeelkbaaGreatDoorP20
import Derived.Test.YtmaefimaeelkbaaGreatDoorP18
import Derived.Test.YtmaefimaeelkbaaGreatDoorP19
import Derived.Test.YtmaefimaeelkbaaGreatDoorP10
import Derived.Test.YtmaefimaeelkbaaGreatDoorP8
namespace Go.Proofs.YtmaefimaeelkbaaGreatDoor
section
open Go.RowKit Go.Lib
theorem nothing_any (w:World)(n:Int):Calls Tryz.prog 130 #[.int .i64 n] w fun e w'=>e=.returned (.agg #[.int .i64 0,.int .i64 0])/\Below w.heap.size w w':=by
 go_enter Tryz.func130,Tryz.ntmps130
 go_wp2
 exact bodyPost_ret (v:=.agg #[.int .i64 0,.int .i64 0]) (by simp [results,Tryz.results130,go_sem]) rfl ⟨rfl,(Below.refl _ _).alloc (Nat.le_refl _) _⟩
theorem eqlF (w:World)(gf:Nat)(cs:List Value):(binOp .eql 105 (.func (.func gf) #[] cs.toArray) .nilFunc).run Tryz.prog w=.ok (.bool false) w:=by
 kernel_rfl
theorem nothing_ok (w0:World):GsOk w0 w0.heap.size 130 [] (fun _=>(0,0)):=⟨fun args w=>by kernel_rfl,fun w n _ _=>nothing_any w n⟩
theorem ca_none {A:Int->Option Int}(h:∀ a,A a=none):ca A=0:=by
 unfold ca
 have e:(fun a=>(A a).map fun n=>(n,(0:Int)))=fun _=>none:=by
  funext a
  rw [h];rfl
 rw [e,cnt_none]
theorem sb5_own {k:SBk}{v v':Value}(h:v'.ownBlock=v.ownBlock){g:Nat}:sb5 k v' g=sb5 k v g:=by unfold sb5 hb3;rw [h]
theorem MI.endsSI {L:List Nat}{lv:LSt}{g:Int->Int × Int}{src:Int->Int->Int->Prop}{E:Int->Option (Int × Int)}{x':SS}{m':Mt}(O:LvOk L lv):∀ {k:Nat}{x:SS}{m:Mt},MI L lv g src E x m->MeetN lv g E k x m x' m'->SI L lv 0 g src (fun _ _=>False) x'
 |0,x,m,h,⟨_,h2⟩=>by
  rcases h2 with ⟨_,rfl⟩|⟨n,s,d,h2,h3,h4,rfl⟩
  ·exact h.si.mono (fun _ _ h _=>h.elim)
  ·exact (h.si.pop (n:Int)).mono (fun _ _ h _=>h.elim)
 |_+1,x,m,h,⟨n,s,d,h1,_,h2⟩=>by
  obtain ⟨s',d',k1,_⟩:=h.si.key h1.1
  exact MI.endsSI O (h.go O k1) h2
theorem joined {L:List Nat}{lv:LSt}{g g2:Int->Int × Int}{src src2:Int->Int->Int->Prop}{P P2:Int->Int->Prop}{x y:SS}{n:Nat}{s d s2 d2:Int}{t t2:List Nat}(O:LvOk L lv)(hX:SI L lv 0 g src P x)(hY:SI L lv 1 g2 src2 P2 y)(hn:x.F (n:Int)=some (s,d))(hn2:y.F (n:Int)=some (s2,d2))(hb:Bk x.A (n::t))(hb2:Bk y.A (n::t2)):∃ p q,Prc lv.es ((n::t).reverse++t2) p q:=by
 obtain ⟨o,s0,d0,p,q,j1,j2,j3,j4⟩:=hX.back O hb hn
 obtain ⟨i,s1,d1,p',q',l1,l2,l3,l4⟩:=hY.back O hb2 hn2
 have j5:=Prc.rev O.esy j3
 obtain ⟨z0,zs,hz0⟩:∃ z0 zs,(n::t).reverse=z0::zs:=by
  cases hq:(n::t).reverse with
  |nil=>simp at hq
  |cons z zs=>exact ⟨z,zs,rfl⟩
 have hz1:(z0::zs).getLast? = some n:=by rw [<- hz0];simp
 rw [hz0] at j5 ⊢
 exact ⟨_,_,Prc.join l3 j5 hz1⟩
theorem join_l {N Ne lb n nh ne:Nat}{k ke:SBk}{L:List Nat}{lv:LSt}{gv gv2 v ve:Value}{g g2:Int->Int × Int}{src src2:Int->Int->Int->Prop}{P P2:Int->Int->Prop}{x y:SS}{s d s2 d2:Int}(w:World)(O:LvOk L lv)(S:SideAt w N k lb 0 gv v nh (ca x.A) x)(SE:SideAt w Ne ke lb 1 gv2 ve ne (ca y.A) y)(hX:SI L lv 0 g src P x)(hY:SI L lv 1 g2 src2 P2 y)(hn:x.F (n:Int)=some (s,d))(hn2:y.F (n:Int)=some (s2,d2)) :
  Calls Tryz.prog 136 #[.pointer (some ⟨k.sb,0,none⟩),.pointer (some ⟨ke.sb,0,none⟩),.int .i64 (n:Int)] w fun e w'=>∃ (gl cap:Nat) (l:List Nat),e=.returned (.slice (some ⟨gl,0,none⟩) l.length cap)/\RowN w' gl 0 l/\l.length<=cap/\cap<=9223372036854775807/\0<l.length/\l.length<=600/\Hid (∃ t t2,Bk x.A (n::t)/\Bk y.A (n::t2)/\l=(n::t).reverse++t2)/\Below w.heap.size w w':=by
 refine (join_any w O S SE hX hY hn hn2).mono fun e w' ⟨v,t,t2,h1,h2,h3,h4,h5,h6,h7⟩=>?_
 have hp:0<((n::t).reverse++t2).length:=by simp;omega
 have hq:((n::t).reverse++t2).length<=600:=by
  rw [List.length_append,List.length_reverse]
  rw [List.length_cons] at h6
  omega
 obtain ⟨gl,cap,rfl,r1,_,_,r2,r3⟩:=rowN_of h4 hp
 exact ⟨gl,cap,_,h1,r1,r2,r3,hp,hq,⟨t,t2,h2,h3,rfl⟩,h7⟩
theorem cell_off {w:World}{a b i j:Nat}{v:Value}(h:¬ a=b):(w.setCell ⟨b,j,none⟩ v).cell? ⟨a,i,none⟩=w.cell? ⟨a,i,none⟩:=World.cell?_setCell_other _ _ _ _ (fun q=>h (by cases q;rfl))
structure k5lt (w:World) (k:SBk) (v:Value):Prop where
 a:k.cb<w.heap.size
 b:k.ab<w.heap.size
 c:k.hb<w.heap.size
 d:k.mb<w.heap.size
 e:∀ q,v.ownBlock=some q->q<w.heap.size
theorem k5lt.lt {w:World}{k:SBk}{v:Value}(h:k5lt w k v){g:Nat}(hg:sb5 k v g):g<w.heap.size:=by
 rcases hg with rfl|rfl|rfl|rfl|hg
 ·exact h.a
 ·exact h.b
 ·exact h.c
 ·exact h.d
 ·exact h.e g hg
structure ER (w wr:World) (k:SBk) (lb:Nat) (L:List Nat) (lv:LSt) (src:Int->Int->Int->Prop) (y0:SS) (gk:Nat) (nv cv mv:Value):Prop where
 ex:∃ (y:SS) (v:Value) (nh cb:Nat) (n s d:Int) (b:Bool),nv=.int .i64 n/\cv=.pointer (some ⟨cb,0,none⟩)/\mv=.bool b/\w.heap.size<cb/\Slot wr w.heap.size 0 0/\Slot wr cb s d/\SI L lv 1 (fun _=>(0,0)) src (fun _ _=>True) y/\(∀ j y',EndN lv 1 (fun _=>(0,0)) j y y'->∃ j',EndN lv 1 (fun _=>(0,0)) j' y0 y')/\gk=mu y/\¬ sb5 k v w.heap.size/\¬ sb5 k v cb /\
  ((b=false/\(∀ a,y.H a=none)/\SideAt wr (w.heap.size+1) k lb 1 (.func (.func 130) #[] #[]) v nh (ca y.A) y)\/(b=true/\∃ n':Nat,n=(n':Int)/\n'<256/\(∃ s d,PopR y.H (n':Int) s d)/\SideAt wr (w.heap.size+1) k lb 1 (.func (.func 130) #[] #[]) v nh (ca y.A) (popS y (n':Int))))
 bl:Below w.heap.size w wr
set_option maxHeartbeats 8000000 in
set_option maxRecDepth 1000000 in
theorem best_any {N0 lb vb eb top gf cap cap2:Nat}{L:List Nat}{lv:LSt}{f:Int->Option Value}{es0:Nat->List LE}{cs:List Value}{g:Int->Int × Int}{A A2:Option Addr}{out inn:List IE}(w:World)(V0:LvAt w N0 lb vb eb top L lv f)(O:LvOk L lv)(hlv:∀ n,1<=lv.lev n/\lv.lev n<=7)
  (hU:∀ {a e},e ∈ lv.es a->∃ way l,Unp lv.es 6 a e.to way/\way=a::l/\l≠[]/\way.getLast? = some e.to/\Prc es0 way e.s e.d) (hg:GsOk w w.heap.size gf cs g) (hgb:∀ n:Nat,0<=(g n).1/\(g n).1<=1024/\0<=(g n).2/\(g n).2<=1024) (ho:RowI w A out) (hi:RowI w A2 inn) (hol:out.length<=1000) (hil:inn.length<=1000) :
  Calls Tryz.prog 88 #[.pointer (some ⟨lb,0,none⟩),.slice A out.length cap,.slice A2 inn.length cap2,.func (.func gf) #[] cs.toArray] w fun e w'=>∃ way s d b v,e=.returned (.tuple #[v,.agg #[.int .i64 s,.int .i64 d],.bool b])/\BestR L lv g out inn way s d b/\w'.ownsRow w.heap.size 3 1 v way.length (vals way)/\way.length<=40000/\Below w.heap.size w w':=by
 have b1:Below w.heap.size w (w.alloc (.cells #[.int .i64 0,.int .i64 0] 53)):=(Below.refl _ _).alloc (Nat.le_refl _) _
 have hz1:(w.alloc (.cells #[.int .i64 0,.int .i64 0] 53)).heap.size=w.heap.size+1:=by simp
 have slR:=Slot.new w 0 0
 have hef:=eqlF (w.alloc (.cells #[.int .i64 0,.int .i64 0] 53)) gf cs
 have hfr:=sfrom_any (cap:=cap2) (r:=1) w _ V0 O (nothing_ok w) b1 (hi.below (Nat.le_refl _) b1) hil (fun _=>by simp)
 go_enter Tryz.func88,Tryz.ntmps88
 go_wp2_with fail
 refine hfr.mono ?_
 rintro e w2 ⟨ke,v2,nh2,rfl,S2,hn2,hb2⟩
 rw [hz1] at S2 hb2
 have F2:=FI.fold O (l':=inn) (FI.start L lv 1 (fun _=>(0,0)))
 have hA0:ca (fromS L (fun _=>(0,0)) inn).A=0:=ca_none F2.no
 rw [<- hA0] at S2
 have SI2:=F2.all_in
 have B2:Below w.heap.size w w2:=b1.trans (hb2.mono (by omega))
 have slR2:=slR.below (by rw [hz1];exact hb2)
 have c5:=S2.c5
 have hpop:=pop_side w2 S2 (fun ha=>SI2.key256 O ha)
 have HF2:Hid (SI L lv 1 (fun _=>(0,0)) (srcE L inn) (fun _ _=>True) (fromS L (fun _=>(0,0)) inn)):=SI2
 have hSZ2:w.heap.size+1<=w2.heap.size:=by rw [<- hz1];exact hb2.size
 clear hfr hef hA0 F2 SI2 slR b1 hb2
 generalize hy0:fromS L (fun _=>(0,0)) inn=y0 at *
 have HY0:Hid (fromS L (fun _=>(0,0)) inn=y0):=hy0
 clear hy0
 go_wp2_with fail
 refine hpop.mono ?_
 rintro e w3 ⟨n3,s3,d3,b3,v3,nh3,rfl,_,K3,ho3,hcase3⟩
 clear hpop c5
 have HKB:Hid (k5lt w2 ke v2):=⟨S2.fm.lt,S2.am.lt,S2.hp.blocks.1,S2.hp.blocks.2.1,S2.hp.blocks.2.2⟩
 have hsz2:=hSZ2
 have nR:¬ sb5 ke v2 w.heap.size:=fun h=>by have:=(S2.from _ h).1;omega
 have slR3:=slR2.keep K3 nR
 have B3:Below w.heap.size w w3:=B2.trans ((S2.to_below K3).mono (by omega))
 have b4:Below w3.heap.size w3 (w3.alloc (.cells #[.int .i64 s3,.int .i64 d3] 53)):=(Below.refl _ _).alloc (Nat.le_refl _) _
 have hz3:w2.heap.size<=w3.heap.size:=K3.size
 have HST:Hid (ER w (w3.alloc (.cells #[.int .i64 s3,.int .i64 d3] 53)) ke lb L lv (srcE L inn) y0 (mu y0) (.int .i64 n3) (.pointer (some ⟨w3.heap.size,0,none⟩)) (.bool b3)):=by
  refine ⟨⟨y0,v3,nh3,w3.heap.size,n3,s3,d3,b3,rfl,rfl,rfl,by omega,slR3.below b4,Slot.new w3 s3 d3,HF2.out,fun j y' h=>⟨j,h⟩,rfl,fun h=>?_,fun h=>?_,?_⟩,B3.trans (b4.mono B3.size)⟩
  ·rw [sb5_own ho3] at h;exact nR h
  ·rw [sb5_own ho3] at h
   have:=HKB.out.lt h
   omega
  ·rcases hcase3 with ⟨h1,h2,h3⟩|⟨h1,n',h2,h3,h4,h5⟩
   ·exact Or.inl ⟨h1,h2,h3.below b4⟩
   ·exact Or.inr ⟨h1,n',h2,h3,⟨_,_,h4⟩,h5.below b4⟩
 clear K3 slR2 slR3 S2 B2 B3 b4 hcase3 ho3 nR hn2
 go_wp2
 go_loopg [12,13,14] (mu y0) (fun gk nv cv mv wr=>ER w wr ke lb L lv (srcE L inn) y0 gk nv cv mv)
 case atStart=>exact HST.out
 case round =>
  clear HST
  obtain ⟨⟨y,v4,nh4,cb,n4,s4,d4,b4,rfl,rfl,rfl,hcb,slR,slC,hY,hcont,hgk,nR,nC,hcase⟩,hBw⟩:=hrel
  have HG:Hid (gk=mu y):=hgk
  have HC:Hid (∀ j y',EndN lv 1 (fun _=>(0,0)) j y y'->∃ j',EndN lv 1 (fun _=>(0,0)) j' y0 y'):=hcont
  have HY:Hid (SI L lv 1 (fun _=>(0,0)) (srcE L inn) (fun _ _=>True) y):=hY
  have HN:Hid (¬ sb5 ke v4 w.heap.size/\¬ sb5 ke v4 cb):=⟨nR,nC⟩
  clear hgk hcont hY nR nC
  rcases hcase with ⟨rfl,hno,S4⟩|⟨rfl,n',rfl,hn',hpr,S4⟩
  ·obtain ⟨je,hje⟩:=HC.out 0 y ⟨hno,rfl⟩
   have HE:Hid (EndN lv 1 (fun _=>(0,0)) je y0 y/\∀ a,y.H a=none):=⟨hje,hno⟩
   clear hje hno HC
   have hfr:=sfrom_any (cap:=cap) (r:=0) w wr V0 O hg hBw (ho.below (Nat.le_refl _) hBw) hol hgb
   have F5:=FI.fold O (l':=out) (FI.start L lv 0 g)
   have hA5:ca (fromS L g out).A=0:=ca_none F5.no
   have HM0:Hid (MI L lv g (srcE L out) y.F (fromS L g out) ⟨0,0,0,false⟩):=⟨F5.all_in,fun q=>(by cases q),fun ha hH _=>absurd hH (F5.all ha)⟩
   clear F5
   go_wp2_with fail
   refine hfr.mono ?_
   rintro e w5 ⟨kb,v5,nh5,rfl,S5,hn5,hb5⟩
   have S5':SideAt w5 wr.heap.size kb lb 0 (.func (.func gf) #[] cs.toArray) v5 nh5 (ca (fromS L g out).A) (fromS L g out):=by rw [hA5];exact S5
   have hmt:=meet_any w wr w5 V0 O hlv hg hBw hgb S4 HY.out hb5 S5' HM0.out
   have HBW:Hid (Below w.heap.size w wr):=hBw
   have HS4:Hid _:=S4
   have HLR:Hid (Slot wr w.heap.size 0 0):=slR
   clear hfr S5 S5' hb5 hA5 S4 slR slC hBw hn5
   generalize hx0:fromS L g out=x0 at *
   have HX0:Hid (fromS L g out=x0):=hx0
   clear hx0
   go_wp2_with fail
   refine hmt.mono ?_
   rintro e w6 ⟨jm,x6,⟨mn,ms,md,mf⟩,hmm,rfl,⟨v6,nh6,S6⟩,hb6⟩
   have HMM:Hid (MeetN lv g y.F jm x0 ⟨0,0,0,false⟩ x6 ⟨mn,ms,md,mf⟩):=hmm
   clear hmt hmm
   dsimp only
   have hNr:=HBW.out.size
   have b7:Below w6.heap.size w6 (w6.alloc (.cells #[.int .i64 ms,.int .i64 md] 53)):=(Below.refl _ _).alloc (Nat.le_refl _) _
   have B7:=hb6.trans (b7.mono hb6.size)
   have slL:=Slot.new w6 ms md
   have slR7:=HLR.out.below B7
   have S7:=S6.below b7
   have SE7:=HS4.out.below B7
   have BW7:=HBW.out.trans (B7.mono hNr)
   have r0:=slR7.c0
   have r1:=slR7.c1
   have rz0:=slR7.z0
   have rz1:=slR7.z1
   have hLz:wr.heap.size<=w6.heap.size:=hb6.size
   clear S6 hb6 b7
   cases mf with
   |false =>
    have HBR:Hid (BestR L lv g out inn [] 0 0 false):=⟨je,y,jm,x6,⟨mn,ms,md,false⟩,by rw [HY0.out];exact HE.out.1,by rw [HX0.out];exact HMM.out,rfl,fun _=>⟨rfl,rfl,rfl⟩,fun h=>by cases h⟩
    have hset:=slR7.set 0 0
    have q0:=hset.c0
    have q1:=hset.c1
    have KR:=set_keep (w6.alloc (.cells #[.int .i64 ms,.int .i64 md] 53)) w.heap.size 0 0
    have B8:=BW7.trans (KR.to_below BW7.size (fun q e=>by subst e;exact Nat.le_refl _))
    clear S7 SE7
    go_wp2_with fail
    refine bodyPost_ret (v:=.tuple #[.slice none 0 0,.agg #[.int .i64 0,.int .i64 0],.bool false]) ?_ rfl ⟨[],0,0,false,.slice none 0 0,rfl,HBR.out,World.ownsRow_nil _ _ _ _,by simp,B8⟩
    simp [results,Tryz.results88,go_sem,q0,q1]
   |true =>
    have SIx:=HM0.out.endsSI O HMM.out
    obtain ⟨z,Z,zF,zA⟩:=HM0.out.ends O HMM.out
    obtain ⟨es,ed,fs',fd',f1,f2⟩:∃ es ed fs' fd',y.F mn=some (es,ed)/\z.F mn=some (fs',fd'):=by
     obtain ⟨fs,fd,es,ed,fs',fd',f1,f2,_⟩:=Z.mi.fnd rfl
     exact ⟨es,ed,fs',fd',f1,f2⟩
    obtain ⟨nn,rfl⟩:∃ nn:Nat,mn=(nn:Int):=⟨mn.toNat,by have:=(HY.out.lab f1).1;omega⟩
    rw [<- zF] at f2
    have d7:Below (w6.alloc (.cells #[.int .i64 ms,.int .i64 md] 53)).heap.size (w6.alloc (.cells #[.int .i64 ms,.int .i64 md] 53)) (w6.alloc (.cells #[.int .i64 ms,.int .i64 md] 53)).drew:=(Below.refl _ _).drew
    have hjn:=join_l _ O (S7.below d7) (SE7.below d7) SIx HY.out f2 f1
    have HJ:Hid (∀ t t2,Bk x6.A (nn::t)->Bk y.A (nn::t2)->∃ p q,Prc lv.es ((nn::t).reverse++t2) p q):=fun t t2 h1 h2=>joined O SIx HY.out f2 f1 h1 h2
    have HUP:Hid (∀ (w8:World) (g8 cap8:Nat) (l8:List Nat),Below w.heap.size w w8->RowN w8 g8 0 l8->l8.length<=cap8->cap8<=9223372036854775807->0<l8.length->l8.length<=600->(∃ t t2,Bk x6.A (nn::t)/\Bk y.A (nn::t2)/\l8=(nn::t).reverse++t2)->Calls Tryz.prog 135 #[.pointer (some ⟨lb,0,none⟩),.slice (some ⟨g8,0,none⟩) l8.length cap8] w8 fun e w'=>∃ v way,e=.returned v/\UnpL lv.es l8 way/\w'.ownsRow w8.heap.size 3 1 v way.length (vals way)/\way.length<=40000/\Below w8.heap.size w8 w'):=fun w8 g8 cap8 l8 h1 h2 h3 h4 h5 h6 ⟨t,t2,h7,h8,h9⟩=>by
     obtain ⟨p,q,hp⟩:=HJ.out t t2 h7 h8
     rw [<- h9] at hp
     exact sunpack_any w8 (V0.below h1) O hU h2 h5 h6 h3 h4 hp
    have BW8:=BW7.trans (d7.mono BW7.size)
    have slL8:=slL.below d7
    have slR8:=slR7.below d7
    have t0:=slL8.c0
    have t1:=slL8.c1
    have hLB:w.heap.size<w6.heap.size:=by have:=World.block_lt_of_cell? _ _ HLR.out.c0;simp only at this;omega
    have hne8:¬ w6.heap.size=w.heap.size:=by omega
    clear SIx Z zF zA f1 f2 S7 SE7 d7 slL slR7 BW7 B7 r0 r1 rz0 rz1 HS4 HLR HBW
    go_wp2_with fail
    generalize w6.alloc (.cells #[.int .i64 ms,.int .i64 md] 53)=w7 at *
    generalize w6.heap.size=LB at *
    have HLR8:Hid (Slot w7.drew w.heap.size 0 0):=slR8
    clear slR8 slL8
    go_region_held3 (fun w'=>w'.cell? ⟨LB,0,none⟩=some (.int .i64 ms)/\w'.cell? ⟨LB,1,none⟩=some (.int .i64 md)) (first|exact ⟨t0,t1⟩|exact ⟨u0,u1⟩|exact ⟨x0,x1⟩|(exact ⟨(cell_off hne8).trans ((cell_off hne8).trans x0),(cell_off hne8).trans ((cell_off hne8).trans x1)⟩)|(go_keep))
     (first
      |(go_at_call 136;refine hjn.mono ?_;rintro r1 w8 ⟨g8,cap8,l8,rfl,rn8,hc8,hc8',hp8,hl8,HJ8,hb8⟩;have u0:=(hb8.cell (World.block_lt_of_cell? _ _ t0)).trans t0;have u1:=(hb8.cell (World.block_lt_of_cell? _ _ t1)).trans t1;have B9:=BW8.trans (hb8.mono BW8.size))
      |(go_at_call 135;refine (HUP.out w8 g8 cap8 l8 B9 rn8 hc8 hc8' hp8 hl8 HJ8.out).mono ?_;rintro r1 w9 ⟨v9,way9,rfl,hun9,own9,hwl9,hb9⟩;have x0:=(hb9.cell (World.block_lt_of_cell? _ _ u0)).trans u0;have x1:=(hb9.cell (World.block_lt_of_cell? _ _ u1)).trans u1;have slR9:=(HLR8.out.below hb8).below hb9;have a0:=slR9.c0;have a1:=slR9.c1;have az0:=slR9.z0;have az1:=slR9.z1))
    have HBR:Hid (BestR L lv g out inn way9 ms md true):=by
     obtain ⟨t,t2,h7,h8,h9⟩:=HJ8.out
     exact ⟨je,y,jm,x6,⟨(nn:Int),ms,md,true⟩,by rw [HY0.out];exact HE.out.1,by rw [HX0.out];exact HMM.out,rfl,fun h=>(by cases h),fun _=>⟨rfl,rfl,nn,t,t2,rfl,h7,h8,by rw [<- h9];exact hun9⟩⟩
    have hset:=slR9.set ms md
    have q0:=hset.c0
    have q1:=hset.c1
    have KR:=set_keep w9 w.heap.size ms md
    have BA:=B9.trans (hb9.mono B9.size)
    have BB:=BA.trans (KR.to_below BA.size (fun q e=>by subst e;exact Nat.le_refl _))
    have hz8:w.heap.size<w8.heap.size:=Nat.lt_of_lt_of_le (World.block_lt_of_cell? _ _ HLR8.out.c0) hb8.size
    have OW:=own_keep (own_base own9 (Nat.le_of_lt hz8)) KR (fun q hq e=>by subst e;have:=(own9.lt _ hq).1;omega)
    clear t0 t1 u0 u1 x0 x1 a0 a1 az0 az1 hjn HUP own9
    go_wp2_with fail
    refine bodyPost_ret (v:=.tuple #[v9,.agg #[.int .i64 ms,.int .i64 md],.bool true]) ?_ rfl ⟨way9,ms,md,true,v9,rfl,HBR.out,OW,hwl9,BB⟩
    simp [results,Tryz.results88,go_sem,q0,q1]
  ·obtain ⟨sp,dp,hpr⟩:=hpr
   obtain ⟨fs,fd,hF⟩:∃ fs fd,y.F (n':Int)=some (fs,fd):=by
    obtain ⟨fs,fd,h,_⟩:=HY.out.key hpr.1
    exact ⟨fs,fd,h⟩
   have hgo:=goOn_any w wr V0 O hlv (by omega) (nothing_ok w) rfl (by omega) hBw (fun _=>by simp) S4 (HY.out.popped n') hF (delH_at _ _)
   have HMG:Hid (SI L lv 1 (fun _=>(0,0)) (srcE L inn) (fun _ _=>True) (goS lv 1 (fun _=>(0,0)) n' (popS y (n':Int)))):=(HY.out.go O hF).1
   have HMU:Hid (mu (goS lv 1 (fun _=>(0,0)) n' (popS y (n':Int)))<mu y):=HY.out.mu_go O hpr.1
   have HCO:Hid (∀ j y',EndN lv 1 (fun _=>(0,0)) j (goS lv 1 (fun _=>(0,0)) n' (popS y (n':Int))) y'->∃ j',EndN lv 1 (fun _=>(0,0)) j' y0 y'):=fun j y' h=>HC.out (j+1) y' ⟨n',sp,dp,hpr,h⟩
   have HS4:Hid _:=S4
   have HKB4:Hid (k5lt wr ke v4):=⟨S4.fm.lt,S4.am.lt,S4.hp.blocks.1,S4.hp.blocks.2.1,S4.hp.blocks.2.2⟩
   have hzr:cb<wr.heap.size:=World.block_lt_of_cell? _ _ slC.c0
   clear S4 HC HY hpr
   generalize goS lv 1 (fun _=>(0,0)) n' (popS y (n':Int))=yg at *
   go_wp2_with fail
   refine hgo.mono ?_
   rintro e w9 ⟨rfl,v9,nh9,S9,K9,ho9⟩
   have slR9:=slR.keep K9 HN.out.1
   have slC9:=slC.keep K9 HN.out.2
   have B9:=hBw.trans ((HS4.out.to_below K9).mono (by omega))
   have hz9:=K9.size
   have HV9:Hid (k5lt w9 ke v9):=⟨S9.fm.lt,S9.am.lt,S9.hp.blocks.1,S9.hp.blocks.2.1,S9.hp.blocks.2.2⟩
   have HO9:Hid (∀ q,sb5 ke v9 q->sb5 ke v4 q\/wr.heap.size<=q):=fun q hq=>by
    rcases hq with h|h|h|h|h
    ·exact Or.inl (Or.inl h)
    ·exact Or.inl (Or.inr (Or.inl h))
    ·exact Or.inl (Or.inr (Or.inr (Or.inl h)))
    ·exact Or.inl (Or.inr (Or.inr (Or.inr (Or.inl h))))
    ·rcases ho9 q h with h|h
     ·exact Or.inl (Or.inr (Or.inr (Or.inr (Or.inr h))))
     ·exact Or.inr h
   have b10:Below w9.heap.size w9 (w9.alloc (.cells #[.int .i64 s4,.int .i64 d4] 53)):=(Below.refl _ _).alloc (Nat.le_refl _) _
   have S10:=S9.below b10
   have slX:=Slot.new w9 s4 d4
   have hpop:=pop_side _ S10 (fun ha=>HMG.out.key256 O ha)
   have c5:=S10.c5
   have l0:=slC9.c0
   have l1:=slC9.c1
   have slR10:=slR9.below b10
   have B10:=B9.trans (b10.mono B9.size)
   have HS10:Hid _:=S10
   clear hgo K9 ho9 slR slC slR9 slC9 hBw B9 S9 S10 b10 HS4
   go_wp2_with fail
   clear c5 l0 l1
   generalize w9.alloc (.cells #[.int .i64 s4,.int .i64 d4] 53)=w10 at *
   refine hpop.mono ?_
   rintro e w11 ⟨n11,s11,d11,b11,v11,nh11,rfl,_,K11,ho11,hcase11⟩
   have HN2:Hid (¬ sb5 ke v9 w.heap.size/\¬ sb5 ke v9 w9.heap.size):=by
    refine ⟨fun h=>?_,fun h=>?_⟩
    ·rcases HO9.out _ h with h|h
     ·exact HN.out.1 h
     ·omega
    ·have:=HV9.out.lt h
     omega
   have slR12:=slR10.keep K11 HN2.out.1
   have slX12:=slX.keep K11 HN2.out.2
   have B12:=B10.trans ((HS10.out.to_below K11).mono (by omega))
   clear hpop K11 slR10 slX B10 HS10
   go_wp2
   go_roundg (mu yg)
   case measure=>have h1:=HG.out;have h2:=HMU.out;omega
   case rel =>
    refine ⟨⟨yg,v11,nh11,w9.heap.size,n11,s4,d4,b11,rfl,rfl,rfl,by omega,slR12,slX12,HMG.out,HCO.out,rfl,fun h=>?_,fun h=>?_,?_⟩,B12⟩
    ·rw [sb5_own ho11] at h;exact HN2.out.1 h
    ·rw [sb5_own ho11] at h;exact HN2.out.2 h
    ·rcases hcase11 with ⟨h1,h2,h3⟩|⟨h1,n'',h2,h3,h4,h5⟩
     ·exact Or.inl ⟨h1,h2,h3⟩
     ·exact Or.inr ⟨h1,n'',h2,h3,⟨_,_,h4⟩,h5⟩
end
section
open Go.RowKit Go.Lib
def octG (W tz:Int) (n:Int):Int × Int:=if 0<=n/\n<256 then (octS W n tz,octD W n tz) else (0,0)
theorem octG_in {W tz:Int}{n:Nat}(h:n<256):octG W tz (n:Int)=(octS W n tz,octD W n tz):=by
 unfold octG
 rw [if_pos ⟨by omega,by omega⟩]
end
section
section
variable {W H : Int} {bl : Nat → Bool} {es : Nat → List LE}
theorem GEs.pos (G:GEs W H bl es)(w1:1<=W)(w2:W<=16)(h1:1<=H)(h2:H<=16){a:Nat}{e:LE}(h:e ∈ es a):0<=e.s/\0<=e.d/\e.s<=16/\e.d<=16/\0<e.s+e.d:=by
 obtain ⟨m1,m2,m3,m4,m5,m6,_⟩:=G.mem h
 have i1:=cornC_in w1 (cornB_iff.1 m1)
 have i2:=cornC_in w1 (cornB_iff.1 m2)
 have hs:=oct_small w1 w2 h1 h2 i1 i2
 have hw:=m3.walk w1 (by omega) (by omega)
 have n1:=octS_nonneg W a e.to
 have n2:=octD_nonneg W a e.to
 rw [m5,m6]
 refine ⟨n1,n2,hs.1,hs.2,?_⟩
 apply Classical.byContradiction
 intro q
 have e1:octS W a e.to=0:=by omega
 have e2:octD W a e.to=0:=by omega
 have:=val_zero hw (by rw [e1,e2];decide)
 exact m4 (by omega)
theorem prc_bd (G:GEs W H bl es)(w1:1<=W)(w2:W<=16)(h1:1<=H)(h2:H<=16):∀ {l:List Nat}{x:Nat}{s d:Int},Prc es (x::l) s d->0<=s/\0<=d/\s<=16*l.length/\d<=16*l.length/\(l≠[]->0<s+d)
 |[],x,s,d,⟨e1,e2⟩=>by
  subst e1 e2
  exact ⟨Int.le_refl _,Int.le_refl _,by simp,by simp,fun h=>absurd rfl h⟩
 |y::l,x,s,d,⟨e,he,e1,h⟩=>by
  obtain ⟨k1,k2,k3,k4,k5⟩:=G.pos w1 w2 h1 h2 he
  obtain ⟨j1,j2,j3,j4,_⟩:=prc_bd G w1 w2 h1 h2 h
  have hl:(((y::l).length:Nat):Int)=(l.length:Int)+1:=rfl
  rw [hl]
  exact ⟨by omega,by omega,by omega,by omega,fun _=>by omega⟩
theorem lvOk (G:GEs W H bl es)(w1:1<=W)(w2:W<=16)(h1:1<=H)(h2:H<=16){most k:Nat}{st:LSt}(m6:most<=6)(m1:1<=most)(h:Rds most (crs W H bl (W*H).toNat) ⟨fun _=>0,es⟩ k st) :
  LvOk (crs W H bl (W*H).toNat) ⟨endL (k+1) st,st.es⟩/\(∀ n,1<=endL (k+1) st n/\endL (k+1) st n<=7)/\∀ {a e},e ∈ st.es a->∃ way l,Unp st.es 6 a e.to way/\way=a::l/\l≠[]/\way.getLast? = some e.to/\Prc es way e.s e.d:=by
 have B0:=G.btw w1 w2 h1 h2
 have B:=Btw.rds (show (0:Int)<=16 by omega) B0 h
 have hk:k+1<=most:=by
  cases k with
  |zero=>omega
  |succ k =>
   obtain ⟨_,_,_,h2,_⟩:=h
   omega
 have hwh:=wh_bd w1 w2 h1 h2
 have hU:∀ {a e},e ∈ st.es a->∃ way l,Unp st.es 6 a e.to way/\way=a::l/\l≠[]/\way.getLast? = some e.to/\Prc es way e.s e.d:=fun {a e} he =>
  unpack B.lrd (fun he hm=>Rds.own B0.lrd h he hm) 6 a e he (by have:=(B.lrd.end_le a).2;omega)
 have hd:dbl 16 k<=512:=by
  have:k<=5:=by omega
  rcases (by omega:k=0\/k=1\/k=2\/k=3\/k=4\/k=5) with rfl|rfl|rfl|rfl|rfl|rfl <;> decide
 refine ⟨⟨B.lrd.esy,B.cor.ends,fun {a e} he=>?_,fun n hn=>?_⟩,fun n=>?_,hU⟩
 ·obtain ⟨b1,b2,b3,b4⟩:=B.bd he
  obtain ⟨way,l,u1,u2,u3,u4,u5⟩:=hU he
  subst u2
  have:=(prc_bd G w1 w2 h1 h2 u5).2.2.2.2 u3
  exact ⟨b1,b2,by omega,by omega,this⟩
 ·have:=(crs_mem.1 hn).1
  omega
 ·have:=B.lrd.end_le n
  omega
end
structure Srch (W H:Int) (bl:Nat->Bool) (es:Nat->List LE) (out inn:List IE) (s d:Int) (f:Bool):Prop where
 opt:∀ {o i s0 d0 s1 d1 p q:Int},srcE (crs W H bl (W*H).toNat) out o s0 d0->srcE (crs W H bl (W*H).toNat) inn i s1 d1->Wg (GrE es) o i p q->f=true/\val s d<=val (s0+p+s1) (d0+q+d1)
 snd:f=true->∃ (o i:Nat) (s0 d0 s1 d1 p q:Int),srcE (crs W H bl (W*H).toNat) out (o:Int) s0 d0/\srcE (crs W H bl (W*H).toNat) inn (i:Int) s1 d1/\Wg (GrE es) (o:Int) (i:Int) p q/\s=s0+p+s1/\d=d0+q+d1/\0<=q/\q<=640000
 no:f=false->s=0/\d=0
section
variable {W H : Int} {bl : Nat → Bool} {es : Nat → List LE} {out inn : List IE}
theorem srch (G:GEs W H bl es)(w1:1<=W)(w2:W<=16)(h1:1<=H)(h2:H<=16){most k:Nat}{st:LSt}(m6:most<=6)(m1:1<=most)(h:Rds most (crs W H bl (W*H).toNat) ⟨fun _=>0,es⟩ k st)
  {g:Int->Int × Int}(hA:Adm (crs W H bl (W*H).toNat) st.es g (srcE (crs W H bl (W*H).toNat) inn)) {way:List Nat}{s d:Int}{f:Bool}(hB:BestR (crs W H bl (W*H).toNat) ⟨endL (k+1) st,st.es⟩ g out inn way s d f) (hwl:way.length<=40000):Srch W H bl es out inn s d f:=by
 obtain ⟨O,_,hU⟩:=lvOk G w1 w2 h1 h2 m6 m1 h
 have hno:f=false->s=0/\d=0:=by
  obtain ⟨_,_,_,_,_,_,_,_,h4,_⟩:=hB
  exact fun q=>(h4 q).2
 obtain ⟨b1,b2⟩:=BestR.best (G.btw w1 w2 h1 h2) (fun _=>rfl) h O hU hA hB
 refine ⟨b1,fun q=>?_,hno⟩
 obtain ⟨o,i,t,s0,d0,s1,d1,p,q',c1,c2,c3,c4,c5,c6,c7⟩:=b2 q
 subst c3
 obtain ⟨_,j2,_,j4,_⟩:=prc_bd G w1 w2 h1 h2 c5
 have hl:(o::t).length=t.length+1:=rfl
 exact ⟨o,i,s0,d0,s1,d1,p,q',c1,c2,c5.way c4,c6,c7,j2,by omega⟩
def frC (W:Int) (c:Nat) (l:List Nat):List LE:=l.map (fun m=>⟨m,octS W c m,octD W c m,-1⟩)
def frI (W:Int) (c:Nat) (l:List Nat):List IE:=(frC W c l).map fun e=>⟨e.to,e.s,e.d,e.mid⟩
def Cns (W H:Int) (bl:Nat->Bool) (c:Nat) (l:List Nat):Prop:=∀ n:Nat,n ∈ l↔Dir W H bl c n/\cornB W H bl n=true
theorem frI_len (W:Int)(c:Nat)(l:List Nat):(frI W c l).length=l.length:=by unfold frI frC;rw [List.length_map,List.length_map]
theorem srcE_iff (w1:1<=W)(w2:W<=16)(h1:1<=H)(h2:H<=16){c:Nat}{l:List Nat}(hc:inB W H c=true)(hl:Cns W H bl c l){o s d:Int}:srcE (crs W H bl (W*H).toNat) (frI W c l) o s d↔0<=o/\CornC W H bl o/\Dir W H bl c o/\s=octS W c o/\d=octD W c o:=by
 constructor
 ·rintro ⟨e,h1,⟨⟨h2,_⟩,_⟩,rfl,rfl,rfl⟩
  unfold frI frC at h1
  rw [List.map_map] at h1
  obtain ⟨m,hm,rfl⟩:=List.mem_map.1 h1
  obtain ⟨k1,k2⟩:=(hl m).1 hm
  exact ⟨h2,cornB_iff.1 k2,k1,rfl,rfl⟩
 ·rintro ⟨h0,k1,k2,rfl,rfl⟩
  obtain ⟨m,rfl⟩:∃ m:Nat,o=(m:Int):=⟨o.toNat,by omega⟩
  have hi:=cornC_in w1 k1
  have hs:=oct_small w1 w2 h1 h2 hc hi
  have h4:0<=(m:Int)/\(m:Int)<W*H:=of_decide_eq_true hi
  refine ⟨⟨m,octS W c m,octD W c m,-1⟩,?_,⟨⟨by show (0:Int)<=(m:Int);omega,?_⟩,octS_nonneg _ _ _,?_,octD_nonneg _ _ _,?_⟩,rfl,rfl,rfl⟩
  ·unfold frI frC
   rw [List.map_map]
   exact List.mem_map.2 ⟨m,(hl m).2 ⟨k2,cornB_iff.2 k1⟩,rfl⟩
  ·show (m:Int).toNat ∈ _
   rw [Int.toNat_natCast]
   exact crs_mem.2 ⟨by omega,cornB_iff.2 k1⟩
  ·show octS W c m<=_;omega
  ·show octD W c m<=_;omega
theorem adm_oct (G:GEs W H bl es)(w1:1<=W)(w2:W<=16)(h1:1<=H)(h2:H<=16){most k:Nat}{st:LSt}(m6:most<=6)(m1:1<=most)(h:Rds most (crs W H bl (W*H).toNat) ⟨fun _=>0,es⟩ k st)
  {c:Nat}{l:List Nat}(hc:inB W H c=true) (hl:Cns W H bl c l):Adm (crs W H bl (W*H).toNat) st.es (octG W c) (srcE (crs W H bl (W*H).toNat) (frI W c l)):=fun {b i s d p q} h0 hb h3 hw=>by
 obtain ⟨O,_,hU⟩:=lvOk G w1 w2 h1 h2 m6 m1 h
 obtain ⟨bn,rfl⟩:∃ m:Nat,b=(m:Int):=⟨b.toNat,by omega⟩
 rw [Int.toNat_natCast] at hb
 rw [octG_in (O.small bn hb)]
 obtain ⟨i0,ic,idr,rfl,rfl⟩:=(srcE_iff w1 w2 h1 h2 hc hl).1 h3
 have key:=hw (fun x p q=>0<=x/\octV W bn x<=val p q) ⟨h0,by unfold octV;rw [octS_self,octD_self];exact Int.le_refl _⟩ (fun x p q y t u ⟨x0,hx⟩ ⟨e,k1,k2,k3,k4⟩=>by
  obtain ⟨way,l',u1,u2,u3,u4,u5⟩:=hU k1
  subst u2
  have hwk:=GEs.walk w1 w2 h1 h2 G (by omega) (u5.way u4)
  have hlow:=oct_low' w1 hwk
  have ex:((x.toNat:Nat):Int)=x:=by omega
  rw [ex] at hlow
  subst k2 k3 k4
  have:=oct_tri W bn x e.to
  rw [val_both]
  exact ⟨by omega,by omega⟩)
 have ht:=oct_tri W bn i c
 rw [octV_comm W i c] at ht
 have k2:=key.2
 show octV W bn c<=_
 show _<=val p q+octV W c i
 omega
theorem Srch.flood {Fl:Int->Int->Option (Int × Int)}(G:GEs W H bl es)(w1:1<=W)(w2:W<=16)(h1:1<=H)(h2:H<=16)(B:∀ c,inB W H c=true->Best (Edge W H bl) c (Fl c)){a b:Nat}{la lb:List Nat}(ha:inB W H a=true)(hb:inB W H b=true)(hla:Cns W H bl a la)(hlb:Cns W H bl b lb)(hn:¬ ∃ z,On W H bl a b z)
  {s d:Int}{f:Bool}(S:Srch W H bl es (frI W a la) (frI W b lb) s d f):(f=true->Fl a b=some (s,d))/\(f=false->Fl a b=none):=by
 have via:∀ {s' d':Int},Fl a b=some (s',d')->f=true/\val s d<=val s' d':=fun {s' d'} hF=>by
  obtain ⟨c,k,p,q,k1,k2,k3,k4,k5,k6⟩:=over_corners w1 w2 h1 h2 G B ha hb hF hn
  have i1:=cornC_in w1 k1
  have i2:=cornC_in w1 k2
  have j1:0<=c/\c<W*H:=of_decide_eq_true i1
  have j2:0<=k/\k<W*H:=of_decide_eq_true i2
  obtain ⟨q1,q2⟩:=S.opt ((srcE_iff w1 w2 h1 h2 ha hla).2 ⟨j1.1,k1,k3,rfl,rfl⟩) ((srcE_iff w1 w2 h1 h2 hb hlb).2 ⟨j2.1,k2,k4,rfl,rfl⟩) k5
  rw [val_both,val_both] at q2
  unfold octV at k6
  exact ⟨q1,by omega⟩
 constructor
 ·intro hf
  obtain ⟨o,i,s0,d0,s1,d1,p,q,c1,c2,c3,c4,c5,c6,c7⟩:=S.snd hf
  obtain ⟨o0,oc,od,rfl,rfl⟩:=(srcE_iff w1 w2 h1 h2 ha hla).1 c1
  obtain ⟨i0,ic,id',rfl,rfl⟩:=(srcE_iff w1 w2 h1 h2 hb hlb).1 c2
  have ho:=oct_small w1 w2 h1 h2 ha (cornC_in w1 oc)
  have hi:=oct_small w1 w2 h1 h2 hb (cornC_in w1 ic)
  have wk1:=od.walk w1 (by omega) (by omega)
  have wk2:=GEs.walk w1 w2 h1 h2 G o0 c3
  have wk3:=(id'.walk w1 (by omega) (by omega)).back (Edge.back w1)
  have wk:=(wk1.app wk2).app wk3
  rw [<- c4,<- c5] at wk
  obtain ⟨s',d',e1,e2⟩:=(B a ha).least wk
  obtain ⟨_,e3⟩:=via e1
  obtain ⟨n1,n2,n3⟩:=(B a ha).small e1
  have sm:=val_small n1 n2 n3
  have n4:=octD_nonneg W a o
  have n5:=octD_nonneg W b i
  obtain ⟨q1,q2⟩:=val_inj s d s' d' (by omega) (by omega) (Int.le_antisymm e3 e2)
  rw [e1,q1,q2]
 ·intro hf
  cases hF:Fl a b with
  |none=>rfl
  |some c =>
   obtain ⟨s',d'⟩:=c
   have:=(via hF).1
   rw [hf] at this
   cases this
end
end
section
open Go.RowKit
def refBl (W H:Int) (bl:Nat->Bool):Array Value:=(Value.int .i64 W::.int .i64 H::((List.range 256).map (fun i=>Value.bool (bl i))++[.int .i64 0])).toArray
theorem refAt_bl {W H:Int}(bl:Nat->Bool)(w:World)(w1:1<=W)(w2:W<=16)(h1:1<=H)(h2:H<=16):RefAt (w.alloc (.cells (refBl W H bl) 38)) w.heap.size W H 0 bl:=by
 refine ⟨w1,w2,h1,h2,?_,?_,?_,fun i hi=>?_⟩
 ·rw [World.cell?_alloc_new];rfl
 ·rw [World.cell?_alloc_new];rfl
 ·rw [World.cell?_alloc_new]
  unfold refBl
  rw [List.getElem?_toArray,List.getElem?_cons_succ,List.getElem?_cons_succ,List.getElem?_append_right (by simp)]
  simp
 ·rw [World.cell?_alloc_new]
  unfold refBl
  rw [List.getElem?_toArray,show 2+i=i+1+1 by omega,List.getElem?_cons_succ,List.getElem?_cons_succ,List.getElem?_append_left (by simpa using hi),List.getElem?_map,List.getElem?_range hi]
  rfl
theorem bests {W H:Int}(bl:Nat->Bool)(w:World)(w1:1<=W)(w2:W<=16)(h1:1<=H)(h2:H<=16):∃ Fl:Int->Int->Option (Int × Int),∀ c,inB W H c=true->Best (Edge W H bl) c (Fl c):=by
 have h:∀ c,∃ F,inB W H c=true->Best (Edge W H bl) c F:=fun c=>by
  by_cases hc:inB W H c=true
  ·have h4:0<=c/\c<W*H:=of_decide_eq_true hc
   obtain ⟨n,rfl⟩:∃ n:Nat,c=n:=⟨c.toNat,by omega⟩
   have h:=rflood_any n _ (refAt_bl bl w w1 w2 h1 h2) (by simp) hc []
   obtain ⟨e,w',fr,h,_⟩:=h
   obtain ⟨F,_,hB,_⟩:=h
   exact ⟨F,fun _=>hB⟩
  ·exact ⟨fun _=>none,fun h=>absurd h hc⟩
 exact ⟨fun c=>Classical.choose (h c),fun c hc=>Classical.choose_spec (h c) hc⟩
section
variable {W H : Int} {bl : Nat → Bool}
def Cp (W H:Int) (bl:Nat->Bool):Int->List Nat->Int->Int->Int->Prop
 |a,[],t,s,d=>a=t/\s=0/\d=0
 |a,r::l,t,s,d=>∃ k,Edge W H bl a k (r:Int)/\Cp W H bl (r:Int) l t (s - stS k) (d - stD k)
theorem Cp.cast {a t s d s' d':Int}{l:List Nat}(h:Cp W H bl a l t s d)(e1:s=s')(e2:d=d'):Cp W H bl a l t s' d':=by
 subst e1 e2;exact h
theorem Cp.app:∀ {l m:List Nat}{a b t s d p q:Int},Cp W H bl a l b s d->Cp W H bl b m t p q->Cp W H bl a (l++m) t (s+p) (d+q)
 |[],m,a,b,t,s,d,p,q,⟨e1,e2,e3⟩,h=>by
  subst e1 e2 e3
  exact h.cast (by omega) (by omega)
 |r::l,m,a,b,t,s,d,p,q,⟨k,e,h1⟩,h=>⟨k,e,(Cp.app h1 h).cast (by omega) (by omega)⟩
theorem Cp.walk:∀ {l:List Nat}{a t s d:Int},Cp W H bl a l t s d->Wk (Edge W H bl) a t s d
 |[],a,t,s,d,⟨e1,e2,e3⟩=>by
  subst e1 e2 e3
  exact Wk.nil
 |r::l,a,t,s,d,⟨k,e,h⟩=>by
  have:=Wk.cons e (Cp.walk h)
  rwa [show s - stS k+stS k=s by omega,show d - stD k+stD k=d by omega] at this
theorem Cp.len:∀ {l:List Nat}{a t s d:Int},Cp W H bl a l t s d->s+d=(l.length:Int)
 |[],a,t,s,d,⟨_,e2,e3⟩=>by
  subst e2 e3
  rfl
 |r::l,a,t,s,d,⟨k,_,h⟩=>by
  have h1:=Cp.len h
  have h2:=st_bd k
  have h3:(((r::l).length:Nat):Int)=(l.length:Int)+1:=rfl
  rw [h3]
  omega
theorem cp_of_chn (w1:1<=W){a t:Int}:∀ {l:List Nat}{p:Int},Chn (WSt W H bl a t) p (ints l) t->Cp W H bl p l t (octS W p t) (octD W p t)
 |[],p,h=>by
  have e:p=t:=h
  subst e
  exact ⟨rfl,octS_self W p,octD_self W p⟩
 |r::l,p,⟨⟨k,hk⟩,h⟩=>by
  obtain ⟨g1,g2⟩:=(good_iff w1 hk.1.1).1 hk.1.2.1
  exact ⟨k,hk.1.1,(cp_of_chn w1 h).cast (by omega) (by omega)⟩
theorem ff2_of {a t:Int}(h1:inB W H a=true)(h2:bl a.toNat=false)(h3:inB W H t=true)(h4:bl t.toNat=false):ff2 W H bl a t=0:=by
 unfold ff2
 rw [if_pos (ffv_zero h1 h2)]
 exact ffv_zero h3 h4
def NrC (W H:Int) (bl:Nat->Bool):Nat->List Nat->Prop
 |_,[]=>True
 |a,t::st=>(∃ z,On W H bl (a:Int) (t:Int) z)/\ff2 W H bl a t=0/\NrC W H bl t st
def JnR (W H:Int) (bl:Nat->Bool):Nat->List Nat->List Nat->Prop
 |_,[],l=>l=[]
 |a,t::st,l=>∃ l1 r,Chn (WSt W H bl a t) a (ints l1) t/\JnR W H bl t st r/\l=l1++r
theorem JnR.snoc:∀ {st:List Nat}{a t:Nat}{l l2:List Nat},JnR W H bl a st l->Chn (WSt W H bl ((st.getLast?).getD a:Nat) t) ((st.getLast?).getD a:Nat) (ints l2) t->JnR W H bl a (st++[t]) (l++l2)
 |[],a,t,l,l2,h,h2=>by
  have e:l=[]:=h
  subst e
  exact ⟨l2,[],h2,rfl,by simp⟩
 |x::st,a,t,l,l2,⟨l1,r,h1,h3,h4⟩,h2=>by
  refine ⟨l1,r++l2,h1,JnR.snoc h3 ?_,by rw [h4,List.append_assoc]⟩
  cases st with
  |nil=>exact h2
  |cons y st =>
   have e:(x::y::st).getLast? = (y::st).getLast? := by simp
   rw [e] at h2
   cases hq:(y::st).getLast? with
   |none=>simp at hq
   |some z=>rw [hq] at h2;exact h2
noncomputable def esF (W H:Int) (bl:Nat->Bool):Nat->List LE:=@dite _ (∃ es,GEs W H bl es) (Classical.propDecidable _) (fun h=>Classical.choose h) (fun _ _=>[])
theorem esF_ok (w1:1<=W):GEs W H bl (esF W H bl):=by
 have h:=gEs_ex W H bl w1
 unfold esF
 rw [dif_pos h]
 exact Classical.choose_spec h
def Cnp (W H:Int) (bl:Nat->Bool) (c:Nat) (l:List Nat):Prop:=l.Pairwise (·<·)/\Cns W H bl c l
def gsN (W H tz:Int) (n:Int):Int × Int:=if inB W H n=true then (octS W n tz,octD W n tz) else (octS W 0 tz,octD W 0 tz)
theorem gsN_bd (w1:1<=W)(w2:W<=16)(h1:1<=H)(h2:H<=16){tz:Int}(ht:inB W H tz=true)(n:Nat):0<=(gsN W H tz n).1/\(gsN W H tz n).1<=1024/\0<=(gsN W H tz n).2/\(gsN W H tz n).2<=1024:=by
 have key:∀ m:Int,inB W H m=true->0<=octS W m tz/\octS W m tz<=1024/\0<=octD W m tz/\octD W m tz<=1024:=fun m hm=>by
  have a1:=oct_small w1 w2 h1 h2 hm ht
  have a2:=octS_nonneg W m tz
  have a3:=octD_nonneg W m tz
  omega
 have h0:inB W H 0=true:=by
  have:=wh_bd w1 w2 h1 h2
  exact decide_eq_true (by omega)
 unfold gsN
 split
 ·exact key _ (by assumption)
 ·exact key _ h0
theorem adm_gs {es:Nat->List LE}(G:GEs W H bl es)(w1:1<=W)(w2:W<=16)(h1:1<=H)(h2:H<=16){most k:Nat}{st:LSt}(m6:most<=6)(m1:1<=most)(h:Rds most (crs W H bl (W*H).toNat) ⟨fun _=>0,es⟩ k st)
  {c:Nat}{l:List Nat}(hc:inB W H c=true) (hl:Cns W H bl c l):Adm (crs W H bl (W*H).toNat) st.es (gsN W H c) (srcE (crs W H bl (W*H).toNat) (frI W c l)):=fun {b i s d p q} h0 hb h3 hw=>by
 have h4:=adm_oct G w1 w2 h1 h2 m6 m1 h hc hl h0 hb h3 hw
 have hwh:=wh_bd w1 w2 h1 h2
 obtain ⟨bn,rfl⟩:∃ m:Nat,b=(m:Int):=⟨b.toNat,by omega⟩
 have hlt:=(crs_mem.1 hb).1
 rw [Int.toNat_natCast] at hlt
 have hi:inB W H bn=true:=decide_eq_true (by omega)
 rw [octG_in (by omega)] at h4
 unfold gsN
 rw [if_pos hi]
 exact h4
def OvR (W H:Int) (bl:Nat->Bool) (most:Nat) (a t:Nat) (way:List Nat) (s d:Int) (f:Bool):Prop :=
 ∃ k st la lb stops,Rds most (crs W H bl (W*H).toNat) ⟨fun _=>0,esF W H bl⟩ k st/\Over most (crs W H bl (W*H).toNat) k st/\Cnp W H bl a la/\Cnp W H bl t lb /\
  BestR (crs W H bl (W*H).toNat) ⟨endL (k+1) st,st.es⟩ (gsN W H t) (frI W a la) (frI W t lb) stops s d f/\stops.length<=40000/\(f=false->way=[])/\(f=true->∃ l,way=a::l/\JnR W H bl a (stops++[t]) l)
def AnsR (W H:Int) (bl:Nat->Bool) (most:Nat) (a t:Int) (way:List Nat) (s d err:Int):Prop :=
 (ff2 W H bl a t≠0/\err=ff2 W H bl a t/\way=[]/\s=0/\d=0) \/
 (ff2 W H bl a t=0/\(((∃ z,On W H bl a t z)/\err=0/\(∃ l,way=a.toNat::l/\Chn (WSt W H bl a t) a (ints l) t)/\s=octS W a t/\d=octD W a t) \/
  ((¬ ∃ z,On W H bl a t z)/\∃ f,OvR W H bl most a.toNat t.toNat way s d f/\err=if f then 0 else 5)))
theorem nr_of (w1:1<=W)(w2:W<=16)(h1:1<=H)(h2:H<=16){es:Nat->List LE}(G:GEs W H bl es){t i:Nat}(ht:inB W H t=true)(hft:bl t=false)(hd:Dir W H bl t i)(hci:CornC W H bl i):∀ {l:List Nat}{o:Nat}{p q:Int},Prc es (o::l) p q->(o::l).getLast? = some i->NrC W H bl o (l++[t])
 |[],o,p,q,_,hl=>by
  have e:o=i:=by simpa using hl
  subst e
  have hin:=cornC_in w1 hci
  have hfr:bl o=false:=by have:=corn_free (cornB_iff.2 hci);rwa [Int.toNat_natCast] at this
  exact ⟨hd.sym.1,ff2_of hin (by rw [Int.toNat_natCast];exact hfr) ht (by rw [Int.toNat_natCast];exact hft),trivial⟩
 |y::l,o,p,q,⟨e,he,e1,h⟩,hl=>by
  obtain ⟨k1,k2,k3,_⟩:=G.mem he
  rw [e1] at k2 k3
  have f1:bl o=false:=by have:=corn_free k1;rwa [Int.toNat_natCast] at this
  have f2:bl y=false:=by have:=corn_free k2;rwa [Int.toNat_natCast] at this
  refine ⟨k3.1,ff2_of (cornC_in w1 (cornB_iff.1 k1)) (by rw [Int.toNat_natCast];exact f1) (cornC_in w1 (cornB_iff.1 k2)) (by rw [Int.toNat_natCast];exact f2),nr_of w1 w2 h1 h2 G ht hft hd hci h ?_⟩
  rw [<- hl];simp
theorem jn_cp (w1:1<=W){es:Nat->List LE}(G:GEs W H bl es){t i:Nat}:∀ {l:List Nat}{o:Nat}{p q:Int}{m:List Nat},Prc es (o::l) p q->(o::l).getLast? = some i->JnR W H bl o (l++[t]) m->Cp W H bl o m t (p+octS W i t) (q+octD W i t)
 |[],o,p,q,m,⟨e1,e2⟩,hl,⟨l1,r,h1,h2,h3⟩=>by
  have e:o=i:=by simpa using hl
  subst e
  have e3:r=[]:=h2
  subst e1 e2 e3
  rw [h3,List.append_nil]
  exact (cp_of_chn w1 h1).cast (by omega) (by omega)
 |y::l,o,p,q,m,⟨e,he,e1,h⟩,hl,⟨l1,r,j1,j2,j3⟩=>by
  obtain ⟨_,_,_,_,k5,k6,_⟩:=G.mem he
  rw [e1] at k5 k6
  have hl':(y::l).getLast? = some i:=by rw [<- hl];simp
  rw [j3]
  exact ((cp_of_chn w1 j1).app (jn_cp w1 G h hl' j2)).cast (by omega) (by omega)
structure Rt (W H:Int) (bl:Nat->Bool) (a t:Int) (way:List Nat) (s d err:Int):Prop where
 bad:ff2 W H bl a t≠0->err=ff2 W H bl a t/\way=[]/\s=0/\d=0
 no:ff2 W H bl a t=0->(∀ p q,¬ Wk (Edge W H bl) a t p q)->err=5/\way=[]/\s=0/\d=0
 yes:ff2 W H bl a t=0->∀ {p q},Wk (Edge W H bl) a t p q->err=0/\val s d<=val p q
 path:ff2 W H bl a t=0->err=0->∃ l,way=a.toNat::l/\Cp W H bl a l t s d/\0<=s/\0<=d/\s<=400/\d<=256
theorem OvR.stops (w1:1<=W)(w2:W<=16)(h1:1<=H)(h2:H<=16){most k:Nat}{st:LSt}(m1:1<=most)(m6:most<=6){a t:Nat}(ha:inB W H a=true)(hfa:bl a=false)(ht:inB W H t=true)(hft:bl t=false){la lb stops:List Nat}{s d:Int}(hR:Rds most (crs W H bl (W*H).toNat) ⟨fun _=>0,esF W H bl⟩ k st)(hla:Cnp W H bl a la)(hlb:Cnp W H bl t lb)
  (hB:BestR (crs W H bl (W*H).toNat) ⟨endL (k+1) st,st.es⟩ (gsN W H t) (frI W a la) (frI W t lb) stops s d true):NrC W H bl a (stops++[t])/\∀ l,JnR W H bl a (stops++[t]) l->Cp W H bl a l t s d:=by
 have G:=esF_ok (W:=W) (H:=H) (bl:=bl) w1
 obtain ⟨O,_,hU⟩:=lvOk G w1 w2 h1 h2 m6 m1 hR
 obtain ⟨_,b2⟩:=BestR.best (G.btw w1 w2 h1 h2) (fun _=>rfl) hR O hU (adm_gs G w1 w2 h1 h2 m6 m1 hR ht hlb.2) hB
 obtain ⟨o,i,r,s0,d0,s1,d1,p,q,c1,c2,c3,c4,c5,c6,c7⟩:=b2 rfl
 subst c3
 obtain ⟨o0,oc,od,rfl,rfl⟩:=(srcE_iff w1 w2 h1 h2 ha hla.2).1 c1
 obtain ⟨i0,ic,id',rfl,rfl⟩:=(srcE_iff w1 w2 h1 h2 ht hlb.2).1 c2
 have f1:bl o=false:=by have:=corn_free (cornB_iff.2 oc);rwa [Int.toNat_natCast] at this
 refine ⟨⟨od.1,ff2_of ha (by rw [Int.toNat_natCast];exact hfa) (cornC_in w1 oc) (by rw [Int.toNat_natCast];exact f1),nr_of w1 w2 h1 h2 G ht hft id' ic c5 c4⟩,fun l hl=>?_⟩
 obtain ⟨l1,r1,j1,j2,j3⟩:=hl
 have k1:=cp_of_chn w1 j1
 have k2:=jn_cp w1 G c5 c4 j2
 rw [j3]
 have e1:=octS_comm W i t
 have e2:=octD_comm W i t
 exact (k1.app k2).cast (by omega) (by omega)
theorem AnsR.right (w:World)(w1:1<=W)(w2:W<=16)(h1:1<=H)(h2:H<=16){most:Nat}(m1:1<=most)(m6:most<=6){a t:Int}{way:List Nat}{s d err:Int}(h:AnsR W H bl most a t way s d err):Rt W H bl a t way s d err:=by
 rcases h with ⟨a1,rfl,rfl,rfl,rfl⟩|⟨a1,h⟩
 ·exact ⟨fun _=>⟨rfl,rfl,rfl,rfl⟩,fun h=>absurd h a1,fun h=>absurd h a1,fun h=>absurd h a1⟩
 ·obtain ⟨⟨hia,hfa⟩,⟨hit,hft⟩⟩:=ff2_ok a1
  have ja:0<=a/\a<W*H:=of_decide_eq_true hia
  have jt:0<=t/\t<W*H:=of_decide_eq_true hit
  obtain ⟨aN,rfl⟩:∃ aN:Nat,a=(aN:Int):=⟨a.toNat,by omega⟩
  obtain ⟨tN,rfl⟩:∃ tN:Nat,t=(tN:Int):=⟨t.toNat,by omega⟩
  rw [Int.toNat_natCast] at hfa hft
  have hsm:=oct_small w1 w2 h1 h2 hia hit
  have n1:=octS_nonneg W aN tN
  have n2:=octD_nonneg W aN tN
  rcases h with ⟨⟨z,c1⟩,rfl,⟨l,rfl,c2⟩,rfl,rfl⟩|⟨c1,f,⟨k,st,la,lb,stops,r1,r2,r3,r4,r5,r8,r6,r7⟩,rfl⟩
  ·refine ⟨fun h=>absurd a1 h,fun _ h=>?_,fun _ {p q} hw=>⟨rfl,oct_low' w1 hw⟩,fun _ _=>⟨l,rfl,cp_of_chn w1 c2,n1,n2,by omega,by omega⟩⟩
   exact absurd (c1.ends w1 (by omega) (by omega)).2.2 (h _ _)
  ·rw [Int.toNat_natCast,Int.toNat_natCast] at *
   have G:=esF_ok (W:=W) (H:=H) (bl:=bl) w1
   obtain ⟨Fl,hFl⟩:=bests bl w w1 w2 h1 h2
   have S:=srch G w1 w2 h1 h2 m6 m1 r1 (adm_gs G w1 w2 h1 h2 m6 m1 r1 hit r4.2) r5 r8
   obtain ⟨f1,f2⟩:=S.flood G w1 w2 h1 h2 hFl hia hit r3.2 r4.2 c1
   refine ⟨fun h=>absurd a1 h,fun _ h=>?_,fun _ {p q} hw=>?_,fun _ he=>?_⟩
   ·cases f with
    |true=>exact absurd ((hFl aN hia).sound (f1 rfl)) (h _ _)
    |false =>
     obtain ⟨e1,e2⟩:=S.no rfl
     exact ⟨rfl,r6 rfl,e1,e2⟩
   ·obtain ⟨s',d',e1,e2⟩:=(hFl aN hia).least hw
    cases f with
    |false=>rw [f2 rfl] at e1;cases e1
    |true =>
     rw [f1 rfl] at e1
     cases e1
     exact ⟨rfl,e2⟩
   ·cases f with
    |false=>exact absurd he (by decide)
    |true =>
     obtain ⟨l,rfl,j⟩:=r7 rfl
     obtain ⟨q1,q2,q3⟩:=(hFl aN hia).small (f1 rfl)
     obtain ⟨q4,q5⟩:=val_small q1 q2 q3
     exact ⟨l,rfl,(OvR.stops w1 w2 h1 h2 m1 m6 hia hfa hit hft r1 r3 r4 r5).2 l j,q1,q2,q4,q5⟩
end
end
section
open Go.RowKit
set_option maxHeartbeats 400000 in
theorem gs' {gc xc yc M:Nat}{n x y tx ty S D:Int}{ev:Value}(w:World)(cg:w.cell? ⟨gc,0,none⟩=some (.pointer (some ⟨M,0,none⟩)))(cx:w.cell? ⟨xc,0,none⟩=some (.int .i64 tx))(cy:w.cell? ⟨yc,0,none⟩=some (.int .i64 ty))
  (hP:∀ w',Below w.heap.size w w'->Calls Tryz.prog 84 #[.pointer (some ⟨M,0,none⟩),.int .i64 n] w' fun e w''=>e=.returned (.tuple #[.int .i64 x,.int .i64 y,ev])/\∃ m,w''=w'.drewN m)
  (ho:∀ w,Calls Tryz.prog 86 #[.int .i64 x,.int .i64 y,.int .i64 tx,.int .i64 ty] w fun e w'=>e=.returned (.agg #[.int .i64 S,.int .i64 D])/\Below w.heap.size w w') :
  Calls Tryz.prog 85 #[.int .i64 n,.pointer (some ⟨gc,0,none⟩),.pointer (some ⟨xc,0,none⟩),.pointer (some ⟨yc,0,none⟩)] w fun e w'=>e=.returned (.agg #[.int .i64 S,.int .i64 D])/\Below w.heap.size w w':=by
 have lx:=World.block_lt_of_cell? _ _ cx
 have ly:=World.block_lt_of_cell? _ _ cy
 have sl:=Slot.new w 0 0
 have B0:Below w.heap.size w (w.alloc (.cells #[.int .i64 0,.int .i64 0] 53)):=(Below.refl _ _).alloc (Nat.le_refl _) _
 have cg:=(B0.cell (World.block_lt_of_cell? _ _ cg)).trans cg
 go_enter Tryz.func85,Tryz.ntmps85
 go_wp2_with fail
 refine (hP _ B0).mono ?_
 rintro e w1 ⟨rfl,m1,hw1⟩
 have B1:Below w.heap.size w w1:=by rw [hw1];exact below_drewN B0 _
 have sl1:Slot w1 w.heap.size 0 0:=by rw [hw1];exact sl.below (below_drewN (Below.refl _ _) _)
 have cx1:=(B1.cell lx).trans cx
 have cy1:=(B1.cell ly).trans cy
 clear hw1 sl B0 hP cg cx cy
 go_wp2_with fail
 refine (ho _).mono ?_
 rintro e w3 ⟨rfl,hb3⟩
 have B3:=B1.trans (hb3.mono B1.size)
 have sl3:=sl1.below hb3
 have c0:=sl3.c0
 have c1:=sl3.c1
 have z0:=sl3.z0
 have z1:=sl3.z1
 clear hb3 sl1 B1 ho cx1 cy1
 go_wp2
 have q:=setTwo w3 w.heap.size S D c0 c1
 have hd:=q.1
 have ht:=q.2
 refine bodyPost_ret (v:=.agg #[.int .i64 S,.int .i64 D]) (by simp [results,Tryz.results85,go_sem,hd,ht]) rfl ⟨rfl,?_⟩
 exact (B3.setCell (p:=⟨w.heap.size,0,none⟩) (Nat.le_refl _) _).setCell (p:=⟨w.heap.size,1,none⟩) (Nat.le_refl _) _
theorem gs_call {gc xc yc M:Nat}{W H V tz n:Int}{bl:Nat->Bool}(w:World)(cg:w.cell? ⟨gc,0,none⟩=some (.pointer (some ⟨M,0,none⟩)))(cx:w.cell? ⟨xc,0,none⟩=some (.int .i64 (tz % W)))(cy:w.cell? ⟨yc,0,none⟩=some (.int .i64 (tz / W)))(g:GridAt w M W H V bl)(hz:inB W H tz=true) :
  Calls Tryz.prog 85 #[.int .i64 n,.pointer (some ⟨gc,0,none⟩),.pointer (some ⟨xc,0,none⟩),.pointer (some ⟨yc,0,none⟩)] w fun e w'=>e=.returned (.agg #[.int .i64 (gsN W H tz n).1,.int .i64 (gsN W H tz n).2])/\Below w.heap.size w w':=by
 have hM:=World.block_lt_of_cell? _ _ g.c0
 obtain ⟨u1,u2,v1,v2⟩:=place_bd g.w1 hz
 have gw:=g.w2
 have gh:=g.h2
 unfold gsN
 by_cases hn:inB W H n=true
 ·rw [if_pos hn]
  obtain ⟨x1,x2,y1,y2⟩:=place_bd g.w1 hn
  exact gs' w cg cx cy (fun w' hB=>place_in n w' (g.below hB hM) hn) (fun w=>oct_any _ _ _ _ w (near_place (by omega) (by omega)) (near_place (by omega) (by omega)) (near_place (by omega) (by omega)) (near_place (by omega) (by omega)))
 ·rw [if_neg hn]
  have hn':inB W H n=false:=by simpa using hn
  have ho:∀ w,Calls Tryz.prog 86 #[.int .i64 0,.int .i64 0,.int .i64 (tz % W),.int .i64 (tz / W)] w fun e w'=>e=.returned (.agg #[.int .i64 (octS W 0 tz),.int .i64 (octD W 0 tz)])/\Below w.heap.size w w':=fun w=>by
   have h:=oct_any 0 0 (tz % W) (tz / W) w (near_place (by omega) (by omega)) (near_place (by omega) (by omega)) (near_place (by omega) (by omega)) (near_place (by omega) (by omega))
   unfold octS octD
   rw [Int.zero_emod,Int.zero_ediv]
   exact h
  exact gs' w cg cx cy (fun w' hB=>place_out n w' (g.below hB hM) hn') ho
theorem gs_ok {gc xc yc M:Nat}{W H V tz:Int}{bl:Nat->Bool}(w0:World)(cg:w0.cell? ⟨gc,0,none⟩=some (.pointer (some ⟨M,0,none⟩)))(cx:w0.cell? ⟨xc,0,none⟩=some (.int .i64 (tz % W)))(cy:w0.cell? ⟨yc,0,none⟩=some (.int .i64 (tz / W)))(g:GridAt w0 M W H V bl)(hz:inB W H tz=true) :
  GsOk w0 w0.heap.size 85 [.pointer (some ⟨gc,0,none⟩),.pointer (some ⟨xc,0,none⟩),.pointer (some ⟨yc,0,none⟩)] (gsN W H tz) :=
 ⟨fun args w=>by kernel_rfl,fun w n hB _=>by
  have k:∀ {a:Addr}{v:Value},w0.cell? a=some v->w.cell? a=some v:=fun {a v} h=>(hB.cell (World.block_lt_of_cell? w0 a h)).trans h
  exact gs_call w (k cg) (k cx) (k cy) (g.below hB (World.block_lt_of_cell? _ _ g.c0)) hz⟩
def GsAt (w:World) (gc xc yc M:Nat) (W tz:Int):Prop:=w.cell? ⟨gc,0,none⟩=some (.pointer (some ⟨M,0,none⟩))/\w.cell? ⟨xc,0,none⟩=some (.int .i64 (tz % W))/\w.cell? ⟨yc,0,none⟩=some (.int .i64 (tz / W))
set_option maxHeartbeats 400000 in
theorem guessTo_any {M:Nat}{W H V tz:Int}{bl:Nat->Bool}(w:World)(g:GridAt w M W H V bl)(hz:inB W H tz=true) :
  Calls Tryz.prog 43 #[.pointer (some ⟨M,0,none⟩),.int .i64 tz] w fun e w'=>∃ gc xc yc,e=.returned (.func (.func 85) #[] #[.pointer (some ⟨gc,0,none⟩),.pointer (some ⟨xc,0,none⟩),.pointer (some ⟨yc,0,none⟩)])/\GsAt w' gc xc yc M W tz/\Below w.heap.size w w':=by
 have hM:=World.block_lt_of_cell? _ _ g.c0
 have b0:Below w.heap.size w (w.alloc (.cells #[.pointer (some ⟨M,0,none⟩)] 80)):=(Below.refl _ _).alloc (Nat.le_refl _) _
 have q0:(w.alloc (.cells #[.pointer (some ⟨M,0,none⟩)] 80)).cell? ⟨w.heap.size,0,none⟩=some (.pointer (some ⟨M,0,none⟩)):=World.cell?_alloc_at #[.pointer (some ⟨M,0,none⟩)] 80 w.heap.size 0 rfl
 have hp:=place_in tz _ (g.below b0 hM) hz
 go_enter Tryz.func43,Tryz.ntmps43
 go_wp2_with fail
 refine hp.mono ?_
 rintro e w1 ⟨rfl,m1,hw1⟩
 have B1:Below w.heap.size w w1:=by rw [hw1];exact below_drewN b0 _
 have q1:w1.cell? ⟨w.heap.size,0,none⟩=some (.pointer (some ⟨M,0,none⟩)):=by rw [hw1];exact q0
 clear hp q0 b0 hw1
 go_wp2
 go_ret
 refine ⟨_,_,_,rfl,⟨?_,?_,?_⟩,(B1.alloc B1.size _).alloc (by have:=B1.size;simp;omega) _⟩
 ·have l1:=World.block_lt_of_cell? _ _ q1
  have l1:w.heap.size<w1.heap.size:=l1
  rw [World.cell?_alloc_old _ _ _ (by simp;omega),World.cell?_alloc_old _ _ _ (Nat.ne_of_lt l1)]
  exact q1
 ·rw [World.cell?_alloc_old _ _ _ (by simp)]
  exact World.cell?_alloc_at #[.int .i64 (tz % W)] 3 w1.heap.size 0 rfl
 ·exact World.cell?_alloc_at (w:=w1.alloc (.cells #[.int .i64 (tz % W)] 3)) #[.int .i64 (tz / W)] 3 (w1.heap.size+1) 0 (by simp)
structure An (w:World) (B:Nat) (v:Value) (s d e:Int):Prop where
 c0:w.cell? ⟨B,0,none⟩=some v
 c1:w.cell? ⟨B,1,none⟩=some (.int .i64 s)
 c2:w.cell? ⟨B,2,none⟩=some (.int .i64 d)
 c3:w.cell? ⟨B,3,none⟩=some (.int .i64 e)
 z0:w.frozen? ⟨B,0,none⟩=false
 z1:w.frozen? ⟨B,1,none⟩=false
 z2:w.frozen? ⟨B,2,none⟩=false
 z3:w.frozen? ⟨B,3,none⟩=false
theorem An.keep {F:Nat->Prop}{w w':World}{B:Nat}{v:Value}{s d e:Int}(h:An w B v s d e)(K:Keep F w w')(hn:¬ F B):An w' B v s d e:=by
 have hB:=World.block_lt_of_cell? w _ h.c0
 exact ⟨K.cellOf h.c0 hn,K.cellOf h.c1 hn,K.cellOf h.c2 hn,K.cellOf h.c3 hn,(K.frozen (p:=⟨B,0,none⟩) hB hn).trans h.z0,(K.frozen (p:=⟨B,1,none⟩) hB hn).trans h.z1,(K.frozen (p:=⟨B,2,none⟩) hB hn).trans h.z2,(K.frozen (p:=⟨B,3,none⟩) hB hn).trans h.z3⟩
theorem An.below {w w':World}{B:Nat}{v:Value}{s d e:Int}(h:An w B v s d e)(hb:Below w.heap.size w w'):An w' B v s d e:=h.keep (F:=fun _=>False) (Keep.of_below hb) id
theorem An.new (w:World)(v:Value)(s d e:Int):An (w.alloc (.cells #[v,.int .i64 s,.int .i64 d,.int .i64 e] 56)) w.heap.size v s d e:=by
 have k:∀ o,(w.alloc (.cells #[v,.int .i64 s,.int .i64 d,.int .i64 e] 56)).cell? ⟨w.heap.size,o,none⟩=#[v,.int .i64 s,.int .i64 d,.int .i64 e][o]? := fun o=>World.cell?_alloc_new ..
 have f:=free_alloc w #[v,.int .i64 s,.int .i64 d,.int .i64 e] 56 w.heap.size (Nat.le_refl _)
 exact ⟨k 0,k 1,k 2,k 3,f 0,f 1,f 2,f 3⟩
theorem An.set {w:World}{B:Nat}{v0:Value}{s0 d0 e0:Int}(A:An w B v0 s0 d0 e0)(v:Value)(s d e:Int):An ((((w.setCell ⟨B,0,none⟩ v).setCell ⟨B,1,none⟩ (.int .i64 s)).setCell ⟨B,2,none⟩ (.int .i64 d)).setCell ⟨B,3,none⟩ (.int .i64 e)) B v s d e:=by
 have ne:∀ {i j:Nat},i≠j->(⟨B,i,none⟩:Addr)≠⟨B,j,none⟩:=fun h q=>h (Addr.mk.inj q).2.1
 refine ⟨?_,?_,?_,?_,by simpa using A.z0,by simpa using A.z1,by simpa using A.z2,by simpa using A.z3⟩
 ·rw [World.cell?_setCell_other _ _ _ _ (ne (by decide)),World.cell?_setCell_other _ _ _ _ (ne (by decide)),World.cell?_setCell_other _ _ _ _ (ne (by decide))]
  exact World.cell?_setCell_same _ _ _ A.c0
 ·rw [World.cell?_setCell_other _ _ _ _ (ne (by decide)),World.cell?_setCell_other _ _ _ _ (ne (by decide))]
  refine World.cell?_setCell_same _ _ _ (u:=.int .i64 s0) ?_
  rw [World.cell?_setCell_other _ _ _ _ (ne (by decide))]
  exact A.c1
 ·rw [World.cell?_setCell_other _ _ _ _ (ne (by decide))]
  refine World.cell?_setCell_same _ _ _ (u:=.int .i64 d0) ?_
  rw [World.cell?_setCell_other _ _ _ _ (ne (by decide)),World.cell?_setCell_other _ _ _ _ (ne (by decide))]
  exact A.c2
 ·refine World.cell?_setCell_same _ _ _ (u:=.int .i64 e0) ?_
  rw [World.cell?_setCell_other _ _ _ _ (ne (by decide)),World.cell?_setCell_other _ _ _ _ (ne (by decide)),World.cell?_setCell_other _ _ _ _ (ne (by decide))]
  exact A.c3
theorem an_keep (w:World)(B:Nat)(v:Value)(s d e:Int):Keep (fun k=>k=B) w ((((w.setCell ⟨B,0,none⟩ v).setCell ⟨B,1,none⟩ (.int .i64 s)).setCell ⟨B,2,none⟩ (.int .i64 d)).setCell ⟨B,3,none⟩ (.int .i64 e)) :=
 ((((Keep.refl (fun k=>k=B) w).setCell (p:=⟨B,0,none⟩) (fun _=>rfl) _).setCell (p:=⟨B,1,none⟩) (fun _=>rfl) _).setCell (p:=⟨B,2,none⟩) (fun _=>rfl) _).setCell (p:=⟨B,3,none⟩) (fun _=>rfl) _
theorem an_below {w0 w:World}{N B:Nat}(h:Below N w0 w)(hB:N<=B)(v:Value)(s d e:Int):Below N w0 ((((w.setCell ⟨B,0,none⟩ v).setCell ⟨B,1,none⟩ (.int .i64 s)).setCell ⟨B,2,none⟩ (.int .i64 d)).setCell ⟨B,3,none⟩ (.int .i64 e)) :=
 (((h.setCell (p:=⟨B,0,none⟩) hB _).setCell (p:=⟨B,1,none⟩) hB _).setCell (p:=⟨B,2,none⟩) hB _).setCell (p:=⟨B,3,none⟩) hB _
end
section
open Go.RowKit Go.Lib
theorem nrc_at {W H:Int}{bl:Nat->Bool}:∀ {st:List Nat}{a i:Nat},NrC W H bl a st->i<st.length->∃ t,st[i]? = some t/\(∃ z,On W H bl (((st.take i).getLast?).getD a:Nat) (t:Int) z)/\ff2 W H bl (((st.take i).getLast?).getD a:Nat) t=0
 |[],_,i,_,hi=>absurd hi (Nat.not_lt_zero i)
 |t::st,a,0,⟨h1,h2,_⟩,_=>⟨t,rfl,h1,h2⟩
 |t::st,a,i+1,⟨_,_,h3⟩,hi=>by
  obtain ⟨t',k1,k2⟩:=nrc_at h3 (Nat.lt_of_succ_lt_succ hi)
  have e:(((t::st).take (i+1)).getLast?).getD a=((st.take i).getLast?).getD t:=by
   rw [List.take_succ_cons]
   cases hq:st.take i with
   |nil=>rfl
   |cons y l =>
    have e2:(t::y::l).getLast? = (y::l).getLast? := by simp
    rw [e2]
    cases hq2:(y::l).getLast? with
    |none=>simp at hq2
    |some z=>rfl
  rw [e]
  exact ⟨t',k1,k2⟩
theorem take_next {st:List Nat}{i t:Nat}(h:st[i]? = some t):st.take (i+1)=st.take i++[t]:=by
 obtain ⟨hi,he⟩:=List.getElem?_eq_some_iff.1 h
 rw [List.take_succ_eq_append_getElem hi,he]
theorem last_snoc (l:List Nat)(t a:Nat):((l++[t]).getLast?).getD a=t:=by simp
set_option maxHeartbeats 4000000 in
set_option maxRecDepth 1000000 in
theorem njoin_any {b gl cap:Nat}{W H V:Int}{bl:Nat->Bool}{a:Nat}{st:List Nat}(w:World)(g:GridAt w b W H V bl)(s:StepsAt w)(d:DiagAt w)(hr:RowN w gl 0 st)(hn:NrC W H bl a st)(hl:st.length<=50000) :
  Calls Tryz.prog 89 #[.pointer (some ⟨b,0,none⟩),.int .i64 (a:Int),.slice (some ⟨gl,0,none⟩) st.length cap] w fun e w'=>∃ v l,e=.returned v/\w'.ownsRow w.heap.size 3 1 v (a::l).length (vals (a::l))/\JnR W H bl a st l/\l.length<=64*st.length/\Below w.heap.size w w':=by
 obtain ⟨i0,hi,hz0,hz1,hz2⟩:=info_parts Tryz.info3
 have hb:=World.block_lt_of_cell? _ _ g.c0
 have hsp:=s.pos
 have b0:Below w.heap.size w (w.alloc (.cells #[.int .i64 (a:Int)] 3)):=(Below.refl _ _).alloc (Nat.le_refl _) _
 have own0:(w.alloc (.cells #[.int .i64 (a:Int)] 3)).ownsRow w.heap.size 3 1 (.slice (some ⟨w.heap.size,0,none⟩) 1 1) [a].length (vals [a]):=World.ownsRow_lit w #[.int .i64 (a:Int)] 1 (Nat.le_refl _) (by unfold maxLen;omega) rfl
 have HN:Hid (NrC W H bl a st):=hn
 have HR:Hid (RowN w gl 0 st):=hr
 clear hn hr
 go_enter Tryz.func89,Tryz.ntmps89
 go_wp2
 go_loopw [1,7,16] (fun fv v iv wr=>∃ (i c:Nat) (l:List Nat),i<=st.length/\iv=.int .i64 i/\fv=.int .i64 (c:Int)/\Hid (c=((st.take i).getLast?).getD a)/\wr.ownsRow w.heap.size 3 1 v (a::l).length (vals (a::l))/\Hid (JnR W H bl a (st.take i) l)/\l.length<=64*i/\Below w.heap.size w wr)
  (fun _ _ i _=>st.length - (intOf i).toNat)
 case atStart=>exact ⟨0,a,[],Nat.zero_le _,rfl,rfl,rfl,own0,rfl,Nat.zero_le _,b0⟩
 case round =>
  clear own0 b0
  obtain ⟨i,c,l,hil,rfl,rfl,hc,own,hj,hll,hB⟩:=hrel
  obtain ⟨gw,capw,rfl,_,hgw,hgw',hcw,hcw'⟩:=rowN_of own (by simp)
  by_cases hlt:i<st.length
  ·obtain ⟨t,ht,hon,hff⟩:=nrc_at HN.out hlt
   have hc':=hc.out
   rw [<- hc'] at hon hff
   have q0:=(HR.out.below hB) i _ (vals_at ht)
   rw [Addr.add_lit,Nat.zero_add] at q0
   have hw:=rway_ok c (t:Int) wr (g.below hB hb) (s.below hB (by omega)) (d.below hB) (Nat.lt_of_lt_of_le hb hB.size) hff hon
   have HT:Hid (st.take (i+1)=st.take i++[t]):=take_next ht
   have i1:(i:Int)<(st.length:Int):=by omega
   have z1:=hB.size
   clear hc' hon hff ht
   go_wp2_with fail
   refine hw.mono ?_
   rintro e w3 ⟨v3,l2,rfl,own3,hch,hl2,B3⟩
   obtain ⟨g3,cap3,rfl,row3,hg3,hg3',hc3,hc3'⟩:=rowN_of own3 (by simp)
   have own4:=own_below own B3
   have B4:=hB.trans (B3.mono hB.size)
   have row4:=row3.tail
   have z4:=B4.size
   simp only [List.length_cons] at hc3 own4 hcw ⊢
   simp only [List.tail_cons,Nat.zero_add] at row4
   have HJ:Hid (JnR W H bl a (st.take (i+1)) (l++l2)):=by
    show JnR W H bl a (st.take (i+1)) (l++l2)
    rw [HT.out]
    refine JnR.snoc hj.out ?_
    rw [<- hc.out]
    exact hch
   have HC:Hid (t=((st.take (i+1)).getLast?).getD a):=by
    show t=((st.take (i+1)).getLast?).getD a
    rw [HT.out,last_snoc]
   clear hw hch own3 own row3 hB B3 hj hc q0
   rcases Nat.eq_zero_or_pos l2.length with h0|h0
   ·have e0:l2=[]:=List.length_eq_zero_iff.1 h0
    subst e0
    simp only [List.length_nil,Nat.zero_add] at hc3
    rcases Decidable.em (cap3=1) with hcc|hcc
    ·subst hcc
     go_wp2
     go_roundw
     case rel=>exact ⟨i+1,t,l,by omega,by go_num,rfl,HC.out,own4,by have:=HJ.out;rwa [List.append_nil] at this,by omega,B4⟩
     case measure=>simp [intOf];omega
    ·have hc2:1<cap3:=by omega
     go_wp2
     go_roundw
     case rel=>exact ⟨i+1,t,l,by omega,by go_num,rfl,HC.out,own4,by have:=HJ.out;rwa [List.append_nil] at this,by omega,B4⟩
     case measure=>simp [intOf];omega
   ·go_wp2_with (at_builtin;refine wpList_append_own _ rfl _ _ 51 rfl w.heap.size 3 i0 (.int .i64 0) 1 8 Tryz.underlying51 hi hz0 hz1 hz2 rfl (by decide) _ _ _ rfl own4 ⟨g3,1,none⟩ l2.length (cap3 - 1) (vals l2) rfl ?c0 row4 (vals_one _) ?c3 ?c4 ?c5 ?_)
    case c0=>rw [vals_len];omega
    case c3=>unfold maxLen;omega
    case c4=>omega
    case c5=>exact z4
    intro v' w6 hown' hgrow _
    have B6:Below w.heap.size w w6:=B4.grown hgrow z4 (fun q hq=>(own4.lt q hq).1)
    have O6:w6.ownsRow w.heap.size 3 1 v' (a::(l++l2)).length (vals (a::(l++l2))):=by
     have e1:(a::(l++l2)).length=l.length+1+l2.length:=by simp;omega
     have e2:vals (a::(l++l2))=vals (a::l)++vals l2:=by simp [vals]
     rw [e1,e2]
     exact hown'
    clear hown' hgrow own4
    go_wp2
    go_roundw
    case rel=>exact ⟨i+1,t,l++l2,by omega,by go_num,rfl,HC.out,O6,HJ.out,by rw [List.length_append];omega,B6⟩
    case measure=>simp [intOf];omega
  ·have e:i=st.length:=by omega
   subst e
   have hj':=hj.out
   rw [List.take_length] at hj'
   have HJ:Hid (JnR W H bl a st l):=hj'
   clear hj hj' hc
   go_wp2
   go_ret
   exact ⟨_,l,rfl,own,HJ.out,hll,hB⟩
end
end Go.Proofs.YtmaefimaeelkbaaGreatDoor
