/-
  Texts laid together: RPrint, Nv6, Labs, Nv7.
-/
import Derived.Test.YtipbhlofbpnpjaaGreatDoorQ39
import Derived.Test.YtipbhlofbpnpjaaGreatDoorQ37
import Derived.Test.YtipbhlofbpnpjaaGreatDoorQ15
import Derived.Test.YtipbhlofbpnpjaaGreatDoorQ10
import Derived.Deep.CutRange
namespace Go.Proofs.YtipbhlofbpnpjaaGreatDoor
section
open Go.RowKit
def prL (bl:Nat->Bool) (W:Nat):Nat->List UInt8
 | 0=>[]
 | c+1=>prL bl W c++([byteL (bl c)]++if c % W=W - 1 then [10] else [])
theorem prL_len (bl:Nat->Bool) (W:Nat):∀ c,(prL bl W c).length<=2*c
 | 0=>by simp [prL]
 | c+1=>by
   have:=prL_len bl W c
   unfold prL
   rw [List.length_append,List.length_append]
   split <;> simp <;> omega
theorem prL_mid (bl:Nat->Bool) {W y:Nat}(h:prL bl W (y*W)=rowsL bl W y):∀ x,x < W->prL bl W (y*W+x)=rowsL bl W y++rowL bl (y*W) x
 | 0,_=>by simp [h,rowL]
 | x+1,hx=>by
   rw [show y*W+(x+1)=(y*W+x)+1 by omega]
   unfold prL
   rw [prL_mid bl h x (by omega)]
   have e:(y*W+x) % W=x:=by rw [Nat.mul_comm,Nat.mul_add_mod,Nat.mod_eq_of_lt (by omega)]
   rw [e,if_neg (by omega),rowL_snoc]
   simp
theorem prL_rows (bl:Nat->Bool) {W:Nat}(hW:1<=W):∀ y,prL bl W (y*W)=rowsL bl W y
 | 0=>by simp [prL,rowsL]
 | y+1=>by
   have ih:=prL_rows bl hW y
   have hm:=prL_mid bl ih (W - 1) (by omega)
   rw [Nat.succ_mul,show y*W+W=(y*W+(W - 1))+1 by omega]
   unfold prL rowsL
   rw [hm]
   have e:(y*W+(W - 1)) % W=W - 1:=by rw [Nat.mul_comm,Nat.mul_add_mod,Nat.mod_eq_of_lt (by omega)]
   rw [e,if_pos rfl]
   have e2:rowL bl (y*W) W=rowL bl (y*W) (W - 1)++[byteL (bl (y*W+(W - 1)))]:=by
    conv=>lhs;rw [show W=(W - 1)+1 by omega]
    rw [rowL_snoc,show W - 1+1=W by omega]
   rw [e2]
   simp
theorem head_str (W H:Nat):str [116,121,112,101,32,111,99,116,105,108,101,10,104,101,105,103,104,116,32]++str (Lib.decDigits H)++str [10,119,105,100,116,104,32]++str (Lib.decDigits W)++str [10,109,97,112,10]=str (headL W H):=by
 rw [str_append,str_append,str_append,str_append]
 congr 1
 unfold headL Lib.itoa
 rw [if_neg (by omega),if_neg (by omega),Int.toNat_natCast,Int.toNat_natCast]
 simp [typeW,heightW,widthW,mapW]
theorem dec_len {n:Nat}(h:n<=16):(str (Lib.decDigits n)).size<=20:=by
 rw [str_size]
 have:=itoa_len20 (n:Int) (by omega) (by omega)
 unfold Lib.itoa at this
 rw [if_neg (by omega),Int.toNat_natCast] at this
 exact this
set_option maxHeartbeats 4000000 in
set_option maxRecDepth 1000000 in
theorem rprint_any {b:Nat}{W H:Nat}{V:Int}{bl:Nat->Bool}(w:World) (g:RefAt w b W H V bl) (hbw:b < w.heap.size) :
  Calls Tryz.prog 23 #[.pointer (some ⟨b,0,none⟩)] w fun e w'=>e=.returned (.string (str (printL bl W H)))/\Below w.heap.size w w':=by
 have w1:=g.w1
 have w2:=g.w2
 have h1:=g.h1
 have h2:=g.h2
 have hrow:=prL_rows bl (W:=W) (by omega) H
 unfold printL
 rw [<- hrow]
 have hst:=head_str W H
 have s1:=dec_len (n:=H) (by omega)
 have s2:=dec_len (n:=W) (by omega)
 have HST:Hid (str [116,121,112,101,32,111,99,116,105,108,101,10,104,101,105,103,104,116,32]++str (Lib.decDigits H)++str [10,119,105,100,116,104,32]++str (Lib.decDigits W)++str [10,109,97,112,10]=str (headL W H)):=hst
 have S0:∀ x:Since w,x.u.cell? ⟨b,0,none⟩=some (.int .i64 W):=fun x=>(x.cell _ _ hbw).trans g.c0
 have S1:∀ x:Since w,x.u.cell? ⟨b,1,none⟩=some (.int .i64 H):=fun x=>(x.cell _ _ hbw).trans g.c1
 have hne:Nonempty (Since w):=⟨⟨w,Below.refl _ _⟩⟩
 clear hst hrow
 have HG:Hid (RefAt w b W H V bl):=g
 clear g
 go_enter Tryz.func23,Tryz.ntmps23
 go_wp2
 refine wp_region_since (by kernel_rfl) (by kernel_rfl) ?_
 repeat (go_big_quiet_step (first | (go_at_call 51;exact Calls.since_of (dec_v rfl (by omega) _))))
 refine wpQuiet_nil ?_
 rintro _ ⟨x,rfl⟩
 have gx:=HG.out.below x.h hbw
 have HB:Below w.heap.size w x.u:=x.h
 clear S0 S1 hne
 generalize x.u=y at *
 have c0:=gx.c0
 have c1:=gx.c1
 have k2:W*H<=16*16:=Nat.mul_le_mul (by omega) (by omega)
 obtain ⟨N,hN⟩:∃ N,W*H=N:=⟨_,rfl⟩
 have hN2:(W:Int)*(H:Int)=(N:Int):=by rw [<- hN,Int.natCast_mul]
 have HN:Hid (W*H=N):=hN
 rw [hN] at k2
 clear hN
 have hhl:(headL W H).length<=100:=by
  have i1:=itoa_len W (by omega) (by omega)
  have i2:=itoa_len H (by omega) (by omega)
  unfold headL
  simp [typeW,heightW,widthW,mapW]
  omega
 go_wp2
 go_loopw [3,4] (fun s c wr=>∃ (j:Nat),j<=N/\c=.int .i64 j/\s=.string (str (headL W H++prL bl W j))/\∃ m,wr=y.drewN m)
  (fun _ c _=>N - (intOf c).toNat)
 case atStart=>exact ⟨0,by omega,rfl,by rw [prL,List.append_nil,<- HST.out];rfl,0,rfl⟩
 case round =>
  obtain ⟨j,hj,rfl,rfl,m,rfl⟩:=hrel
  have hpl:=prL_len bl W j
  have sx:(str (headL W H++prL bl W j)).size<=2000:=by rw [str_size,List.length_append];omega
  by_cases hlt:j < N
  ·have j1:(0:Int)<=(j:Int)/\(j:Int) < (N:Int)/\(j:Int) < 256:=by omega
   have cj:=gx.cs j (by omega)
   have tm:(j:Int).tmod (W:Int)=((j % W:Nat):Int):=by rw [Int.ofNat_tmod]
   have hstep:str (headL W H++prL bl W (j+1))=str (headL W H++prL bl W j)++str [byteL (bl j)]++str (if j % W=W - 1 then [10] else []):=by
    rw [str_append,str_append,prL]
    simp
   have HS:Hid (str (headL W H++prL bl W (j+1))=str (headL W H++prL bl W j)++str [byteL (bl j)]++str (if j % W=W - 1 then [10] else [])):=hstep
   clear hstep
   have hw0:((W:Int) == 0)=false:=by rw [beq_eq_false_iff_ne];omega
   have hmw:j % W < 16:=Nat.lt_of_lt_of_le (Nat.mod_lt j (by omega)) (by omega)
   generalize hSX:str (headL W H++prL bl W j)=SX at *
   clear hSX
   by_cases hq:j % W=W - 1
   ·have hqe:(((j % W:Nat):Int) == (W:Int) - 1)=true:=by rw [beq_iff_eq];omega
    have HQ:Hid (j % W=W - 1):=hq
    clear hq
    generalize j % W=z at *
    cases hb:bl j with
    | true =>
      rw [hb] at cj
      go_wp2
      go_quiet (fail)
      go_wp2
      go_quiet (fail)
      go_wp2
      go_roundw
      case rel=>exact ⟨j+1,by omega,by go_num,by rw [HS.out,if_pos HQ.out,hb];rfl,_,rfl⟩
      case measure=>simp [intOf];omega
    | false =>
      rw [hb] at cj
      go_wp2
      go_quiet (fail)
      go_wp2
      go_quiet (fail)
      go_wp2
      go_roundw
      case rel=>exact ⟨j+1,by omega,by go_num,by rw [HS.out,if_pos HQ.out,hb];rfl,_,rfl⟩
      case measure=>simp [intOf];omega
   ·have hqe:(((j % W:Nat):Int) == (W:Int) - 1)=false:=by rw [beq_eq_false_iff_ne];omega
    have HQ:Hid (¬ j % W=W - 1):=hq
    clear hq
    generalize j % W=z at *
    have he:∀ S:ByteArray,S++str []=S:=fun S=>by
     apply ByteArray.ext
     rw [ByteArray.data_append]
     simp [str]
    have HE:Hid (∀ S:ByteArray,S++str []=S):=he
    clear he
    cases hb:bl j with
    | true =>
      rw [hb] at cj
      go_wp2
      go_quiet (fail)
      go_wp2
      go_quiet (fail)
      go_wp2
      go_roundw
      case rel=>exact ⟨j+1,by omega,by go_num,by rw [HS.out,if_neg HQ.out,hb,HE.out];rfl,_,rfl⟩
      case measure=>simp [intOf];omega
    | false =>
      rw [hb] at cj
      go_wp2
      go_quiet (fail)
      go_wp2
      go_quiet (fail)
      go_wp2
      go_roundw
      case rel=>exact ⟨j+1,by omega,by go_num,by rw [HS.out,if_neg HQ.out,hb,HE.out];rfl,_,rfl⟩
      case measure=>simp [intOf];omega
  ·have hjn:j=N:=by omega
   subst hjn
   have HM:Hid (H*W=j):=by show H*W=j;rw [Nat.mul_comm];exact HN.out
   have j2:¬ (j:Int) < (j:Int):=by omega
   go_wp2
   go_quiet (fail)
   go_wp2
   go_ret
   exact ⟨by rw [HM.out];rfl,below_drewN (below_drewN HB _) _⟩
end
section
open Go.RowKit Go.Lib
theorem four_way {way:List Nat}{s d err:Int}(h:Rt 2 2 (fun _=>false) 0 3 way s d err):s=0/\d=1/\err=0/\way.length=2:=by
 have hf:ff2 2 2 (fun _=>false) 0 3=0:=by decide
 have e:Edge 2 2 (fun _=>false) 0 3 3:=by unfold Edge;decide
 have hw:=wk_edge e
 obtain ⟨z,hv⟩:=h.yes hf hw
 obtain ⟨l,e1,hc,b1,b2,b3,b4⟩:=h.path hf z
 have hlow:=oct_low' (by decide) hc.walk
 have hq:octV 2 0 3=val 0 1:=by decide
 have hs:val (stS 3) (stD 3)=val 0 1:=by decide
 rw [hq] at hlow
 rw [hs] at hv
 obtain ⟨e2,e3⟩:=two_same b2 b4 (by decide) (by decide) hv hlow
 have hl:=hc.len
 refine ⟨e2,e3,z,?_⟩
 rw [e1,List.length_cons]
 omega
set_option maxHeartbeats 1000000 in
set_option maxRecDepth 1000000 in
theorem works_any (w:World) (s:StepsAt w) (dg:DiagAt w):Calls Tryz.prog 15 #[] w fun e w'=>e=.returned (.bool true)/\Below w.heap.size w w':=by
 have hn:=nnew_any (W:=2) (H:=2) (most:=1) w s (by decide) (by decide) (by decide) (by decide)
 go_enter Tryz.func15,Tryz.ntmps15
 go_wp2_with fail
 refine hn.mono ?_
 rintro e w1 ⟨sb,rfl,S1,hb1⟩
 have ha:=ask_any 0 3 w1 S1 (dg.below hb1)
 clear hn
 go_wp2_with fail
 refine ha.mono ?_
 rintro e w2 ⟨v,way,sx,dx,er,rfl,hown,hA,hb2⟩
 obtain ⟨rfl,rfl,rfl,hl⟩:=four_way (hA.right w1 (by decide) (by decide) (by decide) (by decide) (by decide) (by decide))
 obtain ⟨g,cap,rfl,_⟩:=rowN_of hown (by omega)
 have B2:=hb1.trans (hb2.mono hb1.size)
 have B3:Below w.heap.size w (w2.alloc (.cells #[.slice (some ⟨g,0,none⟩) way.length cap,.int .i64 0,.int .i64 1,.int .i64 0] 41)):=B2.alloc B2.size _
 clear ha hA hown S1
 rw [hl] at B3
 rw [hl]
 go_wp2
 go_ret
 exact ⟨rfl,B3⟩
section
variable {W H : Int} {bl bl' : Nat → Bool}
def nrm (W H:Nat) (bl:Nat->Bool):Nat->Bool:=cellsF ((List.range (H*W)).map bl)
end
structure Srv (w':World) (lo hi sb mb:Nat) (W H:Nat) (V:Int) (bl:Nat->Bool) (most:Nat):Prop where
 sv:Sv w' lo hi sb W H (blocks ((List.range (H*W)).map bl)) (nrm W H bl) most
 ra:RefAt w' mb W H V bl
 rf:∀ o,w'.frozen? ⟨mb,o,none⟩=false
 lt:mb < lo
 hs:hi<=w'.heap.size
 wh:(W:Int)*(H:Int)<=120
set_option maxHeartbeats 4000000 in
set_option maxRecDepth 1000000 in
theorem serve_any (W H most:Int) (A:Option Addr) (n cap:Nat) (xs:Nat->Int) (w:World) (E:Env w) (s:StepsAt w) (hm:n<=maxLen) (hx:OldRow w A n xs) :
  Calls Tryz.prog 16 #[.agg #[.int .i64 W,.int .i64 H,.slice A n cap],.int .i64 most] w fun e w'=>Below w.heap.size w w'/\((∃ p,e=.returned (.tuple #[.pointer none,p,.bool false])) \/
   (∃ (sb mb lo Wn Hn mN:Nat) (V:Int) (bl:Nat->Bool),e=.returned (.tuple #[.pointer (some ⟨sb,0,none⟩),.pointer (some ⟨mb,0,none⟩),.bool true])/\W=Wn/\H=Hn/\most=mN/\w.heap.size<=mb/\Srv w' lo w'.heap.size sb mb Wn Hn V bl mN)):=by
 have b0:Below w.heap.size w (w.alloc (.cells #[.int .i64 W,.int .i64 H,.slice A n cap] 24)):=(Below.refl _ _).alloc (Nat.le_refl _) _
 have q:∀ o,(w.alloc (.cells #[.int .i64 W,.int .i64 H,.slice A n cap] 24)).cell? ⟨w.heap.size,o,none⟩=#[Value.int .i64 W,.int .i64 H,.slice A n cap][o]? := fun o=>World.cell?_alloc_new ..
 have c0:=q 0
 have c1:=q 1
 have c2:=q 2
 have hLd:=laid_any W H A n cap xs _ hm (hx.below b0)
 have hsp:=s.pos
 clear q
 go_enter Tryz.func16,Tryz.ntmps16
 go_wp2_with fail
 generalize hwa:w.alloc (.cells #[.int .i64 W,.int .i64 H,.slice A n cap] 24)=wa at *
 have hza:wa.heap.size=w.heap.size+1:=by rw [<- hwa];simp
 clear hwa c0 c1 c2
 refine hLd.mono ?_
 rintro e w7 ⟨hb7,hcs⟩
 have B7:=b0.trans (hb7.mono b0.size)
 rcases hcs with rfl | ⟨rfl,hsz7,V,bl,hV,hB⟩
 ·clear hLd
  go_wp2
  go_quiet (fail)
  go_wp2
  go_ret3
  exact ⟨below_drewN B7 _,Or.inl ⟨_,rfl⟩⟩
 ·have hmlow:w.heap.size<=wa.heap.size+1+1:=by omega
  generalize wa.heap.size+1+1=mb at *
  generalize wa.heap.size+1=gb at *
  have hra:=hB.ra
  have ra0:=hra.c0
  have ra1:=hra.c1
  obtain ⟨Wn,rfl⟩:∃ Wn:Nat,W=(Wn:Int):=⟨W.toNat,by have:=hra.w1;omega⟩
  obtain ⟨Hn,rfl⟩:∃ Hn:Nat,H=(Hn:Int):=⟨H.toNat,by have:=hra.h1;omega⟩
  have hwh:=wh_bd hra.w1 hra.w2 hra.h1 hra.h2
  have hwr:IntKind.i64.wrap ((Wn:Int)*(Hn:Int))=(Wn:Int)*(Hn:Int):=wrap_small (by omega) (by omega)
  have hml:mb < w7.heap.size:=World.block_lt_of_cell? _ _ ra0
  clear hLd b0
  by_cases h120:120 < (Wn:Int)*(Hn:Int)
  ·clear hB hra
   go_wp2_with fail
   go_quiet (fail)
   go_wp2
   go_ret3
   exact ⟨below_drewN B7 _,Or.inl ⟨_,rfl⟩⟩
  ·go_upto_region 2 with fail
   go_cut [31] from 18 to 31 (fun b wd=>b=.bool false/\Below w7.heap.size w7 wd)
   case first =>
    have d1:decide (120 < (Wn:Int)*(Hn:Int))=false:=decide_eq_false (by omega)
    clear hB hra
    go_quiet (fail)
    go_wp2_with fail
    go_meet
    exact ⟨rfl,below_drewN (Below.refl _ _) _⟩
   case rest =>
    obtain ⟨rfl,hb8⟩:=hcut
    have B8:=B7.trans (hb8.mono B7.size)
    have hB8:=hB.below' hb8
    have hml8:=Nat.lt_of_lt_of_le hml hb8.size
    have hpr:=rprint_any wc hB8.ra hml8
    clear ra0 ra1 hB hra hb8
    go_wp2_with fail
    refine hpr.mono ?_
    rintro e w9 ⟨rfl,hb9⟩
    have B9:=B8.trans (hb9.mono B8.size)
    have hB9:=hB8.below' hb9
    have hml9:=Nat.lt_of_lt_of_le hml8 hb9.size
    have w1':=hB8.ra.w1
    have w2':=hB8.ra.w2
    have h1':=hB8.ra.h1
    have h2':=hB8.ra.h2
    have hrd:=read_print bl Wn Hn (by omega) (by omega) (by omega) (by omega)
    generalize printL bl Wn Hn=tx at *
    clear hpr hB8 hb9
    by_cases hm1:most < 1\/6 < most
    ·have hld:=nload_err w9 (E.grown B9) (s.below B9 (by omega)) hrd hm1
     clear hrd
     go_wp2_with fail
     refine hld.mono ?_
     rintro e w10 ⟨rfl,hb10⟩
     clear hld hB9
     go_wp2
     go_ret3
     exact ⟨B9.trans (hb10.mono B9.size),Or.inl ⟨_,rfl⟩⟩
    ·obtain ⟨mN,rfl⟩:∃ mN:Nat,most=(mN:Int):=⟨most.toNat,by omega⟩
     have hld:=nload_any w9 (E.grown B9) (s.below B9 (by omega)) hrd (show 1<=mN by omega) (show mN<=6 by omega)
     clear hrd
     go_wp2_with fail
     refine hld.mono ?_
     rintro e w10 ⟨sb,rfl,S10,hb10⟩
     have hB10:=hB9.below' hb10
     clear hld hB9
     go_wp2
     go_ret3
     exact ⟨B9.trans (hb10.mono B9.size),Or.inr ⟨sb,mb,w9.heap.size,Wn,Hn,mN,V,bl,rfl,rfl,rfl,rfl,hmlow,S10,hB10.ra,hB10.rf,hml9,Nat.le_refl _,by omega⟩⟩
end
section
open Go.RowKit
end
section
open Go.RowKit Go.Lib
theorem oldRow_of {w:World}{base:Nat}{v:Value}{l:List Nat}(h:w.ownsRow base 3 1 v l.length (vals l)):∃ A cap,v=.slice A l.length cap/\OldRow w A l.length (fun i=>((l.getD i 0:Nat):Int))/\(l=[]->True):=by
 rcases Nat.eq_zero_or_pos l.length with h0 | h0
 ·have e:l=[]:=List.length_eq_zero_iff.1 h0
  subst e
  rcases h.2 with ⟨rfl,_⟩ | ⟨g,cap,_,rfl,_⟩
  ·exact ⟨none,0,rfl,fun i hi=>absurd hi (Nat.not_lt_zero i),fun _=>trivial⟩
  ·exact ⟨_,cap,rfl,fun i hi=>absurd hi (Nat.not_lt_zero i),fun _=>trivial⟩
 ·obtain ⟨g,cap,rfl,hr,_,hg,_⟩:=rowN_of h h0
  refine ⟨_,cap,rfl,fun i hi=>⟨g,0,rfl,hg,?_⟩,fun _=>trivial⟩
  have e:l[i]? = some (l.getD i 0):=by
   rw [List.getD_eq_getElem?_getD,List.getElem?_eq_getElem hi];rfl
  have:=hr i _ (vals_at e)
  rwa [Addr.add_lit] at this
end
end Go.Proofs.YtipbhlofbpnpjaaGreatDoor
